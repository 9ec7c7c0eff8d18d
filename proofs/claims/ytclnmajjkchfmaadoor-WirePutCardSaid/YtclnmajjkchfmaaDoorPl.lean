/-
  THE LAW WirePut (P1.6): its walk.
-/
import Derived.Test.YtclnmajjkchfmaaDoorL
import Derived.Test.YtclnmajjkchfmaaDoorUp
import Derived.Test.YtclnmajjkchfmaaDoorPc
import Derived.Test.YtclnmajjkchfmaaDoorPn
import Derived.Test.YtclnmajjkchfmaaDoorWv
import Derived.Test.YtclnmajjkchfmaaDoorPg
namespace Go.Proofs.YtclnmajjkchfmaaDoor
open Go.RowKit Wr

theorem Seen.later2 {w W : World} {v : Value} {c : Int} (h : Seen w v c) (hB : Below w.heap.size w W) : Seen W v c := fun W' hW => h W' (hB.trans (hW.mono hB.size))
theorem putB_len {f k u : Nat} {l : List UInt8} (h1 : f ≤ 536870911) (hk : k ≤ 5) (hu : u ≤ 18446744073709551615) (hl : l.length ≤ 16384) : (put f k u l).length ≤ 16500 := by
  have a := varint_len10 (u := f * 8 + k) (by omega)
  have b := varint_len10 hu
  have c := varint_len10 (u := l.length) (by omega)
  have d := varint_len10 (u := f * 8 + 4) (by omega)
  unfold put putB
  rw [List.length_append]
  repeat' split
  all_goals (try simp only [List.length_append, fixedB_length])
  all_goals omega
/-- Put, of wire and of the document: a record that both write, or that both refuse. -/
theorem put_pair {w0 : World} {es : Nat → Addr} (S : Sent w0 es) (f k : Int) (u : Nat) (lb l : List UInt8) (hf : -9223372036854775808 ≤ f ∧ f ≤ 9223372036854775807) (hk : -9223372036854775808 ≤ k ∧ k ≤ 9223372036854775807) (hu : u ≤ 18446744073709551615) (hl : l.length ≤ 16384) :
    (∃ x : List UInt8, x.length ≤ 16500 ∧
      (∀ W ab nb cb a n c, Below w0.heap.size w0 W → Sl W ab nb cb lb → nb ≤ 16384 → Sl W a n c l → Calls Tryd.prog 41 #[.slice ab nb cb, recV f k (u : Int) a n c] W (PutPost (lb ++ x) W)) ∧
      (∀ W a n c, Sl W a n c l → Calls Tryd.prog 42 #[recV f k (u : Int) a n c] W (PutdPost x W))) ∨
    (∃ c0 : Nat, 101 ≤ c0 ∧ c0 ≤ 130 ∧
      (∀ W ab nb cb a n c, Below w0.heap.size w0 W → Sl W a n c l → Calls Tryd.prog 41 #[.slice ab nb cb, recV f k (u : Int) a n c] W (PutNo (fun c => es (c - 101)) c0 W)) ∧
      (∀ W a n c, Sl W a n c l → Calls Tryd.prog 42 #[recV f k (u : Int) a n c] W (PutdNo (c0 : Int) W))) := by
  by_cases ht : TagOk f k
  · obtain ⟨t1, t2, t3, t4⟩ := ht
    obtain ⟨F, rfl⟩ : ∃ F : Nat, f = F := ⟨f.toNat, by omega⟩
    obtain ⟨K, rfl⟩ : ∃ K : Nat, k = K := ⟨k.toNat, by omega⟩
    by_cases h : PutOk F K l
    · left
      refine ⟨put F K u l, putB_len (by omega) (by omega) hu hl, fun W ab nb cb a n c hW hb hnb hs => put_any _ ab nb cb lb a n c l F K u h hu W ((S.env).kept hW) hb hs (by omega) (by have := hs.len; omega), fun W a n c hs => ?_⟩
      obtain ⟨h1, h2, h3, h4, h5⟩ := h
      have hn : n ≤ 35184372088832 := by have := hs.len; omega
      have hk5 : K = 0 ∨ K = 1 ∨ K = 2 ∨ K = 3 ∨ K = 5 := by omega
      rcases hk5 with rfl | rfl | rfl | rfl | rfl
      · exact putd_0 a n c l F u h1 h2 hu W hs hn
      · exact putd_1 a n c l F u h1 h2 hu W hs hn
      · exact putd_2 a n c l F u h1 h2 hu W hs hn
      · exact putd_3 a n c l F u h1 h2 hu W hs hn (h5 rfl)
      · exact putd_5 a n c l F u h1 h2 hu W hs hn
    · right
      refine ⟨104, by omega, by omega, fun W ab nb cb a n c hW hs => put_no _ ab nb cb a n c l F K u (by omega) (by omega) (by omega) h W ((S.env).kept hW) hs, fun W a n c hs => ?_⟩
      have hn : n ≤ 35184372088832 := by have := hs.len; omega
      have hk5 : K = 4 ∨ (K = 3 ∧ (chk 31 l (l.length + 1) 0).isNone = false) := by
        by_cases h4 : K = 4
        · exact Or.inl h4
        · right
          by_cases h5 : K = 3
          · refine ⟨h5, ?_⟩
            cases hc : chk 31 l (l.length + 1) 0 with
            | none => exact absurd ⟨by omega, by omega, by omega, h4, fun _ => hc⟩ h
            | some p => rfl
          · exact absurd ⟨by omega, by omega, by omega, h4, fun h => absurd h h5⟩ h
      rcases hk5 with rfl | ⟨rfl, hc⟩
      · exact putd_4 a n c l F u (by omega) (by omega) hu W hs hn
      · exact putd_3no a n c l F u (by omega) (by omega) hu W hs hn hc
  · right
    exact ⟨103, by omega, by omega, fun W ab nb cb a n c hW _ => put_notag _ ab nb cb a n c f k u hf.1 hf.2 hk.1 hk.2 ht W ((S.env).kept hW), fun W a n c _ => putd_notag a n c f k u hf.1 hf.2 hk.1 hk.2 ht W⟩

set_option maxRecDepth 100000 in
set_option maxHeartbeats 4000000 in
theorem putlaw_any (es : Nat → Addr) (ab : Option Addr) (nb cb : Nat) (lb : List UInt8) (f k : Int) (u : Nat) (a : Option Addr) (n c : Nat) (l : List UInt8) (w : World) (S : Sent w es) (hb : Sl w ab nb cb lb) (hs : Sl w a n c l) (hu : u ≤ 18446744073709551615)
    (hf : -9223372036854775808 ≤ f ∧ f ≤ 9223372036854775807) (hk : -9223372036854775808 ≤ k ∧ k ≤ 9223372036854775807) :
    Calls Tryd.prog 5 #[.slice ab nb cb, .int .i64 f, .int .i64 k, .int .u64 (u : Int), .slice a n c] w fun e w' => e = .returned (.bool true) ∧ Below w.heap.size w w' := by
  have hn9 := hs.nine
  have hb9 := hb.nine
  have HS := Lib.hid hs
  have HB := Lib.hid hb
  have HLN := Lib.hid hs.len
  have HLB := Lib.hid hb.len
  have HE := Lib.hid S
  clear hs hb S
  by_cases h1 : nb ≤ 16384
  · by_cases h2 : n ≤ 16384
    · have HP := Lib.hid (put_pair HE.out f k u lb l hf hk hu (by rw [HLN.out]; exact h2))
      go_enter Tryd.func5, Tryd.ntmps5
      go_wp2_with fail
      refine (first_any _ w HE.out.env).mono ?_
      rintro e w1 ⟨rfl, hb1⟩
      rcases HP.out with ⟨x, hx, hp1, hp2⟩ | ⟨c0, hc1, hc2, hp1, hp2⟩
      · have H1 := Lib.hid hp1
        have H2 := Lib.hid hp2
        clear hp1 hp2 HP
        go_wp2_with fail
        refine (H1.out _ _ _ _ _ _ _ hb1 (HB.out.kept hb1) h1 (HS.out.kept hb1)).mono ?_
        rintro e w2 ⟨a2, N2, c2, rfl, hN2, hown2, hb2⟩
        have hB2 : Below w.heap.size w w2 := hb1.trans (hb2.mono hb1.size)
        go_wp2_with fail
        refine (H2.out _ _ _ _ (HS.out.kept hB2)).mono ?_
        rintro e w3 ⟨a3, N3, c3, rfl, hN3, hown3, hb3⟩
        have hB3 : Below w.heap.size w w3 := hB2.trans (hb3.mono hB2.size)
        have hz23 := hb3.size
        have hs2 := Lib.hid (own_sl2 (hown2.kept hb3))
        have hs3 := Lib.hid (own_sl2 hown3)
        have hN3' : N3 ≤ 16500 := by have := hN3.out; omega
        clear hown2 hown3 hb2 hb3 hN2 hN3
        go_wp2_with fail
        refine (bytes_any ab nb cb lb _ (HB.out.kept hB3) (by omega)).mono ?_
        rintro e w4 ⟨a4, N4, c4, rfl, hN4, hown4, hb4⟩
        have hB4 : Below w.heap.size w w4 := hB3.trans (hb4.mono hB3.size)
        have hs3' := hs3.out.kept hb4
        have hz34 := hb4.size
        clear hN4
        go_wp2_with (at_builtin; (refine wp_append_g (by simp [go_sem, Region.wanted]) _ _ rfl _ lb x rfl w3.heap.size hown4 a3 N3 c3 rfl hs3' (by rw [HLB.out]; omega) hz34 ?_); intro w5 a5 N5 c5 hN5 hown5 hb5; clear hown4 hs3')
        have hb35 : Below w3.heap.size w3 w5 := hb4.trans hb5
        have hm := same_any _ _ _ _ _ _ _ _ w5 (hs2.out.kept hb35) (own_sl2 hown5)
        rw [show (lb ++ x == lb ++ x) = true by simp] at hm
        have HM := Lib.hid hm
        have hB5 := Lib.hid (hB3.trans (hb35.mono hB3.size))
        clear hm hown5 hb4 hb5 hb35 hB4 hN5
        refine HM.out.mono ?_
        rintro e w' ⟨rfl, rfl⟩
        go_wp2_with fail
        go_ret
        exact ⟨rfl, hB5.out⟩
      · have H1 := Lib.hid hp1
        have H2 := Lib.hid hp2
        clear hp1 hp2 HP
        go_wp2_with fail
        refine (H1.out _ _ _ _ _ _ _ hb1 (HS.out.kept hb1)).mono ?_
        rintro e w2 ⟨rfl, hb2⟩
        have hB2 : Below w.heap.size w w2 := hb1.trans (hb2.mono hb1.size)
        go_wp2_with fail
        refine (H2.out _ _ _ _ (HS.out.kept hB2)).mono ?_
        rintro e w3 ⟨rfl, hb3⟩
        have hB3 : Below w.heap.size w w3 := hB2.trans (hb3.mono hB2.size)
        have hi := is_seen _ (c0 : Int) (c0 : Int) w3 ((seen_code HE.out hc1 hc2).later2 hB3)
        rw [show ((c0 : Int) == (c0 : Int)) = true by simp] at hi
        have HI := Lib.hid hi
        clear hi
        have hne : ((c0 : Int) != 0) = true := by simp; omega
        go_wp2_with fail
        refine HI.out.mono ?_
        rintro e w4 ⟨rfl, hb4⟩
        go_wp2_with fail
        go_ret
        exact ⟨rfl, hB3.trans (hb4.mono hB3.size)⟩
    · go_enter Tryd.func5, Tryd.ntmps5
      go_wp2_with fail
      refine (first_any _ w HE.out.env).mono ?_
      rintro e w1 ⟨rfl, hb1⟩
      go_wp2_with fail
      go_ret
      exact ⟨rfl, hb1⟩
  · go_enter Tryd.func5, Tryd.ntmps5
    go_wp2_with fail
    refine (first_any _ w HE.out.env).mono ?_
    rintro e w1 ⟨rfl, hb1⟩
    go_wp2_with fail
    go_ret
    exact ⟨rfl, hb1⟩
end Go.Proofs.YtclnmajjkchfmaaDoor
