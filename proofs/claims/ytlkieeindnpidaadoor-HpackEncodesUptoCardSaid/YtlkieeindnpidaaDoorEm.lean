/-
  THE DOCUMENT's ENCODER: a list.
-/
import Derived.Test.YtlkieeindnpidaaDoorEn
namespace Go.Proofs.YtlkieeindnpidaaDoor
open Go.RowKit Tt Hu Hu.Hf

theorem own_kq {w w' : World} {A b B : Nat} {v : Value} {l : List UInt8} (h : Hu.Own w B v l) (hk : Kq w.heap.size A b w w') (hA : A < B) (hb : b < B) : Hu.Own w' B v l := by
  obtain ⟨h1, h2⟩ := h
  refine ⟨h1, ?_⟩
  rcases h2 with h2 | ⟨g, cap, cur, hv, hg, hh, r⟩
  · exact Or.inl h2
  · exact Or.inr ⟨g, cap, cur, hv, hg, (hk.block g (Array.getElem?_eq_some_iff.1 hh).1 (by omega) (by omega)).trans hh, r⟩
theorem Ed.told {w : World} {x t : Nat} {s : ES} (h : Ed w x t s) : Ed (w.setCell ⟨x, 1, none⟩ (.bool false)) x t ⟨s.m, s.M, none⟩ := by
  obtain ⟨n2, n3, hk, hn⟩ := h.blk
  exact ⟨⟨n2, n3, (blk_set hk).trans (by simp), fun y hy => by cases hy⟩, Dt.setX h.dt hk h.ne, h.tot, h.m, by simp, h.ne⟩
/-- The sizes are told. -/
def SzD (B x t : Nat) (s : ES) (w : World) (s5 : Value) (wr : World) : Prop := ∃ (a : Option Addr) (N c : Nat), s5 = .slice a N c ∧ Hu.Own wr B (.slice a N c) (sizesB s) ∧ Ed wr x t ⟨s.m, s.M, none⟩ ∧ Kq B t x w wr
def EdRel (B x t : Nat) (s : ES) (L : List Hn) (w : World) (s5 s6 : Value) (wr : World) : Prop := ∃ (i : Nat) (a : Option Addr) (N c : Nat), s6 = .int .i64 (i : Int) ∧ i ≤ L.length ∧ s5 = .slice a N c ∧ Hu.Own wr B (.slice a N c) (sizesB s ++ (encL s.m s.M (L.take i)).1) ∧
  (sizesB s ++ (encL s.m s.M (L.take i)).1).length ≤ 12 + 2097170 * i ∧ Ed wr x t ⟨s.m, (encL s.m s.M (L.take i)).2, none⟩ ∧ Kq B t x w wr
set_option maxRecDepth 100000 in
set_option maxHeartbeats 4000000 in
theorem encodeD_any (x t : Nat) (s : ES) (a : Option Addr) (n c : Nat) (L : List Hn) (w : World) (hE : Ed w x t s) (hL : ∀ W, Kq w.heap.size t x w W → Ns W a n c L) (hn : L.length ≤ 300) (hS : Small L) :
    Calls Tryd.prog 30 #[.pointer (some ⟨x, 0, none⟩), .slice a n c] w (EncD w.heap.size x t (encode s L).1 (encode s L).2 w) := by
  have hlen := (hL w (Kq.refl _ _ _ _)).len
  have hxl := hE.lt
  have htl := hE.dt.lt
  have hne := hE.ne
  have hle := sizesB_len s hE.m hE.least
  have hsm := hE.m
  have hsl := hE.least
  have HLL := Lib.hid hL
  have HSM := Lib.hid hS
  have HEE := Lib.hid hE
  have HP := Lib.hid (fun (y : Nat) (hy : y ≤ 4096) (W : World) => (by have := dput_any 32 5 (y : Int) W (by omega); rw [putInt_size (by omega)] at this; exact this : Calls Tryd.prog 15 #[.int .i64 32, .int .i64 5, .int .i64 (y : Int)] W (OwnOut W.heap.size (pint 32 5 y) W)))
  have HPL := Lib.hid (fun (y : Nat) (hy : y ≤ 4096) => pint_len (first := 32) (bits := 5) (n := y) (by omega))
  generalize hB : w.heap.size = B at hxl htl HLL
  have HB := Lib.hid hB
  clear hE hL hS hB
  go_enter Tryd.func30, Tryd.ntmps30
  go_upto_region 2 with fail
  go_cut [10] from 7 to 10 (fun s10 wx => s10 = .bool s.asked.isSome ∧ w = wx)
  case first =>
    obtain ⟨n2, n3, hblk, hnn⟩ := HEE.out.blk
    have c1 : w.cell? ⟨x, 1, none⟩ = some (.bool s.asked.isSome) := by rw [blk_cell hblk]; rfl
    clear hblk hnn
    go_wp2_with fail
    go_meet
    exact ⟨rfl, rfl⟩
  case rest =>
  obtain ⟨rfl, rfl⟩ := hcut
  go_upto_if 10 with fail
  go_cut [5] from 11 to 36 (fun s5 wx => SzD B x t s w s5 wx)
  case first =>
    as_aux_lemma =>
    obtain ⟨m, M, o⟩ := s
    simp only at hsm hsl
    obtain ⟨n2, n3, hblk, hnn⟩ := HEE.out.blk
    have c1 := blk_cell (i := 1) hblk
    have c2 := blk_cell (i := 2) hblk
    have c3 := blk_cell (i := 3) hblk
    simp at c1 c2 c3
    cases o with
    | none =>
      simp only [Option.isSome_none]
      clear hblk hnn c2 c3
      go_wp2_with fail
      go_meet
      exact ⟨none, 0, 0, rfl, own_nil _ _, HEE.out, Kq.refl _ _ _ _⟩
    | some y =>
      obtain ⟨rfl, rfl⟩ := hnn y rfl
      simp only [Option.getD_some] at hsl
      simp only [Option.isSome_some]
      clear hblk
      have hzw := HB.out
      go_upto_region 3 with fail
      go_cut [19] from 11 to 19 (fun s19 wx => s19 = .bool (decide (y < m)) ∧ Below w.heap.size w wx)
      case first =>
        go_wp2_with fail
        go_quiet (fail)
        all_goals try go_wp2_with fail
        all_goals go_meet
        all_goals refine ⟨by simp, ?_⟩
        all_goals (repeat (first | exact Below.refl _ _ | (refine Tt.bdN ?_ _) | (refine Below.drew ?_)))
      case rest =>
      obtain ⟨rfl, hb2⟩ := hcut
      obtain ⟨w2, rfl⟩ : ∃ w2 : World, w2 = wc := ⟨_, rfl⟩
      have hz2 := hb2.size
      have HE2 := Lib.hid (HEE.out.below hb2)
      have HK2 : Hid (Kq B t x w w2) := Lib.hid (Kq.of_below (hb2.mono (by omega)))
      have hp1 := HPL.out y hsl
      have hp2 := HPL.out m hsm
      have cell1 : ∀ W, Ed W x t ⟨m, M, some y⟩ → W.cell? ⟨x, 1, none⟩ = some (.bool true) ∧ W.cell? ⟨x, 2, none⟩ = some (.int .i64 (y : Int)) ∧ W.cell? ⟨x, 3, none⟩ = some (.int .i64 (m : Int)) ∧ W.frozen? ⟨x, 1, none⟩ = false := fun W hW => by
        obtain ⟨p2, p3, hk, hn⟩ := hW.blk
        obtain ⟨rfl, rfl⟩ := hn y rfl
        exact ⟨by rw [blk_cell hk]; rfl, by rw [blk_cell hk]; rfl, by rw [blk_cell hk]; rfl, blk_frozen hk⟩
      have HCL := Lib.hid cell1
      clear c1 c2 c3 hb2 cell1 HEE hnn
      by_cases hym : y < m
      · have HSZ : Hid (sizesB ⟨m, M, some y⟩ = pint 32 5 y ++ pint 32 5 m) := Lib.hid (by unfold sizesB; simp only; rw [if_pos hym])
        have hd : decide (y < m) = true := decide_eq_true hym
        rw [hd]
        obtain ⟨q1, q2, q3, q4⟩ := HCL.out w2 HE2.out
        go_wp2_with fail
        refine (HP.out y hsl _).mono ?_
        rintro e w3 ⟨a3, N3, k3, rfl, hN3, ho3, hb3⟩
        have hN := hN3.out
        subst hN
        have hz3 := hb3.size
        have HE3 := Lib.hid (HE2.out.below hb3)
        have HK3 : Hid (Kq B t x w w3) := Lib.hid (HK2.out.trans (Kq.of_below (hb3.mono (by omega))))
        have HS3 := Lib.hid (sl_own ho3)
        clear q1 q2 q3 q4 ho3 hb3 hN3
        go_upto_region 5 with (at_builtin; (refine wp_append_bytes_x rfl _ _ rfl _ [] _ rfl B (own_nil w3 B) a3 _ k3 rfl HS3.out (by simp; omega) (by omega) ?_); intro w4 a4 N4 k4 hN4 ho4 hb4 hap4)
        have hz4 := hb4.size
        have HE4 := Lib.hid (HE3.out.keep (own_nil w3 B) hap4 hxl htl)
        have HK4 : Hid (Kq B t x w w4) := Lib.hid (HK3.out.trans (Kq.of_below hb4))
        have HO4 := Lib.hid ho4
        obtain ⟨q1, q2, q3, q4⟩ := HCL.out w4 HE4.out
        clear ho4 hb4 hap4 hN4
        go_wp2_with fail
        refine (HP.out m hsm _).mono ?_
        rintro e w5 ⟨a5, N5, k5, rfl, hN5, ho5, hb5⟩
        have hN := hN5.out
        subst hN
        have hz5 := hb5.size
        have HE5 := Lib.hid (HE4.out.below hb5)
        have HK5 : Hid (Kq B t x w w5) := Lib.hid (HK4.out.trans (Kq.of_below (hb5.mono (by omega))))
        have HS5 := Lib.hid (sl_own ho5)
        have HO5 := Lib.hid (HO4.out.kept hb5)
        clear q1 q2 q3 q4 ho5 hb5 hN5
        go_upto_region 6 with (at_builtin; (refine wp_append_bytes_x rfl _ _ rfl _ _ _ rfl B HO5.out a5 _ k5 rfl HS5.out (by simp; omega) (by omega) ?_); intro w6 a6 N6 k6 hN6 ho6 hb6 hap6)
        have hz6 := hb6.size
        have HE6 := Lib.hid (HE5.out.keep HO5.out hap6 hxl htl)
        have HK6 : Hid (Kq B t x w w6) := Lib.hid (HK5.out.trans (Kq.of_below hb6))
        have HO6 := Lib.hid ho6
        obtain ⟨q1, q2, q3, q4⟩ := HCL.out w6 HE6.out
        clear ho6 hb6 hap6
        go_wp2_with fail
        go_meet
        exact ⟨_, _, _, rfl, by rw [HSZ.out]; exact own_kp HO6.out ((Kp.refl x w6).set 1 _) hxl, HE6.out.told, HK6.out.trans (Kq.of_kp' ((Kp.refl x w6).set 1 _) (by omega))⟩
      · have HSZ : Hid (sizesB ⟨m, M, some y⟩ = [] ++ pint 32 5 m) := Lib.hid (by unfold sizesB; simp only; rw [if_neg hym])
        have hd : decide (y < m) = false := decide_eq_false hym
        rw [hd]
        obtain ⟨q1, q2, q3, q4⟩ := HCL.out w2 HE2.out
        go_wp2_with fail
        refine (HP.out m hsm _).mono ?_
        rintro e w5 ⟨a5, N5, k5, rfl, hN5, ho5, hb5⟩
        have hN := hN5.out
        subst hN
        have hz5 := hb5.size
        have HE5 := Lib.hid (HE2.out.below hb5)
        have HK5 : Hid (Kq B t x w w5) := Lib.hid (HK2.out.trans (Kq.of_below (hb5.mono (by omega))))
        have HS5 := Lib.hid (sl_own ho5)
        clear q1 q2 q3 q4 ho5 hb5 hN5
        go_upto_region 6 with (at_builtin; (refine wp_append_bytes_x rfl _ _ rfl _ [] _ rfl B (own_nil w5 B) a5 _ k5 rfl HS5.out (by simp; omega) (by omega) ?_); intro w6 a6 N6 k6 hN6 ho6 hb6 hap6)
        have hz6 := hb6.size
        have HE6 := Lib.hid (HE5.out.keep (own_nil w5 B) hap6 hxl htl)
        have HK6 : Hid (Kq B t x w w6) := Lib.hid (HK5.out.trans (Kq.of_below hb6))
        have HO6 := Lib.hid ho6
        obtain ⟨q1, q2, q3, q4⟩ := HCL.out w6 HE6.out
        clear ho6 hb6 hap6
        go_wp2_with fail
        go_meet
        exact ⟨_, _, _, rfl, by rw [HSZ.out]; exact own_kp HO6.out ((Kp.refl x w6).set 1 _) hxl, HE6.out.told, HK6.out.trans (Kq.of_kp' ((Kp.refl x w6).set 1 _) (by omega))⟩
  case rest =>
  obtain ⟨a1, N1, c1, rfl, ho1, hE1, hk1⟩ := hcut
  obtain ⟨w1, rfl⟩ : ∃ w1 : World, w1 = wc := ⟨_, rfl⟩
  go_wp2_with fail
  go_loopw [5, 6] (fun s5 s6 wr => EdRel B x t s L w s5 s6 wr) (fun _ s6 _ => L.length - (intOf s6).toNat)
  case atStart => exact ⟨0, _, _, _, rfl, by omega, rfl, by simpa [encL] using ho1, by simpa [encL] using hle, by simpa [encL] using hE1, hk1⟩
  case round =>
    obtain ⟨i, a2, N2, c2, rfl, hi, rfl, ho, hol, hE, hk⟩ := hrel
    clear ho1 hE1 hk1
    by_cases hlt : i < L.length
    · obtain ⟨hb1, hb2⟩ := HSM.out i hlt
      obtain ⟨bx, ox, rfl, e0, e1, e2⟩ := (HLL.out wr hk).row i hlt
      have hts := take_snoc L hlt
      have hsn := encL_snoc (L.take i) s.m s.M L[i]
      rw [← hts] at hsn
      generalize L[i] = h at hb1 hb2 e0 e1 e2 hsn
      have hia : (0 : Int) ≤ (i : Int) := by omega
      have hib : (i : Int) < (n : Int) := by omega
      have hsz := hk.size
      have hML : (encL s.m s.M (L.take i)).2.length ≤ 1000 := by
        have h1 := hE.tot
        have h2 := total_ge (encL s.m s.M (L.take i)).2
        have h3 := hE.m
        simp only at h1 h3
        omega
      have hll := encH_len (m := s.m) (h := h) hML hb1 hb2
      have HONE := Lib.hid (oneD_any x t ⟨s.m, (encL s.m s.M (L.take i)).2, none⟩ h wr hE hb1 hb2)
      have HO := Lib.hid ho
      have HSN := Lib.hid hsn
      have HLL2 := Lib.hid hll
      have HK := Lib.hid hk
      have hBr : B ≤ wr.heap.size := by have := HB.out; omega
      clear hts hsn hll ho hE hk hML
      go_wp2_with fail
      refine HONE.out.mono ?_
      rintro e w3 ⟨a3, N3, c3, rfl, hN3, ho3, hE3, hk3⟩
      try simp only at ho3 hE3 hN3
      have hN := hN3.out
      subst hN
      have HO3 := Lib.hid (own_kq HO.out hk3 htl hxl)
      have HS3 := Lib.hid (sl_own ho3)
      have HE3 := Lib.hid hE3
      have HK3 := Lib.hid (HK.out.trans (hk3.mono hBr))
      have hz3 := hk3.size
      have hlen3 := HLL2.out
      try simp only at hlen3
      clear HONE hN3 ho3 hE3 hk3
      go_wp2_with (at_builtin; (refine wp_append_bytes_x rfl _ _ rfl _ _ _ rfl B HO3.out a3 _ c3 rfl HS3.out (by simp only [List.length_append] at hol ⊢; omega) (by omega) ?_); intro w4 a4 N4 c4 hN4 ho4 hb4 hap4)
      rw [List.append_assoc, ← HSN.out.1] at ho4
      refine ⟨⟨i + 1, _, _, _, by go_num, by omega, rfl, ho4, ?_, ?_, HK3.out.trans (Kq.of_below hb4)⟩, by simp [intOf]; omega⟩
      · rw [HSN.out.1]
        have := HLL2.out
        simp only [List.length_append] at hol ⊢
        omega
      · rw [HSN.out.2]; exact HE3.out.keep HO3.out hap4 hxl htl
    · obtain rfl : i = L.length := by omega
      rw [List.take_of_length_le (Nat.le_refl _)] at ho hE
      go_wp2_with fail
      go_ret
      exact ⟨_, _, _, rfl, Lib.hid ho.len, ho, hE, hk⟩
end Go.Proofs.YtlkieeindnpidaaDoor
