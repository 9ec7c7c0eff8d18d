/-
  CONTRACTS: the document's deep.
-/
import Derived.Test.YtclnmajjkchfmaaDoorWp
import Derived.Test.YtclnmajjkchfmaaDoorMz
namespace Go.Proofs.YtclnmajjkchfmaaDoor
open Go.RowKit Wr

/-- Its rounds. -/
def DeepRel (k : Nat) (l : List UInt8) (w : World) (res : Nat) (s3 s4 : Value) (wr : World) : Prop := ∃ i fuel most : Nat, s4 = .int .i64 (i : Int) ∧ s3 = .int .i64 (most : Int) ∧ most ≤ k + 1 ∧ i ≤ l.length ∧ l.length + 1 ≤ fuel + i ∧ Hid (res = dpw (dp k) l fuel i most) ∧ Below w.heap.size w wr
set_option maxRecDepth 100000 in
set_option maxHeartbeats 4000000 in
theorem deep_any : ∀ (k : Nat) (l : List UInt8) (a : Option Addr) (n c : Nat) (w : World), Sl w a n c l → n ≤ 140737488355328 → l.length ≤ k → k ≤ 140737488355328 →
    Calls Tryd.prog 62 #[.slice a n c] w fun e w' => e = .returned (.int .i64 (dp k l : Int)) ∧ Below w.heap.size w w'
  | 0, l, a, n, c, w, hs, hn, hl, hk => by
    have hlen := hs.len
    obtain rfl : n = 0 := by omega
    go_enter Tryd.func62, Tryd.ntmps62
    go_wp2
    go_loopw [3, 4] (fun s3 s4 wr => s3 = .int .i64 0 ∧ s4 = .int .i64 0 ∧ w = wr) (fun _ _ _ => 0)
    case atStart => exact ⟨rfl, rfl, rfl⟩
    case round =>
      obtain ⟨rfl, rfl, rfl⟩ := hrel
      go_wp2
      go_ret
      exact ⟨rfl, Below.refl _ _⟩
  | k + 1, l, a, n, c, w, hs, hn, hl, hk => by
    have hlen := hs.len
    have hle := hs.le
    generalize hR : dp (k + 1) l = res
    have HR : Hid (res = dpw (dp k) l (l.length + 1) 0 0) := Lib.hid (by rw [← hR, dp])
    clear hR
    go_enter Tryd.func62, Tryd.ntmps62
    go_wp2
    go_loopw [3, 4] (fun s3 s4 wr => DeepRel k l w res s3 s4 wr) (fun _ s4 _ => l.length + 1 - (intOf s4).toNat)
    case atStart => exact ⟨0, l.length + 1, 0, rfl, rfl, by omega, by omega, by omega, HR, Below.refl _ _⟩
    case round =>
      obtain ⟨i, fuel, most, rfl, rfl, hm, hi, hfu, hch, hB⟩ := hrel
      have hz := hB.size
      by_cases hlt : i < n
      · obtain ⟨fuel', rfl⟩ : ∃ q, fuel = q + 1 := ⟨fuel - 1, by omega⟩
        have hsl := fun W => slice_l a n c (i : Int) (by omega) (by omega) (n - i) (c - i) (by omega) (by omega) i (by omega) W
        have hsub : Sl w (partAt a c i) (n - i) (c - i) (l.drop i) := sl_part hs i (n - i) (by omega) _ (by rw [List.take_of_length_le (by simp; omega)])
        have hnx := nextd_any _ _ _ _ _ (hsub.kept hB) (by omega)
        have hstep : res = match rec 32 (l.drop i) with
            | .er _ => most
            | .ok (r, m) => dpw (dp k) l fuel' (i + m) (if r.kind = 3 then max most (dp k r.b + 1) else most) := by rw [hch.out, dpw, if_pos (by omega)]; rfl
        clear hch hsub
        cases hr : rec 32 (l.drop i) with
        | er x =>
          rw [hr] at hnx hstep
          simp only at hstep
          have hx := rec_er hr
          subst hstep
          have HN := Lib.hid hnx; clear hnx hr
          go_wp2_with fail
          refine HN.out.mono ?_
          rintro e w1 ⟨hb1, rfl⟩
          have hz1 := hb1.size
          go_wp2_with fail
          go_ret
          exact ⟨rfl, (hB.trans (hb1.mono hz)).alloc (by omega) _⟩
        | ok p =>
          obtain ⟨r, m⟩ := p
          have hro := rec_ok hr
          have hsh := rec_short hr
          rw [List.length_drop] at hro hsh
          have hmm : 1 ≤ m ∧ m ≤ l.length - i := ⟨hro.1, hro.2.1⟩
          rw [hr] at hnx hstep
          simp only at hstep
          have HS := Lib.hid hstep
          have HN := Lib.hid hnx
          clear hnx hr hstep hro
          by_cases h3 : r.kind = 3
          · have hb3 : ((r.kind : Int) == 3) = true := by rw [h3]; rfl
            have HI := Lib.hid (fun a n c W hs hn => deep_any k r.b a n c W hs hn (by omega) (by omega))
            have HD := Lib.hid (dp_bound k r.b)
            go_wp2_with fail
            refine HN.out.mono ?_
            rintro e w1 ⟨hb1, a1, m1, c1, rfl, hown1⟩
            have hz1 := hb1.size
            obtain rfl : m1 = r.b.length := by obtain ⟨_, _, e, _⟩ := hown1.sl; cases e; rfl
            have hs1 := (own_sl2 hown1).alloc (.cells #[.int .i64 (r.field : Int), .int .i64 3, .int .u64 (r.u : Int), .slice a1 r.b.length c1] 56)
            have HC := Lib.hid (HI.out _ _ _ _ hs1 (by omega))
            go_wp2_with fail
            refine HC.out.mono ?_
            rintro e w2 ⟨rfl, hb2⟩
            have hdb := HD.out
            go_wp2_with fail
            have hmx : max (most : Int) ((dp k r.b : Int) + 1) = ((max most (dp k r.b + 1) : Nat) : Int) := by omega
            rw [hmx]
            refine ⟨⟨i + m, fuel', max most (dp k r.b + 1), by go_num, rfl, by omega, by omega, by omega, Lib.hid (by rw [HS.out, if_pos h3]), ?_⟩, by simp [intOf]; omega⟩
            exact ((hB.trans (hb1.mono hz)).alloc (by omega) _).trans (hb2.mono (by simp; omega))
          · have hb3 : ((r.kind : Int) == 3) = false := by rw [beq_eq_false_iff_ne]; omega
            go_wp2_with fail
            refine HN.out.mono ?_
            rintro e w1 ⟨hb1, a1, m1, c1, rfl, hown1⟩
            have hz1 := hb1.size
            go_wp2_with fail
            refine ⟨⟨i + m, fuel', most, by go_num, rfl, hm, by omega, by omega, Lib.hid (by rw [HS.out, if_neg h3]), ?_⟩, by simp [intOf]; omega⟩
            exact (hB.trans (hb1.mono hz)).alloc (by omega) _
      · have HG : Hid (res = most) := Lib.hid (by rw [hch.out]; cases fuel with | zero => rfl | succ q => rw [dpw, if_neg (by omega)])
        clear hch
        go_wp2
        go_ret
        rw [HG.out]
        exact ⟨rfl, hB⟩
end Go.Proofs.YtclnmajjkchfmaaDoor
