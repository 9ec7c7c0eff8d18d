/-
  CONTRACTS: the document's Put of groups.
-/
import Derived.Test.YtclnmajjkchfmaaDoorWt
namespace Go.Proofs.YtclnmajjkchfmaaDoor
open Go.RowKit Wr

set_option maxRecDepth 100000 in
set_option maxHeartbeats 4000000 in
theorem putd_3 (a : Option Addr) (n c : Nat) (l : List UInt8) (f u : Nat) (h1 : 1 ≤ f) (h2 : f ≤ 536870911) (hu : u ≤ 18446744073709551615) (w : World) (hs : Sl w a n c l) (hn : n ≤ 35184372088832) (hc : chk 31 l (l.length + 1) 0 = none) :
    Calls Tryd.prog 42 #[recV (f : Int) 3 (u : Int) a n c] w (PutdPost (put f 3 u l) w) := by
  have hd31 : dp n l ≤ 31 := (dp_le n l (by rw [hs.len]; exact Nat.le_refl _) (chk_mono (by omega) _ _ hc) 31).2 hc
  have hck : check l = none := chk_mono (by omega) _ _ hc
  have HX : Hid (∀ (W : World), Sl W a n c l → Calls Tryd.prog 38 #[.slice a n c] W fun e w' => e = .returned (bareV 0) ∧ Below W.heap.size W w') := Lib.hid (fun W h => by
    have := checkd_any a n c l W h (by omega)
    rw [hck] at this
    exact this)
  have HDP : Hid (∀ (W : World), Sl W a n c l → Calls Tryd.prog 62 #[.slice a n c] W fun e w' => e = .returned (.int .i64 (dp n l : Int)) ∧ Below W.heap.size W w') := Lib.hid (fun W h => deep_any n l a n c W h (by omega) (by rw [h.len]; exact Nat.le_refl _) (by omega))
  clear hck hc
  generalize dp n l = D at hd31 HDP
  have hT2 : f * 8 + 4 ≤ 18446744073709551615 := by omega
  have HV2 : Hid (∀ W, Calls Tryd.prog 16 #[.int .u64 (((f * 8 + 3 : Nat) : Int) + 1)] W (Built (varint (f * 8 + 4)) W)) := Lib.hid (fun W => by
    have := varintr_any (f * 8 + 4) hT2 W
    rw [show ((f * 8 + 4 : Nat) : Int) = ((f * 8 + 3 : Nat) : Int) + 1 by omega] at this
    exact this)
  have hl4 := varint_len10 hT2
  have HE : Hid (varint (f * 8 + 3) ++ l ++ varint (f * 8 + 4) = put f 3 u l) := Lib.hid (by rw [List.append_assoc]; rfl)
  have ht10 := varint_len10 (u := f * 8 + 3) (by omega)
  have HT : Hid (∀ W, Calls Tryd.prog 24 #[.int .i64 (f : Int), .int .i64 3] W fun e w' => e = .returned (.tuple #[.int .u64 ((f * 8 + 3 : Nat) : Int), .int .i64 0]) ∧ W = w') := Lib.hid (fun W => tagr_put f 3 h1 h2 (by omega) W)
  have HV := Lib.hid (fun W => varintr_any (f * 8 + 3) (by omega) W)
  have hb0 : Below w.heap.size w (w.alloc (.cells #[.int .i64 (f : Int), .int .i64 3, .int .u64 (u : Int), .slice a n c] 56)) := (Below.refl _ _).alloc (Nat.le_refl _) _
  have HS := Lib.hid (hs.alloc (.cells #[.int .i64 (f : Int), .int .i64 3, .int .u64 (u : Int), .slice a n c] 56))
  have HLN := Lib.hid hs.len
  clear hs
  go_enter Tryd.func42, Tryd.ntmps42
  go_wp2_with fail
  refine (HT.out _).mono ?_
  rintro e w' ⟨rfl, rfl⟩
  go_wp2_with fail
  refine (HV.out _).mono ?_
  rintro e w1 ⟨a1, N1, c1, rfl, hN1, hown1, hb1⟩
  have hz1 := hb1.size
  simp only [World.size_alloc] at hz1 hown1
  have q1 := (hb1.cell (p := ⟨w.heap.size, 1, none⟩) (by simp)).trans (by simp : _ = some (.int .i64 3))
  have q2 := (hb1.cell (p := ⟨w.heap.size, 2, none⟩) (by simp)).trans (by simp : _ = some (.int .u64 (u : Int)))
  have q3 := (hb1.cell (p := ⟨w.heap.size, 3, none⟩) (by simp)).trans (by simp : _ = some (.slice a n c))
  have hBw1 : Below w.heap.size w w1 := hb0.trans (hb1.mono (by simp))
  have hs1 : Sl w1 a n c l := HS.out.kept (by simpa using hb1)
  have HX1 := Lib.hid (HX.out w1 hs1)
  generalize varint (f * 8 + 3) = va at hown1 ht10 HE hN1
  generalize varint (f * 8 + 4) = vb at HV2 hl4 HE
  clear HV HT hb0 q2 HS HX
  go_wp2_with fail
  refine HX1.out.mono ?_
  rintro e w2 ⟨rfl, hb2⟩
  have hz2 := hb2.size
  have hB2 : Below w1.heap.size w1 w2 := hb2
  have q32 := (hb2.cell (p := ⟨w.heap.size, 3, none⟩) (by dsimp only; omega)).trans q3
  have hlt : w.heap.size < w2.heap.size := by omega
  have hbD : Below w1.heap.size w1 (w2.alloc (.cells #[.int .i64 0, .int .i64 0, .int .i64 0, .slice none 0 0] 64)) := hb2.alloc hz2 _
  have HSF := Lib.hid (fun (W : World) (h : Below w1.heap.size w1 W) => hs1.kept h)
  have HDP' := Lib.hid (fun (W : World) (h : Below w1.heap.size w1 W) => (HDP.out W (hs1.kept h)).mono (R' := fun e w' => e = .returned (.int .i64 (D : Int)) ∧ Below w1.heap.size w1 w') (fun e w' h2 => ⟨h2.1, h.trans (h2.2.mono h.size)⟩))
  clear hs1 HX1 HDP
  go_wp2_with fail
  refine (HDP'.out _ ?hB).mono ?_
  case hB => (repeat (first | exact hbD | exact hb2 | (refine Below.setCell ?_ (by first | omega | (simp; omega) | simp) _) | (refine Below.alloc ?_ (by first | omega | (simp; omega) | simp) _)))
  rintro e w3 ⟨rfl, hb3⟩
  have hz3 := hb3.size
  have q33 := (hb3.cell (p := ⟨w.heap.size, 3, none⟩) (by dsimp only; omega)).trans q3
  have hs3 := HSF.out w3 hb3
  have hown3 := hown1.kept hb3
  have HB1 := Lib.hid (hBw1.trans (hb3.mono (by omega)))
  clear q32 q3 q1 hb2 hbD HSF HDP' hB2 hb1 hown1 hBw1 hb3
  go_wp2_with (at_builtin; (refine wp_append_bytes rfl _ _ rfl _ va l rfl (w.heap.size + 1) hown3 a n c rfl hs3 (by omega) (by omega) ?_); intro w4 a4 N4 c4 hN4 hown4 hb4; clear hown3)
  have hz4 := hb4.size
  refine (HV2.out _).mono ?_
  rintro e w5 ⟨a5, N5, c5, rfl, hN5, hown5, hb5⟩
  have hz5 := hb5.size
  have hs5 := own_sl2 hown5
  have hown4' := hown4.kept hb5
  have hl5 : N5 ≤ 10 := by have := hN5.out; omega
  have hlv : (va ++ l).length ≤ 10 + n := by rw [List.length_append, HLN.out]; omega
  clear hown4 hown5
  go_wp2_with (at_builtin; (refine wp_append_bytes rfl _ _ rfl _ (va ++ l) vb rfl (w.heap.size + 1) hown4' a5 N5 c5 rfl hs5 (by omega) (by omega) ?_); intro w6 a6 N6 c6 hN6 hown6 hb6; clear hown4')
  go_ret2
  refine ⟨_, _, _, rfl, by rw [← HE.out]; exact hN6, by rw [← HE.out]; exact hown6.mono (by omega), ?_⟩
  exact HB1.out.trans (((hb4.mono (by omega)).trans (hb5.mono (by omega))).trans (hb6.mono (by omega)))
theorem chk_er (d : Nat) (l : List UInt8) : ∀ (fuel i : Nat) (p : Nat × Nat), chk d l fuel i = some p → 101 ≤ p.2
  | 0, i, p, h => by simp [chk] at h
  | fuel + 1, i, p, h => by
    rw [chk] at h
    split at h
    · cases hr : rec d (l.drop i) with
      | er k =>
        rw [hr] at h
        simp at h
        subst h
        exact rec_er hr
      | ok q =>
        rw [hr] at h
        exact chk_er d l fuel _ p h
    · cases h

set_option maxRecDepth 100000 in
set_option maxHeartbeats 4000000 in
theorem putd_3no (a : Option Addr) (n c : Nat) (l : List UInt8) (f u : Nat) (h1 : 1 ≤ f) (h2 : f ≤ 536870911) (hu : u ≤ 18446744073709551615) (w : World) (hs : Sl w a n c l) (hn : n ≤ 35184372088832) (hc : (chk 31 l (l.length + 1) 0).isNone = false) :
    Calls Tryd.prog 42 #[recV (f : Int) 3 (u : Int) a n c] w (PutdNo 104 w) := by
  cases hck : check l with
  | some p =>
    obtain ⟨i, k⟩ := p
    have hk : 101 ≤ k := chk_er 32 l _ _ _ hck
    have HX : Hid (∀ (W : World), Sl W a n c l → Calls Tryd.prog 38 #[.slice a n c] W fun e w' => PlPost (k : Int) (i : Int) W e w') := Lib.hid (fun W h => by
      have := checkd_any a n c l W h (by omega)
      rw [hck] at this
      exact this)
    clear hck hc
    have ht10 := varint_len10 (u := f * 8 + 3) (by omega)
    have HT : Hid (∀ W, Calls Tryd.prog 24 #[.int .i64 (f : Int), .int .i64 3] W fun e w' => e = .returned (.tuple #[.int .u64 ((f * 8 + 3 : Nat) : Int), .int .i64 0]) ∧ W = w') := Lib.hid (fun W => tagr_put f 3 h1 h2 (by omega) W)
    have HV := Lib.hid (fun W => varintr_any (f * 8 + 3) (by omega) W)
    have hb0 : Below w.heap.size w (w.alloc (.cells #[.int .i64 (f : Int), .int .i64 3, .int .u64 (u : Int), .slice a n c] 56)) := (Below.refl _ _).alloc (Nat.le_refl _) _
    have HS := Lib.hid (hs.alloc (.cells #[.int .i64 (f : Int), .int .i64 3, .int .u64 (u : Int), .slice a n c] 56))
    have HLN := Lib.hid hs.len
    clear hs
    go_enter Tryd.func42, Tryd.ntmps42
    go_wp2_with fail
    refine (HT.out _).mono ?_
    rintro e w' ⟨rfl, rfl⟩
    go_wp2_with fail
    refine (HV.out _).mono ?_
    rintro e w1 ⟨a1, N1, c1, rfl, hN1, hown1, hb1⟩
    have hz1 := hb1.size
    simp only [World.size_alloc] at hz1 hown1
    have q1 := (hb1.cell (p := ⟨w.heap.size, 1, none⟩) (by simp)).trans (by simp : _ = some (.int .i64 3))
    have q2 := (hb1.cell (p := ⟨w.heap.size, 2, none⟩) (by simp)).trans (by simp : _ = some (.int .u64 (u : Int)))
    have q3 := (hb1.cell (p := ⟨w.heap.size, 3, none⟩) (by simp)).trans (by simp : _ = some (.slice a n c))
    have hBw1 : Below w.heap.size w w1 := hb0.trans (hb1.mono (by simp))
    have hs1 : Sl w1 a n c l := HS.out.kept (by simpa using hb1)
    have HX1 := Lib.hid (HX.out w1 hs1)
    clear HV HT hb0 q2 HS HX
    go_wp2_with fail
    refine HX1.out.mono ?_
    rintro e w2 ⟨g, rfl, hg, hgs, hb2⟩
    have hz2 := hb2.size
    have q32 := (hb2.cell (p := ⟨w.heap.size, 3, none⟩) (by dsimp only; omega)).trans q3
    have hlt : w.heap.size < w2.heap.size := by omega
    have hBw2 := hBw1.trans (hb2.mono (by omega))
    have hcd : ((k : Int) != 0) = true := by simp; omega
    go_wp2_with fail
    go_ret2
    refine ⟨rfl, ?_⟩
    (repeat (first | exact hBw2 | (refine Below.setCell ?_ (by first | omega | (simp; omega) | simp) _) | (refine Below.alloc ?_ (by first | omega | (simp; omega) | simp) _)))
  | none =>
    have hd31 : 32 ≤ dp n l := by
      rcases Nat.lt_or_ge 31 (dp n l) with h | h
      · exact h
      · have := (dp_le n l (by rw [hs.len]; exact Nat.le_refl _) hck 31).1 h
        rw [this] at hc
        cases hc
    have hd32 := dp_bound n l
    have HX : Hid (∀ (W : World), Sl W a n c l → Calls Tryd.prog 38 #[.slice a n c] W fun e w' => e = .returned (bareV 0) ∧ Below W.heap.size W w') := Lib.hid (fun W h => by
      have := checkd_any a n c l W h (by omega)
      rw [hck] at this
      exact this)
    have HDP : Hid (∀ (W : World), Sl W a n c l → Calls Tryd.prog 62 #[.slice a n c] W fun e w' => e = .returned (.int .i64 (dp n l : Int)) ∧ Below W.heap.size W w') := Lib.hid (fun W h => deep_any n l a n c W h (by omega) (by rw [h.len]; exact Nat.le_refl _) (by omega))
    clear hck hc
    generalize dp n l = D at hd31 hd32 HDP
    have ht10 := varint_len10 (u := f * 8 + 3) (by omega)
    have HT : Hid (∀ W, Calls Tryd.prog 24 #[.int .i64 (f : Int), .int .i64 3] W fun e w' => e = .returned (.tuple #[.int .u64 ((f * 8 + 3 : Nat) : Int), .int .i64 0]) ∧ W = w') := Lib.hid (fun W => tagr_put f 3 h1 h2 (by omega) W)
    have HV := Lib.hid (fun W => varintr_any (f * 8 + 3) (by omega) W)
    have hb0 : Below w.heap.size w (w.alloc (.cells #[.int .i64 (f : Int), .int .i64 3, .int .u64 (u : Int), .slice a n c] 56)) := (Below.refl _ _).alloc (Nat.le_refl _) _
    have HS := Lib.hid (hs.alloc (.cells #[.int .i64 (f : Int), .int .i64 3, .int .u64 (u : Int), .slice a n c] 56))
    have HLN := Lib.hid hs.len
    clear hs
    go_enter Tryd.func42, Tryd.ntmps42
    go_wp2_with fail
    refine (HT.out _).mono ?_
    rintro e w' ⟨rfl, rfl⟩
    go_wp2_with fail
    refine (HV.out _).mono ?_
    rintro e w1 ⟨a1, N1, c1, rfl, hN1, hown1, hb1⟩
    have hz1 := hb1.size
    simp only [World.size_alloc] at hz1 hown1
    have q1 := (hb1.cell (p := ⟨w.heap.size, 1, none⟩) (by simp)).trans (by simp : _ = some (.int .i64 3))
    have q2 := (hb1.cell (p := ⟨w.heap.size, 2, none⟩) (by simp)).trans (by simp : _ = some (.int .u64 (u : Int)))
    have q3 := (hb1.cell (p := ⟨w.heap.size, 3, none⟩) (by simp)).trans (by simp : _ = some (.slice a n c))
    have hBw1 : Below w.heap.size w w1 := hb0.trans (hb1.mono (by simp))
    have hs1 : Sl w1 a n c l := HS.out.kept (by simpa using hb1)
    have HX1 := Lib.hid (HX.out w1 hs1)
    clear HV HT hb0 q2 HS HX
    go_wp2_with fail
    refine HX1.out.mono ?_
    rintro e w2 ⟨rfl, hb2⟩
    have hz2 := hb2.size
    have q32 := (hb2.cell (p := ⟨w.heap.size, 3, none⟩) (by dsimp only; omega)).trans q3
    have hlt : w.heap.size < w2.heap.size := by omega
    have hbD : Below w1.heap.size w1 (w2.alloc (.cells #[.int .i64 0, .int .i64 0, .int .i64 0, .slice none 0 0] 64)) := hb2.alloc hz2 _
    have HDP' := Lib.hid (fun (W : World) (h : Below w1.heap.size w1 W) => (HDP.out W (hs1.kept h)).mono (R' := fun e w' => e = .returned (.int .i64 (D : Int)) ∧ Below w1.heap.size w1 w') (fun e w' h2 => ⟨h2.1, h.trans (h2.2.mono h.size)⟩))
    clear hs1 HX1 HDP
    go_wp2_with fail
    refine (HDP'.out _ ?hB).mono ?_
    case hB => (repeat (first | exact hbD | exact hb2 | (refine Below.setCell ?_ (by first | omega | (simp; omega) | simp) _) | (refine Below.alloc ?_ (by first | omega | (simp; omega) | simp) _)))
    rintro e w3 ⟨rfl, hb3⟩
    have HB1 := Lib.hid (hBw1.trans (hb3.mono (by omega)))
    clear q32 q3 q1 hb2 hbD HDP' hb1 hown1 hBw1 hb3
    go_wp2_with fail
    go_ret2
    exact ⟨rfl, HB1.out⟩
end Go.Proofs.YtclnmajjkchfmaaDoor
