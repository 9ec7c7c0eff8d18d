/-
  THE LAW TablePlays: is.
-/
import Derived.Test.YtbdpeioafelolaaDoorY
namespace Go.Proofs.YtbdpeioafelolaaDoor
open Go.RowKit

theorem has_most {w : World} {A m : Nat} {M : List Hd} (h : Has w A m M) : Calls Tryd.prog 27 #[.pointer (some ⟨A, 0, none⟩)] w fun e w' => e = .returned (.int .i64 (m : Int)) ∧ w = w' := by
  obtain ⟨R, o, hr, ht, hM⟩ := h; exact most_any ht
theorem Has.total_le {w : World} {A m : Nat} {M : List Hd} (h : Has w A m M) : total M ≤ m := by obtain ⟨R, o, hr, ht, hM⟩ := h; exact hM
set_option maxRecDepth 100000 in
set_option maxHeartbeats 8000000 in
theorem is_any (A x m : Nat) (M : List Hd) (ask : Int) (w : World) (h : Has w A m M) (hd : Dt w x M.reverse m) (hm : m ≤ 4096) (ha : -9223372036854775808 ≤ ask ∧ ask ≤ 9223372036854775807) :
    Calls Tryd.prog 17 #[.pointer (some ⟨A, 0, none⟩), .pointer (some ⟨x, 0, none⟩), .int .i64 ask] w fun e w' => e = .returned (.bool true) ∧ Below w.heap.size w w' := by
  have hT := h.total_le
  have hge := total_ge M
  have HG := Lib.hid (has_get h ask ha)
  have HH := Lib.hid h
  have HD := Lib.hid hd
  clear h hd
  go_enter Tryd.func17, Tryd.ntmps17
  go_wp2_with fail
  refine HG.out.mono ?_
  rintro e w1 ⟨rfl, hb1⟩
  have hz1 := hb1.size
  have HG2 := Lib.hid (dget_any x m ask M _ (HD.out.below (hb1.alloc hz1 (.cells #[.string ((getM M ask).getD (⟨#[]⟩, ⟨#[]⟩)).1, .string ((getM M ask).getD (⟨#[]⟩, ⟨#[]⟩)).2, .bool false] 34))) (by omega) ha)
  unfold hdO at HG2
  clear HG
  generalize (getM M ask).isSome = y at HG2 ⊢
  generalize (getM M ask).getD (⟨#[]⟩, ⟨#[]⟩) = g at HG2 ⊢
  go_wp2_with fail
  refine HG2.out.mono ?_
  rintro e w2 ⟨rfl, hb2⟩
  have hz2 := hb2.size
  simp only [World.size_alloc] at hz2
  have hB2 : Below w.heap.size w w2 := (hb1.alloc hz1 _).trans (hb2.mono (by simp; omega))
  have g0 := (hb2.cell (p := ⟨w1.heap.size, 0, none⟩) (by simp)).trans (by simp : _ = some (.string g.1))
  have g1 := (hb2.cell (p := ⟨w1.heap.size, 1, none⟩) (by simp)).trans (by simp : _ = some (.string g.2))
  have g2 := (hb2.cell (p := ⟨w1.heap.size, 2, none⟩) (by simp)).trans (by simp : _ = some (.bool false))
  have hlt2 : w1.heap.size < w2.heap.size := by omega
  clear HG2 hb1 hb2
  have HSM := Lib.hid (fun W => same_any g g W)
  rw [show decide (g = g) = true by simp] at HSM
  go_wp2_with fail
  refine (HSM.out _).mono ?_
  rintro e w3 ⟨rfl, hb3⟩
  have hz3 := hb3.size
  simp only [World.size_alloc] at hz3
  have hB3 : Below w.heap.size w w3 := (hB2.alloc hB2.size _).trans (hb3.mono (by have := hB2.size; simp; omega))
  clear HSM hb3 g0 g1 g2 hB2
  have hd3 := HD.out.below hB3
  have hh3 := HH.out.below hB3
  have q1 := hd3.most
  obtain ⟨a, c, q0, _⟩ := hd3.row
  rw [List.length_reverse] at q0
  have hxl := hd3.lt
  have hcl : ∀ W, Below w3.heap.size w3 W → W.cell? ⟨x, 0, none⟩ = some (.slice a M.length c) ∧ W.cell? ⟨x, 1, none⟩ = some (.int .i64 (m : Int)) ∧ Below w3.heap.size w3 W := fun W hW => ⟨(hW.cell (p := ⟨x, 0, none⟩) hxl).trans q0, (hW.cell (p := ⟨x, 1, none⟩) hxl).trans q1, hW⟩
  have HLN : Hid (∀ W, Below w3.heap.size w3 W → Calls Tryd.prog 24 #[.pointer (some ⟨A, 0, none⟩)] W fun e w' => e = .returned (.int .i64 (M.length : Int)) ∧ W = w') := Lib.hid (fun W hW => has_len (hh3.below hW))
  have HSZ : Hid (∀ W, Below w3.heap.size w3 W → Calls Tryd.prog 28 #[.pointer (some ⟨A, 0, none⟩)] W fun e w' => e = .returned (.int .i64 (total M : Int)) ∧ W = w') := Lib.hid (fun W hW => has_siz (hh3.below hW))
  have HMO : Hid (∀ W, Below w3.heap.size w3 W → Calls Tryd.prog 27 #[.pointer (some ⟨A, 0, none⟩)] W fun e w' => e = .returned (.int .i64 (m : Int)) ∧ W = w') := Lib.hid (fun W hW => has_most (hh3.below hW))
  have HDS : Hid (∀ W, Below w3.heap.size w3 W → Calls Tryd.prog 35 #[.pointer (some ⟨x, 0, none⟩)] W fun e w' => e = .returned (.int .i64 (total M : Int)) ∧ w'.cell? ⟨x, 0, none⟩ = some (.slice a M.length c) ∧ w'.cell? ⟨x, 1, none⟩ = some (.int .i64 (m : Int)) ∧ Below w3.heap.size w3 w') := Lib.hid (fun W hW => by
    refine (dsize_any x m _ W (hd3.below hW) (by rw [total_rev]; omega)).mono ?_
    rintro e w' ⟨rfl, hb⟩
    rw [total_rev]
    exact ⟨rfl, hcl w' (hW.trans (hb.mono hW.size))⟩)
  have hyy : (y == y) = true := by simp
  have hll : ((M.length : Int) == (M.length : Int)) = true := by simp
  have htt : ((total M : Int) == (total M : Int)) = true := by simp
  have hmm : ((m : Int) == (m : Int)) = true := by simp
  clear hd3 hh3 hcl HH HD
  go_upto_region 4 with fail
  go_region_held3 (fun w' => w'.cell? ⟨x, 0, none⟩ = some (.slice a M.length c) ∧ w'.cell? ⟨x, 1, none⟩ = some (.int .i64 (m : Int)) ∧ Below w3.heap.size w3 w') (refine ⟨?_, ?_, ?_⟩ <;> first | assumption | (exact Below.drew (Below.refl _ _)) | (refine Below.drew ?_; assumption))
    (first | (go_at_call 35; refine (HDS.out _ (by first | assumption | exact Below.drew (Below.refl _ _) | exact Below.drew (by assumption))).mono ?_; rintro e w' ⟨rfl, hw0, hw1, hw2⟩) | (go_at_call 24; refine (HLN.out _ (by first | assumption | exact Below.drew (Below.refl _ _) | exact Below.drew (by assumption))).mono ?_; rintro e w' ⟨rfl, rfl⟩) | (go_at_call 28; refine (HSZ.out _ (by first | assumption | exact Below.drew (Below.refl _ _) | exact Below.drew (by assumption))).mono ?_; rintro e w' ⟨rfl, rfl⟩) | (go_at_call 27; refine (HMO.out _ (by first | assumption | exact Below.drew (Below.refl _ _) | exact Below.drew (by assumption))).mono ?_; rintro e w' ⟨rfl, rfl⟩))
  all_goals go_wp2
  all_goals go_ret
  all_goals exact ⟨rfl, hB3.trans ((by assumption : Below w3.heap.size w3 _).mono hB3.size)⟩
end Go.Proofs.YtbdpeioafelolaaDoor
