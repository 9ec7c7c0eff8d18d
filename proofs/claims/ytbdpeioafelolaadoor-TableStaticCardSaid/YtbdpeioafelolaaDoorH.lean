/-
  THE LAW TableStatic: its walk.
-/
import Derived.Test.YtbdpeioafelolaaDoorR
namespace Go.Proofs.YtbdpeioafelolaaDoor
open Go.RowKit

/-- Static, of table and of the document. -/
theorem static_pair (i : Int) (hi : -9223372036854775808 ≤ i ∧ i ≤ 9223372036854775807) : ∃ (g : Hd) (y : Bool),
    (∀ W, Calls Tryd.prog 20 #[.int .i64 i] W fun e w' => e = .returned (.tuple #[hdV g, .bool y]) ∧ Below W.heap.size W w') ∧
    (∀ W, Calls Tryd.prog 21 #[.int .i64 i] W fun e w' => e = .returned (.tuple #[hdV g, .bool y]) ∧ Below W.heap.size W w') := by
  by_cases h : 1 ≤ i ∧ i ≤ 61
  · obtain ⟨j, rfl⟩ : ∃ j : Nat, i = (j : Int) + 1 := ⟨(i - 1).toNat, by omega⟩
    refine ⟨stH j, true, fun W => static_yes j (by omega) W, fun W => ?_⟩
    have := staticr_yes (j + 1) (by omega) (by omega) W
    rw [show ((j + 1 : Nat) : Int) = (j : Int) + 1 by simp, Nat.add_sub_cancel] at this
    exact this
  · exact ⟨_, false, fun W => static_no i (by omega) W, fun W => staticr_no i (by omega) W⟩

set_option maxRecDepth 100000 in
set_option maxHeartbeats 4000000 in
theorem static_any (i : Int) (h : Hd) (c : Bool) (w : World) (hi : -9223372036854775808 ≤ i ∧ i ≤ 9223372036854775807) (h1 : h.1.size ≤ 140737488355328) (h2 : h.2.size ≤ 140737488355328) :
    Calls Tryd.prog 4 #[.int .i64 i, hdN h c] w fun e w' => e = .returned (.bool true) ∧ Below w.heap.size w w' := by
  obtain ⟨g, y, hs1, hs2⟩ := static_pair i hi
  have H1 := Lib.hid hs1
  have H2 := Lib.hid hs2
  have hb0 : Below w.heap.size w (w.alloc (.cells #[.string h.1, .string h.2, .bool c] 34)) := (Below.refl _ _).alloc (Nat.le_refl _) _
  have HFI := Lib.hid (first_any (w.alloc (.cells #[.string h.1, .string h.2, .bool c] 34)))
  have HSZ := Lib.hid (fun W => sizeOf_any h c W h1 h2)
  clear hs1 hs2
  go_enter Tryd.func4, Tryd.ntmps4
  go_wp2_with fail
  refine HFI.out.mono ?_
  rintro e w1 ⟨rfl, hb1⟩
  have q0 := (hb1.cell (p := ⟨w.heap.size, 0, none⟩) (by simp)).trans (by simp : _ = some (.string h.1))
  have q1 := (hb1.cell (p := ⟨w.heap.size, 1, none⟩) (by simp)).trans (by simp : _ = some (.string h.2))
  have q2 := (hb1.cell (p := ⟨w.heap.size, 2, none⟩) (by simp)).trans (by simp : _ = some (.bool c))
  have hB1 : Below w.heap.size w w1 := hb0.trans (hb1.mono (by simp))
  have hz1 := hb1.size
  simp only [World.size_alloc] at hz1
  clear HFI hb1
  go_wp2_with fail
  refine (H1.out _).mono ?_
  rintro e w2 ⟨rfl, hb2⟩
  have hz2 := hb2.size
  have hB2 : Below w.heap.size w w2 := hB1.trans (hb2.mono hB1.size)
  go_wp2_with fail
  refine (H2.out _).mono ?_
  rintro e w3 ⟨rfl, hb3⟩
  have hz3 := hb3.size
  simp only [World.size_alloc] at hz3
  have hB3 : Below w.heap.size w w3 := (hB2.alloc hB2.size _).trans (hb3.mono (by have := hB2.size; simp; omega))
  have hb13 : Below w1.heap.size w1 w3 := (hb2.alloc hz2 _).trans (hb3.mono (by simp; omega))
  have g0 := (hb3.cell (p := ⟨w2.heap.size, 0, none⟩) (by simp)).trans (by simp : _ = some (.string g.1))
  have g1 := (hb3.cell (p := ⟨w2.heap.size, 1, none⟩) (by simp)).trans (by simp : _ = some (.string g.2))
  have g2 := (hb3.cell (p := ⟨w2.heap.size, 2, none⟩) (by simp)).trans (by simp : _ = some (.bool false))
  have r0 := (hb13.cell (p := ⟨w.heap.size, 0, none⟩) (by simp only []; omega)).trans q0
  have r1 := (hb13.cell (p := ⟨w.heap.size, 1, none⟩) (by simp only []; omega)).trans q1
  have r2 := (hb13.cell (p := ⟨w.heap.size, 2, none⟩) (by simp only []; omega)).trans q2
  have hlt2 : w2.heap.size < w3.heap.size := by omega
  have hlt0 : w.heap.size < w3.heap.size := by omega
  have HSM := Lib.hid (fun W => same_any g g W)
  rw [show decide (g = g) = true by simp] at HSM
  clear q0 q1 q2 hb2 hb3 hb13 H1 H2 hB1 hB2
  go_wp2_with fail
  refine (HSM.out _).mono ?_
  rintro e w4 ⟨rfl, hb4⟩
  have hz4 := hb4.size
  simp only [World.size_alloc] at hz4
  have hB4 : Below w.heap.size w w4 := (hB3.alloc hB3.size _).trans (hb4.mono (by have := hB3.size; simp; omega))
  have hb34 : Below w3.heap.size w3 w4 := ((Below.refl _ w3).alloc (Nat.le_refl _) _).trans (hb4.mono (by simp))
  have s0 := (hb34.cell (p := ⟨w.heap.size, 0, none⟩) hlt0).trans r0
  have s1 := (hb34.cell (p := ⟨w.heap.size, 1, none⟩) hlt0).trans r1
  have s2 := (hb34.cell (p := ⟨w.heap.size, 2, none⟩) hlt0).trans r2
  have hne : ¬ w.heap.size = w4.heap.size := by omega
  have HEQ : Hid (sizeH h = h.1.size + h.2.size + 32) := Lib.hid rfl
  clear r0 r1 r2 g0 g1 g2 hb4 hb34 HSM hB3
  go_wp2_with fail
  go_region_held3 (fun w' => w'.cell? ⟨w.heap.size, 0, none⟩ = some (.string h.1) ∧ w'.cell? ⟨w.heap.size, 1, none⟩ = some (.string h.2) ∧ w'.cell? ⟨w.heap.size, 2, none⟩ = some (.bool c)) (go_keep)
    (first | (go_at_call 23; refine (HSZ.out _).mono ?_; rintro e w' ⟨rfl, rfl⟩))
  have hk : ((sizeH h : Int) == IntKind.i64.wrap (IntKind.i64.wrap ((h.1.size : Int) + (h.2.size : Int)) + 32)) = true := by
    rw [IntWalk.i64_in ((h.1.size : Int) + (h.2.size : Int)) (by omega), IntWalk.i64_in _ (by omega), HEQ.out, beq_iff_eq]
    simp
  all_goals go_wp2
  all_goals go_ret
  all_goals exact ⟨by simp [hk], (hB4.alloc hB4.size _).drew⟩
end Go.Proofs.YtbdpeioafelolaaDoor
