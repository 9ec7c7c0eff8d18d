/-
  WHAT THE ROWS' LISTS GIVE: the seven errors that package hpack names.
-/
import Derived.Test.YtlkieeindnpidaaDoorTb
import Derived.Test.YtlkieeindnpidaaDoorU
namespace Go.Proofs.YtlkieeindnpidaaDoor
open Go.ChangeShapes Go.WideShapes Go.ChangeAt Go.RowKit Hu Hu.Hf

set_option maxRecDepth 100000 in
theorem env_of_seven {W : World} (h : laidMetH Tryd.prog Rows.hpackBoundRow.laid W) : ∃ es, Env W (errT es) := by
  rw [MakeChecks.laidMetH_plain _ _ _ (by kernel_rfl)] at h
  obtain ⟨a0, o0⟩ := one_of_laid h (g := 3) (by kernel_rfl) (by kernel_rfl)
  have t0 := laidMet.tail h
  obtain ⟨a1, o1⟩ := one_of_laid t0 (g := 2) (by kernel_rfl) (by kernel_rfl)
  have t1 := laidMet.tail t0
  obtain ⟨a2, o2⟩ := one_of_laid t1 (g := 4) (by kernel_rfl) (by kernel_rfl)
  have t2 := laidMet.tail t1
  obtain ⟨a3, o3⟩ := one_of_laid t2 (g := 6) (by kernel_rfl) (by kernel_rfl)
  have t3 := laidMet.tail t2
  obtain ⟨a4, o4⟩ := one_of_laid t3 (g := 0) (by kernel_rfl) (by kernel_rfl)
  have t4 := laidMet.tail t3
  obtain ⟨a5, o5⟩ := one_of_laid t4 (g := 5) (by kernel_rfl) (by kernel_rfl)
  have t5 := laidMet.tail t4
  obtain ⟨a6, o6⟩ := one_of_laid t5 (g := 1) (by kernel_rfl) (by kernel_rfl)
  exact ⟨fun i => if i = 0 then a0 else if i = 1 then a1 else if i = 6 then a2 else if i = 7 then a3 else if i = 8 then a4 else if i = 9 then a5 else a6, o0.cell, o1.cell, o2.cell, o3.cell, o4.cell, o5.cell, o6.cell⟩
/-- The door's own heap meets the list of seven. -/
theorem seven_met (os : Os) (args : Array Value) : laidMetH Tryd.prog Rows.hpackBoundRow.laid ((World.doorLaid Tryd.prog 579 os).forCall (fun _ _ => 0) ⟨#[], args, []⟩).memory :=
  laidMetH_of_parts3 (fuel := 8) (laidMet_of_run' 8 (by kernel_rfl) (by kernel_rfl)) (by kernel_rfl) (by kernel_rfl)
end Go.Proofs.YtlkieeindnpidaaDoor
