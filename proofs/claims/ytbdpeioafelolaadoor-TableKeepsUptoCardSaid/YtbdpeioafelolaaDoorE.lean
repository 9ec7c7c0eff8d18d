/-
  WHAT THE ROWS' LISTS GIVE: the error ErrTable lies in memory; the world that meets a list; what a card asks of a program.
-/
import Derived.Test.YtbdpeioafelolaaDoorK
import Derived.Test.YtbdpeioafelolaaDoorCards
import Derived.Test.YtbdpeioafelolaaDoorTie
import Derived.OpenShut
import Derived.LaidMore
import Derived.Stop.LaidErr
import Derived.Stop.Joined
import Derived.Deep.DeepHandedRow
import Derived.Deep.DeepWitnessRowRef
namespace Go.Proofs.YtbdpeioafelolaaDoor
open Go.ChangeShapes Go.WideShapes Go.ChangeAt Go.RowKit

theorem own : ownKnob Tryd.prog.godebug = none := by kernel_rfl
theorem rowErr (u : TypeId) (h : Tryd.prog.typeName? 3 u = some "*errors.errorString") : u = 71 :=
  typeName_ptr_named (nm := "errors.errorString") (by kernel_rfl) (by kernel_rfl) (by decide) u h
theorem cellsE : Tryd.prog.cellsOf 87 = 1 := by kernel_rfl
theorem cellsS : Tryd.prog.cellsOf 9 = 1 := by kernel_rfl
theorem gTable : Tryd.prog.globalNamed "parley/api.ErrTable" = some 0 := by kernel_rfl
theorem sent {n : String} {text : List UInt8} {r : List (String × DataW Unit)} {W : World} {g : Nat} (h : laidMet Tryd.prog ((n, .iface "*errors.errorString" (.ptr (.agg [.lit (.string text)]))) :: r) W)
    (hg : Tryd.prog.globalNamed n = some g) (ht : (Tryd.prog.globals[g]?).map (·.type) = some 27) : ∃ a : Addr, W.cell? ⟨g, 0, none⟩ = some (.iface 71 (.pointer (some a))) := by
  obtain ⟨a, s, hv, _⟩ := laid_sentinel h hg ht Tryd.underlying27 rowErr Tryd.underlying71 Tryd.underlying87 rfl rfl Tryd.underlying9 cellsE cellsS
  exact ⟨a, by simpa using World.var?_cell hg hv 0⟩


/-- The one listed error. -/
theorem err_of_row {W : World} (h : laidMetH Tryd.prog Rows.tableStaticRow.laid W) : ∃ a : Addr, W.cell? ⟨0, 0, none⟩ = some (.iface 71 (.pointer (some a))) := by
  rw [MakeChecks.laidMetH_plain _ _ _ (by kernel_rfl)] at h
  exact sent h gTable (by kernel_rfl)

/-- The door's own heap meets such a list. -/
theorem one_met (os : Os) (args : Array Value) : laidMetH Tryd.prog Rows.tableStaticRow.laid ((World.doorLaid Tryd.prog 28 os).forCall (fun _ _ => 0) ⟨#[], args, []⟩).memory :=
  laidMetH_of_parts3 (fuel := 8) (laidMet_of_run' 8 (by kernel_rfl) (by kernel_rfl)) (by kernel_rfl) (by kernel_rfl)
end Go.Proofs.YtbdpeioafelolaaDoor
