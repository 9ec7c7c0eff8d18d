/-
  WHAT THE ROWS' LISTS GIVE: the errors of package api lie in memory ('Env'); the world that meets a list; what a card asks of a program.
-/
import Derived.Test.YtclnmajjkchfmaaDoorK
import Derived.Test.YtclnmajjkchfmaaDoorCards
import Derived.Test.YtclnmajjkchfmaaDoorTie
import Derived.OpenShut
import Derived.LaidMore
import Derived.Stop.LaidErr
import Derived.Stop.Joined
import Derived.Deep.DeepHandedRow
import Derived.Deep.DeepWitnessRowRef
namespace Go.Proofs.YtclnmajjkchfmaaDoor
open Go.ChangeShapes Go.WideShapes Go.ChangeAt Go.RowKit

theorem own : ownKnob Tryd.prog.godebug = none := by kernel_rfl
theorem rowErr (u : TypeId) (h : Tryd.prog.typeName? 3 u = some "*errors.errorString") : u = 125 :=
  typeName_ptr_named (nm := "errors.errorString") (by kernel_rfl) (by kernel_rfl) (by decide) u h
theorem cellsE : Tryd.prog.cellsOf 143 = 1 := by kernel_rfl
theorem cellsS : Tryd.prog.cellsOf 9 = 1 := by kernel_rfl
theorem g101 : Tryd.prog.globalNamed "parley/api.ErrEnd" = some 1 := by kernel_rfl
theorem g102 : Tryd.prog.globalNamed "parley/api.ErrLong" = some 0 := by kernel_rfl
theorem g103 : Tryd.prog.globalNamed "parley/api.ErrTag" = some 3 := by kernel_rfl
theorem g104 : Tryd.prog.globalNamed "parley/api.ErrGroup" = some 4 := by kernel_rfl
theorem g105 : Tryd.prog.globalNamed "parley/api.ErrDeep" = some 7 := by kernel_rfl
theorem g120 : Tryd.prog.globalNamed "parley/api.ErrNumber" = some 2 := by kernel_rfl
theorem sent {n : String} {text : List UInt8} {r : List (String × DataW Unit)} {W : World} {g : Nat} (h : laidMet Tryd.prog ((n, .iface "*errors.errorString" (.ptr (.agg [.lit (.string text)]))) :: r) W)
    (hg : Tryd.prog.globalNamed n = some g) (ht : (Tryd.prog.globals[g]?).map (·.type) = some 30) : ∃ a : Addr, W.cell? ⟨g, 0, none⟩ = some (.iface 125 (.pointer (some a))) := by
  obtain ⟨a, s, hv, _⟩ := laid_sentinel h hg ht Tryd.underlying30 rowErr Tryd.underlying125 Tryd.underlying143 rfl rfl Tryd.underlying9 cellsE cellsS
  exact ⟨a, by simpa using World.var?_cell hg hv 0⟩

/-- Six listed errors, as most rows of this layer list them. -/
theorem env_of_six {W : World} (h : laidMetH Tryd.prog Rows.wireDeepRow.laid W) : ∃ ea, Env W ea := by
  rw [MakeChecks.laidMetH_plain _ _ _ (by kernel_rfl)] at h
  obtain ⟨a1, h1⟩ := sent h g101 (by kernel_rfl)
  obtain ⟨a2, h2⟩ := sent h.tail g102 (by kernel_rfl)
  obtain ⟨a3, h3⟩ := sent h.tail.tail g103 (by kernel_rfl)
  obtain ⟨a4, h4⟩ := sent h.tail.tail.tail g104 (by kernel_rfl)
  obtain ⟨a5, h5⟩ := sent h.tail.tail.tail.tail g105 (by kernel_rfl)
  obtain ⟨a6, h6⟩ := sent h.tail.tail.tail.tail.tail g120 (by kernel_rfl)
  exact ⟨fun c => if c = 101 then a1 else if c = 102 then a2 else if c = 103 then a3 else if c = 104 then a4 else if c = 105 then a5 else a6, h1, h2, h3, h4, h5, h6⟩

/-- The door's own heap meets such a list. -/
theorem six_met (os : Os) (args : Array Value) : laidMetH Tryd.prog Rows.wireDeepRow.laid ((World.doorLaid Tryd.prog 589 os).forCall (fun _ _ => 0) ⟨#[], args, []⟩).memory :=
  laidMetH_of_parts3 (fuel := 8) (laidMet_of_run' 8 (by kernel_rfl) (by kernel_rfl)) (by kernel_rfl) (by kernel_rfl)
end Go.Proofs.YtclnmajjkchfmaaDoor
