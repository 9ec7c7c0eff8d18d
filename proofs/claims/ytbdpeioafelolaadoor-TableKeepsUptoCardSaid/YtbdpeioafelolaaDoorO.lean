/-
  ARGUMENTS: a header by value.
-/
import Derived.Test.YtbdpeioafelolaaDoorV
import Derived.Lib.SmallJoins
namespace Go.Proofs.YtbdpeioafelolaaDoor
open Go.Joins Go.ChangeShapes Go.WideShapes Go.ChangeAt Go.RowKit Go.Deep

theorem cells34 : Tryd.prog.cellsOf 34 = 3 := by kernel_rfl
theorem open_header {H : Type} {enc : TypeId × Value → H} {W : World} {r : Reach} {b0 : Nat} {v : Value} {d : DataW H} {ps : List MemPlace} (hval : Value.okWide Tryd.prog W r b0 34 v)
    (hd : DataW.Trod enc Tryd.prog W 0 (fun _ => true) true 34 v d ps) : ∃ (h : Hd) (c : Bool), v = hdN h c ∧ d = .agg [.lit (.string h.1.data.toList), .lit (.string h.2.data.toList), .lit (.bool c)] ∧ ps = [] := by
  obtain ⟨v0, v1, v2, y0, y1, y2, n, rfl, rfl, rfl, h0, h1, h2⟩ := open_agg3 Tryd.underlying34 (by kernel_rfl) cells34 hval hd
  obtain ⟨a, e0, rfl, _⟩ := DataW.trod_string Tryd.underlying9 h0
  obtain ⟨b, e1, rfl, _⟩ := DataW.trod_string Tryd.underlying9 h1
  obtain ⟨c, e2, rfl⟩ := DataW.trod_bool Tryd.underlying4 h2
  cases e0
  cases e1
  cases e2
  exact ⟨(a, b), c, rfl, rfl, rfl⟩
end Go.Proofs.YtbdpeioafelolaaDoor
