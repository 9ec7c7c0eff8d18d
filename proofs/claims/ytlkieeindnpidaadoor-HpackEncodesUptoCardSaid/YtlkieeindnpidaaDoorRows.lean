/-
  NARROWER THAN 'FOR EVERY INPUT', by the rows' own cells (each row's printed sentence says how): HpackInts: laid · HpackTexts: laid · HpackEncodes: laid · HpackDecodes: laid · HpackBack: laid · HpackNever: laid · HpackBound: laid · HpackOwn: laid.
  DERIVED. THE GIVEN ROWS OF THIS SEAT. 8 by the template 'for every input the law returns true; each argument reads behind the call as it read before'; 0 by the template 'total and deterministic' (their statements: YtlkieeindnpidaaDoorTotals.lean).
  GIVEN WITH THE SEED: the statements are not yours to turn. If you find one false, say at which input.
  Laid BY PROGRAM, IN A SANDBOX (cutbox-rows.mjs): the forced cells as the released guide's own fill.sh prints them over the translation 025459cb9595c296… (all of the seat's roots in one cut). By AI agents, Wed Nov 11 2026. No macro, syntax, notation, axiom, sorry.
-/
import Derived.Test.YtlkieeindnpidaaDoorChecked
import GoSem.Claim
import GoSem.ClaimJoined
import GoSem.ClaimMapViews
import Derived.JoinedTies
import Derived.KernelRfl
namespace Go.Proofs.YtlkieeindnpidaaDoor
/- THE CELL 'sum', in the pinned program and in every row, IS THE sha256 OF THE DUMP (.gsa) THAT YtlkieeindnpidaaDoorProg.lean LOADS. Nothing in Lean hashes anything: it is a label: what it is worth is what the hold of that sum in a sandbox is worth. -/
noncomputable def Tryd.pinned : Pinned := { name := "ytlkieeindnpidaadoor", sum := "025459cb9595c2969e2bdbf7ba1768fbf3e5912033961afeafa0c2b74235d776", checked := Tryd.checked }
namespace Rows
def none {H : Type} : Left H := { results := [], args := [] }

/- WHAT THE LISTED PACKAGE-LEVEL VARIABLES READ AS WHEN THE CALL BEGINS. Each datum BY PROGRAM (the guide's laid-datum.mjs) off the statement by which the dump's own 'gosem.cut.vars' lays the variable. In a bare row this is a premise. The card (YtlkieeindnpidaaDoorCards.lean) ties it to the program's text. -/
def laid_parley_api_ErrEnd {H : Type} : DataW H := .iface "*errors.errorString" (.ptr (.agg [.lit (.string [105, 116, 32, 101, 110, 100, 115, 32, 116, 111, 111, 32, 101, 97, 114, 108, 121])]))
def laid_parley_api_ErrLong {H : Type} : DataW H := .iface "*errors.errorString" (.ptr (.agg [.lit (.string [116, 111, 111, 32, 108, 111, 110, 103])]))
def laid_parley_api_ErrTag {H : Type} : DataW H := .iface "*errors.errorString" (.ptr (.agg [.lit (.string [110, 111, 32, 116, 97, 103])]))
def laid_parley_api_ErrGroup {H : Type} : DataW H := .iface "*errors.errorString" (.ptr (.agg [.lit (.string [110, 111, 32, 115, 117, 99, 104, 32, 103, 114, 111, 117, 112])]))
def laid_parley_api_ErrDeep {H : Type} : DataW H := .iface "*errors.errorString" (.ptr (.agg [.lit (.string [116, 111, 111, 32, 100, 101, 101, 112])]))
def laid_parley_api_ErrUTF8 {H : Type} : DataW H := .iface "*errors.errorString" (.ptr (.agg [.lit (.string [110, 111, 32, 116, 101, 120, 116])]))
def laid_parley_api_ErrHuff {H : Type} : DataW H := .iface "*errors.errorString" (.ptr (.agg [.lit (.string [110, 111, 32, 72, 117, 102, 102, 109, 97, 110, 32, 99, 111, 100, 101])]))
def laid_parley_api_ErrIndex {H : Type} : DataW H := .iface "*errors.errorString" (.ptr (.agg [.lit (.string [116, 104, 101, 114, 101, 32, 105, 115, 32, 110, 111, 110, 101])]))
def laid_parley_api_ErrTable {H : Type} : DataW H := .iface "*errors.errorString" (.ptr (.agg [.lit (.string [116, 104, 101, 32, 116, 97, 98, 108, 101, 32, 109, 97, 121, 32, 110, 111, 116, 32, 98, 101, 32, 115, 111, 32, 108, 97, 114, 103, 101])]))
def laid_parley_api_ErrList {H : Type} : DataW H := .iface "*errors.errorString" (.ptr (.agg [.lit (.string [116, 104, 101, 32, 108, 105, 115, 116, 32, 105, 115, 32, 116, 111, 111, 32, 108, 97, 114, 103, 101])]))
def laid_parley_api_ErrFrame {H : Type} : DataW H := .iface "*errors.errorString" (.ptr (.agg [.lit (.string [110, 111, 32, 102, 114, 97, 109, 101])]))
def laid_parley_api_ErrHead {H : Type} : DataW H := .iface "*errors.errorString" (.ptr (.agg [.lit (.string [110, 111, 32, 104, 101, 97, 100, 101, 114, 32, 108, 105, 115, 116, 32, 111, 102, 32, 116, 104, 97, 116, 32, 107, 105, 110, 100])]))
def laid_parley_api_ErrWindow {H : Type} : DataW H := .iface "*errors.errorString" (.ptr (.agg [.lit (.string [116, 104, 101, 32, 119, 105, 110, 100, 111, 119, 32, 105, 115, 32, 112, 97, 115, 115, 101, 100])]))
def laid_parley_api_ErrRole {H : Type} : DataW H := .iface "*errors.errorString" (.ptr (.agg [.lit (.string [116, 104, 101, 32, 111, 116, 104, 101, 114, 32, 115, 105, 100, 101, 32, 100, 111, 101, 115, 32, 116, 104, 97, 116])]))
def laid_parley_api_ErrGone {H : Type} : DataW H := .iface "*errors.errorString" (.ptr (.agg [.lit (.string [116, 104, 101, 32, 99, 111, 110, 110, 101, 99, 116, 105, 111, 110, 32, 116, 97, 107, 101, 115, 32, 110, 111, 32, 109, 111, 114, 101])]))
def laid_parley_api_ErrMany {H : Type} : DataW H := .iface "*errors.errorString" (.ptr (.agg [.lit (.string [116, 111, 111, 32, 109, 97, 110, 121])]))
def laid_parley_api_ErrStream {H : Type} : DataW H := .iface "*errors.errorString" (.ptr (.agg [.lit (.string [116, 104, 101, 32, 115, 116, 114, 101, 97, 109, 32, 105, 115, 32, 110, 111, 116, 32, 116, 104, 101, 114, 101, 32, 102, 111, 114, 32, 116, 104, 97, 116])]))
def laid_parley_api_ErrToken {H : Type} : DataW H := .iface "*errors.errorString" (.ptr (.agg [.lit (.string [110, 111, 32, 116, 111, 107, 101, 110])]))
def laid_parley_api_ErrSyntax {H : Type} : DataW H := .iface "*errors.errorString" (.ptr (.agg [.lit (.string [105, 116, 32, 100, 111, 101, 115, 32, 110, 111, 116, 32, 99, 111, 109, 101, 32, 104, 101, 114, 101])]))
def laid_parley_api_ErrNumber {H : Type} : DataW H := .iface "*errors.errorString" (.ptr (.agg [.lit (.string [110, 111, 32, 115, 117, 99, 104, 32, 110, 117, 109, 98, 101, 114])]))
def laid_parley_api_ErrName {H : Type} : DataW H := .iface "*errors.errorString" (.ptr (.agg [.lit (.string [110, 111, 32, 115, 117, 99, 104, 32, 110, 97, 109, 101])]))
def laid_parley_api_ErrTwice {H : Type} : DataW H := .iface "*errors.errorString" (.ptr (.agg [.lit (.string [105, 116, 32, 105, 115, 32, 116, 104, 101, 114, 101, 32, 97, 108, 114, 101, 97, 100, 121])]))
def laid_parley_api_ErrType {H : Type} : DataW H := .iface "*errors.errorString" (.ptr (.agg [.lit (.string [110, 111, 32, 115, 117, 99, 104, 32, 116, 121, 112, 101])]))
def laid_parley_api_ErrCircle {H : Type} : DataW H := .iface "*errors.errorString" (.ptr (.agg [.lit (.string [105, 116, 32, 108, 101, 97, 100, 115, 32, 98, 97, 99, 107, 32, 116, 111, 32, 105, 116, 115, 101, 108, 102])]))
def laid_parley_api_ErrFile {H : Type} : DataW H := .iface "*errors.errorString" (.ptr (.agg [.lit (.string [110, 111, 32, 115, 117, 99, 104, 32, 102, 105, 108, 101])]))
def laid_parley_api_ErrValue {H : Type} : DataW H := .iface "*errors.errorString" (.ptr (.agg [.lit (.string [110, 111, 32, 118, 97, 108, 117, 101, 32, 111, 102, 32, 116, 104, 97, 116, 32, 116, 121, 112, 101])]))
def laid_parley_api_ErrField {H : Type} : DataW H := .iface "*errors.errorString" (.ptr (.agg [.lit (.string [110, 111, 32, 115, 117, 99, 104, 32, 102, 105, 101, 108, 100])]))
def laid_parley_api_ErrJSON {H : Type} : DataW H := .iface "*errors.errorString" (.ptr (.agg [.lit (.string [110, 111, 32, 74, 83, 79, 78])]))
def laid_parley_api_ErrStatus {H : Type} : DataW H := .iface "*errors.errorString" (.ptr (.agg [.lit (.string [110, 111, 32, 115, 116, 97, 116, 117, 115])]))
def laid_parley_api_ErrScript {H : Type} : DataW H := .iface "*errors.errorString" (.ptr (.agg [.lit (.string [110, 111, 32, 115, 116, 101, 112])]))

/-- 'parleylaw4.HpackInts': WHATEVER THE INPUT: true; the input reads as it did. -/
def hpackIntsSpec : ChangeSpec := { name := "hpackInts", fn := fun _ => fun
  | [d1, d2, d3, d4] => { results := [.lit (.bool true)], args := [d1, d2, d3, d4] }
  | _ => none }
def hpackIntsRow : OpenClaim := { program := "ytlkieeindnpidaadoor", sum := "025459cb9595c2969e2bdbf7ba1768fbf3e5912033961afeafa0c2b74235d776", func := "parley/parleylaw4.HpackInts", spec := "hpackInts", unfollowed := true, recurses := true, named := ["parley/api.ErrTable", "parley/api.ErrLong", "parley/api.ErrEnd", "parley/api.ErrGone", "parley/api.ErrIndex", "parley/api.ErrList", "parley/api.ErrHuff", "parley/api.ErrTag", "parley/api.ErrGroup", "parley/api.ErrDeep", "parley/api.ErrUTF8", "parley/api.ErrFrame", "parley/api.ErrHead", "parley/api.ErrWindow", "parley/api.ErrRole", "parley/api.ErrMany", "parley/api.ErrStream", "parley/api.ErrToken", "parley/api.ErrSyntax", "parley/api.ErrNumber", "parley/api.ErrName", "parley/api.ErrTwice", "parley/api.ErrType", "parley/api.ErrCircle", "parley/api.ErrFile", "parley/api.ErrValue", "parley/api.ErrField", "parley/api.ErrJSON", "parley/api.ErrStatus", "parley/api.ErrScript"], apart := false, laid := [("parley/api.ErrEnd", laid_parley_api_ErrEnd), ("parley/api.ErrLong", laid_parley_api_ErrLong), ("parley/api.ErrTag", laid_parley_api_ErrTag), ("parley/api.ErrGroup", laid_parley_api_ErrGroup), ("parley/api.ErrDeep", laid_parley_api_ErrDeep), ("parley/api.ErrUTF8", laid_parley_api_ErrUTF8), ("parley/api.ErrHuff", laid_parley_api_ErrHuff), ("parley/api.ErrIndex", laid_parley_api_ErrIndex), ("parley/api.ErrTable", laid_parley_api_ErrTable), ("parley/api.ErrList", laid_parley_api_ErrList), ("parley/api.ErrFrame", laid_parley_api_ErrFrame), ("parley/api.ErrHead", laid_parley_api_ErrHead), ("parley/api.ErrWindow", laid_parley_api_ErrWindow), ("parley/api.ErrRole", laid_parley_api_ErrRole), ("parley/api.ErrGone", laid_parley_api_ErrGone), ("parley/api.ErrMany", laid_parley_api_ErrMany), ("parley/api.ErrStream", laid_parley_api_ErrStream), ("parley/api.ErrToken", laid_parley_api_ErrToken), ("parley/api.ErrSyntax", laid_parley_api_ErrSyntax), ("parley/api.ErrNumber", laid_parley_api_ErrNumber), ("parley/api.ErrName", laid_parley_api_ErrName), ("parley/api.ErrTwice", laid_parley_api_ErrTwice), ("parley/api.ErrType", laid_parley_api_ErrType), ("parley/api.ErrCircle", laid_parley_api_ErrCircle), ("parley/api.ErrFile", laid_parley_api_ErrFile), ("parley/api.ErrValue", laid_parley_api_ErrValue), ("parley/api.ErrField", laid_parley_api_ErrField), ("parley/api.ErrJSON", laid_parley_api_ErrJSON), ("parley/api.ErrStatus", laid_parley_api_ErrStatus), ("parley/api.ErrScript", laid_parley_api_ErrScript)] }
def HpackIntsSaid : Prop := hpackIntsRow.holds Tryd.pinned (OpenSpec.ofChange hpackIntsSpec)

/-- ITS FALSE NEIGHBOUR: 'it returns false'. Refute it at one input. -/
def hpackIntsWrong : ChangeSpec := { name := "hpackInts", fn := fun _ => fun
  | [d1, d2, d3, d4] => { results := [.lit (.bool false)], args := [d1, d2, d3, d4] }
  | _ => none }
def HpackIntsWrongFalsely : Prop := hpackIntsRow.holds Tryd.pinned (OpenSpec.ofChange hpackIntsWrong)

/-- 'parleylaw4.HpackTexts': WHATEVER THE INPUT: true; the input reads as it did. -/
def hpackTextsSpec : ChangeSpec := { name := "hpackTexts", fn := fun _ => fun
  | [d1, d2] => { results := [.lit (.bool true)], args := [d1, d2] }
  | _ => none }
def hpackTextsRow : OpenClaim := { program := "ytlkieeindnpidaadoor", sum := "025459cb9595c2969e2bdbf7ba1768fbf3e5912033961afeafa0c2b74235d776", func := "parley/parleylaw4.HpackTexts", spec := "hpackTexts", unfollowed := true, recurses := true, named := ["parley/api.ErrTable", "parley/api.ErrLong", "parley/api.ErrEnd", "parley/api.ErrGone", "parley/api.ErrIndex", "parley/api.ErrList", "parley/api.ErrHuff", "parley/api.ErrTag", "parley/api.ErrGroup", "parley/api.ErrDeep", "parley/api.ErrUTF8", "parley/api.ErrFrame", "parley/api.ErrHead", "parley/api.ErrWindow", "parley/api.ErrRole", "parley/api.ErrMany", "parley/api.ErrStream", "parley/api.ErrToken", "parley/api.ErrSyntax", "parley/api.ErrNumber", "parley/api.ErrName", "parley/api.ErrTwice", "parley/api.ErrType", "parley/api.ErrCircle", "parley/api.ErrFile", "parley/api.ErrValue", "parley/api.ErrField", "parley/api.ErrJSON", "parley/api.ErrStatus", "parley/api.ErrScript"], apart := false, laid := [("parley/api.ErrEnd", laid_parley_api_ErrEnd), ("parley/api.ErrLong", laid_parley_api_ErrLong), ("parley/api.ErrTag", laid_parley_api_ErrTag), ("parley/api.ErrGroup", laid_parley_api_ErrGroup), ("parley/api.ErrDeep", laid_parley_api_ErrDeep), ("parley/api.ErrUTF8", laid_parley_api_ErrUTF8), ("parley/api.ErrHuff", laid_parley_api_ErrHuff), ("parley/api.ErrIndex", laid_parley_api_ErrIndex), ("parley/api.ErrTable", laid_parley_api_ErrTable), ("parley/api.ErrList", laid_parley_api_ErrList), ("parley/api.ErrFrame", laid_parley_api_ErrFrame), ("parley/api.ErrHead", laid_parley_api_ErrHead), ("parley/api.ErrWindow", laid_parley_api_ErrWindow), ("parley/api.ErrRole", laid_parley_api_ErrRole), ("parley/api.ErrGone", laid_parley_api_ErrGone), ("parley/api.ErrMany", laid_parley_api_ErrMany), ("parley/api.ErrStream", laid_parley_api_ErrStream), ("parley/api.ErrToken", laid_parley_api_ErrToken), ("parley/api.ErrSyntax", laid_parley_api_ErrSyntax), ("parley/api.ErrNumber", laid_parley_api_ErrNumber), ("parley/api.ErrName", laid_parley_api_ErrName), ("parley/api.ErrTwice", laid_parley_api_ErrTwice), ("parley/api.ErrType", laid_parley_api_ErrType), ("parley/api.ErrCircle", laid_parley_api_ErrCircle), ("parley/api.ErrFile", laid_parley_api_ErrFile), ("parley/api.ErrValue", laid_parley_api_ErrValue), ("parley/api.ErrField", laid_parley_api_ErrField), ("parley/api.ErrJSON", laid_parley_api_ErrJSON), ("parley/api.ErrStatus", laid_parley_api_ErrStatus), ("parley/api.ErrScript", laid_parley_api_ErrScript)] }
def HpackTextsSaid : Prop := hpackTextsRow.holds Tryd.pinned (OpenSpec.ofChange hpackTextsSpec)

/-- ITS FALSE NEIGHBOUR: 'it returns false'. Refute it at one input. -/
def hpackTextsWrong : ChangeSpec := { name := "hpackTexts", fn := fun _ => fun
  | [d1, d2] => { results := [.lit (.bool false)], args := [d1, d2] }
  | _ => none }
def HpackTextsWrongFalsely : Prop := hpackTextsRow.holds Tryd.pinned (OpenSpec.ofChange hpackTextsWrong)

/-- 'parleylaw4.HpackEncodes': WHATEVER THE INPUT: true; the input reads as it did. -/
def hpackEncodesSpec : ChangeSpec := { name := "hpackEncodes", fn := fun _ => fun
  | [d1, d2] => { results := [.lit (.bool true)], args := [d1, d2] }
  | _ => none }
def hpackEncodesRow : OpenClaim := { program := "ytlkieeindnpidaadoor", sum := "025459cb9595c2969e2bdbf7ba1768fbf3e5912033961afeafa0c2b74235d776", func := "parley/parleylaw4.HpackEncodes", spec := "hpackEncodes", unfollowed := true, recurses := true, named := ["parley/api.ErrTable", "parley/api.ErrLong", "parley/api.ErrEnd", "parley/api.ErrGone", "parley/api.ErrIndex", "parley/api.ErrList", "parley/api.ErrHuff"], apart := false, laid := [("parley/api.ErrEnd", laid_parley_api_ErrEnd), ("parley/api.ErrLong", laid_parley_api_ErrLong), ("parley/api.ErrHuff", laid_parley_api_ErrHuff), ("parley/api.ErrIndex", laid_parley_api_ErrIndex), ("parley/api.ErrTable", laid_parley_api_ErrTable), ("parley/api.ErrList", laid_parley_api_ErrList), ("parley/api.ErrGone", laid_parley_api_ErrGone)] }
def HpackEncodesSaid : Prop := hpackEncodesRow.holds Tryd.pinned (OpenSpec.ofChange hpackEncodesSpec)

/-- ITS FALSE NEIGHBOUR: 'it returns false'. Refute it at one input. -/
def hpackEncodesWrong : ChangeSpec := { name := "hpackEncodes", fn := fun _ => fun
  | [d1, d2] => { results := [.lit (.bool false)], args := [d1, d2] }
  | _ => none }
def HpackEncodesWrongFalsely : Prop := hpackEncodesRow.holds Tryd.pinned (OpenSpec.ofChange hpackEncodesWrong)

/-- 'parleylaw4.HpackDecodes': WHATEVER THE INPUT: true; the input reads as it did. -/
def hpackDecodesSpec : ChangeSpec := { name := "hpackDecodes", fn := fun _ => fun
  | [d1, d2] => { results := [.lit (.bool true)], args := [d1, d2] }
  | _ => none }
def hpackDecodesRow : OpenClaim := { program := "ytlkieeindnpidaadoor", sum := "025459cb9595c2969e2bdbf7ba1768fbf3e5912033961afeafa0c2b74235d776", func := "parley/parleylaw4.HpackDecodes", spec := "hpackDecodes", unfollowed := true, recurses := true, named := ["parley/api.ErrTable", "parley/api.ErrLong", "parley/api.ErrEnd", "parley/api.ErrGone", "parley/api.ErrIndex", "parley/api.ErrList", "parley/api.ErrHuff", "parley/api.ErrTag", "parley/api.ErrGroup", "parley/api.ErrDeep", "parley/api.ErrUTF8", "parley/api.ErrFrame", "parley/api.ErrHead", "parley/api.ErrWindow", "parley/api.ErrRole", "parley/api.ErrMany", "parley/api.ErrStream", "parley/api.ErrToken", "parley/api.ErrSyntax", "parley/api.ErrNumber", "parley/api.ErrName", "parley/api.ErrTwice", "parley/api.ErrType", "parley/api.ErrCircle", "parley/api.ErrFile", "parley/api.ErrValue", "parley/api.ErrField", "parley/api.ErrJSON", "parley/api.ErrStatus", "parley/api.ErrScript"], apart := false, laid := [("parley/api.ErrEnd", laid_parley_api_ErrEnd), ("parley/api.ErrLong", laid_parley_api_ErrLong), ("parley/api.ErrTag", laid_parley_api_ErrTag), ("parley/api.ErrGroup", laid_parley_api_ErrGroup), ("parley/api.ErrDeep", laid_parley_api_ErrDeep), ("parley/api.ErrUTF8", laid_parley_api_ErrUTF8), ("parley/api.ErrHuff", laid_parley_api_ErrHuff), ("parley/api.ErrIndex", laid_parley_api_ErrIndex), ("parley/api.ErrTable", laid_parley_api_ErrTable), ("parley/api.ErrList", laid_parley_api_ErrList), ("parley/api.ErrFrame", laid_parley_api_ErrFrame), ("parley/api.ErrHead", laid_parley_api_ErrHead), ("parley/api.ErrWindow", laid_parley_api_ErrWindow), ("parley/api.ErrRole", laid_parley_api_ErrRole), ("parley/api.ErrGone", laid_parley_api_ErrGone), ("parley/api.ErrMany", laid_parley_api_ErrMany), ("parley/api.ErrStream", laid_parley_api_ErrStream), ("parley/api.ErrToken", laid_parley_api_ErrToken), ("parley/api.ErrSyntax", laid_parley_api_ErrSyntax), ("parley/api.ErrNumber", laid_parley_api_ErrNumber), ("parley/api.ErrName", laid_parley_api_ErrName), ("parley/api.ErrTwice", laid_parley_api_ErrTwice), ("parley/api.ErrType", laid_parley_api_ErrType), ("parley/api.ErrCircle", laid_parley_api_ErrCircle), ("parley/api.ErrFile", laid_parley_api_ErrFile), ("parley/api.ErrValue", laid_parley_api_ErrValue), ("parley/api.ErrField", laid_parley_api_ErrField), ("parley/api.ErrJSON", laid_parley_api_ErrJSON), ("parley/api.ErrStatus", laid_parley_api_ErrStatus), ("parley/api.ErrScript", laid_parley_api_ErrScript)] }
def HpackDecodesSaid : Prop := hpackDecodesRow.holds Tryd.pinned (OpenSpec.ofChange hpackDecodesSpec)

/-- ITS FALSE NEIGHBOUR: 'it returns false'. Refute it at one input. -/
def hpackDecodesWrong : ChangeSpec := { name := "hpackDecodes", fn := fun _ => fun
  | [d1, d2] => { results := [.lit (.bool false)], args := [d1, d2] }
  | _ => none }
def HpackDecodesWrongFalsely : Prop := hpackDecodesRow.holds Tryd.pinned (OpenSpec.ofChange hpackDecodesWrong)

/-- 'parleylaw4.HpackBack': WHATEVER THE INPUT: true; the input reads as it did. -/
def hpackBackSpec : ChangeSpec := { name := "hpackBack", fn := fun _ => fun
  | [d1, d2] => { results := [.lit (.bool true)], args := [d1, d2] }
  | _ => none }
def hpackBackRow : OpenClaim := { program := "ytlkieeindnpidaadoor", sum := "025459cb9595c2969e2bdbf7ba1768fbf3e5912033961afeafa0c2b74235d776", func := "parley/parleylaw4.HpackBack", spec := "hpackBack", unfollowed := true, recurses := true, named := ["parley/api.ErrTable", "parley/api.ErrLong", "parley/api.ErrEnd", "parley/api.ErrGone", "parley/api.ErrIndex", "parley/api.ErrList", "parley/api.ErrHuff"], apart := false, laid := [("parley/api.ErrEnd", laid_parley_api_ErrEnd), ("parley/api.ErrLong", laid_parley_api_ErrLong), ("parley/api.ErrHuff", laid_parley_api_ErrHuff), ("parley/api.ErrIndex", laid_parley_api_ErrIndex), ("parley/api.ErrTable", laid_parley_api_ErrTable), ("parley/api.ErrList", laid_parley_api_ErrList), ("parley/api.ErrGone", laid_parley_api_ErrGone)] }
def HpackBackSaid : Prop := hpackBackRow.holds Tryd.pinned (OpenSpec.ofChange hpackBackSpec)

/-- ITS FALSE NEIGHBOUR: 'it returns false'. Refute it at one input. -/
def hpackBackWrong : ChangeSpec := { name := "hpackBack", fn := fun _ => fun
  | [d1, d2] => { results := [.lit (.bool false)], args := [d1, d2] }
  | _ => none }
def HpackBackWrongFalsely : Prop := hpackBackRow.holds Tryd.pinned (OpenSpec.ofChange hpackBackWrong)

/-- 'parleylaw4.HpackNever': WHATEVER THE INPUT: true; the input reads as it did. -/
def hpackNeverSpec : ChangeSpec := { name := "hpackNever", fn := fun _ => fun
  | [d] => { results := [.lit (.bool true)], args := [d] }
  | _ => none }
def hpackNeverRow : OpenClaim := { program := "ytlkieeindnpidaadoor", sum := "025459cb9595c2969e2bdbf7ba1768fbf3e5912033961afeafa0c2b74235d776", func := "parley/parleylaw4.HpackNever", spec := "hpackNever", unfollowed := true, recurses := true, named := ["parley/api.ErrTable", "parley/api.ErrLong", "parley/api.ErrEnd", "parley/api.ErrGone", "parley/api.ErrIndex", "parley/api.ErrList", "parley/api.ErrHuff"], apart := false, laid := [("parley/api.ErrEnd", laid_parley_api_ErrEnd), ("parley/api.ErrLong", laid_parley_api_ErrLong), ("parley/api.ErrHuff", laid_parley_api_ErrHuff), ("parley/api.ErrIndex", laid_parley_api_ErrIndex), ("parley/api.ErrTable", laid_parley_api_ErrTable), ("parley/api.ErrList", laid_parley_api_ErrList), ("parley/api.ErrGone", laid_parley_api_ErrGone)] }
def HpackNeverSaid : Prop := hpackNeverRow.holds Tryd.pinned (OpenSpec.ofChange hpackNeverSpec)

/-- ITS FALSE NEIGHBOUR: 'it returns false'. Refute it at one input. -/
def hpackNeverWrong : ChangeSpec := { name := "hpackNever", fn := fun _ => fun
  | [d] => { results := [.lit (.bool false)], args := [d] }
  | _ => none }
def HpackNeverWrongFalsely : Prop := hpackNeverRow.holds Tryd.pinned (OpenSpec.ofChange hpackNeverWrong)

/-- 'parleylaw4.HpackBound': WHATEVER THE INPUT: true; the input reads as it did. -/
def hpackBoundSpec : ChangeSpec := { name := "hpackBound", fn := fun _ => fun
  | [d1, d2] => { results := [.lit (.bool true)], args := [d1, d2] }
  | _ => none }
def hpackBoundRow : OpenClaim := { program := "ytlkieeindnpidaadoor", sum := "025459cb9595c2969e2bdbf7ba1768fbf3e5912033961afeafa0c2b74235d776", func := "parley/parleylaw4.HpackBound", spec := "hpackBound", unfollowed := true, recurses := true, named := ["parley/api.ErrGone", "parley/api.ErrTable", "parley/api.ErrLong", "parley/api.ErrEnd", "parley/api.ErrIndex", "parley/api.ErrList", "parley/api.ErrHuff"], apart := false, laid := [("parley/api.ErrEnd", laid_parley_api_ErrEnd), ("parley/api.ErrLong", laid_parley_api_ErrLong), ("parley/api.ErrHuff", laid_parley_api_ErrHuff), ("parley/api.ErrIndex", laid_parley_api_ErrIndex), ("parley/api.ErrTable", laid_parley_api_ErrTable), ("parley/api.ErrList", laid_parley_api_ErrList), ("parley/api.ErrGone", laid_parley_api_ErrGone)] }
def HpackBoundSaid : Prop := hpackBoundRow.holds Tryd.pinned (OpenSpec.ofChange hpackBoundSpec)

/-- ITS FALSE NEIGHBOUR: 'it returns false'. Refute it at one input. -/
def hpackBoundWrong : ChangeSpec := { name := "hpackBound", fn := fun _ => fun
  | [d1, d2] => { results := [.lit (.bool false)], args := [d1, d2] }
  | _ => none }
def HpackBoundWrongFalsely : Prop := hpackBoundRow.holds Tryd.pinned (OpenSpec.ofChange hpackBoundWrong)

/-- 'parleylaw4.HpackOwn': WHATEVER THE INPUT: true; the input reads as it did. -/
def hpackOwnSpec : ChangeSpec := { name := "hpackOwn", fn := fun _ => fun
  | [d] => { results := [.lit (.bool true)], args := [d] }
  | _ => none }
def hpackOwnRow : OpenClaim := { program := "ytlkieeindnpidaadoor", sum := "025459cb9595c2969e2bdbf7ba1768fbf3e5912033961afeafa0c2b74235d776", func := "parley/parleylaw4.HpackOwn", spec := "hpackOwn", unfollowed := true, recurses := true, named := ["parley/api.ErrTable", "parley/api.ErrLong", "parley/api.ErrEnd", "parley/api.ErrGone", "parley/api.ErrIndex", "parley/api.ErrList", "parley/api.ErrHuff"], apart := false, laid := [("parley/api.ErrEnd", laid_parley_api_ErrEnd), ("parley/api.ErrLong", laid_parley_api_ErrLong), ("parley/api.ErrHuff", laid_parley_api_ErrHuff), ("parley/api.ErrIndex", laid_parley_api_ErrIndex), ("parley/api.ErrTable", laid_parley_api_ErrTable), ("parley/api.ErrList", laid_parley_api_ErrList), ("parley/api.ErrGone", laid_parley_api_ErrGone)] }
def HpackOwnSaid : Prop := hpackOwnRow.holds Tryd.pinned (OpenSpec.ofChange hpackOwnSpec)

/-- ITS FALSE NEIGHBOUR: 'it returns false'. Refute it at one input. -/
def hpackOwnWrong : ChangeSpec := { name := "hpackOwn", fn := fun _ => fun
  | [d] => { results := [.lit (.bool false)], args := [d] }
  | _ => none }
def HpackOwnWrongFalsely : Prop := hpackOwnRow.holds Tryd.pinned (OpenSpec.ofChange hpackOwnWrong)

/- THE SECOND FORM. 'bulk': how many values and letters a reading holds, each counted each time it is reached (what is shared counts as often as it is met; a slice's spare places count too). A statement '..UptoSaid' is the law's where the arguments, and the package variables that the reading takes, are together of bulk at most 1048576: NARROWER than '..Said'. Prove '..Said' where nothing that the law and all that it calls make is longer than what came in: it says more and counts as full. Else prove '..UptoSaid'. A law counts once. -/
mutual
def uptoBulk {H : Type} : DataW H → Nat
  | .lit (.string bytes) => bytes.length + 1
  | .lit _ => 1
  | .nil => 1
  | .ptr d => uptoBulk d + 1
  | .slice elems spare => uptoBulkAll elems + uptoBulkAll spare + 1
  | .agg parts => uptoBulkAll parts + 1
  | .iface _ d => uptoBulk d + 1
  | .map entries => uptoBulkEntries entries + 1
  | .held _ => 1
def uptoBulkAll {H : Type} : List (DataW H) → Nat
  | [] => 0
  | d :: r => uptoBulk d + uptoBulkAll r
def uptoBulkEntries {H : Type} : List (Lit × DataW H) → Nat
  | [] => 0
  | x :: r => uptoBulkEntry x + uptoBulkEntries r
def uptoBulkEntry {H : Type} : Lit × DataW H → Nat
  | (.string bytes, d) => bytes.length + uptoBulk d + 1
  | (_, d) => uptoBulk d + 1
 end
def uptoSmall : (H : Type) → List (DataW H) → Bool := fun _ ds => decide (uptoBulkAll ds ≤ 1048576)
def OpenSpec.upto (s : _root_.Go.ChangeSpec) : _root_.Go.OpenSpec := { _root_.Go.OpenSpec.ofChange s with cond := some uptoSmall }

/-- 'parleylaw4.HpackInts', WHERE WHAT IT READS IS OF BULK AT MOST 1048576: true; the input reads as it did. -/
def hpackIntsUptoRow : OpenClaim := { program := "ytlkieeindnpidaadoor", sum := "025459cb9595c2969e2bdbf7ba1768fbf3e5912033961afeafa0c2b74235d776", func := "parley/parleylaw4.HpackInts", spec := "hpackInts", unfollowed := true, recurses := true, named := ["parley/api.ErrTable", "parley/api.ErrLong", "parley/api.ErrEnd", "parley/api.ErrGone", "parley/api.ErrIndex", "parley/api.ErrList", "parley/api.ErrHuff", "parley/api.ErrTag", "parley/api.ErrGroup", "parley/api.ErrDeep", "parley/api.ErrUTF8", "parley/api.ErrFrame", "parley/api.ErrHead", "parley/api.ErrWindow", "parley/api.ErrRole", "parley/api.ErrMany", "parley/api.ErrStream", "parley/api.ErrToken", "parley/api.ErrSyntax", "parley/api.ErrNumber", "parley/api.ErrName", "parley/api.ErrTwice", "parley/api.ErrType", "parley/api.ErrCircle", "parley/api.ErrFile", "parley/api.ErrValue", "parley/api.ErrField", "parley/api.ErrJSON", "parley/api.ErrStatus", "parley/api.ErrScript"], apart := false, laid := [("parley/api.ErrEnd", laid_parley_api_ErrEnd), ("parley/api.ErrLong", laid_parley_api_ErrLong), ("parley/api.ErrTag", laid_parley_api_ErrTag), ("parley/api.ErrGroup", laid_parley_api_ErrGroup), ("parley/api.ErrDeep", laid_parley_api_ErrDeep), ("parley/api.ErrUTF8", laid_parley_api_ErrUTF8), ("parley/api.ErrHuff", laid_parley_api_ErrHuff), ("parley/api.ErrIndex", laid_parley_api_ErrIndex), ("parley/api.ErrTable", laid_parley_api_ErrTable), ("parley/api.ErrList", laid_parley_api_ErrList), ("parley/api.ErrFrame", laid_parley_api_ErrFrame), ("parley/api.ErrHead", laid_parley_api_ErrHead), ("parley/api.ErrWindow", laid_parley_api_ErrWindow), ("parley/api.ErrRole", laid_parley_api_ErrRole), ("parley/api.ErrGone", laid_parley_api_ErrGone), ("parley/api.ErrMany", laid_parley_api_ErrMany), ("parley/api.ErrStream", laid_parley_api_ErrStream), ("parley/api.ErrToken", laid_parley_api_ErrToken), ("parley/api.ErrSyntax", laid_parley_api_ErrSyntax), ("parley/api.ErrNumber", laid_parley_api_ErrNumber), ("parley/api.ErrName", laid_parley_api_ErrName), ("parley/api.ErrTwice", laid_parley_api_ErrTwice), ("parley/api.ErrType", laid_parley_api_ErrType), ("parley/api.ErrCircle", laid_parley_api_ErrCircle), ("parley/api.ErrFile", laid_parley_api_ErrFile), ("parley/api.ErrValue", laid_parley_api_ErrValue), ("parley/api.ErrField", laid_parley_api_ErrField), ("parley/api.ErrJSON", laid_parley_api_ErrJSON), ("parley/api.ErrStatus", laid_parley_api_ErrStatus), ("parley/api.ErrScript", laid_parley_api_ErrScript)], narrowed := true }
def HpackIntsUptoSaid : Prop := hpackIntsUptoRow.holds Tryd.pinned (OpenSpec.upto hpackIntsSpec)

/-- 'parleylaw4.HpackTexts', WHERE WHAT IT READS IS OF BULK AT MOST 1048576: true; the input reads as it did. -/
def hpackTextsUptoRow : OpenClaim := { program := "ytlkieeindnpidaadoor", sum := "025459cb9595c2969e2bdbf7ba1768fbf3e5912033961afeafa0c2b74235d776", func := "parley/parleylaw4.HpackTexts", spec := "hpackTexts", unfollowed := true, recurses := true, named := ["parley/api.ErrTable", "parley/api.ErrLong", "parley/api.ErrEnd", "parley/api.ErrGone", "parley/api.ErrIndex", "parley/api.ErrList", "parley/api.ErrHuff", "parley/api.ErrTag", "parley/api.ErrGroup", "parley/api.ErrDeep", "parley/api.ErrUTF8", "parley/api.ErrFrame", "parley/api.ErrHead", "parley/api.ErrWindow", "parley/api.ErrRole", "parley/api.ErrMany", "parley/api.ErrStream", "parley/api.ErrToken", "parley/api.ErrSyntax", "parley/api.ErrNumber", "parley/api.ErrName", "parley/api.ErrTwice", "parley/api.ErrType", "parley/api.ErrCircle", "parley/api.ErrFile", "parley/api.ErrValue", "parley/api.ErrField", "parley/api.ErrJSON", "parley/api.ErrStatus", "parley/api.ErrScript"], apart := false, laid := [("parley/api.ErrEnd", laid_parley_api_ErrEnd), ("parley/api.ErrLong", laid_parley_api_ErrLong), ("parley/api.ErrTag", laid_parley_api_ErrTag), ("parley/api.ErrGroup", laid_parley_api_ErrGroup), ("parley/api.ErrDeep", laid_parley_api_ErrDeep), ("parley/api.ErrUTF8", laid_parley_api_ErrUTF8), ("parley/api.ErrHuff", laid_parley_api_ErrHuff), ("parley/api.ErrIndex", laid_parley_api_ErrIndex), ("parley/api.ErrTable", laid_parley_api_ErrTable), ("parley/api.ErrList", laid_parley_api_ErrList), ("parley/api.ErrFrame", laid_parley_api_ErrFrame), ("parley/api.ErrHead", laid_parley_api_ErrHead), ("parley/api.ErrWindow", laid_parley_api_ErrWindow), ("parley/api.ErrRole", laid_parley_api_ErrRole), ("parley/api.ErrGone", laid_parley_api_ErrGone), ("parley/api.ErrMany", laid_parley_api_ErrMany), ("parley/api.ErrStream", laid_parley_api_ErrStream), ("parley/api.ErrToken", laid_parley_api_ErrToken), ("parley/api.ErrSyntax", laid_parley_api_ErrSyntax), ("parley/api.ErrNumber", laid_parley_api_ErrNumber), ("parley/api.ErrName", laid_parley_api_ErrName), ("parley/api.ErrTwice", laid_parley_api_ErrTwice), ("parley/api.ErrType", laid_parley_api_ErrType), ("parley/api.ErrCircle", laid_parley_api_ErrCircle), ("parley/api.ErrFile", laid_parley_api_ErrFile), ("parley/api.ErrValue", laid_parley_api_ErrValue), ("parley/api.ErrField", laid_parley_api_ErrField), ("parley/api.ErrJSON", laid_parley_api_ErrJSON), ("parley/api.ErrStatus", laid_parley_api_ErrStatus), ("parley/api.ErrScript", laid_parley_api_ErrScript)], narrowed := true }
def HpackTextsUptoSaid : Prop := hpackTextsUptoRow.holds Tryd.pinned (OpenSpec.upto hpackTextsSpec)

/-- 'parleylaw4.HpackEncodes', WHERE WHAT IT READS IS OF BULK AT MOST 1048576: true; the input reads as it did. -/
def hpackEncodesUptoRow : OpenClaim := { program := "ytlkieeindnpidaadoor", sum := "025459cb9595c2969e2bdbf7ba1768fbf3e5912033961afeafa0c2b74235d776", func := "parley/parleylaw4.HpackEncodes", spec := "hpackEncodes", unfollowed := true, recurses := true, named := ["parley/api.ErrTable", "parley/api.ErrLong", "parley/api.ErrEnd", "parley/api.ErrGone", "parley/api.ErrIndex", "parley/api.ErrList", "parley/api.ErrHuff"], apart := false, laid := [("parley/api.ErrEnd", laid_parley_api_ErrEnd), ("parley/api.ErrLong", laid_parley_api_ErrLong), ("parley/api.ErrHuff", laid_parley_api_ErrHuff), ("parley/api.ErrIndex", laid_parley_api_ErrIndex), ("parley/api.ErrTable", laid_parley_api_ErrTable), ("parley/api.ErrList", laid_parley_api_ErrList), ("parley/api.ErrGone", laid_parley_api_ErrGone)], narrowed := true }
def HpackEncodesUptoSaid : Prop := hpackEncodesUptoRow.holds Tryd.pinned (OpenSpec.upto hpackEncodesSpec)

/-- 'parleylaw4.HpackDecodes', WHERE WHAT IT READS IS OF BULK AT MOST 1048576: true; the input reads as it did. -/
def hpackDecodesUptoRow : OpenClaim := { program := "ytlkieeindnpidaadoor", sum := "025459cb9595c2969e2bdbf7ba1768fbf3e5912033961afeafa0c2b74235d776", func := "parley/parleylaw4.HpackDecodes", spec := "hpackDecodes", unfollowed := true, recurses := true, named := ["parley/api.ErrTable", "parley/api.ErrLong", "parley/api.ErrEnd", "parley/api.ErrGone", "parley/api.ErrIndex", "parley/api.ErrList", "parley/api.ErrHuff", "parley/api.ErrTag", "parley/api.ErrGroup", "parley/api.ErrDeep", "parley/api.ErrUTF8", "parley/api.ErrFrame", "parley/api.ErrHead", "parley/api.ErrWindow", "parley/api.ErrRole", "parley/api.ErrMany", "parley/api.ErrStream", "parley/api.ErrToken", "parley/api.ErrSyntax", "parley/api.ErrNumber", "parley/api.ErrName", "parley/api.ErrTwice", "parley/api.ErrType", "parley/api.ErrCircle", "parley/api.ErrFile", "parley/api.ErrValue", "parley/api.ErrField", "parley/api.ErrJSON", "parley/api.ErrStatus", "parley/api.ErrScript"], apart := false, laid := [("parley/api.ErrEnd", laid_parley_api_ErrEnd), ("parley/api.ErrLong", laid_parley_api_ErrLong), ("parley/api.ErrTag", laid_parley_api_ErrTag), ("parley/api.ErrGroup", laid_parley_api_ErrGroup), ("parley/api.ErrDeep", laid_parley_api_ErrDeep), ("parley/api.ErrUTF8", laid_parley_api_ErrUTF8), ("parley/api.ErrHuff", laid_parley_api_ErrHuff), ("parley/api.ErrIndex", laid_parley_api_ErrIndex), ("parley/api.ErrTable", laid_parley_api_ErrTable), ("parley/api.ErrList", laid_parley_api_ErrList), ("parley/api.ErrFrame", laid_parley_api_ErrFrame), ("parley/api.ErrHead", laid_parley_api_ErrHead), ("parley/api.ErrWindow", laid_parley_api_ErrWindow), ("parley/api.ErrRole", laid_parley_api_ErrRole), ("parley/api.ErrGone", laid_parley_api_ErrGone), ("parley/api.ErrMany", laid_parley_api_ErrMany), ("parley/api.ErrStream", laid_parley_api_ErrStream), ("parley/api.ErrToken", laid_parley_api_ErrToken), ("parley/api.ErrSyntax", laid_parley_api_ErrSyntax), ("parley/api.ErrNumber", laid_parley_api_ErrNumber), ("parley/api.ErrName", laid_parley_api_ErrName), ("parley/api.ErrTwice", laid_parley_api_ErrTwice), ("parley/api.ErrType", laid_parley_api_ErrType), ("parley/api.ErrCircle", laid_parley_api_ErrCircle), ("parley/api.ErrFile", laid_parley_api_ErrFile), ("parley/api.ErrValue", laid_parley_api_ErrValue), ("parley/api.ErrField", laid_parley_api_ErrField), ("parley/api.ErrJSON", laid_parley_api_ErrJSON), ("parley/api.ErrStatus", laid_parley_api_ErrStatus), ("parley/api.ErrScript", laid_parley_api_ErrScript)], narrowed := true }
def HpackDecodesUptoSaid : Prop := hpackDecodesUptoRow.holds Tryd.pinned (OpenSpec.upto hpackDecodesSpec)

/-- 'parleylaw4.HpackBack', WHERE WHAT IT READS IS OF BULK AT MOST 1048576: true; the input reads as it did. -/
def hpackBackUptoRow : OpenClaim := { program := "ytlkieeindnpidaadoor", sum := "025459cb9595c2969e2bdbf7ba1768fbf3e5912033961afeafa0c2b74235d776", func := "parley/parleylaw4.HpackBack", spec := "hpackBack", unfollowed := true, recurses := true, named := ["parley/api.ErrTable", "parley/api.ErrLong", "parley/api.ErrEnd", "parley/api.ErrGone", "parley/api.ErrIndex", "parley/api.ErrList", "parley/api.ErrHuff"], apart := false, laid := [("parley/api.ErrEnd", laid_parley_api_ErrEnd), ("parley/api.ErrLong", laid_parley_api_ErrLong), ("parley/api.ErrHuff", laid_parley_api_ErrHuff), ("parley/api.ErrIndex", laid_parley_api_ErrIndex), ("parley/api.ErrTable", laid_parley_api_ErrTable), ("parley/api.ErrList", laid_parley_api_ErrList), ("parley/api.ErrGone", laid_parley_api_ErrGone)], narrowed := true }
def HpackBackUptoSaid : Prop := hpackBackUptoRow.holds Tryd.pinned (OpenSpec.upto hpackBackSpec)

/-- 'parleylaw4.HpackNever', WHERE WHAT IT READS IS OF BULK AT MOST 1048576: true; the input reads as it did. -/
def hpackNeverUptoRow : OpenClaim := { program := "ytlkieeindnpidaadoor", sum := "025459cb9595c2969e2bdbf7ba1768fbf3e5912033961afeafa0c2b74235d776", func := "parley/parleylaw4.HpackNever", spec := "hpackNever", unfollowed := true, recurses := true, named := ["parley/api.ErrTable", "parley/api.ErrLong", "parley/api.ErrEnd", "parley/api.ErrGone", "parley/api.ErrIndex", "parley/api.ErrList", "parley/api.ErrHuff"], apart := false, laid := [("parley/api.ErrEnd", laid_parley_api_ErrEnd), ("parley/api.ErrLong", laid_parley_api_ErrLong), ("parley/api.ErrHuff", laid_parley_api_ErrHuff), ("parley/api.ErrIndex", laid_parley_api_ErrIndex), ("parley/api.ErrTable", laid_parley_api_ErrTable), ("parley/api.ErrList", laid_parley_api_ErrList), ("parley/api.ErrGone", laid_parley_api_ErrGone)], narrowed := true }
def HpackNeverUptoSaid : Prop := hpackNeverUptoRow.holds Tryd.pinned (OpenSpec.upto hpackNeverSpec)

/-- 'parleylaw4.HpackBound', WHERE WHAT IT READS IS OF BULK AT MOST 1048576: true; the input reads as it did. -/
def hpackBoundUptoRow : OpenClaim := { program := "ytlkieeindnpidaadoor", sum := "025459cb9595c2969e2bdbf7ba1768fbf3e5912033961afeafa0c2b74235d776", func := "parley/parleylaw4.HpackBound", spec := "hpackBound", unfollowed := true, recurses := true, named := ["parley/api.ErrGone", "parley/api.ErrTable", "parley/api.ErrLong", "parley/api.ErrEnd", "parley/api.ErrIndex", "parley/api.ErrList", "parley/api.ErrHuff"], apart := false, laid := [("parley/api.ErrEnd", laid_parley_api_ErrEnd), ("parley/api.ErrLong", laid_parley_api_ErrLong), ("parley/api.ErrHuff", laid_parley_api_ErrHuff), ("parley/api.ErrIndex", laid_parley_api_ErrIndex), ("parley/api.ErrTable", laid_parley_api_ErrTable), ("parley/api.ErrList", laid_parley_api_ErrList), ("parley/api.ErrGone", laid_parley_api_ErrGone)], narrowed := true }
def HpackBoundUptoSaid : Prop := hpackBoundUptoRow.holds Tryd.pinned (OpenSpec.upto hpackBoundSpec)

/-- 'parleylaw4.HpackOwn', WHERE WHAT IT READS IS OF BULK AT MOST 1048576: true; the input reads as it did. -/
def hpackOwnUptoRow : OpenClaim := { program := "ytlkieeindnpidaadoor", sum := "025459cb9595c2969e2bdbf7ba1768fbf3e5912033961afeafa0c2b74235d776", func := "parley/parleylaw4.HpackOwn", spec := "hpackOwn", unfollowed := true, recurses := true, named := ["parley/api.ErrTable", "parley/api.ErrLong", "parley/api.ErrEnd", "parley/api.ErrGone", "parley/api.ErrIndex", "parley/api.ErrList", "parley/api.ErrHuff"], apart := false, laid := [("parley/api.ErrEnd", laid_parley_api_ErrEnd), ("parley/api.ErrLong", laid_parley_api_ErrLong), ("parley/api.ErrHuff", laid_parley_api_ErrHuff), ("parley/api.ErrIndex", laid_parley_api_ErrIndex), ("parley/api.ErrTable", laid_parley_api_ErrTable), ("parley/api.ErrList", laid_parley_api_ErrList), ("parley/api.ErrGone", laid_parley_api_ErrGone)], narrowed := true }
def HpackOwnUptoSaid : Prop := hpackOwnUptoRow.holds Tryd.pinned (OpenSpec.upto hpackOwnSpec)

end Rows
end Go.Proofs.YtlkieeindnpidaaDoor
