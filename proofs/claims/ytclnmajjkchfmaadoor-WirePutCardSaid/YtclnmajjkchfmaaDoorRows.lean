/-
  NARROWER THAN 'FOR EVERY INPUT', by the rows' own cells (each row's printed sentence says how): WireNumbers: laid · WireNext: laid · WirePut: laid · WireRecords: laid · WireBack: laid · WireAgain: laid · WireDeep: laid · WireTexts: laid · WireOwn: laid.
  DERIVED. THE GIVEN ROWS OF THIS SEAT. 9 by the template 'for every input the law returns true; each argument reads behind the call as it read before'; 0 by the template 'total and deterministic' (their statements: YtclnmajjkchfmaaDoorTotals.lean).
  GIVEN WITH THE SEED: the statements are not yours to turn. If you find one false, say at which input.
  Laid BY PROGRAM, IN A SANDBOX (cutbox-rows.mjs): the forced cells as the released guide's own fill.sh prints them over the translation 51c968132951cc68… (all of the seat's roots in one cut). By AI agents, Wed Nov 11 2026. No macro, syntax, notation, axiom, sorry.
-/
import Derived.Test.YtclnmajjkchfmaaDoorChecked
import GoSem.PinnedTables
import GoSem.Claim
import GoSem.ClaimJoined
import GoSem.ClaimMapViews
import Derived.JoinedTies
import Derived.KernelRfl
namespace Go.Proofs.YtclnmajjkchfmaaDoor
/- THE CELL 'sum', in the pinned program and in every row, IS THE sha256 OF THE DUMP (.gsa) THAT YtclnmajjkchfmaaDoorProg.lean LOADS. Nothing in Lean hashes anything: it is a label: what it is worth is what the hold of that sum in a sandbox is worth. -/
noncomputable def Tryd.pinned : Pinned := { name := "ytclnmajjkchfmaadoor", sum := "51c968132951cc683a51ebd2b72e1a8ed4eac411da809b4a9dcde629d595f2ff", checked := Tryd.checked }
namespace Rows
def none {H : Type} : Left H := { results := [], args := [] }

/- WHAT THE LISTED PACKAGE-LEVEL VARIABLES READ AS WHEN THE CALL BEGINS. Each datum BY PROGRAM (the guide's laid-datum.mjs) off the statement by which the dump's own 'gosem.cut.vars' lays the variable. In a bare row this is a premise. The card (YtclnmajjkchfmaaDoorCards.lean) ties it to the program's text. -/
def laid_parley_api_ErrEnd {H : Type} : DataW H := .iface "*errors.errorString" (.ptr (.agg [.lit (.string [105, 116, 32, 101, 110, 100, 115, 32, 116, 111, 111, 32, 101, 97, 114, 108, 121])]))
def laid_parley_api_ErrLong {H : Type} : DataW H := .iface "*errors.errorString" (.ptr (.agg [.lit (.string [116, 111, 111, 32, 108, 111, 110, 103])]))
def laid_parley_api_ErrTag {H : Type} : DataW H := .iface "*errors.errorString" (.ptr (.agg [.lit (.string [110, 111, 32, 116, 97, 103])]))
def laid_parley_api_ErrGroup {H : Type} : DataW H := .iface "*errors.errorString" (.ptr (.agg [.lit (.string [110, 111, 32, 115, 117, 99, 104, 32, 103, 114, 111, 117, 112])]))
def laid_parley_api_ErrDeep {H : Type} : DataW H := .iface "*errors.errorString" (.ptr (.agg [.lit (.string [116, 111, 111, 32, 100, 101, 101, 112])]))
def laid_parley_api_ErrUTF8 {H : Type} : DataW H := .iface "*errors.errorString" (.ptr (.agg [.lit (.string [110, 111, 32, 116, 101, 120, 116])]))
def laid_parley_api_ErrHuff {H : Type} : DataW H := .iface "*errors.errorString" (.ptr (.agg [.lit (.string [110, 111, 32, 72, 117, 102, 102, 109, 97, 110, 32, 99, 111, 100, 101])]))
def laid_parley_api_ErrIndex {H : Type} : DataW H := .iface "*errors.errorString" (.ptr (.agg [.lit (.string [116, 104, 101, 114, 101, 32, 105, 115, 32, 110, 111, 110, 101])]))
def laid_parley_api_ErrTable {H : Type} : DataW H := .iface "*errors.errorString" (.ptr (.agg [.lit (.string [116, 104, 101, 32, 116, 97, 98, 108, 101, 32, 109, 97, 121, 32, 110, 111, 116, 32, 98, 101, 32, 115, 111, 32, 108, 97, 114, 103, 101])]))
def laid_parley_api_ErrList {H : Type} : DataW H := .iface "*errors.errorString" (.ptr (.agg [.lit (.string [116, 104, 101, 32, 108, 105, 115, 116, 32, 105, 115, 32, 116, 111, 111, 32, 108, 97, 114, 103, 101])]))
def laid_parley_api_ErrFrame {H : Type} : DataW H := .iface "*errors.errorString" (.ptr (.agg [.lit (.string [110, 111, 32, 102, 114, 97, 109, 101])]))
def laid_parley_api_ErrHead {H : Type} : DataW H := .iface "*errors.errorString" (.ptr (.agg [.lit (.string [110, 111, 32, 104, 101, 97, 100, 101, 114, 32, 108, 105, 115, 116, 32, 111, 102, 32, 116, 104, 97, 116, 32, 107, 105, 110, 100])]))
def laid_parley_api_ErrWindow {H : Type} : DataW H := .iface "*errors.errorString" (.ptr (.agg [.lit (.string [116, 104, 101, 32, 119, 105, 110, 100, 111, 119, 32, 105, 115, 32, 112, 97, 115, 115, 101, 100])]))
def laid_parley_api_ErrRole {H : Type} : DataW H := .iface "*errors.errorString" (.ptr (.agg [.lit (.string [116, 104, 101, 32, 111, 116, 104, 101, 114, 32, 115, 105, 100, 101, 32, 100, 111, 101, 115, 32, 116, 104, 97, 116])]))
def laid_parley_api_ErrGone {H : Type} : DataW H := .iface "*errors.errorString" (.ptr (.agg [.lit (.string [116, 104, 101, 32, 99, 111, 110, 110, 101, 99, 116, 105, 111, 110, 32, 116, 97, 107, 101, 115, 32, 110, 111, 32, 109, 111, 114, 101])]))
def laid_parley_api_ErrMany {H : Type} : DataW H := .iface "*errors.errorString" (.ptr (.agg [.lit (.string [116, 111, 111, 32, 109, 97, 110, 121])]))
def laid_parley_api_ErrStream {H : Type} : DataW H := .iface "*errors.errorString" (.ptr (.agg [.lit (.string [116, 104, 101, 32, 115, 116, 114, 101, 97, 109, 32, 105, 115, 32, 110, 111, 116, 32, 116, 104, 101, 114, 101, 32, 102, 111, 114, 32, 116, 104, 97, 116])]))
def laid_parley_api_ErrToken {H : Type} : DataW H := .iface "*errors.errorString" (.ptr (.agg [.lit (.string [110, 111, 32, 116, 111, 107, 101, 110])]))
def laid_parley_api_ErrSyntax {H : Type} : DataW H := .iface "*errors.errorString" (.ptr (.agg [.lit (.string [105, 116, 32, 100, 111, 101, 115, 32, 110, 111, 116, 32, 99, 111, 109, 101, 32, 104, 101, 114, 101])]))
def laid_parley_api_ErrNumber {H : Type} : DataW H := .iface "*errors.errorString" (.ptr (.agg [.lit (.string [110, 111, 32, 115, 117, 99, 104, 32, 110, 117, 109, 98, 101, 114])]))
def laid_parley_api_ErrName {H : Type} : DataW H := .iface "*errors.errorString" (.ptr (.agg [.lit (.string [110, 111, 32, 115, 117, 99, 104, 32, 110, 97, 109, 101])]))
def laid_parley_api_ErrTwice {H : Type} : DataW H := .iface "*errors.errorString" (.ptr (.agg [.lit (.string [105, 116, 32, 105, 115, 32, 116, 104, 101, 114, 101, 32, 97, 108, 114, 101, 97, 100, 121])]))
def laid_parley_api_ErrType {H : Type} : DataW H := .iface "*errors.errorString" (.ptr (.agg [.lit (.string [110, 111, 32, 115, 117, 99, 104, 32, 116, 121, 112, 101])]))
def laid_parley_api_ErrCircle {H : Type} : DataW H := .iface "*errors.errorString" (.ptr (.agg [.lit (.string [105, 116, 32, 108, 101, 97, 100, 115, 32, 98, 97, 99, 107, 32, 116, 111, 32, 105, 116, 115, 101, 108, 102])]))
def laid_parley_api_ErrFile {H : Type} : DataW H := .iface "*errors.errorString" (.ptr (.agg [.lit (.string [110, 111, 32, 115, 117, 99, 104, 32, 102, 105, 108, 101])]))
def laid_parley_api_ErrValue {H : Type} : DataW H := .iface "*errors.errorString" (.ptr (.agg [.lit (.string [110, 111, 32, 118, 97, 108, 117, 101, 32, 111, 102, 32, 116, 104, 97, 116, 32, 116, 121, 112, 101])]))
def laid_parley_api_ErrField {H : Type} : DataW H := .iface "*errors.errorString" (.ptr (.agg [.lit (.string [110, 111, 32, 115, 117, 99, 104, 32, 102, 105, 101, 108, 100])]))
def laid_parley_api_ErrJSON {H : Type} : DataW H := .iface "*errors.errorString" (.ptr (.agg [.lit (.string [110, 111, 32, 74, 83, 79, 78])]))
def laid_parley_api_ErrStatus {H : Type} : DataW H := .iface "*errors.errorString" (.ptr (.agg [.lit (.string [110, 111, 32, 115, 116, 97, 116, 117, 115])]))
def laid_parley_api_ErrScript {H : Type} : DataW H := .iface "*errors.errorString" (.ptr (.agg [.lit (.string [110, 111, 32, 115, 116, 101, 112])]))
def laid_unicode_utf8_acceptRanges {H : Type} : DataW H := .agg [.agg [.lit (.int .u8 128), .lit (.int .u8 191)], .agg [.lit (.int .u8 160), .lit (.int .u8 191)], .agg [.lit (.int .u8 128), .lit (.int .u8 159)], .agg [.lit (.int .u8 144), .lit (.int .u8 191)], .agg [.lit (.int .u8 128), .lit (.int .u8 143)], .agg [.lit (.int .u8 0), .lit (.int .u8 0)], .agg [.lit (.int .u8 0), .lit (.int .u8 0)], .agg [.lit (.int .u8 0), .lit (.int .u8 0)], .agg [.lit (.int .u8 0), .lit (.int .u8 0)], .agg [.lit (.int .u8 0), .lit (.int .u8 0)], .agg [.lit (.int .u8 0), .lit (.int .u8 0)], .agg [.lit (.int .u8 0), .lit (.int .u8 0)], .agg [.lit (.int .u8 0), .lit (.int .u8 0)], .agg [.lit (.int .u8 0), .lit (.int .u8 0)], .agg [.lit (.int .u8 0), .lit (.int .u8 0)], .agg [.lit (.int .u8 0), .lit (.int .u8 0)]]
/-- One of Go's own tables, pinned by name: the form's constant. -/
def laid_unicode_utf8_first : DataW Unit := Go.Pinned.utf8First

/-- 'parleylaw1.WireNumbers': WHATEVER THE INPUT: true; the input reads as it did. -/
def wireNumbersSpec : ChangeSpec := { name := "wireNumbers", fn := fun _ => fun
  | [d1, d2, d3, d4, d5, d6] => { results := [.lit (.bool true)], args := [d1, d2, d3, d4, d5, d6] }
  | _ => none }
def wireNumbersRow : OpenClaim := { program := "ytclnmajjkchfmaadoor", sum := "51c968132951cc683a51ebd2b72e1a8ed4eac411da809b4a9dcde629d595f2ff", func := "parley/parleylaw1.WireNumbers", spec := "wireNumbers", unfollowed := true, recurses := true, named := ["parley/api.ErrLong", "parley/api.ErrEnd", "parley/api.ErrNumber", "parley/api.ErrGroup", "parley/api.ErrDeep", "parley/api.ErrTag", "parley/api.ErrUTF8", "parley/api.ErrHuff", "parley/api.ErrIndex", "parley/api.ErrTable", "parley/api.ErrList", "parley/api.ErrFrame", "parley/api.ErrHead", "parley/api.ErrWindow", "parley/api.ErrRole", "parley/api.ErrGone", "parley/api.ErrMany", "parley/api.ErrStream", "parley/api.ErrToken", "parley/api.ErrSyntax", "parley/api.ErrName", "parley/api.ErrTwice", "parley/api.ErrType", "parley/api.ErrCircle", "parley/api.ErrFile", "parley/api.ErrValue", "parley/api.ErrField", "parley/api.ErrJSON", "parley/api.ErrStatus", "parley/api.ErrScript"], apart := false, laid := [("parley/api.ErrEnd", laid_parley_api_ErrEnd), ("parley/api.ErrLong", laid_parley_api_ErrLong), ("parley/api.ErrTag", laid_parley_api_ErrTag), ("parley/api.ErrGroup", laid_parley_api_ErrGroup), ("parley/api.ErrDeep", laid_parley_api_ErrDeep), ("parley/api.ErrUTF8", laid_parley_api_ErrUTF8), ("parley/api.ErrHuff", laid_parley_api_ErrHuff), ("parley/api.ErrIndex", laid_parley_api_ErrIndex), ("parley/api.ErrTable", laid_parley_api_ErrTable), ("parley/api.ErrList", laid_parley_api_ErrList), ("parley/api.ErrFrame", laid_parley_api_ErrFrame), ("parley/api.ErrHead", laid_parley_api_ErrHead), ("parley/api.ErrWindow", laid_parley_api_ErrWindow), ("parley/api.ErrRole", laid_parley_api_ErrRole), ("parley/api.ErrGone", laid_parley_api_ErrGone), ("parley/api.ErrMany", laid_parley_api_ErrMany), ("parley/api.ErrStream", laid_parley_api_ErrStream), ("parley/api.ErrToken", laid_parley_api_ErrToken), ("parley/api.ErrSyntax", laid_parley_api_ErrSyntax), ("parley/api.ErrNumber", laid_parley_api_ErrNumber), ("parley/api.ErrName", laid_parley_api_ErrName), ("parley/api.ErrTwice", laid_parley_api_ErrTwice), ("parley/api.ErrType", laid_parley_api_ErrType), ("parley/api.ErrCircle", laid_parley_api_ErrCircle), ("parley/api.ErrFile", laid_parley_api_ErrFile), ("parley/api.ErrValue", laid_parley_api_ErrValue), ("parley/api.ErrField", laid_parley_api_ErrField), ("parley/api.ErrJSON", laid_parley_api_ErrJSON), ("parley/api.ErrStatus", laid_parley_api_ErrStatus), ("parley/api.ErrScript", laid_parley_api_ErrScript)] }
def WireNumbersSaid : Prop := wireNumbersRow.holds Tryd.pinned (OpenSpec.ofChange wireNumbersSpec)

/-- ITS FALSE NEIGHBOUR: 'it returns false'. Refute it at one input. -/
def wireNumbersWrong : ChangeSpec := { name := "wireNumbers", fn := fun _ => fun
  | [d1, d2, d3, d4, d5, d6] => { results := [.lit (.bool false)], args := [d1, d2, d3, d4, d5, d6] }
  | _ => none }
def WireNumbersWrongFalsely : Prop := wireNumbersRow.holds Tryd.pinned (OpenSpec.ofChange wireNumbersWrong)

/-- 'parleylaw1.WireNext': WHATEVER THE INPUT: true; the input reads as it did. -/
def wireNextSpec : ChangeSpec := { name := "wireNext", fn := fun _ => fun
  | [d] => { results := [.lit (.bool true)], args := [d] }
  | _ => none }
def wireNextRow : OpenClaim := { program := "ytclnmajjkchfmaadoor", sum := "51c968132951cc683a51ebd2b72e1a8ed4eac411da809b4a9dcde629d595f2ff", func := "parley/parleylaw1.WireNext", spec := "wireNext", unfollowed := true, recurses := true, named := ["parley/api.ErrLong", "parley/api.ErrEnd", "parley/api.ErrNumber", "parley/api.ErrGroup", "parley/api.ErrDeep", "parley/api.ErrTag", "parley/api.ErrUTF8", "parley/api.ErrHuff", "parley/api.ErrIndex", "parley/api.ErrTable", "parley/api.ErrList", "parley/api.ErrFrame", "parley/api.ErrHead", "parley/api.ErrWindow", "parley/api.ErrRole", "parley/api.ErrGone", "parley/api.ErrMany", "parley/api.ErrStream", "parley/api.ErrToken", "parley/api.ErrSyntax", "parley/api.ErrName", "parley/api.ErrTwice", "parley/api.ErrType", "parley/api.ErrCircle", "parley/api.ErrFile", "parley/api.ErrValue", "parley/api.ErrField", "parley/api.ErrJSON", "parley/api.ErrStatus", "parley/api.ErrScript", "unicode/utf8.first", "unicode/utf8.acceptRanges"], apart := false, laid := [("unicode/utf8.acceptRanges", laid_unicode_utf8_acceptRanges), ("parley/api.ErrEnd", laid_parley_api_ErrEnd), ("parley/api.ErrLong", laid_parley_api_ErrLong), ("parley/api.ErrTag", laid_parley_api_ErrTag), ("parley/api.ErrGroup", laid_parley_api_ErrGroup), ("parley/api.ErrDeep", laid_parley_api_ErrDeep), ("parley/api.ErrUTF8", laid_parley_api_ErrUTF8), ("parley/api.ErrHuff", laid_parley_api_ErrHuff), ("parley/api.ErrIndex", laid_parley_api_ErrIndex), ("parley/api.ErrTable", laid_parley_api_ErrTable), ("parley/api.ErrList", laid_parley_api_ErrList), ("parley/api.ErrFrame", laid_parley_api_ErrFrame), ("parley/api.ErrHead", laid_parley_api_ErrHead), ("parley/api.ErrWindow", laid_parley_api_ErrWindow), ("parley/api.ErrRole", laid_parley_api_ErrRole), ("parley/api.ErrGone", laid_parley_api_ErrGone), ("parley/api.ErrMany", laid_parley_api_ErrMany), ("parley/api.ErrStream", laid_parley_api_ErrStream), ("parley/api.ErrToken", laid_parley_api_ErrToken), ("parley/api.ErrSyntax", laid_parley_api_ErrSyntax), ("parley/api.ErrNumber", laid_parley_api_ErrNumber), ("parley/api.ErrName", laid_parley_api_ErrName), ("parley/api.ErrTwice", laid_parley_api_ErrTwice), ("parley/api.ErrType", laid_parley_api_ErrType), ("parley/api.ErrCircle", laid_parley_api_ErrCircle), ("parley/api.ErrFile", laid_parley_api_ErrFile), ("parley/api.ErrValue", laid_parley_api_ErrValue), ("parley/api.ErrField", laid_parley_api_ErrField), ("parley/api.ErrJSON", laid_parley_api_ErrJSON), ("parley/api.ErrStatus", laid_parley_api_ErrStatus), ("parley/api.ErrScript", laid_parley_api_ErrScript), ("unicode/utf8.first", laid_unicode_utf8_first)] }
def WireNextSaid : Prop := wireNextRow.holds Tryd.pinned (OpenSpec.ofChange wireNextSpec)

/-- ITS FALSE NEIGHBOUR: 'it returns false'. Refute it at one input. -/
def wireNextWrong : ChangeSpec := { name := "wireNext", fn := fun _ => fun
  | [d] => { results := [.lit (.bool false)], args := [d] }
  | _ => none }
def WireNextWrongFalsely : Prop := wireNextRow.holds Tryd.pinned (OpenSpec.ofChange wireNextWrong)

/-- 'parleylaw1.WirePut': WHATEVER THE INPUT: true; the input reads as it did. -/
def wirePutSpec : ChangeSpec := { name := "wirePut", fn := fun _ => fun
  | [d1, d2, d3, d4, d5] => { results := [.lit (.bool true)], args := [d1, d2, d3, d4, d5] }
  | _ => none }
def wirePutRow : OpenClaim := { program := "ytclnmajjkchfmaadoor", sum := "51c968132951cc683a51ebd2b72e1a8ed4eac411da809b4a9dcde629d595f2ff", func := "parley/parleylaw1.WirePut", spec := "wirePut", unfollowed := true, recurses := true, named := ["parley/api.ErrLong", "parley/api.ErrEnd", "parley/api.ErrNumber", "parley/api.ErrGroup", "parley/api.ErrDeep", "parley/api.ErrTag", "parley/api.ErrUTF8", "parley/api.ErrHuff", "parley/api.ErrIndex", "parley/api.ErrTable", "parley/api.ErrList", "parley/api.ErrFrame", "parley/api.ErrHead", "parley/api.ErrWindow", "parley/api.ErrRole", "parley/api.ErrGone", "parley/api.ErrMany", "parley/api.ErrStream", "parley/api.ErrToken", "parley/api.ErrSyntax", "parley/api.ErrName", "parley/api.ErrTwice", "parley/api.ErrType", "parley/api.ErrCircle", "parley/api.ErrFile", "parley/api.ErrValue", "parley/api.ErrField", "parley/api.ErrJSON", "parley/api.ErrStatus", "parley/api.ErrScript"], apart := false, laid := [("parley/api.ErrEnd", laid_parley_api_ErrEnd), ("parley/api.ErrLong", laid_parley_api_ErrLong), ("parley/api.ErrTag", laid_parley_api_ErrTag), ("parley/api.ErrGroup", laid_parley_api_ErrGroup), ("parley/api.ErrDeep", laid_parley_api_ErrDeep), ("parley/api.ErrUTF8", laid_parley_api_ErrUTF8), ("parley/api.ErrHuff", laid_parley_api_ErrHuff), ("parley/api.ErrIndex", laid_parley_api_ErrIndex), ("parley/api.ErrTable", laid_parley_api_ErrTable), ("parley/api.ErrList", laid_parley_api_ErrList), ("parley/api.ErrFrame", laid_parley_api_ErrFrame), ("parley/api.ErrHead", laid_parley_api_ErrHead), ("parley/api.ErrWindow", laid_parley_api_ErrWindow), ("parley/api.ErrRole", laid_parley_api_ErrRole), ("parley/api.ErrGone", laid_parley_api_ErrGone), ("parley/api.ErrMany", laid_parley_api_ErrMany), ("parley/api.ErrStream", laid_parley_api_ErrStream), ("parley/api.ErrToken", laid_parley_api_ErrToken), ("parley/api.ErrSyntax", laid_parley_api_ErrSyntax), ("parley/api.ErrNumber", laid_parley_api_ErrNumber), ("parley/api.ErrName", laid_parley_api_ErrName), ("parley/api.ErrTwice", laid_parley_api_ErrTwice), ("parley/api.ErrType", laid_parley_api_ErrType), ("parley/api.ErrCircle", laid_parley_api_ErrCircle), ("parley/api.ErrFile", laid_parley_api_ErrFile), ("parley/api.ErrValue", laid_parley_api_ErrValue), ("parley/api.ErrField", laid_parley_api_ErrField), ("parley/api.ErrJSON", laid_parley_api_ErrJSON), ("parley/api.ErrStatus", laid_parley_api_ErrStatus), ("parley/api.ErrScript", laid_parley_api_ErrScript)] }
def WirePutSaid : Prop := wirePutRow.holds Tryd.pinned (OpenSpec.ofChange wirePutSpec)

/-- ITS FALSE NEIGHBOUR: 'it returns false'. Refute it at one input. -/
def wirePutWrong : ChangeSpec := { name := "wirePut", fn := fun _ => fun
  | [d1, d2, d3, d4, d5] => { results := [.lit (.bool false)], args := [d1, d2, d3, d4, d5] }
  | _ => none }
def WirePutWrongFalsely : Prop := wirePutRow.holds Tryd.pinned (OpenSpec.ofChange wirePutWrong)

/-- 'parleylaw1.WireRecords': WHATEVER THE INPUT: true; the input reads as it did. -/
def wireRecordsSpec : ChangeSpec := { name := "wireRecords", fn := fun _ => fun
  | [d1, d2] => { results := [.lit (.bool true)], args := [d1, d2] }
  | _ => none }
def wireRecordsRow : OpenClaim := { program := "ytclnmajjkchfmaadoor", sum := "51c968132951cc683a51ebd2b72e1a8ed4eac411da809b4a9dcde629d595f2ff", func := "parley/parleylaw1.WireRecords", spec := "wireRecords", unfollowed := true, recurses := true, named := ["parley/api.ErrLong", "parley/api.ErrEnd", "parley/api.ErrNumber", "parley/api.ErrGroup", "parley/api.ErrDeep", "parley/api.ErrTag"], apart := false, laid := [("parley/api.ErrEnd", laid_parley_api_ErrEnd), ("parley/api.ErrLong", laid_parley_api_ErrLong), ("parley/api.ErrTag", laid_parley_api_ErrTag), ("parley/api.ErrGroup", laid_parley_api_ErrGroup), ("parley/api.ErrDeep", laid_parley_api_ErrDeep), ("parley/api.ErrNumber", laid_parley_api_ErrNumber)] }
def WireRecordsSaid : Prop := wireRecordsRow.holds Tryd.pinned (OpenSpec.ofChange wireRecordsSpec)

/-- ITS FALSE NEIGHBOUR: 'it returns false'. Refute it at one input. -/
def wireRecordsWrong : ChangeSpec := { name := "wireRecords", fn := fun _ => fun
  | [d1, d2] => { results := [.lit (.bool false)], args := [d1, d2] }
  | _ => none }
def WireRecordsWrongFalsely : Prop := wireRecordsRow.holds Tryd.pinned (OpenSpec.ofChange wireRecordsWrong)

/-- 'parleylaw1.WireBack': WHATEVER THE INPUT: true; the input reads as it did. -/
def wireBackSpec : ChangeSpec := { name := "wireBack", fn := fun _ => fun
  | [d1, d2, d3, d4, d5, d6] => { results := [.lit (.bool true)], args := [d1, d2, d3, d4, d5, d6] }
  | _ => none }
def wireBackRow : OpenClaim := { program := "ytclnmajjkchfmaadoor", sum := "51c968132951cc683a51ebd2b72e1a8ed4eac411da809b4a9dcde629d595f2ff", func := "parley/parleylaw1.WireBack", spec := "wireBack", unfollowed := true, recurses := true, named := ["parley/api.ErrLong", "parley/api.ErrEnd", "parley/api.ErrNumber", "parley/api.ErrGroup", "parley/api.ErrDeep", "parley/api.ErrTag"], apart := false, laid := [("parley/api.ErrEnd", laid_parley_api_ErrEnd), ("parley/api.ErrLong", laid_parley_api_ErrLong), ("parley/api.ErrTag", laid_parley_api_ErrTag), ("parley/api.ErrGroup", laid_parley_api_ErrGroup), ("parley/api.ErrDeep", laid_parley_api_ErrDeep), ("parley/api.ErrNumber", laid_parley_api_ErrNumber)] }
def WireBackSaid : Prop := wireBackRow.holds Tryd.pinned (OpenSpec.ofChange wireBackSpec)

/-- ITS FALSE NEIGHBOUR: 'it returns false'. Refute it at one input. -/
def wireBackWrong : ChangeSpec := { name := "wireBack", fn := fun _ => fun
  | [d1, d2, d3, d4, d5, d6] => { results := [.lit (.bool false)], args := [d1, d2, d3, d4, d5, d6] }
  | _ => none }
def WireBackWrongFalsely : Prop := wireBackRow.holds Tryd.pinned (OpenSpec.ofChange wireBackWrong)

/-- 'parleylaw1.WireAgain': WHATEVER THE INPUT: true; the input reads as it did. -/
def wireAgainSpec : ChangeSpec := { name := "wireAgain", fn := fun _ => fun
  | [d1, d2] => { results := [.lit (.bool true)], args := [d1, d2] }
  | _ => none }
def wireAgainRow : OpenClaim := { program := "ytclnmajjkchfmaadoor", sum := "51c968132951cc683a51ebd2b72e1a8ed4eac411da809b4a9dcde629d595f2ff", func := "parley/parleylaw1.WireAgain", spec := "wireAgain", unfollowed := true, recurses := true, named := ["parley/api.ErrLong", "parley/api.ErrEnd", "parley/api.ErrNumber", "parley/api.ErrGroup", "parley/api.ErrDeep", "parley/api.ErrTag"], apart := false, laid := [("parley/api.ErrEnd", laid_parley_api_ErrEnd), ("parley/api.ErrLong", laid_parley_api_ErrLong), ("parley/api.ErrTag", laid_parley_api_ErrTag), ("parley/api.ErrGroup", laid_parley_api_ErrGroup), ("parley/api.ErrDeep", laid_parley_api_ErrDeep), ("parley/api.ErrNumber", laid_parley_api_ErrNumber)] }
def WireAgainSaid : Prop := wireAgainRow.holds Tryd.pinned (OpenSpec.ofChange wireAgainSpec)

/-- ITS FALSE NEIGHBOUR: 'it returns false'. Refute it at one input. -/
def wireAgainWrong : ChangeSpec := { name := "wireAgain", fn := fun _ => fun
  | [d1, d2] => { results := [.lit (.bool false)], args := [d1, d2] }
  | _ => none }
def WireAgainWrongFalsely : Prop := wireAgainRow.holds Tryd.pinned (OpenSpec.ofChange wireAgainWrong)

/-- 'parleylaw1.WireDeep': WHATEVER THE INPUT: true; the input reads as it did. -/
def wireDeepSpec : ChangeSpec := { name := "wireDeep", fn := fun _ => fun
  | [d1, d2] => { results := [.lit (.bool true)], args := [d1, d2] }
  | _ => none }
def wireDeepRow : OpenClaim := { program := "ytclnmajjkchfmaadoor", sum := "51c968132951cc683a51ebd2b72e1a8ed4eac411da809b4a9dcde629d595f2ff", func := "parley/parleylaw1.WireDeep", spec := "wireDeep", unfollowed := true, recurses := true, named := ["parley/api.ErrLong", "parley/api.ErrEnd", "parley/api.ErrNumber", "parley/api.ErrGroup", "parley/api.ErrDeep", "parley/api.ErrTag"], apart := false, laid := [("parley/api.ErrEnd", laid_parley_api_ErrEnd), ("parley/api.ErrLong", laid_parley_api_ErrLong), ("parley/api.ErrTag", laid_parley_api_ErrTag), ("parley/api.ErrGroup", laid_parley_api_ErrGroup), ("parley/api.ErrDeep", laid_parley_api_ErrDeep), ("parley/api.ErrNumber", laid_parley_api_ErrNumber)] }
def WireDeepSaid : Prop := wireDeepRow.holds Tryd.pinned (OpenSpec.ofChange wireDeepSpec)

/-- ITS FALSE NEIGHBOUR: 'it returns false'. Refute it at one input. -/
def wireDeepWrong : ChangeSpec := { name := "wireDeep", fn := fun _ => fun
  | [d1, d2] => { results := [.lit (.bool false)], args := [d1, d2] }
  | _ => none }
def WireDeepWrongFalsely : Prop := wireDeepRow.holds Tryd.pinned (OpenSpec.ofChange wireDeepWrong)

/-- 'parleylaw1.WireTexts': WHATEVER THE INPUT: true; the input reads as it did. -/
def wireTextsSpec : ChangeSpec := { name := "wireTexts", fn := fun _ => fun
  | [d1, d2] => { results := [.lit (.bool true)], args := [d1, d2] }
  | _ => none }
def wireTextsRow : OpenClaim := { program := "ytclnmajjkchfmaadoor", sum := "51c968132951cc683a51ebd2b72e1a8ed4eac411da809b4a9dcde629d595f2ff", func := "parley/parleylaw1.WireTexts", spec := "wireTexts", unfollowed := true, recurses := true, named := ["parley/api.ErrLong", "parley/api.ErrEnd", "parley/api.ErrNumber", "parley/api.ErrGroup", "parley/api.ErrDeep", "parley/api.ErrTag", "unicode/utf8.first", "unicode/utf8.acceptRanges"], apart := false, laid := [("unicode/utf8.acceptRanges", laid_unicode_utf8_acceptRanges), ("parley/api.ErrEnd", laid_parley_api_ErrEnd), ("parley/api.ErrLong", laid_parley_api_ErrLong), ("parley/api.ErrTag", laid_parley_api_ErrTag), ("parley/api.ErrGroup", laid_parley_api_ErrGroup), ("parley/api.ErrDeep", laid_parley_api_ErrDeep), ("parley/api.ErrNumber", laid_parley_api_ErrNumber), ("unicode/utf8.first", laid_unicode_utf8_first)] }
def WireTextsSaid : Prop := wireTextsRow.holds Tryd.pinned (OpenSpec.ofChange wireTextsSpec)

/-- ITS FALSE NEIGHBOUR: 'it returns false'. Refute it at one input. -/
def wireTextsWrong : ChangeSpec := { name := "wireTexts", fn := fun _ => fun
  | [d1, d2] => { results := [.lit (.bool false)], args := [d1, d2] }
  | _ => none }
def WireTextsWrongFalsely : Prop := wireTextsRow.holds Tryd.pinned (OpenSpec.ofChange wireTextsWrong)

/-- 'parleylaw1.WireOwn': WHATEVER THE INPUT: true; the input reads as it did. -/
def wireOwnSpec : ChangeSpec := { name := "wireOwn", fn := fun _ => fun
  | [d1, d2] => { results := [.lit (.bool true)], args := [d1, d2] }
  | _ => none }
def wireOwnRow : OpenClaim := { program := "ytclnmajjkchfmaadoor", sum := "51c968132951cc683a51ebd2b72e1a8ed4eac411da809b4a9dcde629d595f2ff", func := "parley/parleylaw1.WireOwn", spec := "wireOwn", unfollowed := true, recurses := true, named := ["parley/api.ErrLong", "parley/api.ErrEnd", "parley/api.ErrNumber", "parley/api.ErrGroup", "parley/api.ErrDeep", "parley/api.ErrTag"], apart := false, laid := [("parley/api.ErrEnd", laid_parley_api_ErrEnd), ("parley/api.ErrLong", laid_parley_api_ErrLong), ("parley/api.ErrTag", laid_parley_api_ErrTag), ("parley/api.ErrGroup", laid_parley_api_ErrGroup), ("parley/api.ErrDeep", laid_parley_api_ErrDeep), ("parley/api.ErrNumber", laid_parley_api_ErrNumber)] }
def WireOwnSaid : Prop := wireOwnRow.holds Tryd.pinned (OpenSpec.ofChange wireOwnSpec)

/-- ITS FALSE NEIGHBOUR: 'it returns false'. Refute it at one input. -/
def wireOwnWrong : ChangeSpec := { name := "wireOwn", fn := fun _ => fun
  | [d1, d2] => { results := [.lit (.bool false)], args := [d1, d2] }
  | _ => none }
def WireOwnWrongFalsely : Prop := wireOwnRow.holds Tryd.pinned (OpenSpec.ofChange wireOwnWrong)

/- THE SECOND FORM. 'bulk': how many values and letters a reading holds, each counted each time it is reached (what is shared counts as often as it is met; a slice's spare places count too). A statement '..UptoSaid' is the law's where the arguments, and the package variables that the reading takes, are together of bulk at most 1048576: NARROWER than '..Said'. Prove '..Said' where nothing that the law and all that it calls make is longer than what came in: it says more and counts as full. Else prove '..UptoSaid'. A law counts once. -/
mutual
def uptoBulk {H : Type} : DataW H → Nat
  | .lit (.string bytes) => bytes.length + 1
  | .lit _ => 1
  | .nil => 1
  | .ptr d => uptoBulk d + 1
  | .slice elems spare => uptoBulkAll elems + uptoBulkAll spare + 1
  | .agg parts => uptoBulkAll parts + 1
  | .iface _ d => uptoBulk d + 1
  | .map entries => uptoBulkEntries entries + 1
  | .held _ => 1
def uptoBulkAll {H : Type} : List (DataW H) → Nat
  | [] => 0
  | d :: r => uptoBulk d + uptoBulkAll r
def uptoBulkEntries {H : Type} : List (Lit × DataW H) → Nat
  | [] => 0
  | x :: r => uptoBulkEntry x + uptoBulkEntries r
def uptoBulkEntry {H : Type} : Lit × DataW H → Nat
  | (.string bytes, d) => bytes.length + uptoBulk d + 1
  | (_, d) => uptoBulk d + 1
 end
def uptoSmall : (H : Type) → List (DataW H) → Bool := fun _ ds => decide (uptoBulkAll ds ≤ 1048576)
def OpenSpec.upto (s : _root_.Go.ChangeSpec) : _root_.Go.OpenSpec := { _root_.Go.OpenSpec.ofChange s with cond := some uptoSmall }

/-- 'parleylaw1.WireNumbers', WHERE WHAT IT READS IS OF BULK AT MOST 1048576: true; the input reads as it did. -/
def wireNumbersUptoRow : OpenClaim := { program := "ytclnmajjkchfmaadoor", sum := "51c968132951cc683a51ebd2b72e1a8ed4eac411da809b4a9dcde629d595f2ff", func := "parley/parleylaw1.WireNumbers", spec := "wireNumbers", unfollowed := true, recurses := true, named := ["parley/api.ErrLong", "parley/api.ErrEnd", "parley/api.ErrNumber", "parley/api.ErrGroup", "parley/api.ErrDeep", "parley/api.ErrTag", "parley/api.ErrUTF8", "parley/api.ErrHuff", "parley/api.ErrIndex", "parley/api.ErrTable", "parley/api.ErrList", "parley/api.ErrFrame", "parley/api.ErrHead", "parley/api.ErrWindow", "parley/api.ErrRole", "parley/api.ErrGone", "parley/api.ErrMany", "parley/api.ErrStream", "parley/api.ErrToken", "parley/api.ErrSyntax", "parley/api.ErrName", "parley/api.ErrTwice", "parley/api.ErrType", "parley/api.ErrCircle", "parley/api.ErrFile", "parley/api.ErrValue", "parley/api.ErrField", "parley/api.ErrJSON", "parley/api.ErrStatus", "parley/api.ErrScript"], apart := false, laid := [("parley/api.ErrEnd", laid_parley_api_ErrEnd), ("parley/api.ErrLong", laid_parley_api_ErrLong), ("parley/api.ErrTag", laid_parley_api_ErrTag), ("parley/api.ErrGroup", laid_parley_api_ErrGroup), ("parley/api.ErrDeep", laid_parley_api_ErrDeep), ("parley/api.ErrUTF8", laid_parley_api_ErrUTF8), ("parley/api.ErrHuff", laid_parley_api_ErrHuff), ("parley/api.ErrIndex", laid_parley_api_ErrIndex), ("parley/api.ErrTable", laid_parley_api_ErrTable), ("parley/api.ErrList", laid_parley_api_ErrList), ("parley/api.ErrFrame", laid_parley_api_ErrFrame), ("parley/api.ErrHead", laid_parley_api_ErrHead), ("parley/api.ErrWindow", laid_parley_api_ErrWindow), ("parley/api.ErrRole", laid_parley_api_ErrRole), ("parley/api.ErrGone", laid_parley_api_ErrGone), ("parley/api.ErrMany", laid_parley_api_ErrMany), ("parley/api.ErrStream", laid_parley_api_ErrStream), ("parley/api.ErrToken", laid_parley_api_ErrToken), ("parley/api.ErrSyntax", laid_parley_api_ErrSyntax), ("parley/api.ErrNumber", laid_parley_api_ErrNumber), ("parley/api.ErrName", laid_parley_api_ErrName), ("parley/api.ErrTwice", laid_parley_api_ErrTwice), ("parley/api.ErrType", laid_parley_api_ErrType), ("parley/api.ErrCircle", laid_parley_api_ErrCircle), ("parley/api.ErrFile", laid_parley_api_ErrFile), ("parley/api.ErrValue", laid_parley_api_ErrValue), ("parley/api.ErrField", laid_parley_api_ErrField), ("parley/api.ErrJSON", laid_parley_api_ErrJSON), ("parley/api.ErrStatus", laid_parley_api_ErrStatus), ("parley/api.ErrScript", laid_parley_api_ErrScript)], narrowed := true }
def WireNumbersUptoSaid : Prop := wireNumbersUptoRow.holds Tryd.pinned (OpenSpec.upto wireNumbersSpec)

/-- 'parleylaw1.WireNext', WHERE WHAT IT READS IS OF BULK AT MOST 1048576: true; the input reads as it did. -/
def wireNextUptoRow : OpenClaim := { program := "ytclnmajjkchfmaadoor", sum := "51c968132951cc683a51ebd2b72e1a8ed4eac411da809b4a9dcde629d595f2ff", func := "parley/parleylaw1.WireNext", spec := "wireNext", unfollowed := true, recurses := true, named := ["parley/api.ErrLong", "parley/api.ErrEnd", "parley/api.ErrNumber", "parley/api.ErrGroup", "parley/api.ErrDeep", "parley/api.ErrTag", "parley/api.ErrUTF8", "parley/api.ErrHuff", "parley/api.ErrIndex", "parley/api.ErrTable", "parley/api.ErrList", "parley/api.ErrFrame", "parley/api.ErrHead", "parley/api.ErrWindow", "parley/api.ErrRole", "parley/api.ErrGone", "parley/api.ErrMany", "parley/api.ErrStream", "parley/api.ErrToken", "parley/api.ErrSyntax", "parley/api.ErrName", "parley/api.ErrTwice", "parley/api.ErrType", "parley/api.ErrCircle", "parley/api.ErrFile", "parley/api.ErrValue", "parley/api.ErrField", "parley/api.ErrJSON", "parley/api.ErrStatus", "parley/api.ErrScript", "unicode/utf8.first", "unicode/utf8.acceptRanges"], apart := false, laid := [("unicode/utf8.acceptRanges", laid_unicode_utf8_acceptRanges), ("parley/api.ErrEnd", laid_parley_api_ErrEnd), ("parley/api.ErrLong", laid_parley_api_ErrLong), ("parley/api.ErrTag", laid_parley_api_ErrTag), ("parley/api.ErrGroup", laid_parley_api_ErrGroup), ("parley/api.ErrDeep", laid_parley_api_ErrDeep), ("parley/api.ErrUTF8", laid_parley_api_ErrUTF8), ("parley/api.ErrHuff", laid_parley_api_ErrHuff), ("parley/api.ErrIndex", laid_parley_api_ErrIndex), ("parley/api.ErrTable", laid_parley_api_ErrTable), ("parley/api.ErrList", laid_parley_api_ErrList), ("parley/api.ErrFrame", laid_parley_api_ErrFrame), ("parley/api.ErrHead", laid_parley_api_ErrHead), ("parley/api.ErrWindow", laid_parley_api_ErrWindow), ("parley/api.ErrRole", laid_parley_api_ErrRole), ("parley/api.ErrGone", laid_parley_api_ErrGone), ("parley/api.ErrMany", laid_parley_api_ErrMany), ("parley/api.ErrStream", laid_parley_api_ErrStream), ("parley/api.ErrToken", laid_parley_api_ErrToken), ("parley/api.ErrSyntax", laid_parley_api_ErrSyntax), ("parley/api.ErrNumber", laid_parley_api_ErrNumber), ("parley/api.ErrName", laid_parley_api_ErrName), ("parley/api.ErrTwice", laid_parley_api_ErrTwice), ("parley/api.ErrType", laid_parley_api_ErrType), ("parley/api.ErrCircle", laid_parley_api_ErrCircle), ("parley/api.ErrFile", laid_parley_api_ErrFile), ("parley/api.ErrValue", laid_parley_api_ErrValue), ("parley/api.ErrField", laid_parley_api_ErrField), ("parley/api.ErrJSON", laid_parley_api_ErrJSON), ("parley/api.ErrStatus", laid_parley_api_ErrStatus), ("parley/api.ErrScript", laid_parley_api_ErrScript), ("unicode/utf8.first", laid_unicode_utf8_first)], narrowed := true }
def WireNextUptoSaid : Prop := wireNextUptoRow.holds Tryd.pinned (OpenSpec.upto wireNextSpec)

/-- 'parleylaw1.WirePut', WHERE WHAT IT READS IS OF BULK AT MOST 1048576: true; the input reads as it did. -/
def wirePutUptoRow : OpenClaim := { program := "ytclnmajjkchfmaadoor", sum := "51c968132951cc683a51ebd2b72e1a8ed4eac411da809b4a9dcde629d595f2ff", func := "parley/parleylaw1.WirePut", spec := "wirePut", unfollowed := true, recurses := true, named := ["parley/api.ErrLong", "parley/api.ErrEnd", "parley/api.ErrNumber", "parley/api.ErrGroup", "parley/api.ErrDeep", "parley/api.ErrTag", "parley/api.ErrUTF8", "parley/api.ErrHuff", "parley/api.ErrIndex", "parley/api.ErrTable", "parley/api.ErrList", "parley/api.ErrFrame", "parley/api.ErrHead", "parley/api.ErrWindow", "parley/api.ErrRole", "parley/api.ErrGone", "parley/api.ErrMany", "parley/api.ErrStream", "parley/api.ErrToken", "parley/api.ErrSyntax", "parley/api.ErrName", "parley/api.ErrTwice", "parley/api.ErrType", "parley/api.ErrCircle", "parley/api.ErrFile", "parley/api.ErrValue", "parley/api.ErrField", "parley/api.ErrJSON", "parley/api.ErrStatus", "parley/api.ErrScript"], apart := false, laid := [("parley/api.ErrEnd", laid_parley_api_ErrEnd), ("parley/api.ErrLong", laid_parley_api_ErrLong), ("parley/api.ErrTag", laid_parley_api_ErrTag), ("parley/api.ErrGroup", laid_parley_api_ErrGroup), ("parley/api.ErrDeep", laid_parley_api_ErrDeep), ("parley/api.ErrUTF8", laid_parley_api_ErrUTF8), ("parley/api.ErrHuff", laid_parley_api_ErrHuff), ("parley/api.ErrIndex", laid_parley_api_ErrIndex), ("parley/api.ErrTable", laid_parley_api_ErrTable), ("parley/api.ErrList", laid_parley_api_ErrList), ("parley/api.ErrFrame", laid_parley_api_ErrFrame), ("parley/api.ErrHead", laid_parley_api_ErrHead), ("parley/api.ErrWindow", laid_parley_api_ErrWindow), ("parley/api.ErrRole", laid_parley_api_ErrRole), ("parley/api.ErrGone", laid_parley_api_ErrGone), ("parley/api.ErrMany", laid_parley_api_ErrMany), ("parley/api.ErrStream", laid_parley_api_ErrStream), ("parley/api.ErrToken", laid_parley_api_ErrToken), ("parley/api.ErrSyntax", laid_parley_api_ErrSyntax), ("parley/api.ErrNumber", laid_parley_api_ErrNumber), ("parley/api.ErrName", laid_parley_api_ErrName), ("parley/api.ErrTwice", laid_parley_api_ErrTwice), ("parley/api.ErrType", laid_parley_api_ErrType), ("parley/api.ErrCircle", laid_parley_api_ErrCircle), ("parley/api.ErrFile", laid_parley_api_ErrFile), ("parley/api.ErrValue", laid_parley_api_ErrValue), ("parley/api.ErrField", laid_parley_api_ErrField), ("parley/api.ErrJSON", laid_parley_api_ErrJSON), ("parley/api.ErrStatus", laid_parley_api_ErrStatus), ("parley/api.ErrScript", laid_parley_api_ErrScript)], narrowed := true }
def WirePutUptoSaid : Prop := wirePutUptoRow.holds Tryd.pinned (OpenSpec.upto wirePutSpec)

/-- 'parleylaw1.WireRecords', WHERE WHAT IT READS IS OF BULK AT MOST 1048576: true; the input reads as it did. -/
def wireRecordsUptoRow : OpenClaim := { program := "ytclnmajjkchfmaadoor", sum := "51c968132951cc683a51ebd2b72e1a8ed4eac411da809b4a9dcde629d595f2ff", func := "parley/parleylaw1.WireRecords", spec := "wireRecords", unfollowed := true, recurses := true, named := ["parley/api.ErrLong", "parley/api.ErrEnd", "parley/api.ErrNumber", "parley/api.ErrGroup", "parley/api.ErrDeep", "parley/api.ErrTag"], apart := false, laid := [("parley/api.ErrEnd", laid_parley_api_ErrEnd), ("parley/api.ErrLong", laid_parley_api_ErrLong), ("parley/api.ErrTag", laid_parley_api_ErrTag), ("parley/api.ErrGroup", laid_parley_api_ErrGroup), ("parley/api.ErrDeep", laid_parley_api_ErrDeep), ("parley/api.ErrNumber", laid_parley_api_ErrNumber)], narrowed := true }
def WireRecordsUptoSaid : Prop := wireRecordsUptoRow.holds Tryd.pinned (OpenSpec.upto wireRecordsSpec)

/-- 'parleylaw1.WireBack', WHERE WHAT IT READS IS OF BULK AT MOST 1048576: true; the input reads as it did. -/
def wireBackUptoRow : OpenClaim := { program := "ytclnmajjkchfmaadoor", sum := "51c968132951cc683a51ebd2b72e1a8ed4eac411da809b4a9dcde629d595f2ff", func := "parley/parleylaw1.WireBack", spec := "wireBack", unfollowed := true, recurses := true, named := ["parley/api.ErrLong", "parley/api.ErrEnd", "parley/api.ErrNumber", "parley/api.ErrGroup", "parley/api.ErrDeep", "parley/api.ErrTag"], apart := false, laid := [("parley/api.ErrEnd", laid_parley_api_ErrEnd), ("parley/api.ErrLong", laid_parley_api_ErrLong), ("parley/api.ErrTag", laid_parley_api_ErrTag), ("parley/api.ErrGroup", laid_parley_api_ErrGroup), ("parley/api.ErrDeep", laid_parley_api_ErrDeep), ("parley/api.ErrNumber", laid_parley_api_ErrNumber)], narrowed := true }
def WireBackUptoSaid : Prop := wireBackUptoRow.holds Tryd.pinned (OpenSpec.upto wireBackSpec)

/-- 'parleylaw1.WireAgain', WHERE WHAT IT READS IS OF BULK AT MOST 1048576: true; the input reads as it did. -/
def wireAgainUptoRow : OpenClaim := { program := "ytclnmajjkchfmaadoor", sum := "51c968132951cc683a51ebd2b72e1a8ed4eac411da809b4a9dcde629d595f2ff", func := "parley/parleylaw1.WireAgain", spec := "wireAgain", unfollowed := true, recurses := true, named := ["parley/api.ErrLong", "parley/api.ErrEnd", "parley/api.ErrNumber", "parley/api.ErrGroup", "parley/api.ErrDeep", "parley/api.ErrTag"], apart := false, laid := [("parley/api.ErrEnd", laid_parley_api_ErrEnd), ("parley/api.ErrLong", laid_parley_api_ErrLong), ("parley/api.ErrTag", laid_parley_api_ErrTag), ("parley/api.ErrGroup", laid_parley_api_ErrGroup), ("parley/api.ErrDeep", laid_parley_api_ErrDeep), ("parley/api.ErrNumber", laid_parley_api_ErrNumber)], narrowed := true }
def WireAgainUptoSaid : Prop := wireAgainUptoRow.holds Tryd.pinned (OpenSpec.upto wireAgainSpec)

/-- 'parleylaw1.WireDeep', WHERE WHAT IT READS IS OF BULK AT MOST 1048576: true; the input reads as it did. -/
def wireDeepUptoRow : OpenClaim := { program := "ytclnmajjkchfmaadoor", sum := "51c968132951cc683a51ebd2b72e1a8ed4eac411da809b4a9dcde629d595f2ff", func := "parley/parleylaw1.WireDeep", spec := "wireDeep", unfollowed := true, recurses := true, named := ["parley/api.ErrLong", "parley/api.ErrEnd", "parley/api.ErrNumber", "parley/api.ErrGroup", "parley/api.ErrDeep", "parley/api.ErrTag"], apart := false, laid := [("parley/api.ErrEnd", laid_parley_api_ErrEnd), ("parley/api.ErrLong", laid_parley_api_ErrLong), ("parley/api.ErrTag", laid_parley_api_ErrTag), ("parley/api.ErrGroup", laid_parley_api_ErrGroup), ("parley/api.ErrDeep", laid_parley_api_ErrDeep), ("parley/api.ErrNumber", laid_parley_api_ErrNumber)], narrowed := true }
def WireDeepUptoSaid : Prop := wireDeepUptoRow.holds Tryd.pinned (OpenSpec.upto wireDeepSpec)

/-- 'parleylaw1.WireTexts', WHERE WHAT IT READS IS OF BULK AT MOST 1048576: true; the input reads as it did. -/
def wireTextsUptoRow : OpenClaim := { program := "ytclnmajjkchfmaadoor", sum := "51c968132951cc683a51ebd2b72e1a8ed4eac411da809b4a9dcde629d595f2ff", func := "parley/parleylaw1.WireTexts", spec := "wireTexts", unfollowed := true, recurses := true, named := ["parley/api.ErrLong", "parley/api.ErrEnd", "parley/api.ErrNumber", "parley/api.ErrGroup", "parley/api.ErrDeep", "parley/api.ErrTag", "unicode/utf8.first", "unicode/utf8.acceptRanges"], apart := false, laid := [("unicode/utf8.acceptRanges", laid_unicode_utf8_acceptRanges), ("parley/api.ErrEnd", laid_parley_api_ErrEnd), ("parley/api.ErrLong", laid_parley_api_ErrLong), ("parley/api.ErrTag", laid_parley_api_ErrTag), ("parley/api.ErrGroup", laid_parley_api_ErrGroup), ("parley/api.ErrDeep", laid_parley_api_ErrDeep), ("parley/api.ErrNumber", laid_parley_api_ErrNumber), ("unicode/utf8.first", laid_unicode_utf8_first)], narrowed := true }
def WireTextsUptoSaid : Prop := wireTextsUptoRow.holds Tryd.pinned (OpenSpec.upto wireTextsSpec)

/-- 'parleylaw1.WireOwn', WHERE WHAT IT READS IS OF BULK AT MOST 1048576: true; the input reads as it did. -/
def wireOwnUptoRow : OpenClaim := { program := "ytclnmajjkchfmaadoor", sum := "51c968132951cc683a51ebd2b72e1a8ed4eac411da809b4a9dcde629d595f2ff", func := "parley/parleylaw1.WireOwn", spec := "wireOwn", unfollowed := true, recurses := true, named := ["parley/api.ErrLong", "parley/api.ErrEnd", "parley/api.ErrNumber", "parley/api.ErrGroup", "parley/api.ErrDeep", "parley/api.ErrTag"], apart := false, laid := [("parley/api.ErrEnd", laid_parley_api_ErrEnd), ("parley/api.ErrLong", laid_parley_api_ErrLong), ("parley/api.ErrTag", laid_parley_api_ErrTag), ("parley/api.ErrGroup", laid_parley_api_ErrGroup), ("parley/api.ErrDeep", laid_parley_api_ErrDeep), ("parley/api.ErrNumber", laid_parley_api_ErrNumber)], narrowed := true }
def WireOwnUptoSaid : Prop := wireOwnUptoRow.holds Tryd.pinned (OpenSpec.upto wireOwnSpec)

end Rows
end Go.Proofs.YtclnmajjkchfmaaDoor
