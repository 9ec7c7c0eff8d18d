/-
  NARROWER THAN 'FOR EVERY INPUT', by the rows' own cells (each row's printed sentence says how): HeadOpens: laid · HeadBuilds: laid · HeadBack: laid · HeadLess: laid · HeadMore: laid.
  DERIVED. THE GIVEN ROWS OF THIS SEAT. 5 by the template 'for every input the law returns true; each argument reads behind the call as it read before'; 0 by the template 'total and deterministic' (their statements: YtgoglfahlfkbiaaDoorTotals.lean).
  GIVEN WITH THE SEED: the statements are not yours to turn. If you find one false, say at which input.
  Laid BY PROGRAM, IN A SANDBOX (cutbox-rows.mjs): the forced cells as the released guide's own fill.sh prints them over the translation 3a561fc3e4fb3ac4… (all of the seat's roots in one cut). By AI agents, Wed Nov 11 2026. No macro, syntax, notation, axiom, sorry.
-/
import Derived.Test.YtgoglfahlfkbiaaDoorChecked
import GoSem.PinnedTables
import GoSem.Claim
import GoSem.ClaimJoined
import GoSem.ClaimMapViews
import Derived.JoinedTies
import Derived.KernelRfl
namespace Go.Proofs.YtgoglfahlfkbiaaDoor
/- THE CELL 'sum', in the pinned program and in every row, IS THE sha256 OF THE DUMP (.gsa) THAT YtgoglfahlfkbiaaDoorProg.lean LOADS. Nothing in Lean hashes anything: it is a label: what it is worth is what the hold of that sum in a sandbox is worth. -/
noncomputable def Tryd.pinned : Pinned := { name := "ytgoglfahlfkbiaadoor", sum := "3a561fc3e4fb3ac47d70fe58f2b7815fede735c3a4c2e20d9b4f343eec598889", checked := Tryd.checked }
namespace Rows
def none {H : Type} : Left H := { results := [], args := [] }

/- WHAT THE LISTED PACKAGE-LEVEL VARIABLES READ AS WHEN THE CALL BEGINS. Each datum BY PROGRAM (the guide's laid-datum.mjs) off the statement by which the dump's own 'gosem.cut.vars' lays the variable. In a bare row this is a premise. The card (YtgoglfahlfkbiaaDoorCards.lean) ties it to the program's text. -/
def laid_unicode_utf8_acceptRanges {H : Type} : DataW H := .agg [.agg [.lit (.int .u8 128), .lit (.int .u8 191)], .agg [.lit (.int .u8 160), .lit (.int .u8 191)], .agg [.lit (.int .u8 128), .lit (.int .u8 159)], .agg [.lit (.int .u8 144), .lit (.int .u8 191)], .agg [.lit (.int .u8 128), .lit (.int .u8 143)], .agg [.lit (.int .u8 0), .lit (.int .u8 0)], .agg [.lit (.int .u8 0), .lit (.int .u8 0)], .agg [.lit (.int .u8 0), .lit (.int .u8 0)], .agg [.lit (.int .u8 0), .lit (.int .u8 0)], .agg [.lit (.int .u8 0), .lit (.int .u8 0)], .agg [.lit (.int .u8 0), .lit (.int .u8 0)], .agg [.lit (.int .u8 0), .lit (.int .u8 0)], .agg [.lit (.int .u8 0), .lit (.int .u8 0)], .agg [.lit (.int .u8 0), .lit (.int .u8 0)], .agg [.lit (.int .u8 0), .lit (.int .u8 0)], .agg [.lit (.int .u8 0), .lit (.int .u8 0)]]
def laid_parley_api_ErrEnd {H : Type} : DataW H := .iface "*errors.errorString" (.ptr (.agg [.lit (.string [105, 116, 32, 101, 110, 100, 115, 32, 116, 111, 111, 32, 101, 97, 114, 108, 121])]))
def laid_parley_api_ErrLong {H : Type} : DataW H := .iface "*errors.errorString" (.ptr (.agg [.lit (.string [116, 111, 111, 32, 108, 111, 110, 103])]))
def laid_parley_api_ErrTag {H : Type} : DataW H := .iface "*errors.errorString" (.ptr (.agg [.lit (.string [110, 111, 32, 116, 97, 103])]))
def laid_parley_api_ErrGroup {H : Type} : DataW H := .iface "*errors.errorString" (.ptr (.agg [.lit (.string [110, 111, 32, 115, 117, 99, 104, 32, 103, 114, 111, 117, 112])]))
def laid_parley_api_ErrDeep {H : Type} : DataW H := .iface "*errors.errorString" (.ptr (.agg [.lit (.string [116, 111, 111, 32, 100, 101, 101, 112])]))
def laid_parley_api_ErrUTF8 {H : Type} : DataW H := .iface "*errors.errorString" (.ptr (.agg [.lit (.string [110, 111, 32, 116, 101, 120, 116])]))
def laid_parley_api_ErrHuff {H : Type} : DataW H := .iface "*errors.errorString" (.ptr (.agg [.lit (.string [110, 111, 32, 72, 117, 102, 102, 109, 97, 110, 32, 99, 111, 100, 101])]))
def laid_parley_api_ErrIndex {H : Type} : DataW H := .iface "*errors.errorString" (.ptr (.agg [.lit (.string [116, 104, 101, 114, 101, 32, 105, 115, 32, 110, 111, 110, 101])]))
def laid_parley_api_ErrTable {H : Type} : DataW H := .iface "*errors.errorString" (.ptr (.agg [.lit (.string [116, 104, 101, 32, 116, 97, 98, 108, 101, 32, 109, 97, 121, 32, 110, 111, 116, 32, 98, 101, 32, 115, 111, 32, 108, 97, 114, 103, 101])]))
def laid_parley_api_ErrList {H : Type} : DataW H := .iface "*errors.errorString" (.ptr (.agg [.lit (.string [116, 104, 101, 32, 108, 105, 115, 116, 32, 105, 115, 32, 116, 111, 111, 32, 108, 97, 114, 103, 101])]))
def laid_parley_api_ErrFrame {H : Type} : DataW H := .iface "*errors.errorString" (.ptr (.agg [.lit (.string [110, 111, 32, 102, 114, 97, 109, 101])]))
def laid_parley_api_ErrHead {H : Type} : DataW H := .iface "*errors.errorString" (.ptr (.agg [.lit (.string [110, 111, 32, 104, 101, 97, 100, 101, 114, 32, 108, 105, 115, 116, 32, 111, 102, 32, 116, 104, 97, 116, 32, 107, 105, 110, 100])]))
def laid_parley_api_ErrWindow {H : Type} : DataW H := .iface "*errors.errorString" (.ptr (.agg [.lit (.string [116, 104, 101, 32, 119, 105, 110, 100, 111, 119, 32, 105, 115, 32, 112, 97, 115, 115, 101, 100])]))
def laid_parley_api_ErrRole {H : Type} : DataW H := .iface "*errors.errorString" (.ptr (.agg [.lit (.string [116, 104, 101, 32, 111, 116, 104, 101, 114, 32, 115, 105, 100, 101, 32, 100, 111, 101, 115, 32, 116, 104, 97, 116])]))
def laid_parley_api_ErrGone {H : Type} : DataW H := .iface "*errors.errorString" (.ptr (.agg [.lit (.string [116, 104, 101, 32, 99, 111, 110, 110, 101, 99, 116, 105, 111, 110, 32, 116, 97, 107, 101, 115, 32, 110, 111, 32, 109, 111, 114, 101])]))
def laid_parley_api_ErrMany {H : Type} : DataW H := .iface "*errors.errorString" (.ptr (.agg [.lit (.string [116, 111, 111, 32, 109, 97, 110, 121])]))
def laid_parley_api_ErrStream {H : Type} : DataW H := .iface "*errors.errorString" (.ptr (.agg [.lit (.string [116, 104, 101, 32, 115, 116, 114, 101, 97, 109, 32, 105, 115, 32, 110, 111, 116, 32, 116, 104, 101, 114, 101, 32, 102, 111, 114, 32, 116, 104, 97, 116])]))
def laid_parley_api_ErrToken {H : Type} : DataW H := .iface "*errors.errorString" (.ptr (.agg [.lit (.string [110, 111, 32, 116, 111, 107, 101, 110])]))
def laid_parley_api_ErrSyntax {H : Type} : DataW H := .iface "*errors.errorString" (.ptr (.agg [.lit (.string [105, 116, 32, 100, 111, 101, 115, 32, 110, 111, 116, 32, 99, 111, 109, 101, 32, 104, 101, 114, 101])]))
def laid_parley_api_ErrNumber {H : Type} : DataW H := .iface "*errors.errorString" (.ptr (.agg [.lit (.string [110, 111, 32, 115, 117, 99, 104, 32, 110, 117, 109, 98, 101, 114])]))
def laid_parley_api_ErrName {H : Type} : DataW H := .iface "*errors.errorString" (.ptr (.agg [.lit (.string [110, 111, 32, 115, 117, 99, 104, 32, 110, 97, 109, 101])]))
def laid_parley_api_ErrTwice {H : Type} : DataW H := .iface "*errors.errorString" (.ptr (.agg [.lit (.string [105, 116, 32, 105, 115, 32, 116, 104, 101, 114, 101, 32, 97, 108, 114, 101, 97, 100, 121])]))
def laid_parley_api_ErrType {H : Type} : DataW H := .iface "*errors.errorString" (.ptr (.agg [.lit (.string [110, 111, 32, 115, 117, 99, 104, 32, 116, 121, 112, 101])]))
def laid_parley_api_ErrCircle {H : Type} : DataW H := .iface "*errors.errorString" (.ptr (.agg [.lit (.string [105, 116, 32, 108, 101, 97, 100, 115, 32, 98, 97, 99, 107, 32, 116, 111, 32, 105, 116, 115, 101, 108, 102])]))
def laid_parley_api_ErrFile {H : Type} : DataW H := .iface "*errors.errorString" (.ptr (.agg [.lit (.string [110, 111, 32, 115, 117, 99, 104, 32, 102, 105, 108, 101])]))
def laid_parley_api_ErrValue {H : Type} : DataW H := .iface "*errors.errorString" (.ptr (.agg [.lit (.string [110, 111, 32, 118, 97, 108, 117, 101, 32, 111, 102, 32, 116, 104, 97, 116, 32, 116, 121, 112, 101])]))
def laid_parley_api_ErrField {H : Type} : DataW H := .iface "*errors.errorString" (.ptr (.agg [.lit (.string [110, 111, 32, 115, 117, 99, 104, 32, 102, 105, 101, 108, 100])]))
def laid_parley_api_ErrJSON {H : Type} : DataW H := .iface "*errors.errorString" (.ptr (.agg [.lit (.string [110, 111, 32, 74, 83, 79, 78])]))
def laid_parley_api_ErrStatus {H : Type} : DataW H := .iface "*errors.errorString" (.ptr (.agg [.lit (.string [110, 111, 32, 115, 116, 97, 116, 117, 115])]))
def laid_parley_api_ErrScript {H : Type} : DataW H := .iface "*errors.errorString" (.ptr (.agg [.lit (.string [110, 111, 32, 115, 116, 101, 112])]))
/-- One of Go's own tables, pinned by name: the form's constant. -/
def laid_unicode_utf8_first : DataW Unit := Go.Pinned.utf8First
def laid_math_bits_deBruijn32tab {H : Type} : DataW H := .agg [.lit (.int .u8 0), .lit (.int .u8 1), .lit (.int .u8 28), .lit (.int .u8 2), .lit (.int .u8 29), .lit (.int .u8 14), .lit (.int .u8 24), .lit (.int .u8 3), .lit (.int .u8 30), .lit (.int .u8 22), .lit (.int .u8 20), .lit (.int .u8 15), .lit (.int .u8 25), .lit (.int .u8 17), .lit (.int .u8 4), .lit (.int .u8 8), .lit (.int .u8 31), .lit (.int .u8 27), .lit (.int .u8 13), .lit (.int .u8 23), .lit (.int .u8 21), .lit (.int .u8 19), .lit (.int .u8 16), .lit (.int .u8 7), .lit (.int .u8 26), .lit (.int .u8 12), .lit (.int .u8 18), .lit (.int .u8 6), .lit (.int .u8 11), .lit (.int .u8 5), .lit (.int .u8 10), .lit (.int .u8 9)]
def laid_math_bits_deBruijn64tab {H : Type} : DataW H := .agg [.lit (.int .u8 0), .lit (.int .u8 1), .lit (.int .u8 56), .lit (.int .u8 2), .lit (.int .u8 57), .lit (.int .u8 49), .lit (.int .u8 28), .lit (.int .u8 3), .lit (.int .u8 61), .lit (.int .u8 58), .lit (.int .u8 42), .lit (.int .u8 50), .lit (.int .u8 38), .lit (.int .u8 29), .lit (.int .u8 17), .lit (.int .u8 4), .lit (.int .u8 62), .lit (.int .u8 47), .lit (.int .u8 59), .lit (.int .u8 36), .lit (.int .u8 45), .lit (.int .u8 43), .lit (.int .u8 51), .lit (.int .u8 22), .lit (.int .u8 53), .lit (.int .u8 39), .lit (.int .u8 33), .lit (.int .u8 30), .lit (.int .u8 24), .lit (.int .u8 18), .lit (.int .u8 12), .lit (.int .u8 5), .lit (.int .u8 63), .lit (.int .u8 55), .lit (.int .u8 48), .lit (.int .u8 27), .lit (.int .u8 60), .lit (.int .u8 41), .lit (.int .u8 37), .lit (.int .u8 16), .lit (.int .u8 46), .lit (.int .u8 35), .lit (.int .u8 44), .lit (.int .u8 21), .lit (.int .u8 52), .lit (.int .u8 32), .lit (.int .u8 23), .lit (.int .u8 11), .lit (.int .u8 54), .lit (.int .u8 26), .lit (.int .u8 40), .lit (.int .u8 15), .lit (.int .u8 34), .lit (.int .u8 20), .lit (.int .u8 31), .lit (.int .u8 10), .lit (.int .u8 25), .lit (.int .u8 14), .lit (.int .u8 19), .lit (.int .u8 9), .lit (.int .u8 13), .lit (.int .u8 8), .lit (.int .u8 7), .lit (.int .u8 6)]
def laid_internal_strconv_uint64pow10 {H : Type} : DataW H := .agg [.lit (.int .u64 1), .lit (.int .u64 10), .lit (.int .u64 100), .lit (.int .u64 1000), .lit (.int .u64 10000), .lit (.int .u64 100000), .lit (.int .u64 1000000), .lit (.int .u64 10000000), .lit (.int .u64 100000000), .lit (.int .u64 1000000000), .lit (.int .u64 10000000000), .lit (.int .u64 100000000000), .lit (.int .u64 1000000000000), .lit (.int .u64 10000000000000), .lit (.int .u64 100000000000000), .lit (.int .u64 1000000000000000), .lit (.int .u64 10000000000000000), .lit (.int .u64 100000000000000000), .lit (.int .u64 1000000000000000000), .lit (.int .u64 10000000000000000000)]

/-- 'parleylaw6.HeadOpens': WHATEVER THE INPUT: true; the input reads as it did. -/
def headOpensSpec : ChangeSpec := { name := "headOpens", fn := fun _ => fun
  | [d1, d2, d3] => { results := [.lit (.bool true)], args := [d1, d2, d3] }
  | _ => none }
def headOpensRow : OpenClaim := { program := "ytgoglfahlfkbiaadoor", sum := "3a561fc3e4fb3ac47d70fe58f2b7815fede735c3a4c2e20d9b4f343eec598889", func := "parley/parleylaw6.HeadOpens", spec := "headOpens", inPlace := ["internal/bytealg.IndexByteString", "internal/bytealg.IndexString"], unfollowed := true, recurses := true, named := ["parley/api.ErrHead", "unicode/utf8.first", "unicode/utf8.acceptRanges", "parley/api.ErrEnd", "parley/api.ErrLong", "parley/api.ErrTag", "parley/api.ErrGroup", "parley/api.ErrDeep", "parley/api.ErrUTF8", "parley/api.ErrHuff", "parley/api.ErrIndex", "parley/api.ErrTable", "parley/api.ErrList", "parley/api.ErrFrame", "parley/api.ErrWindow", "parley/api.ErrRole", "parley/api.ErrGone", "parley/api.ErrMany", "parley/api.ErrStream", "parley/api.ErrToken", "parley/api.ErrSyntax", "parley/api.ErrNumber", "parley/api.ErrName", "parley/api.ErrTwice", "parley/api.ErrType", "parley/api.ErrCircle", "parley/api.ErrFile", "parley/api.ErrValue", "parley/api.ErrField", "parley/api.ErrJSON", "parley/api.ErrStatus", "parley/api.ErrScript", "internal/bytealg.MaxLen"], apart := false, laid := [("unicode/utf8.acceptRanges", laid_unicode_utf8_acceptRanges), ("parley/api.ErrEnd", laid_parley_api_ErrEnd), ("parley/api.ErrLong", laid_parley_api_ErrLong), ("parley/api.ErrTag", laid_parley_api_ErrTag), ("parley/api.ErrGroup", laid_parley_api_ErrGroup), ("parley/api.ErrDeep", laid_parley_api_ErrDeep), ("parley/api.ErrUTF8", laid_parley_api_ErrUTF8), ("parley/api.ErrHuff", laid_parley_api_ErrHuff), ("parley/api.ErrIndex", laid_parley_api_ErrIndex), ("parley/api.ErrTable", laid_parley_api_ErrTable), ("parley/api.ErrList", laid_parley_api_ErrList), ("parley/api.ErrFrame", laid_parley_api_ErrFrame), ("parley/api.ErrHead", laid_parley_api_ErrHead), ("parley/api.ErrWindow", laid_parley_api_ErrWindow), ("parley/api.ErrRole", laid_parley_api_ErrRole), ("parley/api.ErrGone", laid_parley_api_ErrGone), ("parley/api.ErrMany", laid_parley_api_ErrMany), ("parley/api.ErrStream", laid_parley_api_ErrStream), ("parley/api.ErrToken", laid_parley_api_ErrToken), ("parley/api.ErrSyntax", laid_parley_api_ErrSyntax), ("parley/api.ErrNumber", laid_parley_api_ErrNumber), ("parley/api.ErrName", laid_parley_api_ErrName), ("parley/api.ErrTwice", laid_parley_api_ErrTwice), ("parley/api.ErrType", laid_parley_api_ErrType), ("parley/api.ErrCircle", laid_parley_api_ErrCircle), ("parley/api.ErrFile", laid_parley_api_ErrFile), ("parley/api.ErrValue", laid_parley_api_ErrValue), ("parley/api.ErrField", laid_parley_api_ErrField), ("parley/api.ErrJSON", laid_parley_api_ErrJSON), ("parley/api.ErrStatus", laid_parley_api_ErrStatus), ("parley/api.ErrScript", laid_parley_api_ErrScript), ("unicode/utf8.first", laid_unicode_utf8_first)] }
def HeadOpensSaid : Prop := headOpensRow.holds Tryd.pinned (OpenSpec.ofChange headOpensSpec)

/-- ITS FALSE NEIGHBOUR: 'it returns false'. Refute it at one input. -/
def headOpensWrong : ChangeSpec := { name := "headOpens", fn := fun _ => fun
  | [d1, d2, d3] => { results := [.lit (.bool false)], args := [d1, d2, d3] }
  | _ => none }
def HeadOpensWrongFalsely : Prop := headOpensRow.holds Tryd.pinned (OpenSpec.ofChange headOpensWrong)

/-- 'parleylaw6.HeadBuilds': WHATEVER THE INPUT: true; the input reads as it did. -/
def headBuildsSpec : ChangeSpec := { name := "headBuilds", fn := fun _ => fun
  | [d1, d2] => { results := [.lit (.bool true)], args := [d1, d2] }
  | _ => none }
def headBuildsRow : OpenClaim := { program := "ytgoglfahlfkbiaadoor", sum := "3a561fc3e4fb3ac47d70fe58f2b7815fede735c3a4c2e20d9b4f343eec598889", func := "parley/parleylaw6.HeadBuilds", spec := "headBuilds", inPlace := ["internal/bytealg.IndexByteString", "internal/bytealg.IndexString"], unfollowed := true, recurses := true, named := ["parley/api.ErrHead", "unicode/utf8.first", "unicode/utf8.acceptRanges", "internal/strconv.uint64pow10", "math/bits.deBruijn32tab", "math/bits.deBruijn64tab", "parley/api.ErrEnd", "parley/api.ErrLong", "parley/api.ErrTag", "parley/api.ErrGroup", "parley/api.ErrDeep", "parley/api.ErrUTF8", "parley/api.ErrHuff", "parley/api.ErrIndex", "parley/api.ErrTable", "parley/api.ErrList", "parley/api.ErrFrame", "parley/api.ErrWindow", "parley/api.ErrRole", "parley/api.ErrGone", "parley/api.ErrMany", "parley/api.ErrStream", "parley/api.ErrToken", "parley/api.ErrSyntax", "parley/api.ErrNumber", "parley/api.ErrName", "parley/api.ErrTwice", "parley/api.ErrType", "parley/api.ErrCircle", "parley/api.ErrFile", "parley/api.ErrValue", "parley/api.ErrField", "parley/api.ErrJSON", "parley/api.ErrStatus", "parley/api.ErrScript", "internal/bytealg.MaxLen"], apart := false, laid := [("math/bits.deBruijn32tab", laid_math_bits_deBruijn32tab), ("math/bits.deBruijn64tab", laid_math_bits_deBruijn64tab), ("internal/strconv.uint64pow10", laid_internal_strconv_uint64pow10), ("unicode/utf8.acceptRanges", laid_unicode_utf8_acceptRanges), ("parley/api.ErrEnd", laid_parley_api_ErrEnd), ("parley/api.ErrLong", laid_parley_api_ErrLong), ("parley/api.ErrTag", laid_parley_api_ErrTag), ("parley/api.ErrGroup", laid_parley_api_ErrGroup), ("parley/api.ErrDeep", laid_parley_api_ErrDeep), ("parley/api.ErrUTF8", laid_parley_api_ErrUTF8), ("parley/api.ErrHuff", laid_parley_api_ErrHuff), ("parley/api.ErrIndex", laid_parley_api_ErrIndex), ("parley/api.ErrTable", laid_parley_api_ErrTable), ("parley/api.ErrList", laid_parley_api_ErrList), ("parley/api.ErrFrame", laid_parley_api_ErrFrame), ("parley/api.ErrHead", laid_parley_api_ErrHead), ("parley/api.ErrWindow", laid_parley_api_ErrWindow), ("parley/api.ErrRole", laid_parley_api_ErrRole), ("parley/api.ErrGone", laid_parley_api_ErrGone), ("parley/api.ErrMany", laid_parley_api_ErrMany), ("parley/api.ErrStream", laid_parley_api_ErrStream), ("parley/api.ErrToken", laid_parley_api_ErrToken), ("parley/api.ErrSyntax", laid_parley_api_ErrSyntax), ("parley/api.ErrNumber", laid_parley_api_ErrNumber), ("parley/api.ErrName", laid_parley_api_ErrName), ("parley/api.ErrTwice", laid_parley_api_ErrTwice), ("parley/api.ErrType", laid_parley_api_ErrType), ("parley/api.ErrCircle", laid_parley_api_ErrCircle), ("parley/api.ErrFile", laid_parley_api_ErrFile), ("parley/api.ErrValue", laid_parley_api_ErrValue), ("parley/api.ErrField", laid_parley_api_ErrField), ("parley/api.ErrJSON", laid_parley_api_ErrJSON), ("parley/api.ErrStatus", laid_parley_api_ErrStatus), ("parley/api.ErrScript", laid_parley_api_ErrScript), ("unicode/utf8.first", laid_unicode_utf8_first)] }
def HeadBuildsSaid : Prop := headBuildsRow.holds Tryd.pinned (OpenSpec.ofChange headBuildsSpec)

/-- ITS FALSE NEIGHBOUR: 'it returns false'. Refute it at one input. -/
def headBuildsWrong : ChangeSpec := { name := "headBuilds", fn := fun _ => fun
  | [d1, d2] => { results := [.lit (.bool false)], args := [d1, d2] }
  | _ => none }
def HeadBuildsWrongFalsely : Prop := headBuildsRow.holds Tryd.pinned (OpenSpec.ofChange headBuildsWrong)

/-- 'parleylaw6.HeadBack': WHATEVER THE INPUT: true; the input reads as it did. -/
def headBackSpec : ChangeSpec := { name := "headBack", fn := fun _ => fun
  | [d1, d2] => { results := [.lit (.bool true)], args := [d1, d2] }
  | _ => none }
def headBackRow : OpenClaim := { program := "ytgoglfahlfkbiaadoor", sum := "3a561fc3e4fb3ac47d70fe58f2b7815fede735c3a4c2e20d9b4f343eec598889", func := "parley/parleylaw6.HeadBack", spec := "headBack", inPlace := ["internal/bytealg.IndexByteString", "internal/bytealg.IndexString"], unfollowed := true, recurses := true, named := ["parley/api.ErrHead", "unicode/utf8.first", "unicode/utf8.acceptRanges", "internal/strconv.uint64pow10", "math/bits.deBruijn32tab", "math/bits.deBruijn64tab", "internal/bytealg.MaxLen"], apart := false, laid := [("math/bits.deBruijn32tab", laid_math_bits_deBruijn32tab), ("math/bits.deBruijn64tab", laid_math_bits_deBruijn64tab), ("internal/strconv.uint64pow10", laid_internal_strconv_uint64pow10), ("unicode/utf8.acceptRanges", laid_unicode_utf8_acceptRanges), ("parley/api.ErrHead", laid_parley_api_ErrHead), ("unicode/utf8.first", laid_unicode_utf8_first)] }
def HeadBackSaid : Prop := headBackRow.holds Tryd.pinned (OpenSpec.ofChange headBackSpec)

/-- ITS FALSE NEIGHBOUR: 'it returns false'. Refute it at one input. -/
def headBackWrong : ChangeSpec := { name := "headBack", fn := fun _ => fun
  | [d1, d2] => { results := [.lit (.bool false)], args := [d1, d2] }
  | _ => none }
def HeadBackWrongFalsely : Prop := headBackRow.holds Tryd.pinned (OpenSpec.ofChange headBackWrong)

/-- 'parleylaw6.HeadLess': WHATEVER THE INPUT: true; the input reads as it did. -/
def headLessSpec : ChangeSpec := { name := "headLess", fn := fun _ => fun
  | [d1, d2, d3] => { results := [.lit (.bool true)], args := [d1, d2, d3] }
  | _ => none }
def headLessRow : OpenClaim := { program := "ytgoglfahlfkbiaadoor", sum := "3a561fc3e4fb3ac47d70fe58f2b7815fede735c3a4c2e20d9b4f343eec598889", func := "parley/parleylaw6.HeadLess", spec := "headLess", inPlace := ["internal/bytealg.IndexByteString", "internal/bytealg.IndexString"], unfollowed := true, recurses := true, named := ["parley/api.ErrHead", "unicode/utf8.first", "unicode/utf8.acceptRanges", "internal/bytealg.MaxLen"], apart := false, laid := [("unicode/utf8.acceptRanges", laid_unicode_utf8_acceptRanges), ("parley/api.ErrHead", laid_parley_api_ErrHead), ("unicode/utf8.first", laid_unicode_utf8_first)] }
def HeadLessSaid : Prop := headLessRow.holds Tryd.pinned (OpenSpec.ofChange headLessSpec)

/-- ITS FALSE NEIGHBOUR: 'it returns false'. Refute it at one input. -/
def headLessWrong : ChangeSpec := { name := "headLess", fn := fun _ => fun
  | [d1, d2, d3] => { results := [.lit (.bool false)], args := [d1, d2, d3] }
  | _ => none }
def HeadLessWrongFalsely : Prop := headLessRow.holds Tryd.pinned (OpenSpec.ofChange headLessWrong)

/-- 'parleylaw6.HeadMore': WHATEVER THE INPUT: true; the input reads as it did. -/
def headMoreSpec : ChangeSpec := { name := "headMore", fn := fun _ => fun
  | [d1, d2] => { results := [.lit (.bool true)], args := [d1, d2] }
  | _ => none }
def headMoreRow : OpenClaim := { program := "ytgoglfahlfkbiaadoor", sum := "3a561fc3e4fb3ac47d70fe58f2b7815fede735c3a4c2e20d9b4f343eec598889", func := "parley/parleylaw6.HeadMore", spec := "headMore", inPlace := ["internal/bytealg.IndexByteString", "internal/bytealg.IndexString"], unfollowed := true, recurses := true, named := ["parley/api.ErrHead", "unicode/utf8.first", "unicode/utf8.acceptRanges", "internal/bytealg.MaxLen"], apart := false, laid := [("unicode/utf8.acceptRanges", laid_unicode_utf8_acceptRanges), ("parley/api.ErrHead", laid_parley_api_ErrHead), ("unicode/utf8.first", laid_unicode_utf8_first)] }
def HeadMoreSaid : Prop := headMoreRow.holds Tryd.pinned (OpenSpec.ofChange headMoreSpec)

/-- ITS FALSE NEIGHBOUR: 'it returns false'. Refute it at one input. -/
def headMoreWrong : ChangeSpec := { name := "headMore", fn := fun _ => fun
  | [d1, d2] => { results := [.lit (.bool false)], args := [d1, d2] }
  | _ => none }
def HeadMoreWrongFalsely : Prop := headMoreRow.holds Tryd.pinned (OpenSpec.ofChange headMoreWrong)

/- THE SECOND FORM. 'bulk': how many values and letters a reading holds, each counted each time it is reached (what is shared counts as often as it is met; a slice's spare places count too). A statement '..UptoSaid' is the law's where the arguments, and the package variables that the reading takes, are together of bulk at most 1048576: NARROWER than '..Said'. Prove '..Said' where nothing that the law and all that it calls make is longer than what came in: it says more and counts as full. Else prove '..UptoSaid'. A law counts once. -/
mutual
def uptoBulk {H : Type} : DataW H → Nat
  | .lit (.string bytes) => bytes.length + 1
  | .lit _ => 1
  | .nil => 1
  | .ptr d => uptoBulk d + 1
  | .slice elems spare => uptoBulkAll elems + uptoBulkAll spare + 1
  | .agg parts => uptoBulkAll parts + 1
  | .iface _ d => uptoBulk d + 1
  | .map entries => uptoBulkEntries entries + 1
  | .held _ => 1
def uptoBulkAll {H : Type} : List (DataW H) → Nat
  | [] => 0
  | d :: r => uptoBulk d + uptoBulkAll r
def uptoBulkEntries {H : Type} : List (Lit × DataW H) → Nat
  | [] => 0
  | x :: r => uptoBulkEntry x + uptoBulkEntries r
def uptoBulkEntry {H : Type} : Lit × DataW H → Nat
  | (.string bytes, d) => bytes.length + uptoBulk d + 1
  | (_, d) => uptoBulk d + 1
 end
def uptoSmall : (H : Type) → List (DataW H) → Bool := fun _ ds => decide (uptoBulkAll ds ≤ 1048576)
def OpenSpec.upto (s : _root_.Go.ChangeSpec) : _root_.Go.OpenSpec := { _root_.Go.OpenSpec.ofChange s with cond := some uptoSmall }

/-- 'parleylaw6.HeadOpens', WHERE WHAT IT READS IS OF BULK AT MOST 1048576: true; the input reads as it did. -/
def headOpensUptoRow : OpenClaim := { program := "ytgoglfahlfkbiaadoor", sum := "3a561fc3e4fb3ac47d70fe58f2b7815fede735c3a4c2e20d9b4f343eec598889", func := "parley/parleylaw6.HeadOpens", spec := "headOpens", inPlace := ["internal/bytealg.IndexByteString", "internal/bytealg.IndexString"], unfollowed := true, recurses := true, named := ["parley/api.ErrHead", "unicode/utf8.first", "unicode/utf8.acceptRanges", "parley/api.ErrEnd", "parley/api.ErrLong", "parley/api.ErrTag", "parley/api.ErrGroup", "parley/api.ErrDeep", "parley/api.ErrUTF8", "parley/api.ErrHuff", "parley/api.ErrIndex", "parley/api.ErrTable", "parley/api.ErrList", "parley/api.ErrFrame", "parley/api.ErrWindow", "parley/api.ErrRole", "parley/api.ErrGone", "parley/api.ErrMany", "parley/api.ErrStream", "parley/api.ErrToken", "parley/api.ErrSyntax", "parley/api.ErrNumber", "parley/api.ErrName", "parley/api.ErrTwice", "parley/api.ErrType", "parley/api.ErrCircle", "parley/api.ErrFile", "parley/api.ErrValue", "parley/api.ErrField", "parley/api.ErrJSON", "parley/api.ErrStatus", "parley/api.ErrScript", "internal/bytealg.MaxLen"], apart := false, laid := [("unicode/utf8.acceptRanges", laid_unicode_utf8_acceptRanges), ("parley/api.ErrEnd", laid_parley_api_ErrEnd), ("parley/api.ErrLong", laid_parley_api_ErrLong), ("parley/api.ErrTag", laid_parley_api_ErrTag), ("parley/api.ErrGroup", laid_parley_api_ErrGroup), ("parley/api.ErrDeep", laid_parley_api_ErrDeep), ("parley/api.ErrUTF8", laid_parley_api_ErrUTF8), ("parley/api.ErrHuff", laid_parley_api_ErrHuff), ("parley/api.ErrIndex", laid_parley_api_ErrIndex), ("parley/api.ErrTable", laid_parley_api_ErrTable), ("parley/api.ErrList", laid_parley_api_ErrList), ("parley/api.ErrFrame", laid_parley_api_ErrFrame), ("parley/api.ErrHead", laid_parley_api_ErrHead), ("parley/api.ErrWindow", laid_parley_api_ErrWindow), ("parley/api.ErrRole", laid_parley_api_ErrRole), ("parley/api.ErrGone", laid_parley_api_ErrGone), ("parley/api.ErrMany", laid_parley_api_ErrMany), ("parley/api.ErrStream", laid_parley_api_ErrStream), ("parley/api.ErrToken", laid_parley_api_ErrToken), ("parley/api.ErrSyntax", laid_parley_api_ErrSyntax), ("parley/api.ErrNumber", laid_parley_api_ErrNumber), ("parley/api.ErrName", laid_parley_api_ErrName), ("parley/api.ErrTwice", laid_parley_api_ErrTwice), ("parley/api.ErrType", laid_parley_api_ErrType), ("parley/api.ErrCircle", laid_parley_api_ErrCircle), ("parley/api.ErrFile", laid_parley_api_ErrFile), ("parley/api.ErrValue", laid_parley_api_ErrValue), ("parley/api.ErrField", laid_parley_api_ErrField), ("parley/api.ErrJSON", laid_parley_api_ErrJSON), ("parley/api.ErrStatus", laid_parley_api_ErrStatus), ("parley/api.ErrScript", laid_parley_api_ErrScript), ("unicode/utf8.first", laid_unicode_utf8_first)], narrowed := true }
def HeadOpensUptoSaid : Prop := headOpensUptoRow.holds Tryd.pinned (OpenSpec.upto headOpensSpec)

/-- 'parleylaw6.HeadBuilds', WHERE WHAT IT READS IS OF BULK AT MOST 1048576: true; the input reads as it did. -/
def headBuildsUptoRow : OpenClaim := { program := "ytgoglfahlfkbiaadoor", sum := "3a561fc3e4fb3ac47d70fe58f2b7815fede735c3a4c2e20d9b4f343eec598889", func := "parley/parleylaw6.HeadBuilds", spec := "headBuilds", inPlace := ["internal/bytealg.IndexByteString", "internal/bytealg.IndexString"], unfollowed := true, recurses := true, named := ["parley/api.ErrHead", "unicode/utf8.first", "unicode/utf8.acceptRanges", "internal/strconv.uint64pow10", "math/bits.deBruijn32tab", "math/bits.deBruijn64tab", "parley/api.ErrEnd", "parley/api.ErrLong", "parley/api.ErrTag", "parley/api.ErrGroup", "parley/api.ErrDeep", "parley/api.ErrUTF8", "parley/api.ErrHuff", "parley/api.ErrIndex", "parley/api.ErrTable", "parley/api.ErrList", "parley/api.ErrFrame", "parley/api.ErrWindow", "parley/api.ErrRole", "parley/api.ErrGone", "parley/api.ErrMany", "parley/api.ErrStream", "parley/api.ErrToken", "parley/api.ErrSyntax", "parley/api.ErrNumber", "parley/api.ErrName", "parley/api.ErrTwice", "parley/api.ErrType", "parley/api.ErrCircle", "parley/api.ErrFile", "parley/api.ErrValue", "parley/api.ErrField", "parley/api.ErrJSON", "parley/api.ErrStatus", "parley/api.ErrScript", "internal/bytealg.MaxLen"], apart := false, laid := [("math/bits.deBruijn32tab", laid_math_bits_deBruijn32tab), ("math/bits.deBruijn64tab", laid_math_bits_deBruijn64tab), ("internal/strconv.uint64pow10", laid_internal_strconv_uint64pow10), ("unicode/utf8.acceptRanges", laid_unicode_utf8_acceptRanges), ("parley/api.ErrEnd", laid_parley_api_ErrEnd), ("parley/api.ErrLong", laid_parley_api_ErrLong), ("parley/api.ErrTag", laid_parley_api_ErrTag), ("parley/api.ErrGroup", laid_parley_api_ErrGroup), ("parley/api.ErrDeep", laid_parley_api_ErrDeep), ("parley/api.ErrUTF8", laid_parley_api_ErrUTF8), ("parley/api.ErrHuff", laid_parley_api_ErrHuff), ("parley/api.ErrIndex", laid_parley_api_ErrIndex), ("parley/api.ErrTable", laid_parley_api_ErrTable), ("parley/api.ErrList", laid_parley_api_ErrList), ("parley/api.ErrFrame", laid_parley_api_ErrFrame), ("parley/api.ErrHead", laid_parley_api_ErrHead), ("parley/api.ErrWindow", laid_parley_api_ErrWindow), ("parley/api.ErrRole", laid_parley_api_ErrRole), ("parley/api.ErrGone", laid_parley_api_ErrGone), ("parley/api.ErrMany", laid_parley_api_ErrMany), ("parley/api.ErrStream", laid_parley_api_ErrStream), ("parley/api.ErrToken", laid_parley_api_ErrToken), ("parley/api.ErrSyntax", laid_parley_api_ErrSyntax), ("parley/api.ErrNumber", laid_parley_api_ErrNumber), ("parley/api.ErrName", laid_parley_api_ErrName), ("parley/api.ErrTwice", laid_parley_api_ErrTwice), ("parley/api.ErrType", laid_parley_api_ErrType), ("parley/api.ErrCircle", laid_parley_api_ErrCircle), ("parley/api.ErrFile", laid_parley_api_ErrFile), ("parley/api.ErrValue", laid_parley_api_ErrValue), ("parley/api.ErrField", laid_parley_api_ErrField), ("parley/api.ErrJSON", laid_parley_api_ErrJSON), ("parley/api.ErrStatus", laid_parley_api_ErrStatus), ("parley/api.ErrScript", laid_parley_api_ErrScript), ("unicode/utf8.first", laid_unicode_utf8_first)], narrowed := true }
def HeadBuildsUptoSaid : Prop := headBuildsUptoRow.holds Tryd.pinned (OpenSpec.upto headBuildsSpec)

/-- 'parleylaw6.HeadBack', WHERE WHAT IT READS IS OF BULK AT MOST 1048576: true; the input reads as it did. -/
def headBackUptoRow : OpenClaim := { program := "ytgoglfahlfkbiaadoor", sum := "3a561fc3e4fb3ac47d70fe58f2b7815fede735c3a4c2e20d9b4f343eec598889", func := "parley/parleylaw6.HeadBack", spec := "headBack", inPlace := ["internal/bytealg.IndexByteString", "internal/bytealg.IndexString"], unfollowed := true, recurses := true, named := ["parley/api.ErrHead", "unicode/utf8.first", "unicode/utf8.acceptRanges", "internal/strconv.uint64pow10", "math/bits.deBruijn32tab", "math/bits.deBruijn64tab", "internal/bytealg.MaxLen"], apart := false, laid := [("math/bits.deBruijn32tab", laid_math_bits_deBruijn32tab), ("math/bits.deBruijn64tab", laid_math_bits_deBruijn64tab), ("internal/strconv.uint64pow10", laid_internal_strconv_uint64pow10), ("unicode/utf8.acceptRanges", laid_unicode_utf8_acceptRanges), ("parley/api.ErrHead", laid_parley_api_ErrHead), ("unicode/utf8.first", laid_unicode_utf8_first)], narrowed := true }
def HeadBackUptoSaid : Prop := headBackUptoRow.holds Tryd.pinned (OpenSpec.upto headBackSpec)

/-- 'parleylaw6.HeadLess', WHERE WHAT IT READS IS OF BULK AT MOST 1048576: true; the input reads as it did. -/
def headLessUptoRow : OpenClaim := { program := "ytgoglfahlfkbiaadoor", sum := "3a561fc3e4fb3ac47d70fe58f2b7815fede735c3a4c2e20d9b4f343eec598889", func := "parley/parleylaw6.HeadLess", spec := "headLess", inPlace := ["internal/bytealg.IndexByteString", "internal/bytealg.IndexString"], unfollowed := true, recurses := true, named := ["parley/api.ErrHead", "unicode/utf8.first", "unicode/utf8.acceptRanges", "internal/bytealg.MaxLen"], apart := false, laid := [("unicode/utf8.acceptRanges", laid_unicode_utf8_acceptRanges), ("parley/api.ErrHead", laid_parley_api_ErrHead), ("unicode/utf8.first", laid_unicode_utf8_first)], narrowed := true }
def HeadLessUptoSaid : Prop := headLessUptoRow.holds Tryd.pinned (OpenSpec.upto headLessSpec)

/-- 'parleylaw6.HeadMore', WHERE WHAT IT READS IS OF BULK AT MOST 1048576: true; the input reads as it did. -/
def headMoreUptoRow : OpenClaim := { program := "ytgoglfahlfkbiaadoor", sum := "3a561fc3e4fb3ac47d70fe58f2b7815fede735c3a4c2e20d9b4f343eec598889", func := "parley/parleylaw6.HeadMore", spec := "headMore", inPlace := ["internal/bytealg.IndexByteString", "internal/bytealg.IndexString"], unfollowed := true, recurses := true, named := ["parley/api.ErrHead", "unicode/utf8.first", "unicode/utf8.acceptRanges", "internal/bytealg.MaxLen"], apart := false, laid := [("unicode/utf8.acceptRanges", laid_unicode_utf8_acceptRanges), ("parley/api.ErrHead", laid_parley_api_ErrHead), ("unicode/utf8.first", laid_unicode_utf8_first)], narrowed := true }
def HeadMoreUptoSaid : Prop := headMoreUptoRow.holds Tryd.pinned (OpenSpec.upto headMoreSpec)

end Rows
end Go.Proofs.YtgoglfahlfkbiaaDoor
