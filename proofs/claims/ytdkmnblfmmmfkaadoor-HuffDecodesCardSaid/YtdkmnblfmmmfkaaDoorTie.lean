/-
  DERIVED. GIVEN WITH THE SEED: THE PROGRAM's TIES (one call each: nine closed facts by the kernel) AND EACH ROW's TIE, after the 31st guide's Derived/Test/Toyas{Tie, Card}.lean. No idea stands in it: it is a product of the set-up. Laid BY PROGRAM, IN A SANDBOX (cutbox-door.mjs). By AI agents, Wed Nov 11 2026. No macro, syntax, notation, axiom, sorry.
-/
import Derived.Test.YtdkmnblfmmmfkaaDoorRows
import Derived.LaidByTextLater
import Derived.SevenTiedAt
import Derived.LaidSub
import Derived.LaidOnce
namespace Go.Proofs.YtdkmnblfmmmfkaaDoor
open Go
set_option maxRecDepth 100000
theorem seatTie1 : Tryd.prog.laidByTextLater [("parley/api.ErrEnd", Rows.laid_parley_api_ErrEnd), ("parley/api.ErrLong", Rows.laid_parley_api_ErrLong), ("parley/api.ErrTag", Rows.laid_parley_api_ErrTag), ("parley/api.ErrGroup", Rows.laid_parley_api_ErrGroup), ("parley/api.ErrDeep", Rows.laid_parley_api_ErrDeep), ("parley/api.ErrUTF8", Rows.laid_parley_api_ErrUTF8), ("parley/api.ErrHuff", Rows.laid_parley_api_ErrHuff), ("parley/api.ErrIndex", Rows.laid_parley_api_ErrIndex), ("parley/api.ErrTable", Rows.laid_parley_api_ErrTable), ("parley/api.ErrList", Rows.laid_parley_api_ErrList), ("parley/api.ErrFrame", Rows.laid_parley_api_ErrFrame), ("parley/api.ErrHead", Rows.laid_parley_api_ErrHead), ("parley/api.ErrWindow", Rows.laid_parley_api_ErrWindow), ("parley/api.ErrRole", Rows.laid_parley_api_ErrRole), ("parley/api.ErrGone", Rows.laid_parley_api_ErrGone), ("parley/api.ErrMany", Rows.laid_parley_api_ErrMany), ("parley/api.ErrStream", Rows.laid_parley_api_ErrStream), ("parley/api.ErrToken", Rows.laid_parley_api_ErrToken), ("parley/api.ErrSyntax", Rows.laid_parley_api_ErrSyntax), ("parley/api.ErrNumber", Rows.laid_parley_api_ErrNumber), ("parley/api.ErrName", Rows.laid_parley_api_ErrName), ("parley/api.ErrTwice", Rows.laid_parley_api_ErrTwice), ("parley/api.ErrType", Rows.laid_parley_api_ErrType), ("parley/api.ErrCircle", Rows.laid_parley_api_ErrCircle), ("parley/api.ErrFile", Rows.laid_parley_api_ErrFile), ("parley/api.ErrValue", Rows.laid_parley_api_ErrValue), ("parley/api.ErrField", Rows.laid_parley_api_ErrField), ("parley/api.ErrJSON", Rows.laid_parley_api_ErrJSON), ("parley/api.ErrStatus", Rows.laid_parley_api_ErrStatus), ("parley/api.ErrScript", Rows.laid_parley_api_ErrScript)] [.sentinel, .sentinel, .sentinel, .sentinel, .sentinel, .sentinel, .sentinel, .sentinel, .sentinel, .sentinel, .sentinel, .sentinel, .sentinel, .sentinel, .sentinel, .sentinel, .sentinel, .sentinel, .sentinel, .sentinel, .sentinel, .sentinel, .sentinel, .sentinel, .sentinel, .sentinel, .sentinel, .sentinel, .sentinel, .sentinel] true :=
  Program.laidByTextLater_by_one 579 8 2 (by kernel_rfl) (by kernel_rfl) (by kernel_rfl) (by kernel_rfl) (by kernel_rfl) (by kernel_rfl) (fun _ _ => by kernel_rfl)
theorem noOwnUnsafe : Tryd.pinned.checked.prog.headLifts.contains "ownunsafe" = false := by kernel_rfl
theorem tie : Tryd.prog.laidByTextLater [("parley/api.ErrHuff", Rows.laid_parley_api_ErrHuff)] [.sentinel] true :=
  Program.laidByTextLater.sub seatTie1 ["parley/api.ErrHuff"] (by kernel_rfl) (by kernel_rfl)
theorem huffCodes_row_tie : Rows.huffCodesRow.laidByTextAt .later Tryd.pinned [.sentinel] true :=
  OpenClaim.laidByTextAt_later rfl rfl tie noOwnUnsafe
theorem huffEncodes_row_tie : Rows.huffEncodesRow.laidByTextAt .later Tryd.pinned [.sentinel] true :=
  OpenClaim.laidByTextAt_later rfl rfl tie noOwnUnsafe
theorem huffBack_row_tie : Rows.huffBackRow.laidByTextAt .later Tryd.pinned [.sentinel] true :=
  OpenClaim.laidByTextAt_later rfl rfl tie noOwnUnsafe
theorem huffApart_row_tie : Rows.huffApartRow.laidByTextAt .later Tryd.pinned [.sentinel] true :=
  OpenClaim.laidByTextAt_later rfl rfl tie noOwnUnsafe
theorem huffTogether_row_tie : Rows.huffTogetherRow.laidByTextAt .later Tryd.pinned [.sentinel] true :=
  OpenClaim.laidByTextAt_later rfl rfl tie noOwnUnsafe
theorem tie2 : Tryd.prog.laidByTextLater [("parley/api.ErrEnd", Rows.laid_parley_api_ErrEnd), ("parley/api.ErrLong", Rows.laid_parley_api_ErrLong), ("parley/api.ErrTag", Rows.laid_parley_api_ErrTag), ("parley/api.ErrGroup", Rows.laid_parley_api_ErrGroup), ("parley/api.ErrDeep", Rows.laid_parley_api_ErrDeep), ("parley/api.ErrUTF8", Rows.laid_parley_api_ErrUTF8), ("parley/api.ErrHuff", Rows.laid_parley_api_ErrHuff), ("parley/api.ErrIndex", Rows.laid_parley_api_ErrIndex), ("parley/api.ErrTable", Rows.laid_parley_api_ErrTable), ("parley/api.ErrList", Rows.laid_parley_api_ErrList), ("parley/api.ErrFrame", Rows.laid_parley_api_ErrFrame), ("parley/api.ErrHead", Rows.laid_parley_api_ErrHead), ("parley/api.ErrWindow", Rows.laid_parley_api_ErrWindow), ("parley/api.ErrRole", Rows.laid_parley_api_ErrRole), ("parley/api.ErrGone", Rows.laid_parley_api_ErrGone), ("parley/api.ErrMany", Rows.laid_parley_api_ErrMany), ("parley/api.ErrStream", Rows.laid_parley_api_ErrStream), ("parley/api.ErrToken", Rows.laid_parley_api_ErrToken), ("parley/api.ErrSyntax", Rows.laid_parley_api_ErrSyntax), ("parley/api.ErrNumber", Rows.laid_parley_api_ErrNumber), ("parley/api.ErrName", Rows.laid_parley_api_ErrName), ("parley/api.ErrTwice", Rows.laid_parley_api_ErrTwice), ("parley/api.ErrType", Rows.laid_parley_api_ErrType), ("parley/api.ErrCircle", Rows.laid_parley_api_ErrCircle), ("parley/api.ErrFile", Rows.laid_parley_api_ErrFile), ("parley/api.ErrValue", Rows.laid_parley_api_ErrValue), ("parley/api.ErrField", Rows.laid_parley_api_ErrField), ("parley/api.ErrJSON", Rows.laid_parley_api_ErrJSON), ("parley/api.ErrStatus", Rows.laid_parley_api_ErrStatus), ("parley/api.ErrScript", Rows.laid_parley_api_ErrScript)] [.sentinel, .sentinel, .sentinel, .sentinel, .sentinel, .sentinel, .sentinel, .sentinel, .sentinel, .sentinel, .sentinel, .sentinel, .sentinel, .sentinel, .sentinel, .sentinel, .sentinel, .sentinel, .sentinel, .sentinel, .sentinel, .sentinel, .sentinel, .sentinel, .sentinel, .sentinel, .sentinel, .sentinel, .sentinel, .sentinel] true :=
  Program.laidByTextLater.sub seatTie1 ["parley/api.ErrEnd", "parley/api.ErrLong", "parley/api.ErrTag", "parley/api.ErrGroup", "parley/api.ErrDeep", "parley/api.ErrUTF8", "parley/api.ErrHuff", "parley/api.ErrIndex", "parley/api.ErrTable", "parley/api.ErrList", "parley/api.ErrFrame", "parley/api.ErrHead", "parley/api.ErrWindow", "parley/api.ErrRole", "parley/api.ErrGone", "parley/api.ErrMany", "parley/api.ErrStream", "parley/api.ErrToken", "parley/api.ErrSyntax", "parley/api.ErrNumber", "parley/api.ErrName", "parley/api.ErrTwice", "parley/api.ErrType", "parley/api.ErrCircle", "parley/api.ErrFile", "parley/api.ErrValue", "parley/api.ErrField", "parley/api.ErrJSON", "parley/api.ErrStatus", "parley/api.ErrScript"] (by kernel_rfl) (by kernel_rfl)
theorem huffDecodes_row_tie : Rows.huffDecodesRow.laidByTextAt .later Tryd.pinned [.sentinel, .sentinel, .sentinel, .sentinel, .sentinel, .sentinel, .sentinel, .sentinel, .sentinel, .sentinel, .sentinel, .sentinel, .sentinel, .sentinel, .sentinel, .sentinel, .sentinel, .sentinel, .sentinel, .sentinel, .sentinel, .sentinel, .sentinel, .sentinel, .sentinel, .sentinel, .sentinel, .sentinel, .sentinel, .sentinel] true :=
  OpenClaim.laidByTextAt_later rfl rfl tie2 noOwnUnsafe
theorem huffCodesUpto_row_tie : Rows.huffCodesUptoRow.laidByTextAt .later Tryd.pinned [.sentinel] true :=
  OpenClaim.laidByTextAt_later rfl rfl tie noOwnUnsafe
theorem huffEncodesUpto_row_tie : Rows.huffEncodesUptoRow.laidByTextAt .later Tryd.pinned [.sentinel] true :=
  OpenClaim.laidByTextAt_later rfl rfl tie noOwnUnsafe
theorem huffDecodesUpto_row_tie : Rows.huffDecodesUptoRow.laidByTextAt .later Tryd.pinned [.sentinel, .sentinel, .sentinel, .sentinel, .sentinel, .sentinel, .sentinel, .sentinel, .sentinel, .sentinel, .sentinel, .sentinel, .sentinel, .sentinel, .sentinel, .sentinel, .sentinel, .sentinel, .sentinel, .sentinel, .sentinel, .sentinel, .sentinel, .sentinel, .sentinel, .sentinel, .sentinel, .sentinel, .sentinel, .sentinel] true :=
  OpenClaim.laidByTextAt_later rfl rfl tie2 noOwnUnsafe
theorem huffBackUpto_row_tie : Rows.huffBackUptoRow.laidByTextAt .later Tryd.pinned [.sentinel] true :=
  OpenClaim.laidByTextAt_later rfl rfl tie noOwnUnsafe
theorem huffApartUpto_row_tie : Rows.huffApartUptoRow.laidByTextAt .later Tryd.pinned [.sentinel] true :=
  OpenClaim.laidByTextAt_later rfl rfl tie noOwnUnsafe
theorem huffTogetherUpto_row_tie : Rows.huffTogetherUptoRow.laidByTextAt .later Tryd.pinned [.sentinel] true :=
  OpenClaim.laidByTextAt_later rfl rfl tie noOwnUnsafe
end Go.Proofs.YtdkmnblfmmmfkaaDoor
