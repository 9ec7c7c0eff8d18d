/-
  DERIVED. GIVEN WITH THE SEED: THE CARDS: each row of YtbdpeioafelolaaDoorRows.lean that lists a variable, with what it lists TIED to the program's text (the seventh form; the later family's looks); each row that meets fmt, with fmt's text TOLD by the authors' own Lean function (tested against real Go, not proved from fmt's source: count such statements apart). THE CARD IS WHAT COUNTS. Prove the row's statement (the work); the ties are given (YtbdpeioafelolaaDoorTie.lean); close each card by the builder's one call (the guide's Derived/Test/ToyasCard.lean, 'card_holds'). Laid BY PROGRAM, IN A SANDBOX (cutbox-door.mjs). By AI agents, Wed Nov 11 2026. No macro, syntax, notation, axiom, sorry.
-/
import Derived.Test.YtbdpeioafelolaaDoorRows
import GoSem.ClaimSeven
namespace Go.Proofs.YtbdpeioafelolaaDoor
namespace Rows

/-- THE TIED CARD OF 'parleylaw3.TablePlays'. -/
def tablePlaysCard : Claim7 := { stood := { row := tablePlaysRow, standIns := [], harness := (true, "b3c8cb882b994c87de8c2475e925a209067910087cf0ef8d8b6c04fe989a05e8"), looks := true }, kinds := [], alts := [], laidByText := true, laidKinds := [.sentinel], laidTests := true, laidLooks := .later }
def TablePlaysCardSaid : Prop := Claim7.holds Tryd.pinned (.plain (OpenSpec.ofChange tablePlaysSpec)) tablePlaysCard

/-- THE TIED CARD OF 'parleylaw3.TableStatic'. -/
def tableStaticCard : Claim7 := { stood := { row := tableStaticRow, standIns := [], harness := (true, "b3c8cb882b994c87de8c2475e925a209067910087cf0ef8d8b6c04fe989a05e8"), looks := true }, kinds := [], alts := [], laidByText := true, laidKinds := [.sentinel], laidTests := true, laidLooks := .later }
def TableStaticCardSaid : Prop := Claim7.holds Tryd.pinned (.plain (OpenSpec.ofChange tableStaticSpec)) tableStaticCard

/-- THE TIED CARD OF 'parleylaw3.TableEach'. -/
def tableEachCard : Claim7 := { stood := { row := tableEachRow, standIns := [], harness := (true, "b3c8cb882b994c87de8c2475e925a209067910087cf0ef8d8b6c04fe989a05e8"), looks := true }, kinds := [], alts := [], laidByText := true, laidKinds := [.sentinel], laidTests := true, laidLooks := .later }
def TableEachCardSaid : Prop := Claim7.holds Tryd.pinned (.plain (OpenSpec.ofChange tableEachSpec)) tableEachCard

/-- THE TIED CARD OF 'parleylaw3.TableKeeps'. -/
def tableKeepsCard : Claim7 := { stood := { row := tableKeepsRow, standIns := [], harness := (true, "b3c8cb882b994c87de8c2475e925a209067910087cf0ef8d8b6c04fe989a05e8"), looks := true }, kinds := [], alts := [], laidByText := true, laidKinds := [.sentinel], laidTests := true, laidLooks := .later }
def TableKeepsCardSaid : Prop := Claim7.holds Tryd.pinned (.plain (OpenSpec.ofChange tableKeepsSpec)) tableKeepsCard

/-- THE TIED CARD OF 'parleylaw3.TableEmptied'. -/
def tableEmptiedCard : Claim7 := { stood := { row := tableEmptiedRow, standIns := [], harness := (true, "b3c8cb882b994c87de8c2475e925a209067910087cf0ef8d8b6c04fe989a05e8"), looks := true }, kinds := [], alts := [], laidByText := true, laidKinds := [.sentinel], laidTests := true, laidLooks := .later }
def TableEmptiedCardSaid : Prop := Claim7.holds Tryd.pinned (.plain (OpenSpec.ofChange tableEmptiedSpec)) tableEmptiedCard

/-- THE SECOND FORM's CARD OF 'parleylaw3.TablePlays'. -/
def tablePlaysUptoCard : Claim7 := { stood := { row := tablePlaysUptoRow, standIns := [], harness := (true, "b3c8cb882b994c87de8c2475e925a209067910087cf0ef8d8b6c04fe989a05e8"), looks := true }, kinds := [], alts := [], laidByText := true, laidKinds := [.sentinel], laidTests := true, laidLooks := .later }
def TablePlaysUptoCardSaid : Prop := Claim7.holds Tryd.pinned (.plain (OpenSpec.upto tablePlaysSpec)) tablePlaysUptoCard

/-- THE SECOND FORM's CARD OF 'parleylaw3.TableStatic'. -/
def tableStaticUptoCard : Claim7 := { stood := { row := tableStaticUptoRow, standIns := [], harness := (true, "b3c8cb882b994c87de8c2475e925a209067910087cf0ef8d8b6c04fe989a05e8"), looks := true }, kinds := [], alts := [], laidByText := true, laidKinds := [.sentinel], laidTests := true, laidLooks := .later }
def TableStaticUptoCardSaid : Prop := Claim7.holds Tryd.pinned (.plain (OpenSpec.upto tableStaticSpec)) tableStaticUptoCard

/-- THE SECOND FORM's CARD OF 'parleylaw3.TableEach'. -/
def tableEachUptoCard : Claim7 := { stood := { row := tableEachUptoRow, standIns := [], harness := (true, "b3c8cb882b994c87de8c2475e925a209067910087cf0ef8d8b6c04fe989a05e8"), looks := true }, kinds := [], alts := [], laidByText := true, laidKinds := [.sentinel], laidTests := true, laidLooks := .later }
def TableEachUptoCardSaid : Prop := Claim7.holds Tryd.pinned (.plain (OpenSpec.upto tableEachSpec)) tableEachUptoCard

/-- THE SECOND FORM's CARD OF 'parleylaw3.TableKeeps'. -/
def tableKeepsUptoCard : Claim7 := { stood := { row := tableKeepsUptoRow, standIns := [], harness := (true, "b3c8cb882b994c87de8c2475e925a209067910087cf0ef8d8b6c04fe989a05e8"), looks := true }, kinds := [], alts := [], laidByText := true, laidKinds := [.sentinel], laidTests := true, laidLooks := .later }
def TableKeepsUptoCardSaid : Prop := Claim7.holds Tryd.pinned (.plain (OpenSpec.upto tableKeepsSpec)) tableKeepsUptoCard

/-- THE SECOND FORM's CARD OF 'parleylaw3.TableEmptied'. -/
def tableEmptiedUptoCard : Claim7 := { stood := { row := tableEmptiedUptoRow, standIns := [], harness := (true, "b3c8cb882b994c87de8c2475e925a209067910087cf0ef8d8b6c04fe989a05e8"), looks := true }, kinds := [], alts := [], laidByText := true, laidKinds := [.sentinel], laidTests := true, laidLooks := .later }
def TableEmptiedUptoCardSaid : Prop := Claim7.holds Tryd.pinned (.plain (OpenSpec.upto tableEmptiedSpec)) tableEmptiedUptoCard
end Rows
end Go.Proofs.YtbdpeioafelolaaDoor
