/-
  DERIVED. GIVEN WITH THE SEED: THE CARDS: each row of YtdkmnblfmmmfkaaDoorRows.lean that lists a variable, with what it lists TIED to the program's text (the seventh form; the later family's looks); each row that meets fmt, with fmt's text TOLD by the authors' own Lean function (tested against real Go, not proved from fmt's source: count such statements apart). THE CARD IS WHAT COUNTS. Prove the row's statement (the work); the ties are given (YtdkmnblfmmmfkaaDoorTie.lean); close each card by the builder's one call (the guide's Derived/Test/ToyasCard.lean, 'card_holds'). Laid BY PROGRAM, IN A SANDBOX (cutbox-door.mjs). By AI agents, Wed Nov 11 2026. No macro, syntax, notation, axiom, sorry.
-/
import Derived.Test.YtdkmnblfmmmfkaaDoorRows
import GoSem.ClaimSeven
namespace Go.Proofs.YtdkmnblfmmmfkaaDoor
namespace Rows

/-- THE TIED CARD OF 'parleylaw2.HuffCodes'. -/
def huffCodesCard : Claim7 := { stood := { row := huffCodesRow, standIns := [], harness := (true, "e0134f29c7181feced82555b8e31ea5fb54129e9d82be4c5f358a8a7c46cde07"), looks := true }, kinds := [], alts := [], laidByText := true, laidKinds := [.sentinel], laidTests := true, laidLooks := .later }
def HuffCodesCardSaid : Prop := Claim7.holds Tryd.pinned (.plain (OpenSpec.ofChange huffCodesSpec)) huffCodesCard

/-- THE TIED CARD OF 'parleylaw2.HuffEncodes'. -/
def huffEncodesCard : Claim7 := { stood := { row := huffEncodesRow, standIns := [], harness := (true, "e0134f29c7181feced82555b8e31ea5fb54129e9d82be4c5f358a8a7c46cde07"), looks := true }, kinds := [], alts := [], laidByText := true, laidKinds := [.sentinel], laidTests := true, laidLooks := .later }
def HuffEncodesCardSaid : Prop := Claim7.holds Tryd.pinned (.plain (OpenSpec.ofChange huffEncodesSpec)) huffEncodesCard

/-- THE TIED CARD OF 'parleylaw2.HuffDecodes'. -/
def huffDecodesCard : Claim7 := { stood := { row := huffDecodesRow, standIns := [], harness := (true, "e0134f29c7181feced82555b8e31ea5fb54129e9d82be4c5f358a8a7c46cde07"), looks := true }, kinds := [], alts := [], laidByText := true, laidKinds := [.sentinel, .sentinel, .sentinel, .sentinel, .sentinel, .sentinel, .sentinel, .sentinel, .sentinel, .sentinel, .sentinel, .sentinel, .sentinel, .sentinel, .sentinel, .sentinel, .sentinel, .sentinel, .sentinel, .sentinel, .sentinel, .sentinel, .sentinel, .sentinel, .sentinel, .sentinel, .sentinel, .sentinel, .sentinel, .sentinel], laidTests := true, laidLooks := .later }
def HuffDecodesCardSaid : Prop := Claim7.holds Tryd.pinned (.plain (OpenSpec.ofChange huffDecodesSpec)) huffDecodesCard

/-- THE TIED CARD OF 'parleylaw2.HuffBack'. -/
def huffBackCard : Claim7 := { stood := { row := huffBackRow, standIns := [], harness := (true, "e0134f29c7181feced82555b8e31ea5fb54129e9d82be4c5f358a8a7c46cde07"), looks := true }, kinds := [], alts := [], laidByText := true, laidKinds := [.sentinel], laidTests := true, laidLooks := .later }
def HuffBackCardSaid : Prop := Claim7.holds Tryd.pinned (.plain (OpenSpec.ofChange huffBackSpec)) huffBackCard

/-- THE TIED CARD OF 'parleylaw2.HuffApart'. -/
def huffApartCard : Claim7 := { stood := { row := huffApartRow, standIns := [], harness := (true, "e0134f29c7181feced82555b8e31ea5fb54129e9d82be4c5f358a8a7c46cde07"), looks := true }, kinds := [], alts := [], laidByText := true, laidKinds := [.sentinel], laidTests := true, laidLooks := .later }
def HuffApartCardSaid : Prop := Claim7.holds Tryd.pinned (.plain (OpenSpec.ofChange huffApartSpec)) huffApartCard

/-- THE TIED CARD OF 'parleylaw2.HuffTogether'. -/
def huffTogetherCard : Claim7 := { stood := { row := huffTogetherRow, standIns := [], harness := (true, "e0134f29c7181feced82555b8e31ea5fb54129e9d82be4c5f358a8a7c46cde07"), looks := true }, kinds := [], alts := [], laidByText := true, laidKinds := [.sentinel], laidTests := true, laidLooks := .later }
def HuffTogetherCardSaid : Prop := Claim7.holds Tryd.pinned (.plain (OpenSpec.ofChange huffTogetherSpec)) huffTogetherCard

/-- THE SECOND FORM's CARD OF 'parleylaw2.HuffCodes'. -/
def huffCodesUptoCard : Claim7 := { stood := { row := huffCodesUptoRow, standIns := [], harness := (true, "e0134f29c7181feced82555b8e31ea5fb54129e9d82be4c5f358a8a7c46cde07"), looks := true }, kinds := [], alts := [], laidByText := true, laidKinds := [.sentinel], laidTests := true, laidLooks := .later }
def HuffCodesUptoCardSaid : Prop := Claim7.holds Tryd.pinned (.plain (OpenSpec.upto huffCodesSpec)) huffCodesUptoCard

/-- THE SECOND FORM's CARD OF 'parleylaw2.HuffEncodes'. -/
def huffEncodesUptoCard : Claim7 := { stood := { row := huffEncodesUptoRow, standIns := [], harness := (true, "e0134f29c7181feced82555b8e31ea5fb54129e9d82be4c5f358a8a7c46cde07"), looks := true }, kinds := [], alts := [], laidByText := true, laidKinds := [.sentinel], laidTests := true, laidLooks := .later }
def HuffEncodesUptoCardSaid : Prop := Claim7.holds Tryd.pinned (.plain (OpenSpec.upto huffEncodesSpec)) huffEncodesUptoCard

/-- THE SECOND FORM's CARD OF 'parleylaw2.HuffDecodes'. -/
def huffDecodesUptoCard : Claim7 := { stood := { row := huffDecodesUptoRow, standIns := [], harness := (true, "e0134f29c7181feced82555b8e31ea5fb54129e9d82be4c5f358a8a7c46cde07"), looks := true }, kinds := [], alts := [], laidByText := true, laidKinds := [.sentinel, .sentinel, .sentinel, .sentinel, .sentinel, .sentinel, .sentinel, .sentinel, .sentinel, .sentinel, .sentinel, .sentinel, .sentinel, .sentinel, .sentinel, .sentinel, .sentinel, .sentinel, .sentinel, .sentinel, .sentinel, .sentinel, .sentinel, .sentinel, .sentinel, .sentinel, .sentinel, .sentinel, .sentinel, .sentinel], laidTests := true, laidLooks := .later }
def HuffDecodesUptoCardSaid : Prop := Claim7.holds Tryd.pinned (.plain (OpenSpec.upto huffDecodesSpec)) huffDecodesUptoCard

/-- THE SECOND FORM's CARD OF 'parleylaw2.HuffBack'. -/
def huffBackUptoCard : Claim7 := { stood := { row := huffBackUptoRow, standIns := [], harness := (true, "e0134f29c7181feced82555b8e31ea5fb54129e9d82be4c5f358a8a7c46cde07"), looks := true }, kinds := [], alts := [], laidByText := true, laidKinds := [.sentinel], laidTests := true, laidLooks := .later }
def HuffBackUptoCardSaid : Prop := Claim7.holds Tryd.pinned (.plain (OpenSpec.upto huffBackSpec)) huffBackUptoCard

/-- THE SECOND FORM's CARD OF 'parleylaw2.HuffApart'. -/
def huffApartUptoCard : Claim7 := { stood := { row := huffApartUptoRow, standIns := [], harness := (true, "e0134f29c7181feced82555b8e31ea5fb54129e9d82be4c5f358a8a7c46cde07"), looks := true }, kinds := [], alts := [], laidByText := true, laidKinds := [.sentinel], laidTests := true, laidLooks := .later }
def HuffApartUptoCardSaid : Prop := Claim7.holds Tryd.pinned (.plain (OpenSpec.upto huffApartSpec)) huffApartUptoCard

/-- THE SECOND FORM's CARD OF 'parleylaw2.HuffTogether'. -/
def huffTogetherUptoCard : Claim7 := { stood := { row := huffTogetherUptoRow, standIns := [], harness := (true, "e0134f29c7181feced82555b8e31ea5fb54129e9d82be4c5f358a8a7c46cde07"), looks := true }, kinds := [], alts := [], laidByText := true, laidKinds := [.sentinel], laidTests := true, laidLooks := .later }
def HuffTogetherUptoCardSaid : Prop := Claim7.holds Tryd.pinned (.plain (OpenSpec.upto huffTogetherSpec)) huffTogetherUptoCard
end Rows
end Go.Proofs.YtdkmnblfmmmfkaaDoor
