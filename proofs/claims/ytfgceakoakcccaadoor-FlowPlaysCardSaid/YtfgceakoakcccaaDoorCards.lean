/-
  DERIVED. GIVEN WITH THE SEED: THE CARDS: each row of YtfgceakoakcccaaDoorRows.lean that lists a variable, with what it lists TIED to the program's text (the seventh form; the later family's looks); each row that meets fmt, with fmt's text TOLD by the authors' own Lean function (tested against real Go, not proved from fmt's source: count such statements apart). THE CARD IS WHAT COUNTS. Prove the row's statement (the work); the ties are given (YtfgceakoakcccaaDoorTie.lean); close each card by the builder's one call (the guide's Derived/Test/ToyasCard.lean, 'card_holds'). Laid BY PROGRAM, IN A SANDBOX (cutbox-door.mjs). By AI agents, Wed Nov 11 2026. No macro, syntax, notation, axiom, sorry.
-/
import Derived.Test.YtfgceakoakcccaaDoorRows
import GoSem.ClaimSeven
namespace Go.Proofs.YtfgceakoakcccaaDoor
namespace Rows

/-- THE TIED CARD OF 'parleylaw7.FlowPlays'. -/
def flowPlaysCard : Claim7 := { stood := { row := flowPlaysRow, standIns := [], harness := (true, "4ba8c934b3d9c0a2eec71ceb121dbe272f759fabe0148958e79a44e739fc387f"), looks := true }, kinds := [], alts := [], laidByText := true, laidKinds := [.sentinel, .sentinel, .sentinel, .sentinel, .sentinel, .sentinel, .sentinel, .sentinel, .sentinel, .sentinel, .sentinel, .sentinel, .sentinel, .sentinel, .sentinel, .sentinel, .sentinel, .sentinel, .sentinel, .sentinel, .sentinel, .sentinel, .sentinel, .sentinel, .sentinel, .sentinel, .sentinel, .sentinel, .sentinel, .sentinel], laidTests := true, laidLooks := .later }
def FlowPlaysCardSaid : Prop := Claim7.holds Tryd.pinned (.plain (OpenSpec.ofChange flowPlaysSpec)) flowPlaysCard

/-- THE TIED CARD OF 'parleylaw7.FlowRoom'. -/
def flowRoomCard : Claim7 := { stood := { row := flowRoomRow, standIns := [], harness := (true, "4ba8c934b3d9c0a2eec71ceb121dbe272f759fabe0148958e79a44e739fc387f"), looks := true }, kinds := [], alts := [], laidByText := true, laidKinds := [.sentinel, .sentinel], laidTests := true, laidLooks := .later }
def FlowRoomCardSaid : Prop := Claim7.holds Tryd.pinned (.plain (OpenSpec.ofChange flowRoomSpec)) flowRoomCard

/-- THE TIED CARD OF 'parleylaw7.FlowSum'. -/
def flowSumCard : Claim7 := { stood := { row := flowSumRow, standIns := [], harness := (true, "4ba8c934b3d9c0a2eec71ceb121dbe272f759fabe0148958e79a44e739fc387f"), looks := true }, kinds := [], alts := [], laidByText := true, laidKinds := [.sentinel, .sentinel], laidTests := true, laidLooks := .later }
def FlowSumCardSaid : Prop := Claim7.holds Tryd.pinned (.plain (OpenSpec.ofChange flowSumSpec)) flowSumCard

/-- THE SECOND FORM's CARD OF 'parleylaw7.FlowPlays'. -/
def flowPlaysUptoCard : Claim7 := { stood := { row := flowPlaysUptoRow, standIns := [], harness := (true, "4ba8c934b3d9c0a2eec71ceb121dbe272f759fabe0148958e79a44e739fc387f"), looks := true }, kinds := [], alts := [], laidByText := true, laidKinds := [.sentinel, .sentinel, .sentinel, .sentinel, .sentinel, .sentinel, .sentinel, .sentinel, .sentinel, .sentinel, .sentinel, .sentinel, .sentinel, .sentinel, .sentinel, .sentinel, .sentinel, .sentinel, .sentinel, .sentinel, .sentinel, .sentinel, .sentinel, .sentinel, .sentinel, .sentinel, .sentinel, .sentinel, .sentinel, .sentinel], laidTests := true, laidLooks := .later }
def FlowPlaysUptoCardSaid : Prop := Claim7.holds Tryd.pinned (.plain (OpenSpec.upto flowPlaysSpec)) flowPlaysUptoCard

/-- THE SECOND FORM's CARD OF 'parleylaw7.FlowRoom'. -/
def flowRoomUptoCard : Claim7 := { stood := { row := flowRoomUptoRow, standIns := [], harness := (true, "4ba8c934b3d9c0a2eec71ceb121dbe272f759fabe0148958e79a44e739fc387f"), looks := true }, kinds := [], alts := [], laidByText := true, laidKinds := [.sentinel, .sentinel], laidTests := true, laidLooks := .later }
def FlowRoomUptoCardSaid : Prop := Claim7.holds Tryd.pinned (.plain (OpenSpec.upto flowRoomSpec)) flowRoomUptoCard

/-- THE SECOND FORM's CARD OF 'parleylaw7.FlowSum'. -/
def flowSumUptoCard : Claim7 := { stood := { row := flowSumUptoRow, standIns := [], harness := (true, "4ba8c934b3d9c0a2eec71ceb121dbe272f759fabe0148958e79a44e739fc387f"), looks := true }, kinds := [], alts := [], laidByText := true, laidKinds := [.sentinel, .sentinel], laidTests := true, laidLooks := .later }
def FlowSumUptoCardSaid : Prop := Claim7.holds Tryd.pinned (.plain (OpenSpec.upto flowSumSpec)) flowSumUptoCard
end Rows
end Go.Proofs.YtfgceakoakcccaaDoor
