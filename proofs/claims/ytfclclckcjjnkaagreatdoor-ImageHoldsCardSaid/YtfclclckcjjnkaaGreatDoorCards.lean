/-
  DERIVED. GIVEN WITH THE SEED: THE CARDS: each row of YtfclclckcjjnkaaGreatDoorRows.lean that lists a variable, with what it lists TIED to the program's text (the seventh form; the later family's looks); each row that meets fmt, with fmt's text TOLD by the authors' own Lean function (tested against real Go, not proved from fmt's source: count such statements apart). THE CARD IS WHAT COUNTS. Prove the row's statement (the work); the ties are given (YtfclclckcjjnkaaGreatDoorTie.lean); close each card by the builder's one call (the guide's Derived/Test/ToyasCard.lean, 'card_holds'). Laid BY PROGRAM, IN A SANDBOX (cutbox-door.mjs). By AI agents, Wed Nov 11 2026. No macro, syntax, notation, axiom, sorry.
-/
import Derived.Test.YtfclclckcjjnkaaGreatDoorRows
import GoSem.ClaimSeven
namespace Go.Proofs.YtfclclckcjjnkaaGreatDoor
namespace Rows

/-- THE TIED CARD OF 'linesmanlaw10.ImageEncodes'. -/
def imageEncodesCard : Claim7 := { stood := { row := imageEncodesRow, standIns := [], harness := (true, "d6aef1b79a3cecae2ce306508b9e9e46282b47f7051892065bb0efebf1de7b53"), looks := true }, kinds := [], alts := [], laidByText := true, laidKinds := [.data, .data], laidTests := true, laidLooks := .later }
def ImageEncodesCardSaid : Prop := Claim7.holds Tryz.pinned (.plain (OpenSpec.ofChange imageEncodesSpec)) imageEncodesCard

/-- THE TIED CARD OF 'linesmanlaw10.ImageSealed'. -/
def imageSealedCard : Claim7 := { stood := { row := imageSealedRow, standIns := [], harness := (true, "d6aef1b79a3cecae2ce306508b9e9e46282b47f7051892065bb0efebf1de7b53"), looks := true }, kinds := [], alts := [], laidByText := true, laidKinds := [.data, .data], laidTests := true, laidLooks := .later }
def ImageSealedCardSaid : Prop := Claim7.holds Tryz.pinned (.plain (OpenSpec.ofChange imageSealedSpec)) imageSealedCard

/-- THE TIED CARD OF 'linesmanlaw10.ImageEach'. -/
def imageEachCard : Claim7 := { stood := { row := imageEachRow, standIns := [], harness := (true, "d6aef1b79a3cecae2ce306508b9e9e46282b47f7051892065bb0efebf1de7b53"), looks := true }, kinds := [], alts := [], laidByText := true, laidKinds := [.data, .data], laidTests := true, laidLooks := .later }
def ImageEachCardSaid : Prop := Claim7.holds Tryz.pinned (.plain (OpenSpec.ofChange imageEachSpec)) imageEachCard

/-- THE TIED CARD OF 'linesmanlaw10.ImageHolds'. -/
def imageHoldsCard : Claim7 := { stood := { row := imageHoldsRow, standIns := [], harness := (true, "d6aef1b79a3cecae2ce306508b9e9e46282b47f7051892065bb0efebf1de7b53"), looks := true }, kinds := [], alts := [], laidByText := true, laidKinds := [.data, .data], laidTests := true, laidLooks := .later }
def ImageHoldsCardSaid : Prop := Claim7.holds Tryz.pinned (.plain (OpenSpec.ofChange imageHoldsSpec)) imageHoldsCard

/-- THE TIED CARD OF 'linesmanlaw11.AsmPrints'. -/
def asmPrintsCard : Claim7 := { stood := { row := asmPrintsRow, standIns := [], harness := (true, "d6aef1b79a3cecae2ce306508b9e9e46282b47f7051892065bb0efebf1de7b53"), looks := true }, kinds := [], alts := [], laidByText := true, laidKinds := [.data, .data, .data, .data, .sentinel, .sentinel, .data, .data, .pinned], laidTests := true, laidLooks := .later }
def AsmPrintsCardSaid : Prop := Claim7.holds Tryz.pinned (.plain (OpenSpec.ofChange asmPrintsSpec)) asmPrintsCard

/-- THE TIED CARD OF 'linesmanlaw11.AsmParses'. -/
def asmParsesCard : Claim7 := { stood := { row := asmParsesRow, standIns := [], harness := (true, "d6aef1b79a3cecae2ce306508b9e9e46282b47f7051892065bb0efebf1de7b53"), looks := true }, kinds := [], alts := [], laidByText := true, laidKinds := [.data, .data, .data, .data, .sentinel, .sentinel, .data, .data, .pinned], laidTests := true, laidLooks := .later }
def AsmParsesCardSaid : Prop := Claim7.holds Tryz.pinned (.plain (OpenSpec.ofChange asmParsesSpec)) asmParsesCard

/-- THE TIED CARD OF 'linesmanlaw11.AsmBent'. -/
def asmBentCard : Claim7 := { stood := { row := asmBentRow, standIns := [], harness := (true, "d6aef1b79a3cecae2ce306508b9e9e46282b47f7051892065bb0efebf1de7b53"), looks := true }, kinds := [], alts := [], laidByText := true, laidKinds := [.data, .data, .data, .data, .sentinel, .sentinel, .data, .data, .pinned], laidTests := true, laidLooks := .later }
def AsmBentCardSaid : Prop := Claim7.holds Tryz.pinned (.plain (OpenSpec.ofChange asmBentSpec)) asmBentCard

/-- THE TIED CARD OF 'linesmanlaw11.AsmLines'. -/
def asmLinesCard : Claim7 := { stood := { row := asmLinesRow, standIns := [], harness := (true, "d6aef1b79a3cecae2ce306508b9e9e46282b47f7051892065bb0efebf1de7b53"), looks := true }, kinds := [], alts := [], laidByText := true, laidKinds := [.data, .data, .data, .data, .sentinel, .sentinel, .data, .data, .pinned], laidTests := true, laidLooks := .later }
def AsmLinesCardSaid : Prop := Claim7.holds Tryz.pinned (.plain (OpenSpec.ofChange asmLinesSpec)) asmLinesCard

/-- THE TIED CARD OF 'linesmanlaw11.AsmHolds'. -/
def asmHoldsCard : Claim7 := { stood := { row := asmHoldsRow, standIns := [], harness := (true, "d6aef1b79a3cecae2ce306508b9e9e46282b47f7051892065bb0efebf1de7b53"), looks := true }, kinds := [], alts := [], laidByText := true, laidKinds := [.data, .data, .data, .data, .sentinel, .sentinel, .data, .data, .pinned], laidTests := true, laidLooks := .later }
def AsmHoldsCardSaid : Prop := Claim7.holds Tryz.pinned (.plain (OpenSpec.ofChange asmHoldsSpec)) asmHoldsCard

/-- THE SECOND FORM's CARD OF 'linesmanlaw10.ImageEncodes'. -/
def imageEncodesUptoCard : Claim7 := { stood := { row := imageEncodesUptoRow, standIns := [], harness := (true, "d6aef1b79a3cecae2ce306508b9e9e46282b47f7051892065bb0efebf1de7b53"), looks := true }, kinds := [], alts := [], laidByText := true, laidKinds := [.data, .data], laidTests := true, laidLooks := .later }
def ImageEncodesUptoCardSaid : Prop := Claim7.holds Tryz.pinned (.plain (OpenSpec.upto imageEncodesSpec)) imageEncodesUptoCard

/-- THE SECOND FORM's CARD OF 'linesmanlaw10.ImageSealed'. -/
def imageSealedUptoCard : Claim7 := { stood := { row := imageSealedUptoRow, standIns := [], harness := (true, "d6aef1b79a3cecae2ce306508b9e9e46282b47f7051892065bb0efebf1de7b53"), looks := true }, kinds := [], alts := [], laidByText := true, laidKinds := [.data, .data], laidTests := true, laidLooks := .later }
def ImageSealedUptoCardSaid : Prop := Claim7.holds Tryz.pinned (.plain (OpenSpec.upto imageSealedSpec)) imageSealedUptoCard

/-- THE SECOND FORM's CARD OF 'linesmanlaw10.ImageEach'. -/
def imageEachUptoCard : Claim7 := { stood := { row := imageEachUptoRow, standIns := [], harness := (true, "d6aef1b79a3cecae2ce306508b9e9e46282b47f7051892065bb0efebf1de7b53"), looks := true }, kinds := [], alts := [], laidByText := true, laidKinds := [.data, .data], laidTests := true, laidLooks := .later }
def ImageEachUptoCardSaid : Prop := Claim7.holds Tryz.pinned (.plain (OpenSpec.upto imageEachSpec)) imageEachUptoCard

/-- THE SECOND FORM's CARD OF 'linesmanlaw10.ImageHolds'. -/
def imageHoldsUptoCard : Claim7 := { stood := { row := imageHoldsUptoRow, standIns := [], harness := (true, "d6aef1b79a3cecae2ce306508b9e9e46282b47f7051892065bb0efebf1de7b53"), looks := true }, kinds := [], alts := [], laidByText := true, laidKinds := [.data, .data], laidTests := true, laidLooks := .later }
def ImageHoldsUptoCardSaid : Prop := Claim7.holds Tryz.pinned (.plain (OpenSpec.upto imageHoldsSpec)) imageHoldsUptoCard

/-- THE SECOND FORM's CARD OF 'linesmanlaw11.AsmPrints'. -/
def asmPrintsUptoCard : Claim7 := { stood := { row := asmPrintsUptoRow, standIns := [], harness := (true, "d6aef1b79a3cecae2ce306508b9e9e46282b47f7051892065bb0efebf1de7b53"), looks := true }, kinds := [], alts := [], laidByText := true, laidKinds := [.data, .data, .data, .data, .sentinel, .sentinel, .data, .data, .pinned], laidTests := true, laidLooks := .later }
def AsmPrintsUptoCardSaid : Prop := Claim7.holds Tryz.pinned (.plain (OpenSpec.upto asmPrintsSpec)) asmPrintsUptoCard

/-- THE SECOND FORM's CARD OF 'linesmanlaw11.AsmParses'. -/
def asmParsesUptoCard : Claim7 := { stood := { row := asmParsesUptoRow, standIns := [], harness := (true, "d6aef1b79a3cecae2ce306508b9e9e46282b47f7051892065bb0efebf1de7b53"), looks := true }, kinds := [], alts := [], laidByText := true, laidKinds := [.data, .data, .data, .data, .sentinel, .sentinel, .data, .data, .pinned], laidTests := true, laidLooks := .later }
def AsmParsesUptoCardSaid : Prop := Claim7.holds Tryz.pinned (.plain (OpenSpec.upto asmParsesSpec)) asmParsesUptoCard

/-- THE SECOND FORM's CARD OF 'linesmanlaw11.AsmBent'. -/
def asmBentUptoCard : Claim7 := { stood := { row := asmBentUptoRow, standIns := [], harness := (true, "d6aef1b79a3cecae2ce306508b9e9e46282b47f7051892065bb0efebf1de7b53"), looks := true }, kinds := [], alts := [], laidByText := true, laidKinds := [.data, .data, .data, .data, .sentinel, .sentinel, .data, .data, .pinned], laidTests := true, laidLooks := .later }
def AsmBentUptoCardSaid : Prop := Claim7.holds Tryz.pinned (.plain (OpenSpec.upto asmBentSpec)) asmBentUptoCard

/-- THE SECOND FORM's CARD OF 'linesmanlaw11.AsmLines'. -/
def asmLinesUptoCard : Claim7 := { stood := { row := asmLinesUptoRow, standIns := [], harness := (true, "d6aef1b79a3cecae2ce306508b9e9e46282b47f7051892065bb0efebf1de7b53"), looks := true }, kinds := [], alts := [], laidByText := true, laidKinds := [.data, .data, .data, .data, .sentinel, .sentinel, .data, .data, .pinned], laidTests := true, laidLooks := .later }
def AsmLinesUptoCardSaid : Prop := Claim7.holds Tryz.pinned (.plain (OpenSpec.upto asmLinesSpec)) asmLinesUptoCard

/-- THE SECOND FORM's CARD OF 'linesmanlaw11.AsmHolds'. -/
def asmHoldsUptoCard : Claim7 := { stood := { row := asmHoldsUptoRow, standIns := [], harness := (true, "d6aef1b79a3cecae2ce306508b9e9e46282b47f7051892065bb0efebf1de7b53"), looks := true }, kinds := [], alts := [], laidByText := true, laidKinds := [.data, .data, .data, .data, .sentinel, .sentinel, .data, .data, .pinned], laidTests := true, laidLooks := .later }
def AsmHoldsUptoCardSaid : Prop := Claim7.holds Tryz.pinned (.plain (OpenSpec.upto asmHoldsSpec)) asmHoldsUptoCard
end Rows
end Go.Proofs.YtfclclckcjjnkaaGreatDoor
