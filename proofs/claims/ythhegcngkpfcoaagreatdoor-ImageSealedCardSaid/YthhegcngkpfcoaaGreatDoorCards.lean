/-
  DERIVED. GIVEN WITH THE SEED: THE CARDS: each row of YthhegcngkpfcoaaGreatDoorRows.lean that lists a variable, with what it lists TIED to the program's text (the seventh form; the later family's looks); each row that meets fmt, with fmt's text TOLD by the authors' own Lean function (tested against real Go, not proved from fmt's source: count such statements apart). THE CARD IS WHAT COUNTS. Prove the row's statement (the work); the ties are given (YthhegcngkpfcoaaGreatDoorTie.lean); close each card by the builder's one call (the guide's Derived/Test/ToyasCard.lean, 'card_holds'). Laid BY PROGRAM, IN A SANDBOX (cutbox-door.mjs). By AI agents, Wed Nov 11 2026. No macro, syntax, notation, axiom, sorry.
-/
import Derived.Test.YthhegcngkpfcoaaGreatDoorRows
import GoSem.ClaimSeven
namespace Go.Proofs.YthhegcngkpfcoaaGreatDoor
namespace Rows

/-- THE TIED CARD OF 'linesmanlaw10.ImageEncodes'. -/
def imageEncodesCard : Claim7 := { stood := { row := imageEncodesRow, standIns := [], harness := (true, "d5d9c73a19a5a2f7dab3bddb3acbfa0b5372b1d995269959747dddd00198741a"), looks := true }, kinds := [], alts := [], laidByText := true, laidKinds := [.data, .data], laidTests := true, laidLooks := .later }
def ImageEncodesCardSaid : Prop := Claim7.holds Tryz.pinned (.plain (OpenSpec.ofChange imageEncodesSpec)) imageEncodesCard

/-- THE TIED CARD OF 'linesmanlaw10.ImageSealed'. -/
def imageSealedCard : Claim7 := { stood := { row := imageSealedRow, standIns := [], harness := (true, "d5d9c73a19a5a2f7dab3bddb3acbfa0b5372b1d995269959747dddd00198741a"), looks := true }, kinds := [], alts := [], laidByText := true, laidKinds := [.data, .data], laidTests := true, laidLooks := .later }
def ImageSealedCardSaid : Prop := Claim7.holds Tryz.pinned (.plain (OpenSpec.ofChange imageSealedSpec)) imageSealedCard

/-- THE TIED CARD OF 'linesmanlaw10.ImageEach'. -/
def imageEachCard : Claim7 := { stood := { row := imageEachRow, standIns := [], harness := (true, "d5d9c73a19a5a2f7dab3bddb3acbfa0b5372b1d995269959747dddd00198741a"), looks := true }, kinds := [], alts := [], laidByText := true, laidKinds := [.data, .data], laidTests := true, laidLooks := .later }
def ImageEachCardSaid : Prop := Claim7.holds Tryz.pinned (.plain (OpenSpec.ofChange imageEachSpec)) imageEachCard

/-- THE SECOND FORM's CARD OF 'linesmanlaw10.ImageEncodes'. -/
def imageEncodesUptoCard : Claim7 := { stood := { row := imageEncodesUptoRow, standIns := [], harness := (true, "d5d9c73a19a5a2f7dab3bddb3acbfa0b5372b1d995269959747dddd00198741a"), looks := true }, kinds := [], alts := [], laidByText := true, laidKinds := [.data, .data], laidTests := true, laidLooks := .later }
def ImageEncodesUptoCardSaid : Prop := Claim7.holds Tryz.pinned (.plain (OpenSpec.upto imageEncodesSpec)) imageEncodesUptoCard

/-- THE SECOND FORM's CARD OF 'linesmanlaw10.ImageSealed'. -/
def imageSealedUptoCard : Claim7 := { stood := { row := imageSealedUptoRow, standIns := [], harness := (true, "d5d9c73a19a5a2f7dab3bddb3acbfa0b5372b1d995269959747dddd00198741a"), looks := true }, kinds := [], alts := [], laidByText := true, laidKinds := [.data, .data], laidTests := true, laidLooks := .later }
def ImageSealedUptoCardSaid : Prop := Claim7.holds Tryz.pinned (.plain (OpenSpec.upto imageSealedSpec)) imageSealedUptoCard

/-- THE SECOND FORM's CARD OF 'linesmanlaw10.ImageEach'. -/
def imageEachUptoCard : Claim7 := { stood := { row := imageEachUptoRow, standIns := [], harness := (true, "d5d9c73a19a5a2f7dab3bddb3acbfa0b5372b1d995269959747dddd00198741a"), looks := true }, kinds := [], alts := [], laidByText := true, laidKinds := [.data, .data], laidTests := true, laidLooks := .later }
def ImageEachUptoCardSaid : Prop := Claim7.holds Tryz.pinned (.plain (OpenSpec.upto imageEachSpec)) imageEachUptoCard
end Rows
end Go.Proofs.YthhegcngkpfcoaaGreatDoor
