/-
  DERIVED. GIVEN WITH THE SEED: THE CARDS: each row of YtkodjmdghjcndaaGreatDoorRows.lean that lists a variable, with what it lists TIED to the program's text (the seventh form; the later family's looks); each row that meets fmt, with fmt's text TOLD by the authors' own Lean function (tested against real Go, not proved from fmt's source: count such statements apart). THE CARD IS WHAT COUNTS. Prove the row's statement (the work); the ties are given (YtkodjmdghjcndaaGreatDoorTie.lean); close each card by the builder's one call (the guide's Derived/Test/ToyasCard.lean, 'card_holds'). Laid BY PROGRAM, IN A SANDBOX (cutbox-door.mjs). By AI agents, Wed Nov 11 2026. No macro, syntax, notation, axiom, sorry.
-/
import Derived.Test.YtkodjmdghjcndaaGreatDoorRows
import GoSem.ClaimSeven
namespace Go.Proofs.YtkodjmdghjcndaaGreatDoor
namespace Rows

/-- THE TIED CARD OF 'linesmanlaw08.InstrTexts'. -/
def instrTextsCard : Claim7 := { stood := { row := instrTextsRow, standIns := [], harness := (true, "57d3fe2f455b6546773bfad8db042f1718ee135e5d592f32c897b26296aac187"), looks := true }, kinds := [], alts := [], laidByText := true, laidKinds := [.data, .data, .data, .data, .sentinel, .sentinel, .data, .data, .data, .pinned], laidTests := true, laidLooks := .later }
def InstrTextsCardSaid : Prop := Claim7.holds Tryz.pinned (.plain (OpenSpec.ofChange instrTextsSpec)) instrTextsCard

/-- THE TIED CARD OF 'linesmanlaw10.ImageEncodes'. -/
def imageEncodesCard : Claim7 := { stood := { row := imageEncodesRow, standIns := [], harness := (true, "57d3fe2f455b6546773bfad8db042f1718ee135e5d592f32c897b26296aac187"), looks := true }, kinds := [], alts := [], laidByText := true, laidKinds := [.data, .data], laidTests := true, laidLooks := .later }
def ImageEncodesCardSaid : Prop := Claim7.holds Tryz.pinned (.plain (OpenSpec.ofChange imageEncodesSpec)) imageEncodesCard

/-- THE TIED CARD OF 'linesmanlaw10.ImageSealed'. -/
def imageSealedCard : Claim7 := { stood := { row := imageSealedRow, standIns := [], harness := (true, "57d3fe2f455b6546773bfad8db042f1718ee135e5d592f32c897b26296aac187"), looks := true }, kinds := [], alts := [], laidByText := true, laidKinds := [.data, .data], laidTests := true, laidLooks := .later }
def ImageSealedCardSaid : Prop := Claim7.holds Tryz.pinned (.plain (OpenSpec.ofChange imageSealedSpec)) imageSealedCard

/-- THE TIED CARD OF 'linesmanlaw10.ImageEach'. -/
def imageEachCard : Claim7 := { stood := { row := imageEachRow, standIns := [], harness := (true, "57d3fe2f455b6546773bfad8db042f1718ee135e5d592f32c897b26296aac187"), looks := true }, kinds := [], alts := [], laidByText := true, laidKinds := [.data, .data], laidTests := true, laidLooks := .later }
def ImageEachCardSaid : Prop := Claim7.holds Tryz.pinned (.plain (OpenSpec.ofChange imageEachSpec)) imageEachCard

/-- THE TIED CARD OF 'linesmanlaw10.ImageHolds'. -/
def imageHoldsCard : Claim7 := { stood := { row := imageHoldsRow, standIns := [], harness := (true, "57d3fe2f455b6546773bfad8db042f1718ee135e5d592f32c897b26296aac187"), looks := true }, kinds := [], alts := [], laidByText := true, laidKinds := [.data, .data], laidTests := true, laidLooks := .later }
def ImageHoldsCardSaid : Prop := Claim7.holds Tryz.pinned (.plain (OpenSpec.ofChange imageHoldsSpec)) imageHoldsCard

/-- THE SECOND FORM's CARD OF 'linesmanlaw08.InstrTexts'. -/
def instrTextsUptoCard : Claim7 := { stood := { row := instrTextsUptoRow, standIns := [], harness := (true, "57d3fe2f455b6546773bfad8db042f1718ee135e5d592f32c897b26296aac187"), looks := true }, kinds := [], alts := [], laidByText := true, laidKinds := [.data, .data, .data, .data, .sentinel, .sentinel, .data, .data, .data, .pinned], laidTests := true, laidLooks := .later }
def InstrTextsUptoCardSaid : Prop := Claim7.holds Tryz.pinned (.plain (OpenSpec.upto instrTextsSpec)) instrTextsUptoCard

/-- THE SECOND FORM's CARD OF 'linesmanlaw10.ImageEncodes'. -/
def imageEncodesUptoCard : Claim7 := { stood := { row := imageEncodesUptoRow, standIns := [], harness := (true, "57d3fe2f455b6546773bfad8db042f1718ee135e5d592f32c897b26296aac187"), looks := true }, kinds := [], alts := [], laidByText := true, laidKinds := [.data, .data], laidTests := true, laidLooks := .later }
def ImageEncodesUptoCardSaid : Prop := Claim7.holds Tryz.pinned (.plain (OpenSpec.upto imageEncodesSpec)) imageEncodesUptoCard

/-- THE SECOND FORM's CARD OF 'linesmanlaw10.ImageSealed'. -/
def imageSealedUptoCard : Claim7 := { stood := { row := imageSealedUptoRow, standIns := [], harness := (true, "57d3fe2f455b6546773bfad8db042f1718ee135e5d592f32c897b26296aac187"), looks := true }, kinds := [], alts := [], laidByText := true, laidKinds := [.data, .data], laidTests := true, laidLooks := .later }
def ImageSealedUptoCardSaid : Prop := Claim7.holds Tryz.pinned (.plain (OpenSpec.upto imageSealedSpec)) imageSealedUptoCard

/-- THE SECOND FORM's CARD OF 'linesmanlaw10.ImageEach'. -/
def imageEachUptoCard : Claim7 := { stood := { row := imageEachUptoRow, standIns := [], harness := (true, "57d3fe2f455b6546773bfad8db042f1718ee135e5d592f32c897b26296aac187"), looks := true }, kinds := [], alts := [], laidByText := true, laidKinds := [.data, .data], laidTests := true, laidLooks := .later }
def ImageEachUptoCardSaid : Prop := Claim7.holds Tryz.pinned (.plain (OpenSpec.upto imageEachSpec)) imageEachUptoCard

/-- THE SECOND FORM's CARD OF 'linesmanlaw10.ImageHolds'. -/
def imageHoldsUptoCard : Claim7 := { stood := { row := imageHoldsUptoRow, standIns := [], harness := (true, "57d3fe2f455b6546773bfad8db042f1718ee135e5d592f32c897b26296aac187"), looks := true }, kinds := [], alts := [], laidByText := true, laidKinds := [.data, .data], laidTests := true, laidLooks := .later }
def ImageHoldsUptoCardSaid : Prop := Claim7.holds Tryz.pinned (.plain (OpenSpec.upto imageHoldsSpec)) imageHoldsUptoCard
end Rows
end Go.Proofs.YtkodjmdghjcndaaGreatDoor
