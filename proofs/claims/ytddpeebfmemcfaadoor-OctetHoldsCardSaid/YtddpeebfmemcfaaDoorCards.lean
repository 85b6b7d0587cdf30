/-
  DERIVED. GIVEN WITH THE SEED: THE CARDS: each row of YtddpeebfmemcfaaDoorRows.lean that lists a variable, with what it lists TIED to the program's text (the seventh form; the later family's looks); each row that meets fmt, with fmt's text TOLD by the authors' own Lean function (tested against real Go, not proved from fmt's source: count such statements apart). THE CARD IS WHAT COUNTS. Prove the row's statement (the work); the ties are given (YtddpeebfmemcfaaDoorTie.lean); close each card by the builder's one call (the guide's Derived/Test/ToyasCard.lean, 'card_holds'). Laid BY PROGRAM, IN A SANDBOX (cutbox-door.mjs). By AI agents, Wed Nov 11 2026. No macro, syntax, notation, axiom, sorry.
-/
import Derived.Test.YtddpeebfmemcfaaDoorRows
import GoSem.ClaimSeven
namespace Go.Proofs.YtddpeebfmemcfaaDoor
namespace Rows

/-- THE TIED CARD OF 'linesmanlaw01.OctetFixed'. -/
def octetFixedCard : Claim7 := { stood := { row := octetFixedRow, standIns := [], harness := (true, "9210c849598e24cf133b7f47bfc398b849dd94279e13b3e7a69106f9f1a2214e"), looks := false }, kinds := [], alts := [], laidByText := true, laidKinds := [.data], laidTests := true, laidLooks := .later }
def OctetFixedCardSaid : Prop := Claim7.holds Tryd.pinned (.plain (OpenSpec.ofChange octetFixedSpec)) octetFixedCard

/-- THE TIED CARD OF 'linesmanlaw01.OctetNumbers'. -/
def octetNumbersCard : Claim7 := { stood := { row := octetNumbersRow, standIns := [], harness := (true, "9210c849598e24cf133b7f47bfc398b849dd94279e13b3e7a69106f9f1a2214e"), looks := false }, kinds := [], alts := [], laidByText := true, laidKinds := [.data], laidTests := true, laidLooks := .later }
def OctetNumbersCardSaid : Prop := Claim7.holds Tryd.pinned (.plain (OpenSpec.ofChange octetNumbersSpec)) octetNumbersCard

/-- THE TIED CARD OF 'linesmanlaw01.OctetTexts'. -/
def octetTextsCard : Claim7 := { stood := { row := octetTextsRow, standIns := [], harness := (true, "9210c849598e24cf133b7f47bfc398b849dd94279e13b3e7a69106f9f1a2214e"), looks := false }, kinds := [], alts := [], laidByText := true, laidKinds := [.data], laidTests := true, laidLooks := .later }
def OctetTextsCardSaid : Prop := Claim7.holds Tryd.pinned (.plain (OpenSpec.ofChange octetTextsSpec)) octetTextsCard

/-- THE TIED CARD OF 'linesmanlaw01.OctetEach'. -/
def octetEachCard : Claim7 := { stood := { row := octetEachRow, standIns := [], harness := (true, "9210c849598e24cf133b7f47bfc398b849dd94279e13b3e7a69106f9f1a2214e"), looks := false }, kinds := [], alts := [], laidByText := true, laidKinds := [.data], laidTests := true, laidLooks := .later }
def OctetEachCardSaid : Prop := Claim7.holds Tryd.pinned (.plain (OpenSpec.ofChange octetEachSpec)) octetEachCard

/-- THE TIED CARD OF 'linesmanlaw01.OctetHolds'. -/
def octetHoldsCard : Claim7 := { stood := { row := octetHoldsRow, standIns := [], harness := (true, "9210c849598e24cf133b7f47bfc398b849dd94279e13b3e7a69106f9f1a2214e"), looks := false }, kinds := [], alts := [], laidByText := true, laidKinds := [.data], laidTests := true, laidLooks := .later }
def OctetHoldsCardSaid : Prop := Claim7.holds Tryd.pinned (.plain (OpenSpec.ofChange octetHoldsSpec)) octetHoldsCard

/-- THE SECOND FORM's CARD OF 'linesmanlaw01.OctetFixed'. -/
def octetFixedUptoCard : Claim7 := { stood := { row := octetFixedUptoRow, standIns := [], harness := (true, "9210c849598e24cf133b7f47bfc398b849dd94279e13b3e7a69106f9f1a2214e"), looks := false }, kinds := [], alts := [], laidByText := true, laidKinds := [.data], laidTests := true, laidLooks := .later }
def OctetFixedUptoCardSaid : Prop := Claim7.holds Tryd.pinned (.plain (OpenSpec.upto octetFixedSpec)) octetFixedUptoCard

/-- THE SECOND FORM's CARD OF 'linesmanlaw01.OctetNumbers'. -/
def octetNumbersUptoCard : Claim7 := { stood := { row := octetNumbersUptoRow, standIns := [], harness := (true, "9210c849598e24cf133b7f47bfc398b849dd94279e13b3e7a69106f9f1a2214e"), looks := false }, kinds := [], alts := [], laidByText := true, laidKinds := [.data], laidTests := true, laidLooks := .later }
def OctetNumbersUptoCardSaid : Prop := Claim7.holds Tryd.pinned (.plain (OpenSpec.upto octetNumbersSpec)) octetNumbersUptoCard

/-- THE SECOND FORM's CARD OF 'linesmanlaw01.OctetTexts'. -/
def octetTextsUptoCard : Claim7 := { stood := { row := octetTextsUptoRow, standIns := [], harness := (true, "9210c849598e24cf133b7f47bfc398b849dd94279e13b3e7a69106f9f1a2214e"), looks := false }, kinds := [], alts := [], laidByText := true, laidKinds := [.data], laidTests := true, laidLooks := .later }
def OctetTextsUptoCardSaid : Prop := Claim7.holds Tryd.pinned (.plain (OpenSpec.upto octetTextsSpec)) octetTextsUptoCard

/-- THE SECOND FORM's CARD OF 'linesmanlaw01.OctetEach'. -/
def octetEachUptoCard : Claim7 := { stood := { row := octetEachUptoRow, standIns := [], harness := (true, "9210c849598e24cf133b7f47bfc398b849dd94279e13b3e7a69106f9f1a2214e"), looks := false }, kinds := [], alts := [], laidByText := true, laidKinds := [.data], laidTests := true, laidLooks := .later }
def OctetEachUptoCardSaid : Prop := Claim7.holds Tryd.pinned (.plain (OpenSpec.upto octetEachSpec)) octetEachUptoCard

/-- THE SECOND FORM's CARD OF 'linesmanlaw01.OctetHolds'. -/
def octetHoldsUptoCard : Claim7 := { stood := { row := octetHoldsUptoRow, standIns := [], harness := (true, "9210c849598e24cf133b7f47bfc398b849dd94279e13b3e7a69106f9f1a2214e"), looks := false }, kinds := [], alts := [], laidByText := true, laidKinds := [.data], laidTests := true, laidLooks := .later }
def OctetHoldsUptoCardSaid : Prop := Claim7.holds Tryd.pinned (.plain (OpenSpec.upto octetHoldsSpec)) octetHoldsUptoCard
end Rows
end Go.Proofs.YtddpeebfmemcfaaDoor
