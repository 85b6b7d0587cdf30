/-
  DERIVED. GIVEN WITH THE SEED: THE CARDS: each row of YtbinmgpfkjmijaaGreatDoorRows.lean that lists a variable, with what it lists TIED to the program's text (the seventh form; the later family's looks); each row that meets fmt, with fmt's text TOLD by the authors' own Lean function (tested against real Go, not proved from fmt's source: count such statements apart). THE CARD IS WHAT COUNTS. Prove the row's statement (the work); the ties are given (YtbinmgpfkjmijaaGreatDoorTie.lean); close each card by the builder's one call (the guide's Derived/Test/ToyasCard.lean, 'card_holds'). Laid BY PROGRAM, IN A SANDBOX (cutbox-door.mjs). By AI agents, Wed Nov 11 2026. No macro, syntax, notation, axiom, sorry.
-/
import Derived.Test.YtbinmgpfkjmijaaGreatDoorRows
import GoSem.ClaimSeven
namespace Go.Proofs.YtbinmgpfkjmijaaGreatDoor
namespace Rows

/-- THE TIED CARD OF 'linesmanlaw16.EventTells'. -/
def eventTellsCard : Claim7 := { stood := { row := eventTellsRow, standIns := [], harness := (true, "3278812946ea2d2bc6d2ac499f36ba4d177f5d942752ddf8da51f4179c8f3f93"), looks := true }, kinds := [], alts := [], laidByText := true, laidKinds := [.data, .data, .data, .data, .data, .data], laidTests := true, laidLooks := .later }
def EventTellsCardSaid : Prop := Claim7.holds Tryz.pinned (.plain (OpenSpec.ofChange eventTellsSpec)) eventTellsCard

/-- THE TIED CARD OF 'linesmanlaw16.EventBytes'. -/
def eventBytesCard : Claim7 := { stood := { row := eventBytesRow, standIns := [], harness := (true, "3278812946ea2d2bc6d2ac499f36ba4d177f5d942752ddf8da51f4179c8f3f93"), looks := true }, kinds := [], alts := [], laidByText := true, laidKinds := [.data, .data, .data, .data, .data, .data], laidTests := true, laidLooks := .later }
def EventBytesCardSaid : Prop := Claim7.holds Tryz.pinned (.plain (OpenSpec.ofChange eventBytesSpec)) eventBytesCard

/-- THE TIED CARD OF 'linesmanlaw16.EventLeads'. -/
def eventLeadsCard : Claim7 := { stood := { row := eventLeadsRow, standIns := [], harness := (true, "3278812946ea2d2bc6d2ac499f36ba4d177f5d942752ddf8da51f4179c8f3f93"), looks := true }, kinds := [], alts := [], laidByText := true, laidKinds := [.data, .data, .data, .data, .data, .data], laidTests := true, laidLooks := .later }
def EventLeadsCardSaid : Prop := Claim7.holds Tryz.pinned (.plain (OpenSpec.ofChange eventLeadsSpec)) eventLeadsCard

/-- THE TIED CARD OF 'linesmanlaw16.EventEach'. -/
def eventEachCard : Claim7 := { stood := { row := eventEachRow, standIns := [], harness := (true, "3278812946ea2d2bc6d2ac499f36ba4d177f5d942752ddf8da51f4179c8f3f93"), looks := true }, kinds := [], alts := [], laidByText := true, laidKinds := [.data, .data, .data, .data, .data, .data], laidTests := true, laidLooks := .later }
def EventEachCardSaid : Prop := Claim7.holds Tryz.pinned (.plain (OpenSpec.ofChange eventEachSpec)) eventEachCard

/-- THE TIED CARD OF 'linesmanlaw16.EventHolds'. -/
def eventHoldsCard : Claim7 := { stood := { row := eventHoldsRow, standIns := [], harness := (true, "3278812946ea2d2bc6d2ac499f36ba4d177f5d942752ddf8da51f4179c8f3f93"), looks := true }, kinds := [], alts := [], laidByText := true, laidKinds := [.data, .data, .data, .data, .data, .data], laidTests := true, laidLooks := .later }
def EventHoldsCardSaid : Prop := Claim7.holds Tryz.pinned (.plain (OpenSpec.ofChange eventHoldsSpec)) eventHoldsCard

/-- THE SECOND FORM's CARD OF 'linesmanlaw16.EventTells'. -/
def eventTellsUptoCard : Claim7 := { stood := { row := eventTellsUptoRow, standIns := [], harness := (true, "3278812946ea2d2bc6d2ac499f36ba4d177f5d942752ddf8da51f4179c8f3f93"), looks := true }, kinds := [], alts := [], laidByText := true, laidKinds := [.data, .data, .data, .data, .data, .data], laidTests := true, laidLooks := .later }
def EventTellsUptoCardSaid : Prop := Claim7.holds Tryz.pinned (.plain (OpenSpec.upto eventTellsSpec)) eventTellsUptoCard

/-- THE SECOND FORM's CARD OF 'linesmanlaw16.EventBytes'. -/
def eventBytesUptoCard : Claim7 := { stood := { row := eventBytesUptoRow, standIns := [], harness := (true, "3278812946ea2d2bc6d2ac499f36ba4d177f5d942752ddf8da51f4179c8f3f93"), looks := true }, kinds := [], alts := [], laidByText := true, laidKinds := [.data, .data, .data, .data, .data, .data], laidTests := true, laidLooks := .later }
def EventBytesUptoCardSaid : Prop := Claim7.holds Tryz.pinned (.plain (OpenSpec.upto eventBytesSpec)) eventBytesUptoCard

/-- THE SECOND FORM's CARD OF 'linesmanlaw16.EventLeads'. -/
def eventLeadsUptoCard : Claim7 := { stood := { row := eventLeadsUptoRow, standIns := [], harness := (true, "3278812946ea2d2bc6d2ac499f36ba4d177f5d942752ddf8da51f4179c8f3f93"), looks := true }, kinds := [], alts := [], laidByText := true, laidKinds := [.data, .data, .data, .data, .data, .data], laidTests := true, laidLooks := .later }
def EventLeadsUptoCardSaid : Prop := Claim7.holds Tryz.pinned (.plain (OpenSpec.upto eventLeadsSpec)) eventLeadsUptoCard

/-- THE SECOND FORM's CARD OF 'linesmanlaw16.EventEach'. -/
def eventEachUptoCard : Claim7 := { stood := { row := eventEachUptoRow, standIns := [], harness := (true, "3278812946ea2d2bc6d2ac499f36ba4d177f5d942752ddf8da51f4179c8f3f93"), looks := true }, kinds := [], alts := [], laidByText := true, laidKinds := [.data, .data, .data, .data, .data, .data], laidTests := true, laidLooks := .later }
def EventEachUptoCardSaid : Prop := Claim7.holds Tryz.pinned (.plain (OpenSpec.upto eventEachSpec)) eventEachUptoCard

/-- THE SECOND FORM's CARD OF 'linesmanlaw16.EventHolds'. -/
def eventHoldsUptoCard : Claim7 := { stood := { row := eventHoldsUptoRow, standIns := [], harness := (true, "3278812946ea2d2bc6d2ac499f36ba4d177f5d942752ddf8da51f4179c8f3f93"), looks := true }, kinds := [], alts := [], laidByText := true, laidKinds := [.data, .data, .data, .data, .data, .data], laidTests := true, laidLooks := .later }
def EventHoldsUptoCardSaid : Prop := Claim7.holds Tryz.pinned (.plain (OpenSpec.upto eventHoldsSpec)) eventHoldsUptoCard
end Rows
end Go.Proofs.YtbinmgpfkjmijaaGreatDoor
