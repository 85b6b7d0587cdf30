/-
  DERIVED. GIVEN WITH THE SEED: THE CARDS: each row of YtleihmmkonakhaaDoorRows.lean that lists a variable, with what it lists TIED to the program's text (the seventh form; the later family's looks); each row that meets fmt, with fmt's text TOLD by the authors' own Lean function (tested against real Go, not proved from fmt's source: count such statements apart). THE CARD IS WHAT COUNTS. Prove the row's statement (the work); the ties are given (YtleihmmkonakhaaDoorTie.lean); close each card by the builder's one call (the guide's Derived/Test/ToyasCard.lean, 'card_holds'). Laid BY PROGRAM, IN A SANDBOX (cutbox-door.mjs). By AI agents, Wed Nov 11 2026. No macro, syntax, notation, axiom, sorry.
-/
import Derived.Test.YtleihmmkonakhaaDoorRows
import GoSem.ClaimSeven
namespace Go.Proofs.YtleihmmkonakhaaDoor
namespace Rows

/-- THE TIED CARD OF 'linesmanlaw06.MemoryStores'. -/
def memoryStoresCard : Claim7 := { stood := { row := memoryStoresRow, standIns := [], harness := (true, "525048a6a86ed7be4799f4e85cb1da1627984bfe5759e44b19ac93a840fc6ab6"), looks := false }, kinds := [], alts := [], laidByText := true, laidKinds := [.data], laidTests := true, laidLooks := .later }
def MemoryStoresCardSaid : Prop := Claim7.holds Tryd.pinned (.plain (OpenSpec.ofChange memoryStoresSpec)) memoryStoresCard

/-- THE TIED CARD OF 'linesmanlaw06.MemoryFrom'. -/
def memoryFromCard : Claim7 := { stood := { row := memoryFromRow, standIns := [], harness := (true, "525048a6a86ed7be4799f4e85cb1da1627984bfe5759e44b19ac93a840fc6ab6"), looks := false }, kinds := [], alts := [], laidByText := true, laidKinds := [.data], laidTests := true, laidLooks := .later }
def MemoryFromCardSaid : Prop := Claim7.holds Tryd.pinned (.plain (OpenSpec.ofChange memoryFromSpec)) memoryFromCard

/-- THE TIED CARD OF 'linesmanlaw06.MemoryCopies'. -/
def memoryCopiesCard : Claim7 := { stood := { row := memoryCopiesRow, standIns := [], harness := (true, "525048a6a86ed7be4799f4e85cb1da1627984bfe5759e44b19ac93a840fc6ab6"), looks := false }, kinds := [], alts := [], laidByText := true, laidKinds := [.data], laidTests := true, laidLooks := .later }
def MemoryCopiesCardSaid : Prop := Claim7.holds Tryd.pinned (.plain (OpenSpec.ofChange memoryCopiesSpec)) memoryCopiesCard

/-- THE TIED CARD OF 'linesmanlaw06.MemoryNone'. -/
def memoryNoneCard : Claim7 := { stood := { row := memoryNoneRow, standIns := [], harness := (true, "525048a6a86ed7be4799f4e85cb1da1627984bfe5759e44b19ac93a840fc6ab6"), looks := false }, kinds := [], alts := [], laidByText := true, laidKinds := [.data], laidTests := true, laidLooks := .later }
def MemoryNoneCardSaid : Prop := Claim7.holds Tryd.pinned (.plain (OpenSpec.ofChange memoryNoneSpec)) memoryNoneCard

/-- THE TIED CARD OF 'linesmanlaw06.MemoryHolds'. -/
def memoryHoldsCard : Claim7 := { stood := { row := memoryHoldsRow, standIns := [], harness := (true, "525048a6a86ed7be4799f4e85cb1da1627984bfe5759e44b19ac93a840fc6ab6"), looks := false }, kinds := [], alts := [], laidByText := true, laidKinds := [.data], laidTests := true, laidLooks := .later }
def MemoryHoldsCardSaid : Prop := Claim7.holds Tryd.pinned (.plain (OpenSpec.ofChange memoryHoldsSpec)) memoryHoldsCard

/-- THE SECOND FORM's CARD OF 'linesmanlaw06.MemoryStores'. -/
def memoryStoresUptoCard : Claim7 := { stood := { row := memoryStoresUptoRow, standIns := [], harness := (true, "525048a6a86ed7be4799f4e85cb1da1627984bfe5759e44b19ac93a840fc6ab6"), looks := false }, kinds := [], alts := [], laidByText := true, laidKinds := [.data], laidTests := true, laidLooks := .later }
def MemoryStoresUptoCardSaid : Prop := Claim7.holds Tryd.pinned (.plain (OpenSpec.upto memoryStoresSpec)) memoryStoresUptoCard

/-- THE SECOND FORM's CARD OF 'linesmanlaw06.MemoryFrom'. -/
def memoryFromUptoCard : Claim7 := { stood := { row := memoryFromUptoRow, standIns := [], harness := (true, "525048a6a86ed7be4799f4e85cb1da1627984bfe5759e44b19ac93a840fc6ab6"), looks := false }, kinds := [], alts := [], laidByText := true, laidKinds := [.data], laidTests := true, laidLooks := .later }
def MemoryFromUptoCardSaid : Prop := Claim7.holds Tryd.pinned (.plain (OpenSpec.upto memoryFromSpec)) memoryFromUptoCard

/-- THE SECOND FORM's CARD OF 'linesmanlaw06.MemoryCopies'. -/
def memoryCopiesUptoCard : Claim7 := { stood := { row := memoryCopiesUptoRow, standIns := [], harness := (true, "525048a6a86ed7be4799f4e85cb1da1627984bfe5759e44b19ac93a840fc6ab6"), looks := false }, kinds := [], alts := [], laidByText := true, laidKinds := [.data], laidTests := true, laidLooks := .later }
def MemoryCopiesUptoCardSaid : Prop := Claim7.holds Tryd.pinned (.plain (OpenSpec.upto memoryCopiesSpec)) memoryCopiesUptoCard

/-- THE SECOND FORM's CARD OF 'linesmanlaw06.MemoryNone'. -/
def memoryNoneUptoCard : Claim7 := { stood := { row := memoryNoneUptoRow, standIns := [], harness := (true, "525048a6a86ed7be4799f4e85cb1da1627984bfe5759e44b19ac93a840fc6ab6"), looks := false }, kinds := [], alts := [], laidByText := true, laidKinds := [.data], laidTests := true, laidLooks := .later }
def MemoryNoneUptoCardSaid : Prop := Claim7.holds Tryd.pinned (.plain (OpenSpec.upto memoryNoneSpec)) memoryNoneUptoCard

/-- THE SECOND FORM's CARD OF 'linesmanlaw06.MemoryHolds'. -/
def memoryHoldsUptoCard : Claim7 := { stood := { row := memoryHoldsUptoRow, standIns := [], harness := (true, "525048a6a86ed7be4799f4e85cb1da1627984bfe5759e44b19ac93a840fc6ab6"), looks := false }, kinds := [], alts := [], laidByText := true, laidKinds := [.data], laidTests := true, laidLooks := .later }
def MemoryHoldsUptoCardSaid : Prop := Claim7.holds Tryd.pinned (.plain (OpenSpec.upto memoryHoldsSpec)) memoryHoldsUptoCard
end Rows
end Go.Proofs.YtleihmmkonakhaaDoor
