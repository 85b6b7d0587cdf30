/-
  DERIVED. GIVEN WITH THE SEED: THE CARDS: each row of YtnhapmodgmkbjaaGreatDoorRows.lean that lists a variable, with what it lists TIED to the program's text (the seventh form; the later family's looks); each row that meets fmt, with fmt's text TOLD by the authors' own Lean function (tested against real Go, not proved from fmt's source: count such statements apart). THE CARD IS WHAT COUNTS. Prove the row's statement (the work); the ties are given (YtnhapmodgmkbjaaGreatDoorTie.lean); close each card by the builder's one call (the guide's Derived/Test/ToyasCard.lean, 'card_holds'). Laid BY PROGRAM, IN A SANDBOX (cutbox-door.mjs). By AI agents, Wed Nov 11 2026. No macro, syntax, notation, axiom, sorry.
-/
import Derived.Test.YtnhapmodgmkbjaaGreatDoorRows
import GoSem.ClaimSeven
namespace Go.Proofs.YtnhapmodgmkbjaaGreatDoor
namespace Rows

/-- THE TIED CARD OF 'linesmanlaw07.SiteSets'. -/
def siteSetsCard : Claim7 := { stood := { row := siteSetsRow, standIns := [], harness := (true, "48ef238a618ceda880871de7ffa446f2c9bcaf5cbbf493758f81cdbe786d209c"), looks := true }, kinds := [], alts := [], laidByText := true, laidKinds := [.data, .data, .data, .data, .sentinel, .sentinel, .data, .pinned], laidTests := true, laidLooks := .later }
def SiteSetsCardSaid : Prop := Claim7.holds Tryz.pinned (.plain (OpenSpec.ofChange siteSetsSpec)) siteSetsCard

/-- THE TIED CARD OF 'linesmanlaw07.SiteNone'. -/
def siteNoneCard : Claim7 := { stood := { row := siteNoneRow, standIns := [], harness := (true, "48ef238a618ceda880871de7ffa446f2c9bcaf5cbbf493758f81cdbe786d209c"), looks := true }, kinds := [], alts := [], laidByText := true, laidKinds := [.data, .data, .data, .data, .sentinel, .sentinel, .data, .pinned], laidTests := true, laidLooks := .later }
def SiteNoneCardSaid : Prop := Claim7.holds Tryz.pinned (.plain (OpenSpec.ofChange siteNoneSpec)) siteNoneCard

/-- THE SECOND FORM's CARD OF 'linesmanlaw07.SiteSets'. -/
def siteSetsUptoCard : Claim7 := { stood := { row := siteSetsUptoRow, standIns := [], harness := (true, "48ef238a618ceda880871de7ffa446f2c9bcaf5cbbf493758f81cdbe786d209c"), looks := true }, kinds := [], alts := [], laidByText := true, laidKinds := [.data, .data, .data, .data, .sentinel, .sentinel, .data, .pinned], laidTests := true, laidLooks := .later }
def SiteSetsUptoCardSaid : Prop := Claim7.holds Tryz.pinned (.plain (OpenSpec.upto siteSetsSpec)) siteSetsUptoCard

/-- THE SECOND FORM's CARD OF 'linesmanlaw07.SiteNone'. -/
def siteNoneUptoCard : Claim7 := { stood := { row := siteNoneUptoRow, standIns := [], harness := (true, "48ef238a618ceda880871de7ffa446f2c9bcaf5cbbf493758f81cdbe786d209c"), looks := true }, kinds := [], alts := [], laidByText := true, laidKinds := [.data, .data, .data, .data, .sentinel, .sentinel, .data, .pinned], laidTests := true, laidLooks := .later }
def SiteNoneUptoCardSaid : Prop := Claim7.holds Tryz.pinned (.plain (OpenSpec.upto siteNoneSpec)) siteNoneUptoCard
end Rows
end Go.Proofs.YtnhapmodgmkbjaaGreatDoor
