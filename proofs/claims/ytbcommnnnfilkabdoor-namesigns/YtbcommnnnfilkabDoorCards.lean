/-
  DERIVED. GIVEN WITH THE SEED: THE CARDS: each row of YtbcommnnnfilkabDoorRows.lean that lists a variable, with what it lists TIED to the program's text (the seventh form; the later family's looks); each row that meets fmt, with fmt's text TOLD by the authors' own Lean function (tested against real Go, not proved from fmt's source: count such statements apart). THE CARD IS WHAT COUNTS. Prove the row's statement (the work); the ties are given (YtbcommnnnfilkabDoorTie.lean); close each card by the builder's one call (the guide's Derived/Test/ToyasCard.lean, 'card_holds'). Laid BY PROGRAM, IN A SANDBOX (cutbox-door.mjs). By AI agents, Wed Nov 11 2026. No macro, syntax, notation, axiom, sorry.
-/
import Derived.Test.YtbcommnnnfilkabDoorRows
import GoSem.ClaimSeven
namespace Go.Proofs.YtbcommnnnfilkabDoor
namespace Rows

/-- THE TIED CARD OF 'sentrylaw1.NameJoin'. -/
def nameJoinCard : Claim7 := { stood := { row := nameJoinRow, standIns := [], harness := (true, "f9468daf3ec69bb86ce38e7f154546bf6899921c872b39b35f8b8e57c536e827"), looks := false }, kinds := [], alts := [], laidByText := true, laidKinds := [.data, .pinned], laidTests := true, laidLooks := .later }
def NameJoinCardSaid : Prop := Claim7.holds Tryd.pinned (.plain (OpenSpec.ofChange nameJoinSpec)) nameJoinCard

/-- THE TIED CARD OF 'sentrylaw1.NameParts'. -/
def namePartsCard : Claim7 := { stood := { row := namePartsRow, standIns := [], harness := (true, "f9468daf3ec69bb86ce38e7f154546bf6899921c872b39b35f8b8e57c536e827"), looks := false }, kinds := [], alts := [], laidByText := true, laidKinds := [.data, .pinned], laidTests := true, laidLooks := .later }
def NamePartsCardSaid : Prop := Claim7.holds Tryd.pinned (.plain (OpenSpec.ofChange namePartsSpec)) namePartsCard

/-- THE TIED CARD OF 'sentrylaw1.NameSigns'. -/
def nameSignsCard : Claim7 := { stood := { row := nameSignsRow, standIns := [], harness := (true, "f9468daf3ec69bb86ce38e7f154546bf6899921c872b39b35f8b8e57c536e827"), looks := false }, kinds := [], alts := [], laidByText := true, laidKinds := [.data, .pinned], laidTests := true, laidLooks := .later }
def NameSignsCardSaid : Prop := Claim7.holds Tryd.pinned (.plain (OpenSpec.ofChange nameSignsSpec)) nameSignsCard

/-- THE SECOND FORM's CARD OF 'sentrylaw1.NameJoin'. -/
def nameJoinUptoCard : Claim7 := { stood := { row := nameJoinUptoRow, standIns := [], harness := (true, "f9468daf3ec69bb86ce38e7f154546bf6899921c872b39b35f8b8e57c536e827"), looks := false }, kinds := [], alts := [], laidByText := true, laidKinds := [.data, .pinned], laidTests := true, laidLooks := .later }
def NameJoinUptoCardSaid : Prop := Claim7.holds Tryd.pinned (.plain (OpenSpec.upto nameJoinSpec)) nameJoinUptoCard

/-- THE SECOND FORM's CARD OF 'sentrylaw1.NameParts'. -/
def namePartsUptoCard : Claim7 := { stood := { row := namePartsUptoRow, standIns := [], harness := (true, "f9468daf3ec69bb86ce38e7f154546bf6899921c872b39b35f8b8e57c536e827"), looks := false }, kinds := [], alts := [], laidByText := true, laidKinds := [.data, .pinned], laidTests := true, laidLooks := .later }
def NamePartsUptoCardSaid : Prop := Claim7.holds Tryd.pinned (.plain (OpenSpec.upto namePartsSpec)) namePartsUptoCard

/-- THE SECOND FORM's CARD OF 'sentrylaw1.NameSigns'. -/
def nameSignsUptoCard : Claim7 := { stood := { row := nameSignsUptoRow, standIns := [], harness := (true, "f9468daf3ec69bb86ce38e7f154546bf6899921c872b39b35f8b8e57c536e827"), looks := false }, kinds := [], alts := [], laidByText := true, laidKinds := [.data, .pinned], laidTests := true, laidLooks := .later }
def NameSignsUptoCardSaid : Prop := Claim7.holds Tryd.pinned (.plain (OpenSpec.upto nameSignsSpec)) nameSignsUptoCard
end Rows
end Go.Proofs.YtbcommnnnfilkabDoor
