/-
  DERIVED. GIVEN WITH THE SEED: THE CARDS: each row of YtjfonpbnohbpfaaGreatDoorRows.lean that lists a variable, with what it lists TIED to the program's text (the seventh form; the later family's looks); each row that meets fmt, with fmt's text TOLD by the authors' own Lean function (tested against real Go, not proved from fmt's source: count such statements apart). THE CARD IS WHAT COUNTS. Prove the row's statement (the work); the ties are given (YtjfonpbnohbpfaaGreatDoorTie.lean); close each card by the builder's one call (the guide's Derived/Test/ToyasCard.lean, 'card_holds'). Laid BY PROGRAM, IN A SANDBOX (cutbox-door.mjs). By AI agents, Wed Nov 11 2026. No macro, syntax, notation, axiom, sorry.
-/
import Derived.Test.YtjfonpbnohbpfaaGreatDoorRows
import GoSem.ClaimSeven
namespace Go.Proofs.YtjfonpbnohbpfaaGreatDoor
namespace Rows

/-- THE TIED CARD OF 'sentrylaw5.BindRequired'. -/
def bindRequiredCard : Claim7 := { stood := { row := bindRequiredRow, standIns := [], harness := (true, "64655cc6fad1158b8b6fa544943efcd3296d60d06b92b4573a13a4ce2df57abb"), looks := false }, kinds := [], alts := [], laidByText := true, laidKinds := [.data, .data, .data, .data, .data, .data, .data, .pinned], laidTests := true, laidLooks := .later }
def BindRequiredCardSaid : Prop := Claim7.holds Tryz.pinned (.plain (OpenSpec.ofChange bindRequiredSpec)) bindRequiredCard

/-- THE TIED CARD OF 'sentrylaw5.BindNumbers'. -/
def bindNumbersCard : Claim7 := { stood := { row := bindNumbersRow, standIns := [], harness := (true, "64655cc6fad1158b8b6fa544943efcd3296d60d06b92b4573a13a4ce2df57abb"), looks := false }, kinds := [], alts := [], laidByText := true, laidKinds := [.data, .data, .data, .data, .data, .data, .data, .pinned], laidTests := true, laidLooks := .later }
def BindNumbersCardSaid : Prop := Claim7.holds Tryz.pinned (.plain (OpenSpec.ofChange bindNumbersSpec)) bindNumbersCard

/-- THE SECOND FORM's CARD OF 'sentrylaw5.BindRequired'. -/
def bindRequiredUptoCard : Claim7 := { stood := { row := bindRequiredUptoRow, standIns := [], harness := (true, "64655cc6fad1158b8b6fa544943efcd3296d60d06b92b4573a13a4ce2df57abb"), looks := false }, kinds := [], alts := [], laidByText := true, laidKinds := [.data, .data, .data, .data, .data, .data, .data, .pinned], laidTests := true, laidLooks := .later }
def BindRequiredUptoCardSaid : Prop := Claim7.holds Tryz.pinned (.plain (OpenSpec.upto bindRequiredSpec)) bindRequiredUptoCard

/-- THE SECOND FORM's CARD OF 'sentrylaw5.BindNumbers'. -/
def bindNumbersUptoCard : Claim7 := { stood := { row := bindNumbersUptoRow, standIns := [], harness := (true, "64655cc6fad1158b8b6fa544943efcd3296d60d06b92b4573a13a4ce2df57abb"), looks := false }, kinds := [], alts := [], laidByText := true, laidKinds := [.data, .data, .data, .data, .data, .data, .data, .pinned], laidTests := true, laidLooks := .later }
def BindNumbersUptoCardSaid : Prop := Claim7.holds Tryz.pinned (.plain (OpenSpec.upto bindNumbersSpec)) bindNumbersUptoCard
end Rows
end Go.Proofs.YtjfonpbnohbpfaaGreatDoor
