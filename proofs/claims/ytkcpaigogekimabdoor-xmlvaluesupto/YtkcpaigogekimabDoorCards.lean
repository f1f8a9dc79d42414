/-
  DERIVED. GIVEN WITH THE SEED: THE CARDS: each row of YtkcpaigogekimabDoorRows.lean that lists a variable, with what it lists TIED to the program's text (the seventh form; the later family's looks); each row that meets fmt, with fmt's text TOLD by the authors' own Lean function (tested against real Go, not proved from fmt's source: count such statements apart). THE CARD IS WHAT COUNTS. Prove the row's statement (the work); the ties are given (YtkcpaigogekimabDoorTie.lean); close each card by the builder's one call (the guide's Derived/Test/ToyasCard.lean, 'card_holds'). Laid BY PROGRAM, IN A SANDBOX (cutbox-door.mjs). By AI agents, Wed Nov 11 2026. No macro, syntax, notation, axiom, sorry.
-/
import Derived.Test.YtkcpaigogekimabDoorRows
import GoSem.ClaimSeven
namespace Go.Proofs.YtkcpaigogekimabDoor
namespace Rows

/-- THE TIED CARD OF 'sentrylaw2.XmlWrong'. -/
def xmlWrongCard : Claim7 := { stood := { row := xmlWrongRow, standIns := [], harness := (true, "9854ce9d8b48d94543dd46752af31bed5b0645773859200ed1c42562b3437e42"), looks := false }, kinds := [], alts := [], laidByText := true, laidKinds := [.data, .pinned], laidTests := true, laidLooks := .later }
def XmlWrongCardSaid : Prop := Claim7.holds Tryd.pinned (.plain (OpenSpec.ofChange xmlWrongSpec)) xmlWrongCard

/-- THE TIED CARD OF 'sentrylaw2.XmlValues'. -/
def xmlValuesCard : Claim7 := { stood := { row := xmlValuesRow, standIns := [], harness := (true, "9854ce9d8b48d94543dd46752af31bed5b0645773859200ed1c42562b3437e42"), looks := false }, kinds := [], alts := [], laidByText := true, laidKinds := [.data, .pinned], laidTests := true, laidLooks := .later }
def XmlValuesCardSaid : Prop := Claim7.holds Tryd.pinned (.plain (OpenSpec.ofChange xmlValuesSpec)) xmlValuesCard

/-- THE TIED CARD OF 'sentrylaw2.XmlLong'. -/
def xmlLongCard : Claim7 := { stood := { row := xmlLongRow, standIns := [], harness := (true, "9854ce9d8b48d94543dd46752af31bed5b0645773859200ed1c42562b3437e42"), looks := false }, kinds := [], alts := [], laidByText := true, laidKinds := [.data, .pinned], laidTests := true, laidLooks := .later }
def XmlLongCardSaid : Prop := Claim7.holds Tryd.pinned (.plain (OpenSpec.ofChange xmlLongSpec)) xmlLongCard

/-- THE SECOND FORM's CARD OF 'sentrylaw2.XmlWrong'. -/
def xmlWrongUptoCard : Claim7 := { stood := { row := xmlWrongUptoRow, standIns := [], harness := (true, "9854ce9d8b48d94543dd46752af31bed5b0645773859200ed1c42562b3437e42"), looks := false }, kinds := [], alts := [], laidByText := true, laidKinds := [.data, .pinned], laidTests := true, laidLooks := .later }
def XmlWrongUptoCardSaid : Prop := Claim7.holds Tryd.pinned (.plain (OpenSpec.upto xmlWrongSpec)) xmlWrongUptoCard

/-- THE SECOND FORM's CARD OF 'sentrylaw2.XmlValues'. -/
def xmlValuesUptoCard : Claim7 := { stood := { row := xmlValuesUptoRow, standIns := [], harness := (true, "9854ce9d8b48d94543dd46752af31bed5b0645773859200ed1c42562b3437e42"), looks := false }, kinds := [], alts := [], laidByText := true, laidKinds := [.data, .pinned], laidTests := true, laidLooks := .later }
def XmlValuesUptoCardSaid : Prop := Claim7.holds Tryd.pinned (.plain (OpenSpec.upto xmlValuesSpec)) xmlValuesUptoCard

/-- THE SECOND FORM's CARD OF 'sentrylaw2.XmlLong'. -/
def xmlLongUptoCard : Claim7 := { stood := { row := xmlLongUptoRow, standIns := [], harness := (true, "9854ce9d8b48d94543dd46752af31bed5b0645773859200ed1c42562b3437e42"), looks := false }, kinds := [], alts := [], laidByText := true, laidKinds := [.data, .pinned], laidTests := true, laidLooks := .later }
def XmlLongUptoCardSaid : Prop := Claim7.holds Tryd.pinned (.plain (OpenSpec.upto xmlLongSpec)) xmlLongUptoCard
end Rows
end Go.Proofs.YtkcpaigogekimabDoor
