/-
  No cell of these rows narrows 'for every input' (looked for: loops, veiled, ifaces, maps, wideKeys, modest, calm, conditions, laid).
  DERIVED. THE GIVEN ROWS OF THIS SEAT. 5 by the template 'for every input the law returns true; each argument reads behind the call as it read before'; 0 by the template 'total and deterministic' (their statements: YtpipjkbgbhefcaaGreatTotals.lean).
  GIVEN WITH THE SEED: the statements are not yours to turn. If you find one false, say at which input.
  Laid BY PROGRAM, IN A SANDBOX (cutbox-rows.mjs): the forced cells as the released guide's own fill.sh prints them over the translation 1a11a756921c6b69… (all of the seat's roots in one cut). By AI agents, Wed Nov 11 2026. No macro, syntax, notation, axiom, sorry.
-/
import Derived.Test.YtpipjkbgbhefcaaGreatChecked
import GoSem.Claim
import GoSem.ClaimJoined
import GoSem.ClaimMapViews
import Derived.JoinedTies
import Derived.KernelRfl
namespace Go.Proofs.YtpipjkbgbhefcaaGreat
/- THE CELL 'sum', in the pinned program and in every row, IS THE sha256 OF THE DUMP (.gsa) THAT YtpipjkbgbhefcaaGreatProg.lean LOADS. Nothing in Lean hashes anything: it is a label: what it is worth is what the hold of that sum in a sandbox is worth. -/
noncomputable def Tryz.pinned : Pinned := { name := "ytpipjkbgbhefcaagreat", sum := "1a11a756921c6b6954effa3ef2f77d41112c955e167583a25e354e8cd442eba9", checked := Tryz.checked }
namespace Rows
def none {H : Type} : Left H := { results := [], args := [] }

/-- 'sentrylaw9.PlanPlays': WHATEVER THE INPUT: true; the input reads as it did. -/
def planPlaysSpec : ChangeSpec := { name := "planPlays", fn := fun _ => fun
  | [d1, d2] => { results := [.lit (.bool true)], args := [d1, d2] }
  | _ => none }
def planPlaysRow : OpenClaim := { program := "ytpipjkbgbhefcaagreat", sum := "1a11a756921c6b6954effa3ef2f77d41112c955e167583a25e354e8cd442eba9", func := "sentry/sentrylaw9.PlanPlays", spec := "planPlays", unfollowed := true, recurses := true, plainKeys := false, apart := false }
def PlanPlaysSaid : Prop := planPlaysRow.holds Tryz.pinned (OpenSpec.ofChange planPlaysSpec)

/-- ITS FALSE NEIGHBOUR: 'it returns false'. Refute it at one input. -/
def planPlaysWrong : ChangeSpec := { name := "planPlays", fn := fun _ => fun
  | [d1, d2] => { results := [.lit (.bool false)], args := [d1, d2] }
  | _ => none }
def PlanPlaysWrongFalsely : Prop := planPlaysRow.holds Tryz.pinned (OpenSpec.ofChange planPlaysWrong)

/-- 'sentrylaw9.PlanErrs': WHATEVER THE INPUT: true; the input reads as it did. -/
def planErrsSpec : ChangeSpec := { name := "planErrs", fn := fun _ => fun
  | [d1, d2, d3] => { results := [.lit (.bool true)], args := [d1, d2, d3] }
  | _ => none }
def planErrsRow : OpenClaim := { program := "ytpipjkbgbhefcaagreat", sum := "1a11a756921c6b6954effa3ef2f77d41112c955e167583a25e354e8cd442eba9", func := "sentry/sentrylaw9.PlanErrs", spec := "planErrs", unfollowed := true, recurses := true, plainKeys := false, apart := false }
def PlanErrsSaid : Prop := planErrsRow.holds Tryz.pinned (OpenSpec.ofChange planErrsSpec)

/-- ITS FALSE NEIGHBOUR: 'it returns false'. Refute it at one input. -/
def planErrsWrong : ChangeSpec := { name := "planErrs", fn := fun _ => fun
  | [d1, d2, d3] => { results := [.lit (.bool false)], args := [d1, d2, d3] }
  | _ => none }
def PlanErrsWrongFalsely : Prop := planErrsRow.holds Tryz.pinned (OpenSpec.ofChange planErrsWrong)

/-- 'sentrylaw9.PlanForward': WHATEVER THE INPUT: true; the input reads as it did. -/
def planForwardSpec : ChangeSpec := { name := "planForward", fn := fun _ => fun
  | [d1, d2] => { results := [.lit (.bool true)], args := [d1, d2] }
  | _ => none }
def planForwardRow : OpenClaim := { program := "ytpipjkbgbhefcaagreat", sum := "1a11a756921c6b6954effa3ef2f77d41112c955e167583a25e354e8cd442eba9", func := "sentry/sentrylaw9.PlanForward", spec := "planForward", unfollowed := true, recurses := true, plainKeys := false, apart := false }
def PlanForwardSaid : Prop := planForwardRow.holds Tryz.pinned (OpenSpec.ofChange planForwardSpec)

/-- ITS FALSE NEIGHBOUR: 'it returns false'. Refute it at one input. -/
def planForwardWrong : ChangeSpec := { name := "planForward", fn := fun _ => fun
  | [d1, d2] => { results := [.lit (.bool false)], args := [d1, d2] }
  | _ => none }
def PlanForwardWrongFalsely : Prop := planForwardRow.holds Tryz.pinned (OpenSpec.ofChange planForwardWrong)

/-- 'sentrylaw9.PlanWithin': WHATEVER THE INPUT: true; the input reads as it did. -/
def planWithinSpec : ChangeSpec := { name := "planWithin", fn := fun _ => fun
  | [d1, d2] => { results := [.lit (.bool true)], args := [d1, d2] }
  | _ => none }
def planWithinRow : OpenClaim := { program := "ytpipjkbgbhefcaagreat", sum := "1a11a756921c6b6954effa3ef2f77d41112c955e167583a25e354e8cd442eba9", func := "sentry/sentrylaw9.PlanWithin", spec := "planWithin", unfollowed := true, recurses := true, plainKeys := false, apart := false }
def PlanWithinSaid : Prop := planWithinRow.holds Tryz.pinned (OpenSpec.ofChange planWithinSpec)

/-- ITS FALSE NEIGHBOUR: 'it returns false'. Refute it at one input. -/
def planWithinWrong : ChangeSpec := { name := "planWithin", fn := fun _ => fun
  | [d1, d2] => { results := [.lit (.bool false)], args := [d1, d2] }
  | _ => none }
def PlanWithinWrongFalsely : Prop := planWithinRow.holds Tryz.pinned (OpenSpec.ofChange planWithinWrong)

/-- 'sentrylaw9.PlanQuiet': WHATEVER THE INPUT: true; the input reads as it did. -/
def planQuietSpec : ChangeSpec := { name := "planQuiet", fn := fun _ => fun
  | [d1, d2] => { results := [.lit (.bool true)], args := [d1, d2] }
  | _ => none }
def planQuietRow : OpenClaim := { program := "ytpipjkbgbhefcaagreat", sum := "1a11a756921c6b6954effa3ef2f77d41112c955e167583a25e354e8cd442eba9", func := "sentry/sentrylaw9.PlanQuiet", spec := "planQuiet", unfollowed := true, recurses := true, plainKeys := false, apart := false }
def PlanQuietSaid : Prop := planQuietRow.holds Tryz.pinned (OpenSpec.ofChange planQuietSpec)

/-- ITS FALSE NEIGHBOUR: 'it returns false'. Refute it at one input. -/
def planQuietWrong : ChangeSpec := { name := "planQuiet", fn := fun _ => fun
  | [d1, d2] => { results := [.lit (.bool false)], args := [d1, d2] }
  | _ => none }
def PlanQuietWrongFalsely : Prop := planQuietRow.holds Tryz.pinned (OpenSpec.ofChange planQuietWrong)

/- THE SECOND FORM. 'bulk': how many values and letters a reading holds, each counted each time it is reached (what is shared counts as often as it is met; a slice's spare places count too). A statement '..UptoSaid' is the law's where the arguments, and the package variables that the reading takes, are together of bulk at most 1048576: NARROWER than '..Said'. Prove '..Said' where nothing that the law and all that it calls make is longer than what came in: it says more and counts as full. Else prove '..UptoSaid'. A law counts once. -/
mutual
def uptoBulk {H : Type} : DataW H → Nat
  | .lit (.string bytes) => bytes.length + 1
  | .lit _ => 1
  | .nil => 1
  | .ptr d => uptoBulk d + 1
  | .slice elems spare => uptoBulkAll elems + uptoBulkAll spare + 1
  | .agg parts => uptoBulkAll parts + 1
  | .iface _ d => uptoBulk d + 1
  | .map entries => uptoBulkEntries entries + 1
  | .held _ => 1
def uptoBulkAll {H : Type} : List (DataW H) → Nat
  | [] => 0
  | d :: r => uptoBulk d + uptoBulkAll r
def uptoBulkEntries {H : Type} : List (Lit × DataW H) → Nat
  | [] => 0
  | x :: r => uptoBulkEntry x + uptoBulkEntries r
def uptoBulkEntry {H : Type} : Lit × DataW H → Nat
  | (.string bytes, d) => bytes.length + uptoBulk d + 1
  | (_, d) => uptoBulk d + 1
 end
def uptoSmall : (H : Type) → List (DataW H) → Bool := fun _ ds => decide (uptoBulkAll ds ≤ 1048576)
def OpenSpec.upto (s : _root_.Go.ChangeSpec) : _root_.Go.OpenSpec := { _root_.Go.OpenSpec.ofChange s with cond := some uptoSmall }

/-- 'sentrylaw9.PlanPlays', WHERE WHAT IT READS IS OF BULK AT MOST 1048576: true; the input reads as it did. -/
def planPlaysUptoRow : OpenClaim := { program := "ytpipjkbgbhefcaagreat", sum := "1a11a756921c6b6954effa3ef2f77d41112c955e167583a25e354e8cd442eba9", func := "sentry/sentrylaw9.PlanPlays", spec := "planPlays", unfollowed := true, recurses := true, plainKeys := false, apart := false, narrowed := true }
def PlanPlaysUptoSaid : Prop := planPlaysUptoRow.holds Tryz.pinned (OpenSpec.upto planPlaysSpec)

/-- 'sentrylaw9.PlanErrs', WHERE WHAT IT READS IS OF BULK AT MOST 1048576: true; the input reads as it did. -/
def planErrsUptoRow : OpenClaim := { program := "ytpipjkbgbhefcaagreat", sum := "1a11a756921c6b6954effa3ef2f77d41112c955e167583a25e354e8cd442eba9", func := "sentry/sentrylaw9.PlanErrs", spec := "planErrs", unfollowed := true, recurses := true, plainKeys := false, apart := false, narrowed := true }
def PlanErrsUptoSaid : Prop := planErrsUptoRow.holds Tryz.pinned (OpenSpec.upto planErrsSpec)

/-- 'sentrylaw9.PlanForward', WHERE WHAT IT READS IS OF BULK AT MOST 1048576: true; the input reads as it did. -/
def planForwardUptoRow : OpenClaim := { program := "ytpipjkbgbhefcaagreat", sum := "1a11a756921c6b6954effa3ef2f77d41112c955e167583a25e354e8cd442eba9", func := "sentry/sentrylaw9.PlanForward", spec := "planForward", unfollowed := true, recurses := true, plainKeys := false, apart := false, narrowed := true }
def PlanForwardUptoSaid : Prop := planForwardUptoRow.holds Tryz.pinned (OpenSpec.upto planForwardSpec)

/-- 'sentrylaw9.PlanWithin', WHERE WHAT IT READS IS OF BULK AT MOST 1048576: true; the input reads as it did. -/
def planWithinUptoRow : OpenClaim := { program := "ytpipjkbgbhefcaagreat", sum := "1a11a756921c6b6954effa3ef2f77d41112c955e167583a25e354e8cd442eba9", func := "sentry/sentrylaw9.PlanWithin", spec := "planWithin", unfollowed := true, recurses := true, plainKeys := false, apart := false, narrowed := true }
def PlanWithinUptoSaid : Prop := planWithinUptoRow.holds Tryz.pinned (OpenSpec.upto planWithinSpec)

/-- 'sentrylaw9.PlanQuiet', WHERE WHAT IT READS IS OF BULK AT MOST 1048576: true; the input reads as it did. -/
def planQuietUptoRow : OpenClaim := { program := "ytpipjkbgbhefcaagreat", sum := "1a11a756921c6b6954effa3ef2f77d41112c955e167583a25e354e8cd442eba9", func := "sentry/sentrylaw9.PlanQuiet", spec := "planQuiet", unfollowed := true, recurses := true, plainKeys := false, apart := false, narrowed := true }
def PlanQuietUptoSaid : Prop := planQuietUptoRow.holds Tryz.pinned (OpenSpec.upto planQuietSpec)

end Rows
end Go.Proofs.YtpipjkbgbhefcaaGreat
