/-
  No cell of these rows narrows 'for every input' (looked for: loops, veiled, ifaces, maps, wideKeys, modest, calm, conditions, laid).
  DERIVED. THE GIVEN ROWS OF THIS SEAT. 5 by the template 'for every input the law returns true; each argument reads behind the call as it read before'; 0 by the template 'total and deterministic' (their statements: YtpipjkbgbhefcabTotals.lean).
  GIVEN WITH THE SEED: the statements are not yours to turn. If you find one false, say at which input.
  Laid BY PROGRAM, IN A SANDBOX (cutbox-rows.mjs): the forced cells as the released guide's own fill.sh prints them over the translation a1c1e147ce87da71… (all of the seat's roots in one cut). By AI agents, Wed Nov 11 2026. No macro, syntax, notation, axiom, sorry.
-/
import Derived.Test.YtpipjkbgbhefcabChecked
import GoSem.Claim
import GoSem.ClaimJoined
import GoSem.ClaimMapViews
import Derived.JoinedTies
import Derived.KernelRfl
namespace Go.Proofs.Ytpipjkbgbhefcab
/- THE CELL 'sum', in the pinned program and in every row, IS THE sha256 OF THE DUMP (.gsa) THAT YtpipjkbgbhefcabProg.lean LOADS. Nothing in Lean hashes anything: it is a label: what it is worth is what the hold of that sum in a sandbox is worth. -/
noncomputable def Try.pinned : Pinned := { name := "ytpipjkbgbhefcab", sum := "a1c1e147ce87da71e29d457ce0b6fb9ac19f6d94e12c30ee4a3f7f8678f56084", checked := Try.checked }
namespace Rows
def none {H : Type} : Left H := { results := [], args := [] }

/-- 'sentrylaw9.PlanUsers': WHATEVER THE INPUT: true; the input reads as it did. -/
def planUsersSpec : ChangeSpec := { name := "planUsers", fn := fun _ => fun
  | [d1, d2] => { results := [.lit (.bool true)], args := [d1, d2] }
  | _ => none }
def planUsersRow : OpenClaim := { program := "ytpipjkbgbhefcab", sum := "a1c1e147ce87da71e29d457ce0b6fb9ac19f6d94e12c30ee4a3f7f8678f56084", func := "sentry/sentrylaw9.PlanUsers", spec := "planUsers", unfollowed := true, recurses := true, plainKeys := false, apart := false }
def PlanUsersSaid : Prop := planUsersRow.holds Try.pinned (OpenSpec.ofChange planUsersSpec)

/-- ITS FALSE NEIGHBOUR: 'it returns false'. Refute it at one input. -/
def planUsersWrong : ChangeSpec := { name := "planUsers", fn := fun _ => fun
  | [d1, d2] => { results := [.lit (.bool false)], args := [d1, d2] }
  | _ => none }
def PlanUsersWrongFalsely : Prop := planUsersRow.holds Try.pinned (OpenSpec.ofChange planUsersWrong)

/-- 'sentrylaw9.PlanOfNothing': WHATEVER THE INPUT: true; the input reads as it did. -/
def planOfNothingSpec : ChangeSpec := { name := "planOfNothing", fn := fun _ => fun
  | [d1, d2] => { results := [.lit (.bool true)], args := [d1, d2] }
  | _ => none }
def planOfNothingRow : OpenClaim := { program := "ytpipjkbgbhefcab", sum := "a1c1e147ce87da71e29d457ce0b6fb9ac19f6d94e12c30ee4a3f7f8678f56084", func := "sentry/sentrylaw9.PlanOfNothing", spec := "planOfNothing", unfollowed := true, recurses := true, plainKeys := false, apart := false }
def PlanOfNothingSaid : Prop := planOfNothingRow.holds Try.pinned (OpenSpec.ofChange planOfNothingSpec)

/-- ITS FALSE NEIGHBOUR: 'it returns false'. Refute it at one input. -/
def planOfNothingWrong : ChangeSpec := { name := "planOfNothing", fn := fun _ => fun
  | [d1, d2] => { results := [.lit (.bool false)], args := [d1, d2] }
  | _ => none }
def PlanOfNothingWrongFalsely : Prop := planOfNothingRow.holds Try.pinned (OpenSpec.ofChange planOfNothingWrong)

/-- 'sentrylaw9.PlanChain': WHATEVER THE INPUT: true; the input reads as it did. -/
def planChainSpec : ChangeSpec := { name := "planChain", fn := fun _ => fun
  | [d] => { results := [.lit (.bool true)], args := [d] }
  | _ => none }
def planChainRow : OpenClaim := { program := "ytpipjkbgbhefcab", sum := "a1c1e147ce87da71e29d457ce0b6fb9ac19f6d94e12c30ee4a3f7f8678f56084", func := "sentry/sentrylaw9.PlanChain", spec := "planChain", unfollowed := true, recurses := true, plainKeys := false, apart := false }
def PlanChainSaid : Prop := planChainRow.holds Try.pinned (OpenSpec.ofChange planChainSpec)

/-- ITS FALSE NEIGHBOUR: 'it returns false'. Refute it at one input. -/
def planChainWrong : ChangeSpec := { name := "planChain", fn := fun _ => fun
  | [d] => { results := [.lit (.bool false)], args := [d] }
  | _ => none }
def PlanChainWrongFalsely : Prop := planChainRow.holds Try.pinned (OpenSpec.ofChange planChainWrong)

/-- 'sentrylaw9.PlanExit': WHATEVER THE INPUT: true; the input reads as it did. -/
def planExitSpec : ChangeSpec := { name := "planExit", fn := fun _ => fun
  | [d1, d2] => { results := [.lit (.bool true)], args := [d1, d2] }
  | _ => none }
def planExitRow : OpenClaim := { program := "ytpipjkbgbhefcab", sum := "a1c1e147ce87da71e29d457ce0b6fb9ac19f6d94e12c30ee4a3f7f8678f56084", func := "sentry/sentrylaw9.PlanExit", spec := "planExit", unfollowed := true, recurses := true, plainKeys := false, apart := false }
def PlanExitSaid : Prop := planExitRow.holds Try.pinned (OpenSpec.ofChange planExitSpec)

/-- ITS FALSE NEIGHBOUR: 'it returns false'. Refute it at one input. -/
def planExitWrong : ChangeSpec := { name := "planExit", fn := fun _ => fun
  | [d1, d2] => { results := [.lit (.bool false)], args := [d1, d2] }
  | _ => none }
def PlanExitWrongFalsely : Prop := planExitRow.holds Try.pinned (OpenSpec.ofChange planExitWrong)

/-- 'sentrylaw9.PlanMilestone': WHATEVER THE INPUT: true; the input reads as it did. -/
def planMilestoneSpec : ChangeSpec := { name := "planMilestone", fn := fun _ => fun
  | [d1, d2] => { results := [.lit (.bool true)], args := [d1, d2] }
  | _ => none }
def planMilestoneRow : OpenClaim := { program := "ytpipjkbgbhefcab", sum := "a1c1e147ce87da71e29d457ce0b6fb9ac19f6d94e12c30ee4a3f7f8678f56084", func := "sentry/sentrylaw9.PlanMilestone", spec := "planMilestone", unfollowed := true, recurses := true, plainKeys := false, apart := false }
def PlanMilestoneSaid : Prop := planMilestoneRow.holds Try.pinned (OpenSpec.ofChange planMilestoneSpec)

/-- ITS FALSE NEIGHBOUR: 'it returns false'. Refute it at one input. -/
def planMilestoneWrong : ChangeSpec := { name := "planMilestone", fn := fun _ => fun
  | [d1, d2] => { results := [.lit (.bool false)], args := [d1, d2] }
  | _ => none }
def PlanMilestoneWrongFalsely : Prop := planMilestoneRow.holds Try.pinned (OpenSpec.ofChange planMilestoneWrong)

/- THE SECOND FORM. 'bulk': how many values and letters a reading holds, each counted each time it is reached (what is shared counts as often as it is met; a slice's spare places count too). A statement '..UptoSaid' is the law's where the arguments, and the package variables that the reading takes, are together of bulk at most 1048576: NARROWER than '..Said'. Prove '..Said' where nothing that the law and all that it calls make is longer than what came in: it says more and counts as full. Else prove '..UptoSaid'. A law counts once. -/
mutual
def uptoBulk {H : Type} : DataW H → Nat
  | .lit (.string bytes) => bytes.length + 1
  | .lit _ => 1
  | .nil => 1
  | .ptr d => uptoBulk d + 1
  | .slice elems spare => uptoBulkAll elems + uptoBulkAll spare + 1
  | .agg parts => uptoBulkAll parts + 1
  | .iface _ d => uptoBulk d + 1
  | .map entries => uptoBulkEntries entries + 1
  | .held _ => 1
def uptoBulkAll {H : Type} : List (DataW H) → Nat
  | [] => 0
  | d :: r => uptoBulk d + uptoBulkAll r
def uptoBulkEntries {H : Type} : List (Lit × DataW H) → Nat
  | [] => 0
  | x :: r => uptoBulkEntry x + uptoBulkEntries r
def uptoBulkEntry {H : Type} : Lit × DataW H → Nat
  | (.string bytes, d) => bytes.length + uptoBulk d + 1
  | (_, d) => uptoBulk d + 1
 end
def uptoSmall : (H : Type) → List (DataW H) → Bool := fun _ ds => decide (uptoBulkAll ds ≤ 1048576)
def OpenSpec.upto (s : _root_.Go.ChangeSpec) : _root_.Go.OpenSpec := { _root_.Go.OpenSpec.ofChange s with cond := some uptoSmall }

/-- 'sentrylaw9.PlanUsers', WHERE WHAT IT READS IS OF BULK AT MOST 1048576: true; the input reads as it did. -/
def planUsersUptoRow : OpenClaim := { program := "ytpipjkbgbhefcab", sum := "a1c1e147ce87da71e29d457ce0b6fb9ac19f6d94e12c30ee4a3f7f8678f56084", func := "sentry/sentrylaw9.PlanUsers", spec := "planUsers", unfollowed := true, recurses := true, plainKeys := false, apart := false, narrowed := true }
def PlanUsersUptoSaid : Prop := planUsersUptoRow.holds Try.pinned (OpenSpec.upto planUsersSpec)

/-- 'sentrylaw9.PlanOfNothing', WHERE WHAT IT READS IS OF BULK AT MOST 1048576: true; the input reads as it did. -/
def planOfNothingUptoRow : OpenClaim := { program := "ytpipjkbgbhefcab", sum := "a1c1e147ce87da71e29d457ce0b6fb9ac19f6d94e12c30ee4a3f7f8678f56084", func := "sentry/sentrylaw9.PlanOfNothing", spec := "planOfNothing", unfollowed := true, recurses := true, plainKeys := false, apart := false, narrowed := true }
def PlanOfNothingUptoSaid : Prop := planOfNothingUptoRow.holds Try.pinned (OpenSpec.upto planOfNothingSpec)

/-- 'sentrylaw9.PlanChain', WHERE WHAT IT READS IS OF BULK AT MOST 1048576: true; the input reads as it did. -/
def planChainUptoRow : OpenClaim := { program := "ytpipjkbgbhefcab", sum := "a1c1e147ce87da71e29d457ce0b6fb9ac19f6d94e12c30ee4a3f7f8678f56084", func := "sentry/sentrylaw9.PlanChain", spec := "planChain", unfollowed := true, recurses := true, plainKeys := false, apart := false, narrowed := true }
def PlanChainUptoSaid : Prop := planChainUptoRow.holds Try.pinned (OpenSpec.upto planChainSpec)

/-- 'sentrylaw9.PlanExit', WHERE WHAT IT READS IS OF BULK AT MOST 1048576: true; the input reads as it did. -/
def planExitUptoRow : OpenClaim := { program := "ytpipjkbgbhefcab", sum := "a1c1e147ce87da71e29d457ce0b6fb9ac19f6d94e12c30ee4a3f7f8678f56084", func := "sentry/sentrylaw9.PlanExit", spec := "planExit", unfollowed := true, recurses := true, plainKeys := false, apart := false, narrowed := true }
def PlanExitUptoSaid : Prop := planExitUptoRow.holds Try.pinned (OpenSpec.upto planExitSpec)

/-- 'sentrylaw9.PlanMilestone', WHERE WHAT IT READS IS OF BULK AT MOST 1048576: true; the input reads as it did. -/
def planMilestoneUptoRow : OpenClaim := { program := "ytpipjkbgbhefcab", sum := "a1c1e147ce87da71e29d457ce0b6fb9ac19f6d94e12c30ee4a3f7f8678f56084", func := "sentry/sentrylaw9.PlanMilestone", spec := "planMilestone", unfollowed := true, recurses := true, plainKeys := false, apart := false, narrowed := true }
def PlanMilestoneUptoSaid : Prop := planMilestoneUptoRow.holds Try.pinned (OpenSpec.upto planMilestoneSpec)

end Rows
end Go.Proofs.Ytpipjkbgbhefcab
