/-
  The law QueueOfNothing, walked.
-/
import Derived.Test.YtjibkhljihnhiaaQNil
set_option linter.unusedSimpArgs false
set_option linter.unusedVariables false
namespace Go.Proofs.Ytjibkhljihnhiaa
open Go.RowKit
set_option maxHeartbeats 4000000 in
theorem queueOfNothing_walk (d : Int) (hd : (Lit.int .i64 d).wf = true) (x : Int) (hx : (Lit.int .i64 x).wf = true) {w : World} :
    Calls Try.prog 7 #[.int .i64 d, .int .i64 x] w fun e w' => e = .returned (.bool true) ∧ Below w.heap.size w w' := by
  go_enter Try.func7, Try.ntmps7
  go_wp2_with (first
    | (go_at_call 12; refine (popNil w).mono ?_; rintro e w1 ⟨rfl, hw⟩; obtain rfl := hw.symm)
    | (go_at_call 14; refine (peekNil w).mono ?_; rintro e w1 ⟨rfl, hw⟩; obtain rfl := hw.symm)
    | (go_at_call 10; refine (pushNil w d x).mono ?_; rintro e w1 ⟨rfl, hw⟩; obtain rfl := hw.symm)
    | (go_at_call 17; refine (lenNil w).mono ?_; rintro e w1 ⟨rfl, hw⟩; obtain rfl := hw.symm)
    | (go_at_call 16; refine (copyNil w).mono ?_; rintro e w1 ⟨rfl, hw⟩; obtain rfl := hw.symm)
    | (go_at_call 18; refine (knownQ w).mono ?_; rintro e w1 ⟨rfl, b1⟩))
  go_ret
  exact ⟨rfl, b1⟩
end Go.Proofs.Ytjibkhljihnhiaa
