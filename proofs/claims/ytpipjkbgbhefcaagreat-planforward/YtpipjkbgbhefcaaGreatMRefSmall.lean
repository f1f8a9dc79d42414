/-
  The document's Legal, Place, File, Op.
-/
import Derived.Test.YtpipjkbgbhefcaaGreatPartX
import Derived.Test.YtpipjkbgbhefcaaGreatRefIs
set_option linter.unusedSimpArgs false
set_option linter.unusedVariables false
namespace Go.Proofs.YtpipjkbgbhefcaaGreat
open Go.RowKit
set_option maxRecDepth 100000
theorem legalRef (k e : Int) (w : World) :
    Calls Tryz.prog 98 #[.int .i64 k, .int .i64 e] w fun r w' => r = .returned (.bool (Mp.legalB k e)) ∧ w' = w := by
  go_enter Tryz.func98, Tryz.ntmps98
  go_wp2
  all_goals go_ret
  all_goals refine ⟨ret_b ?_, rfl⟩
  all_goals (try simp only [beq_iff_eq, beq_eq_false_iff_ne] at *)
  all_goals (try simp_all [Mp.legalB, Mp.kindB, int_beq])
  all_goals first | omega | (rw [Bool.eq_iff_iff]; simp only [Bool.or_eq_true, decide_eq_true_eq]; omega) | (split <;> first | omega | (split <;> omega)) | skip
end Go.Proofs.YtpipjkbgbhefcaaGreat
