/-
  The small functions of the document's answer: each by its contract.
-/
import Derived.Test.YtpipjkbgbhefcaaGreatChecked
import Derived.Test.YtpipjkbgbhefcaaGreatPartA
import Derived.WalkKit
import Derived.WalkSpells
import Derived.WalkLawsBesides
set_option linter.unusedSimpArgs false
namespace Go.Proofs.YtpipjkbgbhefcaaGreat
open Go.RowKit

theorem first_ref (c : Int) (w : World) :
    Calls Tryz.prog 67 #[.int .u8 c] w fun e w' => e = .returned (.bool (Sp.begZ c)) ∧ w' = w := by
  go_enter Tryz.func67, Tryz.ntmps67
  go_wp2
  all_goals go_ret
  all_goals refine ⟨Sp.ret_bool ?_, rfl⟩
  all_goals rw [Bool.eq_iff_iff]
  all_goals simp only [Sp.begZ, Bool.or_eq_true, beq_iff_eq, decide_eq_true_eq, true_iff]
  all_goals first | omega | simp

theorem byte_ref (c : Int) (w : World) :
    Calls Tryz.prog 68 #[.int .u8 c] w fun e w' => e = .returned (.bool (Sp.goZ c)) ∧ w' = w := by
  obtain ⟨b, hq, hb⟩ : ∃ b, (b = true ↔ ((97 ≤ c ∧ c ≤ 122) ∨ (65 ≤ c ∧ c ≤ 90) ∨ c = 95)) ∧ Sp.begZ c = b := ⟨_, by simp [Sp.begZ], rfl⟩
  have HQ : Hid (b = true ↔ ((97 ≤ c ∧ c ≤ 122) ∨ (65 ≤ c ∧ c ≤ 90) ∨ c = 95)) := hq
  clear hq
  cases b
  all_goals go_enter Tryz.func68, Tryz.ntmps68
  all_goals go_wp2_with (go_at_call 67; refine (first_ref _ _).mono ?_; rintro e w' ⟨rfl, rfl⟩)
  all_goals go_ret
  all_goals refine ⟨Sp.ret_bool ?_, rfl⟩
  all_goals rw [Bool.eq_iff_iff]
  all_goals have hq := HQ.out
  all_goals simp only [Bool.false_eq_true, false_iff, true_iff] at hq
  all_goals simp only [Sp.goZ, Bool.or_eq_true, Bool.and_eq_true, beq_iff_eq, decide_eq_true_eq, true_iff]
  all_goals first | omega | simp

end Go.Proofs.YtpipjkbgbhefcaaGreat
