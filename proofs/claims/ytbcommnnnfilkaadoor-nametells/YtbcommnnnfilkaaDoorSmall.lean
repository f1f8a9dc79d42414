/-
  The small functions of package name and of the document's answer: each by its contract.
-/
import Derived.Test.YtbcommnnnfilkaaDoorChecked
import Derived.Test.YtbcommnnnfilkaaDoorPlain
import Derived.WalkKit
import Derived.WalkSpells
import Derived.WalkLawsBesides
set_option linter.unusedSimpArgs false
namespace Go.Proofs.YtbcommnnnfilkaaDoor
open Go.RowKit

theorem begins_any (c : Int) (w : World) :
    Calls Tryd.prog 29 #[.int .u8 c] w fun e w' => e = .returned (.bool (Sp.begZ c)) ∧ w' = w := by
  go_enter Tryd.func29, Tryd.ntmps29
  go_wp2
  all_goals go_ret
  all_goals refine ⟨Sp.ret_bool ?_, rfl⟩
  all_goals rw [Bool.eq_iff_iff]
  all_goals simp only [Sp.begZ, Bool.or_eq_true, beq_iff_eq, decide_eq_true_eq, true_iff]
  all_goals first | omega | simp

theorem first_ref (c : Int) (w : World) :
    Calls Tryd.prog 31 #[.int .u8 c] w fun e w' => e = .returned (.bool (Sp.begZ c)) ∧ w' = w := by
  go_enter Tryd.func31, Tryd.ntmps31
  go_wp2
  all_goals go_ret
  all_goals refine ⟨Sp.ret_bool ?_, rfl⟩
  all_goals rw [Bool.eq_iff_iff]
  all_goals simp only [Sp.begZ, Bool.or_eq_true, beq_iff_eq, decide_eq_true_eq, true_iff]
  all_goals first | omega | simp

theorem goesOn_any (c : Int) (w : World) :
    Calls Tryd.prog 30 #[.int .u8 c] w fun e w' => e = .returned (.bool (Sp.goZ c)) ∧ w' = w := by
  obtain ⟨b, hq, hb⟩ : ∃ b, (b = true ↔ ((97 ≤ c ∧ c ≤ 122) ∨ (65 ≤ c ∧ c ≤ 90) ∨ c = 95)) ∧ Sp.begZ c = b := ⟨_, by simp [Sp.begZ], rfl⟩
  have HQ : Hid (b = true ↔ ((97 ≤ c ∧ c ≤ 122) ∨ (65 ≤ c ∧ c ≤ 90) ∨ c = 95)) := hq
  clear hq
  cases b
  all_goals go_enter Tryd.func30, Tryd.ntmps30
  all_goals go_wp2_with (go_at_call 29; refine (begins_any _ _).mono ?_; rintro e w' ⟨rfl, rfl⟩)
  all_goals go_ret
  all_goals refine ⟨Sp.ret_bool ?_, rfl⟩
  all_goals rw [Bool.eq_iff_iff]
  all_goals have hq := HQ.out
  all_goals simp only [Bool.false_eq_true, false_iff, true_iff] at hq
  all_goals simp only [Sp.goZ, Bool.or_eq_true, Bool.and_eq_true, beq_iff_eq, decide_eq_true_eq, true_iff]
  all_goals first | omega | simp

theorem byte_ref (c : Int) (w : World) :
    Calls Tryd.prog 32 #[.int .u8 c] w fun e w' => e = .returned (.bool (Sp.goZ c)) ∧ w' = w := by
  obtain ⟨b, hq, hb⟩ : ∃ b, (b = true ↔ ((97 ≤ c ∧ c ≤ 122) ∨ (65 ≤ c ∧ c ≤ 90) ∨ c = 95)) ∧ Sp.begZ c = b := ⟨_, by simp [Sp.begZ], rfl⟩
  have HQ : Hid (b = true ↔ ((97 ≤ c ∧ c ≤ 122) ∨ (65 ≤ c ∧ c ≤ 90) ∨ c = 95)) := hq
  clear hq
  cases b
  all_goals go_enter Tryd.func32, Tryd.ntmps32
  all_goals go_wp2_with (go_at_call 31; refine (first_ref _ _).mono ?_; rintro e w' ⟨rfl, rfl⟩)
  all_goals go_ret
  all_goals refine ⟨Sp.ret_bool ?_, rfl⟩
  all_goals rw [Bool.eq_iff_iff]
  all_goals have hq := HQ.out
  all_goals simp only [Bool.false_eq_true, false_iff, true_iff] at hq
  all_goals simp only [Sp.goZ, Bool.or_eq_true, Bool.and_eq_true, beq_iff_eq, decide_eq_true_eq, true_iff]
  all_goals first | omega | simp

theorem char_any (c : Int) (w : World) :
    Calls Tryd.prog 20 #[.int .i32 c] w fun e w' => e = .returned (.bool (Sp.charB c)) ∧ w' = w := by
  go_enter Tryd.func20, Tryd.ntmps20
  go_wp2
  all_goals go_ret
  all_goals refine ⟨Sp.ret_bool ?_, rfl⟩
  all_goals simp only [beq_iff_eq, beq_eq_false_iff_ne] at *
  all_goals rw [Bool.eq_iff_iff]
  all_goals simp only [Sp.charB, decide_eq_true_eq, true_iff, Bool.false_eq_true, false_iff]
  all_goals first | omega | simp

theorem char_ref (c : Int) (w : World) :
    Calls Tryd.prog 21 #[.int .i32 c] w fun e w' => e = .returned (.bool (Sp.charB c)) ∧ w' = w := by
  go_enter Tryd.func21, Tryd.ntmps21
  go_wp2
  all_goals go_ret
  all_goals refine ⟨Sp.ret_bool ?_, rfl⟩
  all_goals (try simp only [beq_iff_eq, beq_eq_false_iff_ne] at *)
  all_goals rw [Bool.eq_iff_iff]
  all_goals simp only [Sp.charB, Bool.or_eq_true, Bool.and_eq_true, beq_iff_eq, decide_eq_true_eq, true_iff, Bool.false_eq_true, false_iff]
  all_goals first | omega | simp

theorem digit_any (c : Int) (w : World) (h0 : 0 ≤ c) (h1 : c ≤ 255) :
    Calls Tryd.prog 60 #[.int .u8 c] w fun e w' => e = .returned (.int .i32 (Sp.digZ c)) ∧ w' = w := by
  go_enter Tryd.func60, Tryd.ntmps60
  go_wp2
  all_goals go_ret
  all_goals refine ⟨Sp.ret_int ?_, rfl⟩
  all_goals unfold Sp.digZ
  all_goals (repeat' split) <;> omega

theorem written_any (c : Int) (attr : Bool) (w : World) :
    Calls Tryd.prog 33 #[.int .u8 c, .bool attr] w fun e w' => e = .returned (.string ⟨(Sp.writ c attr).toArray⟩) ∧ w' = w := by
  cases attr
  all_goals go_enter Tryd.func33, Tryd.ntmps33
  all_goals go_wp2
  all_goals go_ret
  all_goals refine ⟨?_, rfl⟩
  all_goals simp only [beq_iff_eq, beq_eq_false_iff_ne] at *
  all_goals simp [Sp.writ, *]
end Go.Proofs.YtbcommnnnfilkaaDoor
