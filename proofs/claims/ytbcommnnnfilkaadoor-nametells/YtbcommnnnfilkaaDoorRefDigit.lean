/-
  The document's digit, by its contract.
-/
import Derived.Test.YtbcommnnnfilkaaDoorChecked
import Derived.Test.YtbcommnnnfilkaaDoorPlain
import Derived.WalkKit
import Derived.WalkSpells
import Derived.WalkLawsBesides
set_option linter.unusedSimpArgs false
namespace Go.Proofs.YtbcommnnnfilkaaDoor
open Go.RowKit

theorem digit_ref (c : Int) (hex : Bool) (w : World) (h0 : 0 ≤ c) (h1 : c ≤ 255) :
    Calls Tryd.prog 50 #[.int .u8 c, .bool hex] w fun e w' => e = .returned (.int .i64 (Sp.digR c hex)) ∧ w' = w := by
  cases hex
  all_goals go_enter Tryd.func50, Tryd.ntmps50
  all_goals go_wp2
  all_goals go_ret
  all_goals refine ⟨Sp.ret_int ?_, rfl⟩
  all_goals unfold Sp.digR
  all_goals simp only [Bool.false_eq_true, false_and, true_and, if_false]
  all_goals (repeat' split) <;> omega

end Go.Proofs.YtbcommnnnfilkaaDoor
