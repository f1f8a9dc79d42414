/-
  A condition as it is kept. (Written by GCond.py.)
-/
import Derived.Test.YtkjekohncfhbiabGCondLt
import Derived.Test.YtkjekohncfhbiabGCondLe
import Derived.Test.YtkjekohncfhbiabGCondEq
import Derived.Test.YtkjekohncfhbiabGCondNe
import Derived.Test.YtkjekohncfhbiabGCondGe
import Derived.Test.YtkjekohncfhbiabGCondGt
set_option linter.unusedSimpArgs false
set_option linter.unusedVariables false
namespace Go.Proofs.Ytkjekohncfhbiab
open Go.RowKit
set_option maxRecDepth 100000
theorem condOfD (w : World) (ao : Option Addr) (k cap : Nat) (files : List ByteArray) (c : Mp.Cond) (hf : FRow w (.slice ao k cap) files) (hop : Mp.opB c.2.1 = true) :
    Calls Try.prog 79 #[.slice ao k cap, .agg #[.string c.1, .string c.2.1, .int .i64 c.2.2]] w (fun e w' => e = .returned (.agg (kcC (Gp.condOf files c))) ∧ Below w.heap.size w w') := by
  obtain ⟨f, op, n⟩ := c
  dsimp only at hop ⊢
  have h : op = Gp.lt ∨ op = Gp.le ∨ op = Gp.eq ∨ op = Gp.ne ∨ op = Gp.ge ∨ op = Gp.gt := by
    simp only [Mp.opB, Bool.or_eq_true, decide_eq_true_eq] at hop
    rcases hop with ((((h | h) | h) | h) | h) | h <;> simp [h, Gp.lt, Gp.le, Gp.eq, Gp.ne, Gp.ge, Gp.gt]
  rcases h with rfl | rfl | rfl | rfl | rfl | rfl
  · exact condOf_lt w ao k cap files f n hf _ rfl
  · exact condOf_le w ao k cap files f n hf _ rfl
  · exact condOf_eq w ao k cap files f n hf _ rfl
  · exact condOf_ne w ao k cap files f n hf _ rfl
  · exact condOf_ge w ao k cap files f n hf _ rfl
  · exact condOf_gt w ao k cap files f n hf _ rfl
end Go.Proofs.Ytkjekohncfhbiab
