/-
  slices.Equal of texts, events, conditions; the document's SameTexts.
-/
import Derived.Test.YtkjekohncfhbiaaPartB
import Derived.Deep.QuietTactic
import Derived.BigQuiet
set_option linter.unusedSimpArgs false
set_option linter.unusedVariables false
namespace Go.Proofs.Ytkjekohncfhbiaa
open Go.RowKit
theorem dec_len {α : Type} [DecidableEq α] {a b : List α} (h : a.length ≠ b.length) : decide (a = b) = false := decide_eq_false fun e => h (by rw [e])
theorem dec_at {α : Type} [DecidableEq α] {a b : List α} {k : Nat} {x y : α} (h1 : a[k]? = some x) (h2 : b[k]? = some y) (h : x ≠ y) : decide (a = b) = false := decide_eq_false fun e => by rw [e, h2] at h1; exact h (Option.some.inj h1).symm
theorem dec_all {α : Type} [DecidableEq α] {a b : List α} {n : Nat} (h1 : n = a.length) (h2 : n = b.length) (h : ∀ (j : Nat), j < n → a[j]? = b[j]?) : decide (a = b) = true := by
  refine decide_eq_true (List.ext_getElem? fun j => ?_)
  by_cases hj : j < n
  · exact h j hj
  · rw [List.getElem?_eq_none (by omega), List.getElem?_eq_none (by omega)]
end Go.Proofs.Ytkjekohncfhbiaa
