/-
  The place of an item; the kids of one; the items' own names.
-/
import Derived.Test.YtkjekohncfhbiabMNames
set_option linter.unusedSimpArgs false
set_option linter.unusedVariables false
namespace Go.Proofs.Ytkjekohncfhbiab
open Go.RowKit
theorem placeZ_some {l : List Mp.Item} {s : ByteArray} {k : Nat} {x : Mp.Item} (h : l[k]? = some x) (hx : x.id = s) (hb : ∀ (j : Nat) y, j < k → l[j]? = some y → y.id ≠ s) : Mp.placeZ l s = k := by
  unfold Mp.placeZ Mp.placeO
  rw [Mp.find_some h (decide_eq_true hx) (fun j y hj hy => decide_eq_false (hb j y hj hy))]
theorem placeZ_none {l : List Mp.Item} {s : ByteArray} (hb : ∀ (j : Nat) y, l[j]? = some y → y.id ≠ s) : Mp.placeZ l s = -1 := by
  unfold Mp.placeZ Mp.placeO
  rw [Mp.find_none (fun j y hy => decide_eq_false (hb j y hy))]
end Go.Proofs.Ytkjekohncfhbiab
