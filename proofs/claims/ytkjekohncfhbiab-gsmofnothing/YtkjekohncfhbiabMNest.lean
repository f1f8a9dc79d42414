/-
  Items within one another.
-/
import Derived.Test.YtkjekohncfhbiabMIds
set_option linter.unusedSimpArgs false
set_option linter.unusedVariables false
namespace Go.Proofs.Ytkjekohncfhbiab
open Go.RowKit
set_option maxRecDepth 100000
theorem indexSV (w : World) (ao : Option Addr) (n cap : Nat) (l : List ByteArray) (s : ByteArray) (h : FRow w (.slice ao n cap) l) (z : Int) (hz : Hid (idxZ l s = z)) :
    Calls Try.prog 21 #[.slice ao n cap, .string s] w fun e w' => e = .returned (.int .i64 z) ∧ w' = w := by
  rw [← hz.out]
  exact indexS w ao n cap l s h
theorem idxZ_cases (l : List ByteArray) (s : ByteArray) : (idxZ l s = -1 ∧ Mp.idx l s = none) ∨ ∃ k : Nat, idxZ l s = k ∧ Mp.idx l s = some k ∧ k < l.length := by
  unfold idxZ
  cases h : Mp.idx l s with
  | none => exact .inl ⟨rfl, rfl⟩
  | some k =>
    obtain ⟨x, hx, _⟩ := Mp.find_some_inv h
    exact .inr ⟨k, rfl, rfl, (List.getElem?_eq_some_iff.1 hx).1⟩
/-- A row cut short is still owned. -/
theorem own_cut {w : World} {H : Nat} {e : TypeId} {z : Nat} {ad : Option Addr} {n cap : Nat} {xs : List Value} (h : w.ownsRow H e z (.slice ad n cap) n xs) (k : Nat) (hk : k ≤ n) : w.ownsRow H e z (.slice ad k cap) k (xs.take (k * z)) := by
  have hmul : k * z ≤ n * z := Nat.mul_le_mul_right _ hk
  have hlen := h.1
  refine ⟨by rw [List.length_take]; omega, ?_⟩
  rcases h.2 with ⟨h1, h0⟩ | ⟨g, cap', cur, h1, h2, h3, h4, h5, h6, h7⟩
  · cases h1
    exact .inl ⟨by rw [show k = 0 by omega], by omega⟩
  · cases h1
    exact .inr ⟨g, cap, cur, rfl, h2, h3, by omega, h5, h6, by rw [← h7, List.take_take, Nat.min_eq_left hmul]⟩
theorem open_next {op : List ByteArray} {p : Nat} {x : Mp.Item} {r : List Mp.Item} (h : Mp.idx op x.parent = some p) (h5 : ¬ 5 < p + 1) : Mp.nestF op (x :: r) = Mp.nestF (if x.kind = 1 then op.take (p + 1) ++ [x.id] else op.take (p + 1)) r := by
  rw [Mp.nestF, h]
  dsimp only
  rw [if_neg h5]
theorem own_one (w : World) (e : TypeId) (v : Value) : (w.alloc (.cells #[v] e)).ownsRow w.heap.size e 1 (.slice (some ⟨w.heap.size, 0, none⟩) 1 1) 1 [v] :=
  ⟨rfl, .inr ⟨w.heap.size, 1, #[v], rfl, Nat.le_refl _, Lies.new w e #[v], Nat.le_refl _, by decide, rfl, rfl⟩⟩
theorem nest_none {op : List ByteArray} {x : Mp.Item} {r : List Mp.Item} (h : Mp.idx op x.parent = none) : Mp.nestF op (x :: r) = false := by
  rw [Mp.nestF, h]
theorem nest_deep {op : List ByteArray} {p : Nat} {x : Mp.Item} {r : List Mp.Item} (h : Mp.idx op x.parent = some p) (h5 : 5 < p + 1) : Mp.nestF op (x :: r) = false := by
  rw [Mp.nestF, h]
  dsimp only
  rw [if_pos h5]
end Go.Proofs.Ytkjekohncfhbiab
