/-
  The law's own question: what a milestone does.
-/
import Derived.Test.YtpipjkbgbhefcaaGreatPartX
set_option linter.unusedSimpArgs false
set_option linter.unusedVariables false
namespace Go.Proofs.YtpipjkbgbhefcaaGreat
open Go.RowKit
set_option maxRecDepth 100000
theorem own_of_lies {w : World} {H b : Nat} {e : TypeId} {C : Array Value} {n z : Nat} (h : Lies w b e C) (hH : H ≤ b) (hs : C.size = n * z) (hn : n ≤ 10000000000000) : w.ownsRow H e z (.slice (some ⟨b, 0, none⟩) n n) n C.toList :=
  ⟨by rw [Array.length_toList]; exact hs, .inr ⟨b, n, C, rfl, hH, h, Nat.le_refl _, by unfold maxLen; omega, hs, by rw [← hs]; exact List.take_of_length_le (by rw [Array.length_toList]; exact Nat.le_refl _)⟩⟩
/-- Items without sentries in a row that is owned. -/
theorem irow_bare {w : World} {H : Nat} {e : TypeId} {v : Value} {n : Nat} {L : List Mp.Item} (h : w.ownsRow H e 7 v n (L.map fun x => itemC x nilS nilS).flatten) (hn : n = L.length) (hl : n ≤ 10000000000000) (hz : ∀ x ∈ L, x.id.size ≤ 140737488355328 ∧ x.parent.size ≤ 140737488355328 ∧ x.entry = [] ∧ x.exit = []) : IRow w v L := by
  subst hn
  refine rowR_of_own h hl (by rw [List.length_map]) (fun x hx => ?_) (fun i x cs hx hcs => ?_)
  · obtain ⟨s, _, rfl⟩ := List.mem_map.1 hx
    rfl
  · rw [List.getElem?_map, hx] at hcs
    obtain rfl := Option.some.inj hcs
    obtain ⟨h1, h2, h3, h4⟩ := hz x (List.mem_of_getElem? hx)
    exact ⟨nilS, nilS, rfl, ⟨h1, h2⟩, by rw [h3]; exact rowR_nil w, by rw [h4]; exact rowR_nil w⟩
theorem of_alloc {w W : World} {C : Array Value} {t : TypeId} (h : w.alloc (.cells C t) = W) : Below w.heap.size w W ∧ Lies W w.heap.size t C ∧ W.heap.size = w.heap.size + 1 := by
  subst h
  exact ⟨(Below.refl _ w).alloc (Nat.le_refl _) _, Lies.new w _ _, by simp⟩
def mA : Mp.Model := ⟨[], [⟨⟨#[97]⟩, 1, Mp.e0, false, 0, [], []⟩]⟩
theorem is_mA : Mp.isB mA = true := by kernel_rfl
theorem is_m0 : Mp.isB ⟨[], []⟩ = false := by kernel_rfl
end Go.Proofs.YtpipjkbgbhefcaaGreat
