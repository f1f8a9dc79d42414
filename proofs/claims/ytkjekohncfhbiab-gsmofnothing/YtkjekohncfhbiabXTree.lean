/-
  Elements in memory: trees, and what it means that a row of attributes, an element lies there.
-/
import Derived.Test.YtkjekohncfhbiabCells
namespace Go.Proofs.Ytkjekohncfhbiab
open Go.RowKit
/-- A slice value of n elements; where there is one, the first lies at block b from place o on. -/
def Row (v : Value) (n b o : Nat) : Prop := ∃ ao cap, v = .slice ao n cap ∧ (0 < n → ao = some ⟨b, o, none⟩)
/-- A row of attributes. -/
def ARow (w : World) (v : Value) (l : List (ByteArray × ByteArray)) : Prop :=
  ∃ b o, Row v l.length b o ∧ (l.length ≤ 1000000000000 ∧ ∀ p ∈ l, p.1.size ≤ 140737488355328 ∧ p.2.size ≤ 140737488355328) ∧ ∀ i p, l[i]? = some p → w.cell? ⟨b, o + 2 * i, none⟩ = some (.string p.1) ∧ w.cell? ⟨b, o + 2 * i + 1, none⟩ = some (.string p.2)
theorem ARow.below {w w' : World} {v : Value} {l : List (ByteArray × ByteArray)} (h : ARow w v l) (hb : Below w.heap.size w w') : ARow w' v l := by
  obtain ⟨b, o, hr, hl, hc⟩ := h
  refine ⟨b, o, hr, hl, fun i p hp => ?_⟩
  obtain ⟨h1, h2⟩ := hc i p hp
  have hlt : b < w.heap.size := by
    rcases Nat.lt_or_ge b w.heap.size with h' | h'
    · exact h'
    · unfold World.cell? at h1
      rw [Array.getElem?_eq_none h'] at h1
      cases h1
  rw [hb.cell (p := ⟨b, o + 2 * i, none⟩) hlt, hb.cell (p := ⟨b, o + 2 * i + 1, none⟩) hlt]
  exact ⟨h1, h2⟩
end Go.Proofs.Ytkjekohncfhbiab
