/-
  Small parts of package model: kinds, ticks, events, operators, the plan.
-/
import Derived.Test.YtkjekohncfhbiabMData
set_option linter.unusedSimpArgs false
set_option linter.unusedVariables false
namespace Go.Proofs.Ytkjekohncfhbiab
open Go.RowKit
theorem ret_b {a v : Bool} (h : a = v) : Ending.returned (.bool a) = .returned (.bool v) := by rw [h]
theorem toList_inj {a b : ByteArray} (h : a.toList = b.toList) : a = b := by
  rw [ByteArray.toList_eq, ByteArray.toList_eq] at h
  obtain ⟨⟨x⟩⟩ := a
  obtain ⟨⟨y⟩⟩ := b
  have : x = y := h
  rw [this]
theorem tl_ne {a : ByteArray} (b : ByteArray) (l : List UInt8) (h : a ≠ b) (hb : b.toList = l) : ¬ a.toList = l := fun e => h (toList_inj (e.trans hb.symm))
theorem tl_beq {a : ByteArray} (b : ByteArray) (l : List UInt8) (h : a ≠ b) (hb : b.toList = l) : (a.toList == l) = false := beq_eq_false_iff_ne.2 (tl_ne b l h hb)
theorem ba_eq (s : ByteArray) (a : Array UInt8) : (s = ⟨a⟩) = (s.toList = a.toList) := propext ⟨fun h => by rw [h, ByteArray.toList_eq], fun h => toList_inj (by rw [h, ByteArray.toList_eq])⟩
theorem len_beq {α : Type} (l : List α) : (((l.length : Nat) : Int) == 0) = decide (l = []) := by
  cases l with
  | nil => rfl
  | cons a l => rw [decide_eq_false (by simp)]; exact beq_eq_false_iff_ne.2 (by simp only [List.length_cons]; omega)
theorem int_beq (a b : Int) : (a == b) = decide (a = b) := by
  by_cases h : a = b
  · rw [decide_eq_true h]; exact beq_iff_eq.2 h
  · rw [decide_eq_false h]; exact beq_eq_false_iff_ne.2 h
end Go.Proofs.Ytkjekohncfhbiab
