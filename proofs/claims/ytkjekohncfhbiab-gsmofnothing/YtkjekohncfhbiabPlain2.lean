/-
  PLAIN: names. No program in this text.
-/
import Derived.Test.YtkjekohncfhbiabPlain
namespace Go.Proofs.Ytkjekohncfhbiab
namespace Sp
theorem getD_lt {l : List UInt8} {k : Nat} (h : k < l.length) : l.getD k 0 = l[k] := by simp [List.getD, h]
def isB (l : List UInt8) : Bool := decide (1 ≤ l.length ∧ l.length ≤ 12) && begZ ((l.getD 0 0).toNat : Int) && l.all fun c => goZ (c.toNat : Int)
theorem isB_len (l : List UInt8) (h : l.length < 1 ∨ 12 < l.length) : isB l = false := by
  unfold isB
  rw [decide_eq_false (by omega)]
  rfl
theorem isB_beg (l : List UInt8) (h : begZ ((l.getD 0 0).toNat : Int) = false) : isB l = false := by
  unfold isB
  rw [h]
  simp
theorem isB_go (l : List UInt8) (k : Nat) (hk : k < l.length) (h : goZ ((l.getD k 0).toNat : Int) = false) : isB l = false := by
  unfold isB
  have : (l.all fun c => goZ (c.toNat : Int)) = false := by
    rw [List.all_eq_false]
    refine ⟨l.getD k 0, ?_, by rw [h]; simp⟩
    rw [getD_lt hk]
    exact List.getElem_mem hk
  rw [this]
  simp
theorem isB_yes (l : List UInt8) (h1 : 1 ≤ l.length) (h2 : l.length ≤ 12) (hb : begZ ((l.getD 0 0).toNat : Int) = true) (h : ∀ k, k < l.length → goZ ((l.getD k 0).toNat : Int) = true) : isB l = true := by
  unfold isB
  rw [decide_eq_true ⟨h1, h2⟩, hb]
  simp only [Bool.true_and, List.all_eq_true]
  intro c hc
  obtain ⟨k, hk, rfl⟩ := List.mem_iff_getElem.1 hc
  have := h k hk
  rwa [getD_lt hk] at this
theorem getD_byte (s : ByteArray) (k : Nat) (h : k < s.size) : s.data.toList.getD k 0 = s[k] := by
  rw [getD_lt (show k < s.data.toList.length by simpa using h)]
  rfl
theorem len_byte (s : ByteArray) : s.data.toList.length = s.size := by simp

end Sp
end Go.Proofs.Ytkjekohncfhbiab
