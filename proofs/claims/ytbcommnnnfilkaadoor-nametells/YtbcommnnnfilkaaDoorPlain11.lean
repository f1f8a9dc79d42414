/-
  PLAIN: a byte that is no sign. No program in this text.
-/
import Derived.Test.YtbcommnnnfilkaaDoorPlain10
namespace Go.Proofs.YtbcommnnnfilkaaDoor
namespace Sp
open Go.Lib (decodeL encodeRune)
def okByte (c : UInt8) : Bool := decide ((32 ≤ c.toNat ∧ c.toNat < 128) ∨ c.toNat = 9 ∨ c.toNat = 10 ∨ c.toNat = 13)
theorem decode_one_high (c : UInt8) (h : 128 ≤ c.toNat) : decodeL [c] = (65533, 1) := by
  rw [Lib.decodeL_N]
  unfold Lib.decodeN
  rw [getD_cons0, if_neg (by omega), if_neg (by simp), if_neg (by simp), if_neg (by simp)]
theorem esc1_odd (c : UInt8) (h : okByte c = false) : esc false [c] = [c] := by
  rw [esc_one, esc1_self]
  simp only [okByte, decide_eq_false_iff_not] at h
  unfold writ
  rw [if_neg (by omega), if_neg (by omega), if_neg (by omega)]
  rfl
theorem unesc_odd (c : UInt8) (h : okByte c = false) : unesc [c] = none := by
  have h' := h
  simp only [okByte, decide_eq_false_iff_not] at h'
  apply unesc_fail _ (by simp)
  unfold frst
  by_cases hc : c.toNat < 128
  · rw [Lib.decodeL_ascii c [] hc, if_neg (by show ¬ c.toNat = 38; omega), if_pos]
    right
    simp only [charB, decide_eq_false_iff_not]
    omega
  · rw [decode_one_high c (by omega), if_neg (by decide), if_pos (Or.inl ⟨rfl, by decide⟩)]
theorem signs_ok (c : UInt8) (h : okByte c = true) : signsB [c] = true := by
  simp only [okByte, decide_eq_true_eq] at h
  rw [signsB_step [c] (by simp), Lib.decodeL_ascii c [] (by omega), if_neg]
  · exact signsB_nil
  · rintro (⟨h1, _⟩ | h1)
    · have : c.toNat = 65533 := h1
      omega
    · revert h1
      simp only [charB, decide_eq_false_iff_not]
      omega
theorem signs_cat (a b : List UInt8) (ha : signsB a = true) (hb : signsB b = true) : signsB (a ++ b) = true := by
  obtain ⟨rs, h1, rfl⟩ := signs_flat a.length a (Nat.le_refl _) ha
  obtain ⟨ts, h2, rfl⟩ := signs_flat b.length b (Nat.le_refl _) hb
  rw [← flat_append]
  apply flat_signs
  intro r hr
  rcases List.mem_append.1 hr with hr | hr
  · exact h1 r hr
  · exact h2 r hr
theorem unesc_byte (a : List UInt8) (c : UInt8) (ha : signsB a = true) : (unesc (esc false (a ++ [c]))).isSome = okByte c := by
  cases h : okByte c
  · rw [esc_append, unesc_tail false a _ ha, esc1_odd c h, unesc_odd c h]
    rfl
  · rw [unesc_back false _ (signs_cat _ _ ha (signs_ok c h))]
    rfl
end Sp
end Go.Proofs.YtbcommnnnfilkaaDoor
