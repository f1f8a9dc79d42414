/-
  PLAIN: how a text is written. No program in this text.
-/
import Derived.Test.YthbkipmimkepkabPlain4
namespace Go.Proofs.Ythbkipmimkepkab
namespace Sp
def esc1 (attr : Bool) (c : UInt8) : List UInt8 := if writ (c.toNat : Int) attr = [] then [c] else writ (c.toNat : Int) attr
def esc (attr : Bool) (l : List UInt8) : List UInt8 := l.flatMap (esc1 attr)
theorem writ_le (c : Int) (attr : Bool) : (writ c attr).length ≤ 6 := by
  unfold writ
  repeat' split
  all_goals simp
theorem esc1_self (attr : Bool) (c : UInt8) (h : writ (c.toNat : Int) attr = []) : esc1 attr c = [c] := by rw [esc1, if_pos h]
theorem esc1_writ (attr : Bool) (c : UInt8) (h : ¬ writ (c.toNat : Int) attr = []) : esc1 attr c = writ (c.toNat : Int) attr := by rw [esc1, if_neg h]
theorem esc1_le (attr : Bool) (c : UInt8) : (esc1 attr c).length ≤ 6 := by
  unfold esc1
  split
  · simp
  · exact writ_le _ _
theorem take_byte (s : ByteArray) (k : Nat) (h : k < s.size) : s.data.toList.take (k + 1) = s.data.toList.take k ++ [s[k]] := by
  rw [List.take_succ_eq_append_getElem (by simpa using h)]
  rfl
theorem esc_snoc (attr : Bool) (l : List UInt8) (c : UInt8) : esc attr (l ++ [c]) = esc attr l ++ esc1 attr c := by simp [esc]
theorem esc_append (attr : Bool) (a b : List UInt8) : esc attr (a ++ b) = esc attr a ++ esc attr b := by simp [esc]
theorem esc_cons (attr : Bool) (c : UInt8) (l : List UInt8) : esc attr (c :: l) = esc1 attr c ++ esc attr l := by simp [esc]
theorem esc_nil (attr : Bool) : esc attr [] = [] := rfl
theorem esc_le (attr : Bool) : ∀ l : List UInt8, (esc attr l).length ≤ 6 * l.length
  | [] => by simp [esc]
  | c :: t => by
    have h1 := esc_le attr t
    have h2 := esc1_le attr c
    rw [esc_cons, List.length_append, List.length_cons]
    omega
theorem take_all (s : ByteArray) (k : Nat) (h : s.size ≤ k) : s.data.toList.take k = s.data.toList := List.take_of_length_le (by simpa using h)
end Sp
end Go.Proofs.Ythbkipmimkepkab
