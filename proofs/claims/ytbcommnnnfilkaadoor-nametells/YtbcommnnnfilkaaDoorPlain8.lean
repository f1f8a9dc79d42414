/-
  PLAIN: texts of signs. No program in this text.
-/
import Derived.Test.YtbcommnnnfilkaaDoorPlain7
import Derived.Lib.ValidLaws
import Derived.Lib.TrimUEq
import Derived.Laws.IdiomStrings
namespace Go.Proofs.YtbcommnnnfilkaaDoor
namespace Sp
open Go.Lib (decodeL validD)
def runes : Nat → List UInt8 → List Nat
  | 0, _ => []
  | f + 1, l => if l = [] then [] else (decodeL l).1 :: runes f (l.drop (decodeL l).2)
def signsB (l : List UInt8) : Bool := validD l && (runes l.length l).all fun r => charB (r : Int)
theorem runes_nil (f : Nat) : runes f [] = [] := by cases f <;> simp [runes]
theorem runes_len : ∀ (f : Nat) (l : List UInt8), (runes f l).length ≤ f
  | 0, _ => by simp [runes]
  | f + 1, l => by
    rw [runes]
    split
    · simp
    · have := runes_len f (l.drop (decodeL l).2)
      simp
      exact this
theorem runesFrom_eq (s : ByteArray) : ∀ (f i : Nat) (acc : Array Value), Conv.runesFrom s f i acc = acc ++ ((runes f (s.data.toList.drop i)).map fun r : Nat => Value.int .i32 (r : Int)).toArray
  | 0, i, acc => by simp [Conv.runesFrom, runes]
  | f + 1, i, acc => by
    unfold Conv.runesFrom
    by_cases h : i < s.size
    · have hne : s.data.toList.drop i ≠ [] := by
        rw [drop_byte s i h]
        simp
      rw [if_pos h, runes, if_neg hne]
      simp only [runesFrom_eq s f, Lib.decodeL_drop, List.drop_drop]
      rw [← Array.toList_inj]
      simp
    · rw [if_neg h, drop_all s i (by omega), runes_nil]
      simp
theorem runes_all (s : ByteArray) : Conv.runesFrom s s.size 0 #[] = ((runes s.size s.data.toList).map fun r : Nat => Value.int .i32 (r : Int)).toArray := by
  rw [runesFrom_eq, List.drop_zero]
  simp
theorem runes_fuel : ∀ (f g : Nat) (l : List UInt8), l.length ≤ f → l.length ≤ g → runes f l = runes g l
  | 0, g, l, hf, _ => by
    have : l = [] := List.eq_nil_of_length_eq_zero (by omega)
    subst this
    rw [runes_nil, runes_nil]
  | f + 1, 0, l, _, hg => by
    have : l = [] := List.eq_nil_of_length_eq_zero (by omega)
    subst this
    rw [runes_nil, runes_nil]
  | f + 1, g + 1, l, hf, hg => by
    rw [runes, runes]
    by_cases hne : l = []
    · rw [if_pos hne, if_pos hne]
    · have hw := Lib.decodeL_width l
      have hl : 0 < l.length := List.length_pos_iff.2 hne
      rw [if_neg hne, if_neg hne, runes_fuel f g (l.drop (decodeL l).2) (by rw [List.length_drop]; omega) (by rw [List.length_drop]; omega)]
theorem signsB_nil : signsB [] = true := by decide
theorem signsB_step (l : List UInt8) (hne : l ≠ []) : signsB l = if ((decodeL l).1 = 65533 ∧ (decodeL l).2 = 1) ∨ charB ((decodeL l).1 : Int) = false then false else signsB (l.drop (decodeL l).2) := by
  have hw := Lib.decodeL_width l
  have hl : 0 < l.length := List.length_pos_iff.2 hne
  obtain ⟨n, hn⟩ : ∃ n, l.length = n + 1 := ⟨l.length - 1, by omega⟩
  unfold signsB
  rw [Lib.validD_step l hne, hn, runes, if_neg hne, runes_fuel n (l.drop (decodeL l).2).length (l.drop (decodeL l).2) (by rw [List.length_drop]; omega) (by omega)]
  by_cases h1 : (decodeL l).1 = 65533 ∧ (decodeL l).2 = 1
  · rw [if_pos h1, if_pos (Or.inl h1)]
    rfl
  · rw [if_neg h1]
    cases h2 : charB ((decodeL l).1 : Int)
    · rw [if_pos (Or.inr rfl)]
      simp [h2]
    · rw [if_neg (by simp; omega)]
      simp [h2]
end Sp
end Go.Proofs.YtbcommnnnfilkaaDoor
