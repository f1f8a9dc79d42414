/-
  PLAIN: what stands for a sign, and what a text stands for. No program in this text.
-/
import Derived.Test.YthbkipmimkepkabPlain3
import Derived.Lib.MapLaws
import Derived.Lib.Strings
namespace Go.Proofs.Ythbkipmimkepkab
namespace Sp
open Go.Lib (decodeL encodeRune indexByte)

def refd (l : List UInt8) : Option Int :=
  if l = [97, 109, 112] then some 38 else if l = [108, 116] then some 60 else if l = [103, 116] then some 62 else if l = [113, 117, 111, 116] then some 34 else if l = [97, 112, 111, 115] then some 39
  else if Lib.hasPrefix l [35, 120] = true then numb 16 (l.drop 2) else if Lib.hasPrefix l [35] = true then numb 10 (l.drop 1) else none
def refe (l : List UInt8) : Option (Int × Nat) :=
  if indexByte l 59 < 0 then none else (refd ((l.take (indexByte l 59).toNat).drop 1)).map fun r => (r, (indexByte l 59).toNat + 1)
def frst (l : List UInt8) : Option (Int × Nat) :=
  if (decodeL l).1 = 38 then refe l
  else if ((decodeL l).1 = 65533 ∧ (decodeL l).2 ≤ 1) ∨ charB ((decodeL l).1 : Int) = false then none
  else some (((decodeL l).1 : Int), (decodeL l).2)
def unes : Nat → List UInt8 → Option (List UInt8)
  | 0, _ => some []
  | f + 1, l => if l = [] then some [] else (frst l).bind fun p => (unes f (l.drop p.2)).map fun t => encodeRune p.1 ++ t
def unesc (l : List UInt8) : Option (List UInt8) := unes l.length l

def pairV (o : Option (Int × Nat)) : Value := .tuple #[.int .i32 ((o.map (·.1)).getD 0), .int .i64 (((o.map (·.2)).getD 0 : Nat) : Int)]
def textV (o : Option (List UInt8)) : Value := .tuple #[.string ⟨(o.getD []).toArray⟩, .bool o.isSome]
theorem pair_none {o : Option (Int × Nat)} (h : o = none) : Ending.returned (.tuple #[.int .i32 0, .int .i64 0]) = .returned (pairV o) := by rw [h]; rfl
theorem pair_some {o : Option (Int × Nat)} {r : Int} {n : Nat} (h : o = some (r, n)) : Ending.returned (.tuple #[.int .i32 r, .int .i64 n]) = .returned (pairV o) := by rw [h]; rfl
theorem text_none {o : Option (List UInt8)} (h : o = none) : Ending.returned (.tuple #[.string ⟨#[]⟩, .bool false]) = .returned (textV o) := by rw [h]; rfl
theorem text_some {o : Option (List UInt8)} {l : List UInt8} (h : o = some l) : Ending.returned (.tuple #[.string ⟨l.toArray⟩, .bool true]) = .returned (textV o) := by rw [h]; rfl

theorem indexByte_lt (l : List UInt8) (c : UInt8) : indexByte l c < l.length := by
  induction l with
  | nil => simp [indexByte]
  | cons b t ih =>
    rw [indexByte]
    split
    · simp only [List.length_cons]
      omega
    · split
      · simp only [List.length_cons]
        omega
      · simp only [List.length_cons]
        omega
theorem numd_range (base : Int) (hb : base = 10 ∨ base = 16) : ∀ (l : List UInt8) (k : Nat) (acc r : Int), 0 ≤ acc → acc < 16 ^ k → k + l.length ≤ 7 → numd base acc l = some r → 0 ≤ r ∧ r ≤ 268435455
  | [], k, acc, r, h0, h1, hk, h => by
    simp only [numd, Option.some.injEq] at h
    subst h
    have hk' : k = 0 ∨ k = 1 ∨ k = 2 ∨ k = 3 ∨ k = 4 ∨ k = 5 ∨ k = 6 ∨ k = 7 := by simp at hk; omega
    rcases hk' with rfl | rfl | rfl | rfl | rfl | rfl | rfl | rfl <;> simp at h1 <;> omega
  | c :: t, k, acc, r, h0, h1, hk, h => by
    simp only [List.length_cons] at hk
    by_cases hbad : digZ (c.toNat : Int) < 0 ∨ base ≤ digZ (c.toNat : Int)
    · rw [numd_bad _ _ _ _ hbad] at h
      cases h
    · rw [numd_ok _ _ _ _ hbad] at h
      have hs := bd_step k (by omega) acc (digZ (c.toNat : Int)) base h0 h1 hb (by omega) (by omega)
      exact numd_range base hb t (k + 1) _ r hs.1 hs.2.1 (by omega) h
theorem numb_char (base : Int) (l : List UInt8) (r : Int) (h : numb base l = some r) : charB r = true := by
  unfold numb at h
  split at h
  · cases h
  · rw [Option.bind_eq_some_iff] at h
    obtain ⟨x, _, hx⟩ := h
    unfold chk at hx
    split at hx
    · next hc =>
      cases hx
      exact hc
    · cases hx
theorem charB_range (r : Int) (h : charB r = true) : 0 ≤ r ∧ r ≤ 1114111 := by
  simp only [charB, decide_eq_true_eq] at h
  omega
theorem refd_char (l : List UInt8) (r : Int) (h : refd l = some r) : charB r = true := by
  unfold refd at h
  split at h
  · cases h
    decide
  split at h
  · cases h
    decide
  split at h
  · cases h
    decide
  split at h
  · cases h
    decide
  split at h
  · cases h
    decide
  split at h
  · exact numb_char _ _ _ h
  split at h
  · exact numb_char _ _ _ h
  · cases h
theorem refe_ok (l : List UInt8) (r : Int) (n : Nat) (h : refe l = some (r, n)) : charB r = true ∧ 1 ≤ n ∧ n ≤ l.length := by
  unfold refe at h
  split at h
  · cases h
  · rw [Option.map_eq_some_iff] at h
    obtain ⟨x, hx, he⟩ := h
    cases he
    have := indexByte_lt l 59
    exact ⟨refd_char _ _ hx, by omega, by omega⟩
theorem frst_ok (l : List UInt8) (hne : l ≠ []) (r : Int) (n : Nat) (h : frst l = some (r, n)) : charB r = true ∧ 1 ≤ n ∧ n ≤ l.length := by
  unfold frst at h
  split at h
  · exact refe_ok l r n h
  · split at h
    · cases h
    · next hc =>
      cases h
      refine ⟨?_, Lib.decodeL_width l, Lib.decodeL_le l hne⟩
      cases hx : charB ((decodeL l).1 : Int)
      · exact absurd (Or.inr hx) hc
      · rfl
theorem unes_nil (f : Nat) : unes f [] = some [] := by cases f <;> simp [unes]
theorem unes_step (f : Nat) (l : List UInt8) (hne : l ≠ []) (r : Int) (n : Nat) (h : frst l = some (r, n)) : unes (f + 1) l = (unes f (l.drop n)).map fun t => encodeRune r ++ t := by
  rw [unes, if_neg hne, h]
  rfl
theorem unes_fail (f : Nat) (l : List UInt8) (hne : l ≠ []) (h : frst l = none) : unes (f + 1) l = none := by
  rw [unes, if_neg hne, h]
  rfl
end Sp
end Go.Proofs.Ythbkipmimkepkab
