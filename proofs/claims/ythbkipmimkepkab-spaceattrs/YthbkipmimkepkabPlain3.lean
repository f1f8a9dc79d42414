/-
  PLAIN: references. No program in this text.
-/
import Derived.Test.YthbkipmimkepkabPlain2
namespace Go.Proofs.Ythbkipmimkepkab
namespace Sp
def numd (base : Int) : Int → List UInt8 → Option Int
  | acc, [] => some acc
  | acc, c :: t => if digZ (c.toNat : Int) < 0 ∨ base ≤ digZ (c.toNat : Int) then none else numd base (acc * base + digZ (c.toNat : Int)) t
def chk (r : Int) : Option Int := if charB r = true then some r else none
def numb (base : Int) (l : List UInt8) : Option Int :=
  if l.length < 1 ∨ 7 < l.length then none else (numd base 0 l).bind chk
theorem drop_byte (s : ByteArray) (k : Nat) (h : k < s.size) : s.data.toList.drop k = s[k] :: s.data.toList.drop (k + 1) := by
  rw [List.drop_eq_getElem_cons (by simpa using h)]
  rfl
theorem drop_all (s : ByteArray) (k : Nat) (h : s.size ≤ k) : s.data.toList.drop k = [] := by
  rw [List.drop_eq_nil_iff]
  simpa using h
theorem bd_step (k : Nat) (hk : k < 7) (acc d base : Int) (h0 : 0 ≤ acc) (h1 : acc < 16 ^ k) (hb : base = 10 ∨ base = 16) (d0 : 0 ≤ d) (d1 : d < base) :
    0 ≤ acc * base + d ∧ acc * base + d < 16 ^ (k + 1) ∧ acc * base + d ≤ 268435455 ∧ 0 ≤ acc * base ∧ acc * base ≤ 268435455 := by
  have hk' : k = 0 ∨ k = 1 ∨ k = 2 ∨ k = 3 ∨ k = 4 ∨ k = 5 ∨ k = 6 := by omega
  rcases hb with rfl | rfl <;> rcases hk' with rfl | rfl | rfl | rfl | rfl | rfl | rfl <;> simp at * <;> omega
theorem digZ_range (c : Int) (h0 : 0 ≤ c) (h1 : c ≤ 255) : -1 ≤ digZ c ∧ digZ c ≤ 15 := by
  unfold digZ
  repeat' split
  all_goals omega
theorem numb_len (base : Int) (l : List UInt8) (h : l.length < 1 ∨ 7 < l.length) : numb base l = none := by
  unfold numb
  rw [if_pos h]
theorem numb_of (base : Int) (l : List UInt8) (h : ¬ (l.length < 1 ∨ 7 < l.length)) : numb base l = (numd base 0 l).bind chk := by
  unfold numb
  rw [if_neg h]
theorem numd_bad (base acc : Int) (c : UInt8) (t : List UInt8) (h : digZ (c.toNat : Int) < 0 ∨ base ≤ digZ (c.toNat : Int)) : numd base acc (c :: t) = none := by
  rw [numd, if_pos h]
theorem numd_ok (base acc : Int) (c : UInt8) (t : List UInt8) (h : ¬ (digZ (c.toNat : Int) < 0 ∨ base ≤ digZ (c.toNat : Int))) : numd base acc (c :: t) = numd base (acc * base + digZ (c.toNat : Int)) t := by
  rw [numd, if_neg h]
def optV (o : Option Int) : Value := .tuple #[.int .i32 (o.getD 0), .bool o.isSome]
theorem ret_none {o : Option Int} (h : o = none) : Ending.returned (.tuple #[.int .i32 0, .bool false]) = .returned (optV o) := by rw [h]; rfl
theorem ret_some {o : Option Int} {r : Int} (h : o = some r) : Ending.returned (.tuple #[.int .i32 r, .bool true]) = .returned (optV o) := by rw [h]; rfl
end Sp
end Go.Proofs.Ythbkipmimkepkab
