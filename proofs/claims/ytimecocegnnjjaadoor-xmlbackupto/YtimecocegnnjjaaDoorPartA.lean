/-
  Several texts in one: each opens with its own word.
-/
import Derived.Test.YtimecocegnnjjaaDoorChecked
import Derived.Lib.Builder
import Derived.WalkKit
import Derived.WalkSpells
import Derived.WalkLawsBesides
import Derived.Lib.RuneBytes
import Derived.Lib.Bytealg
import Derived.Lib.MapLaws
import Derived.Lib.Strings
import Derived.Lib.IndexMore
import Derived.Lib.IndexLaws
import Derived.Lib.ValidLaws
import Derived.Lib.TrimUEq
import Derived.Laws.IdiomStrings
import Derived.Test.YtimecocegnnjjaaDoorShelf
import Derived.Lib.TrimAscii
/-
  Cells of memory: where they lie, what an alloc keeps.
-/
namespace Go.Proofs.YtimecocegnnjjaaDoor
open Go.RowKit
theorem cell_lt {w : World} {a : Addr} {v : Value} (h : w.cell? a = some v) : a.block < w.heap.size := by
  rcases Nat.lt_or_ge a.block w.heap.size with h' | h'
  · exact h'
  · unfold World.cell? at h
    rw [Array.getElem?_eq_none h'] at h
    cases h
theorem cell_new (w : World) (C : Array Value) (t : TypeId) (k : Nat) : (w.alloc (.cells C t)).cell? ⟨w.heap.size, k, none⟩ = C[k]? := by
  have h : (w.alloc (.cells C t)).heap[w.heap.size]? = some (.cells C t) := by
    show (w.heap.push _)[w.heap.size]? = _
    simp
  exact Lib.cell_of_heap h k
theorem cell_old (w : World) (o : Obj) (a : Addr) (h : a.block < w.heap.size) : (w.alloc o).cell? a = w.cell? a := ((Below.refl w.heap.size w).alloc (Nat.le_refl _) o).cell h
end Go.Proofs.YtimecocegnnjjaaDoor
/-
  PLAIN: the document's chapter 1 as plain functions on lists of bytes. No program in this text.
-/
namespace Go.Proofs.YtimecocegnnjjaaDoor
namespace Sp

def charB (r : Int) : Bool := decide (r = 9 ∨ r = 10 ∨ r = 13 ∨ (32 ≤ r ∧ r ≤ 55295) ∨ (57344 ≤ r ∧ r ≤ 65533) ∨ (65536 ≤ r ∧ r ≤ 1114111))
def begZ (c : Int) : Bool := decide ((97 ≤ c ∧ c ≤ 122) ∨ (65 ≤ c ∧ c ≤ 90) ∨ c = 95)
def goZ (c : Int) : Bool := decide ((97 ≤ c ∧ c ≤ 122) ∨ (65 ≤ c ∧ c ≤ 90) ∨ c = 95 ∨ (48 ≤ c ∧ c ≤ 57) ∨ c = 45 ∨ c = 46)
def digZ (c : Int) : Int := if 48 ≤ c ∧ c ≤ 57 then c - 48 else if 97 ≤ c ∧ c ≤ 102 then c - 87 else if 65 ≤ c ∧ c ≤ 70 then c - 55 else -1
def digR (c : Int) (hex : Bool) : Int := if 48 ≤ c ∧ c ≤ 57 then c - 48 else if hex = true ∧ 97 ≤ c ∧ c ≤ 102 then c - 87 else if hex = true ∧ 65 ≤ c ∧ c ≤ 70 then c - 55 else -1
/-- what is written for a byte, where that is not the byte itself -/
def writ (c : Int) (attr : Bool) : List UInt8 :=
  if c = 38 then [38, 97, 109, 112, 59] else if c = 60 then [38, 108, 116, 59] else if c = 62 then [38, 103, 116, 59]
  else if attr = false then [] else if c = 34 then [38, 113, 117, 111, 116, 59] else if c = 9 then [38, 35, 57, 59] else if c = 10 then [38, 35, 49, 48, 59] else if c = 13 then [38, 35, 49, 51, 59] else []
theorem begZ_goZ (c : Int) (h : begZ c = true) : goZ c = true := by
  simp only [begZ, goZ, decide_eq_true_eq] at *
  omega
theorem ret_bool {a b : Bool} (h : a = b) : Ending.returned (.bool a) = .returned (.bool b) := by rw [h]
theorem ret_int {k : IntKind} {a b : Int} (h : a = b) : Ending.returned (.int k a) = .returned (.int k b) := by rw [h]
theorem ret_str {a b : List UInt8} (h : a = b) : Ending.returned (.string ⟨a.toArray⟩) = .returned (.string ⟨b.toArray⟩) := by rw [h]

end Sp
end Go.Proofs.YtimecocegnnjjaaDoor
/-
  PLAIN: names. No program in this text.
-/
namespace Go.Proofs.YtimecocegnnjjaaDoor
namespace Sp
theorem getD_lt {l : List UInt8} {k : Nat} (h : k < l.length) : l.getD k 0 = l[k] := by simp [List.getD, h]
def isB (l : List UInt8) : Bool := decide (1 ≤ l.length ∧ l.length ≤ 12) && begZ ((l.getD 0 0).toNat : Int) && l.all fun c => goZ (c.toNat : Int)
theorem isB_len (l : List UInt8) (h : l.length < 1 ∨ 12 < l.length) : isB l = false := by
  unfold isB
  rw [decide_eq_false (by omega)]
  rfl
theorem isB_beg (l : List UInt8) (h : begZ ((l.getD 0 0).toNat : Int) = false) : isB l = false := by
  unfold isB
  rw [h]
  simp
theorem isB_go (l : List UInt8) (k : Nat) (hk : k < l.length) (h : goZ ((l.getD k 0).toNat : Int) = false) : isB l = false := by
  unfold isB
  have : (l.all fun c => goZ (c.toNat : Int)) = false := by
    rw [List.all_eq_false]
    refine ⟨l.getD k 0, ?_, by rw [h]; simp⟩
    rw [getD_lt hk]
    exact List.getElem_mem hk
  rw [this]
  simp
theorem isB_yes (l : List UInt8) (h1 : 1 ≤ l.length) (h2 : l.length ≤ 12) (hb : begZ ((l.getD 0 0).toNat : Int) = true) (h : ∀ k, k < l.length → goZ ((l.getD k 0).toNat : Int) = true) : isB l = true := by
  unfold isB
  rw [decide_eq_true ⟨h1, h2⟩, hb]
  simp only [Bool.true_and, List.all_eq_true]
  intro c hc
  obtain ⟨k, hk, rfl⟩ := List.mem_iff_getElem.1 hc
  have := h k hk
  rwa [getD_lt hk] at this
theorem getD_byte (s : ByteArray) (k : Nat) (h : k < s.size) : s.data.toList.getD k 0 = s[k] := by
  rw [getD_lt (show k < s.data.toList.length by simpa using h)]
  rfl
theorem len_byte (s : ByteArray) : s.data.toList.length = s.size := by simp

end Sp
end Go.Proofs.YtimecocegnnjjaaDoor
/-
  PLAIN: references. No program in this text.
-/
namespace Go.Proofs.YtimecocegnnjjaaDoor
namespace Sp
def numd (base : Int) : Int → List UInt8 → Option Int
  | acc, [] => some acc
  | acc, c :: t => if digZ (c.toNat : Int) < 0 ∨ base ≤ digZ (c.toNat : Int) then none else numd base (acc * base + digZ (c.toNat : Int)) t
def chk (r : Int) : Option Int := if charB r = true then some r else none
def numb (base : Int) (l : List UInt8) : Option Int :=
  if l.length < 1 ∨ 7 < l.length then none else (numd base 0 l).bind chk
theorem drop_byte (s : ByteArray) (k : Nat) (h : k < s.size) : s.data.toList.drop k = s[k] :: s.data.toList.drop (k + 1) := by
  rw [List.drop_eq_getElem_cons (by simpa using h)]
  rfl
theorem drop_all (s : ByteArray) (k : Nat) (h : s.size ≤ k) : s.data.toList.drop k = [] := by
  rw [List.drop_eq_nil_iff]
  simpa using h
theorem bd_step (k : Nat) (hk : k < 7) (acc d base : Int) (h0 : 0 ≤ acc) (h1 : acc < 16 ^ k) (hb : base = 10 ∨ base = 16) (d0 : 0 ≤ d) (d1 : d < base) :
    0 ≤ acc * base + d ∧ acc * base + d < 16 ^ (k + 1) ∧ acc * base + d ≤ 268435455 ∧ 0 ≤ acc * base ∧ acc * base ≤ 268435455 := by
  have hk' : k = 0 ∨ k = 1 ∨ k = 2 ∨ k = 3 ∨ k = 4 ∨ k = 5 ∨ k = 6 := by omega
  rcases hb with rfl | rfl <;> rcases hk' with rfl | rfl | rfl | rfl | rfl | rfl | rfl <;> simp at * <;> omega
theorem digZ_range (c : Int) (h0 : 0 ≤ c) (h1 : c ≤ 255) : -1 ≤ digZ c ∧ digZ c ≤ 15 := by
  unfold digZ
  repeat' split
  all_goals omega
theorem numb_len (base : Int) (l : List UInt8) (h : l.length < 1 ∨ 7 < l.length) : numb base l = none := by
  unfold numb
  rw [if_pos h]
theorem numb_of (base : Int) (l : List UInt8) (h : ¬ (l.length < 1 ∨ 7 < l.length)) : numb base l = (numd base 0 l).bind chk := by
  unfold numb
  rw [if_neg h]
theorem numd_bad (base acc : Int) (c : UInt8) (t : List UInt8) (h : digZ (c.toNat : Int) < 0 ∨ base ≤ digZ (c.toNat : Int)) : numd base acc (c :: t) = none := by
  rw [numd, if_pos h]
theorem numd_ok (base acc : Int) (c : UInt8) (t : List UInt8) (h : ¬ (digZ (c.toNat : Int) < 0 ∨ base ≤ digZ (c.toNat : Int))) : numd base acc (c :: t) = numd base (acc * base + digZ (c.toNat : Int)) t := by
  rw [numd, if_neg h]
def optV (o : Option Int) : Value := .tuple #[.int .i32 (o.getD 0), .bool o.isSome]
theorem ret_none {o : Option Int} (h : o = none) : Ending.returned (.tuple #[.int .i32 0, .bool false]) = .returned (optV o) := by rw [h]; rfl
theorem ret_some {o : Option Int} {r : Int} (h : o = some r) : Ending.returned (.tuple #[.int .i32 r, .bool true]) = .returned (optV o) := by rw [h]; rfl
end Sp
end Go.Proofs.YtimecocegnnjjaaDoor
/-
  PLAIN: what stands for a sign, and what a text stands for. No program in this text.
-/
namespace Go.Proofs.YtimecocegnnjjaaDoor
namespace Sp
open Go.Lib (decodeL encodeRune indexByte)

def refd (l : List UInt8) : Option Int :=
  if l = [97, 109, 112] then some 38 else if l = [108, 116] then some 60 else if l = [103, 116] then some 62 else if l = [113, 117, 111, 116] then some 34 else if l = [97, 112, 111, 115] then some 39
  else if Lib.hasPrefix l [35, 120] = true then numb 16 (l.drop 2) else if Lib.hasPrefix l [35] = true then numb 10 (l.drop 1) else none
def refe (l : List UInt8) : Option (Int × Nat) :=
  if indexByte l 59 < 0 then none else (refd ((l.take (indexByte l 59).toNat).drop 1)).map fun r => (r, (indexByte l 59).toNat + 1)
def frst (l : List UInt8) : Option (Int × Nat) :=
  if (decodeL l).1 = 38 then refe l
  else if ((decodeL l).1 = 65533 ∧ (decodeL l).2 ≤ 1) ∨ charB ((decodeL l).1 : Int) = false then none
  else some (((decodeL l).1 : Int), (decodeL l).2)
def unes : Nat → List UInt8 → Option (List UInt8)
  | 0, _ => some []
  | f + 1, l => if l = [] then some [] else (frst l).bind fun p => (unes f (l.drop p.2)).map fun t => encodeRune p.1 ++ t
def unesc (l : List UInt8) : Option (List UInt8) := unes l.length l

def pairV (o : Option (Int × Nat)) : Value := .tuple #[.int .i32 ((o.map (·.1)).getD 0), .int .i64 (((o.map (·.2)).getD 0 : Nat) : Int)]
def textV (o : Option (List UInt8)) : Value := .tuple #[.string ⟨(o.getD []).toArray⟩, .bool o.isSome]
theorem pair_none {o : Option (Int × Nat)} (h : o = none) : Ending.returned (.tuple #[.int .i32 0, .int .i64 0]) = .returned (pairV o) := by rw [h]; rfl
theorem pair_some {o : Option (Int × Nat)} {r : Int} {n : Nat} (h : o = some (r, n)) : Ending.returned (.tuple #[.int .i32 r, .int .i64 n]) = .returned (pairV o) := by rw [h]; rfl
theorem text_none {o : Option (List UInt8)} (h : o = none) : Ending.returned (.tuple #[.string ⟨#[]⟩, .bool false]) = .returned (textV o) := by rw [h]; rfl
theorem text_some {o : Option (List UInt8)} {l : List UInt8} (h : o = some l) : Ending.returned (.tuple #[.string ⟨l.toArray⟩, .bool true]) = .returned (textV o) := by rw [h]; rfl

theorem indexByte_lt (l : List UInt8) (c : UInt8) : indexByte l c < l.length := by
  induction l with
  | nil => simp [indexByte]
  | cons b t ih =>
    rw [indexByte]
    split
    · simp only [List.length_cons]
      omega
    · split
      · simp only [List.length_cons]
        omega
      · simp only [List.length_cons]
        omega
theorem numd_range (base : Int) (hb : base = 10 ∨ base = 16) : ∀ (l : List UInt8) (k : Nat) (acc r : Int), 0 ≤ acc → acc < 16 ^ k → k + l.length ≤ 7 → numd base acc l = some r → 0 ≤ r ∧ r ≤ 268435455
  | [], k, acc, r, h0, h1, hk, h => by
    simp only [numd, Option.some.injEq] at h
    subst h
    have hk' : k = 0 ∨ k = 1 ∨ k = 2 ∨ k = 3 ∨ k = 4 ∨ k = 5 ∨ k = 6 ∨ k = 7 := by simp at hk; omega
    rcases hk' with rfl | rfl | rfl | rfl | rfl | rfl | rfl | rfl <;> simp at h1 <;> omega
  | c :: t, k, acc, r, h0, h1, hk, h => by
    simp only [List.length_cons] at hk
    by_cases hbad : digZ (c.toNat : Int) < 0 ∨ base ≤ digZ (c.toNat : Int)
    · rw [numd_bad _ _ _ _ hbad] at h
      cases h
    · rw [numd_ok _ _ _ _ hbad] at h
      have hs := bd_step k (by omega) acc (digZ (c.toNat : Int)) base h0 h1 hb (by omega) (by omega)
      exact numd_range base hb t (k + 1) _ r hs.1 hs.2.1 (by omega) h
theorem numb_char (base : Int) (l : List UInt8) (r : Int) (h : numb base l = some r) : charB r = true := by
  unfold numb at h
  split at h
  · cases h
  · rw [Option.bind_eq_some_iff] at h
    obtain ⟨x, _, hx⟩ := h
    unfold chk at hx
    split at hx
    · next hc =>
      cases hx
      exact hc
    · cases hx
theorem charB_range (r : Int) (h : charB r = true) : 0 ≤ r ∧ r ≤ 1114111 := by
  simp only [charB, decide_eq_true_eq] at h
  omega
theorem refd_char (l : List UInt8) (r : Int) (h : refd l = some r) : charB r = true := by
  unfold refd at h
  split at h
  · cases h
    decide
  split at h
  · cases h
    decide
  split at h
  · cases h
    decide
  split at h
  · cases h
    decide
  split at h
  · cases h
    decide
  split at h
  · exact numb_char _ _ _ h
  split at h
  · exact numb_char _ _ _ h
  · cases h
theorem refe_ok (l : List UInt8) (r : Int) (n : Nat) (h : refe l = some (r, n)) : charB r = true ∧ 1 ≤ n ∧ n ≤ l.length := by
  unfold refe at h
  split at h
  · cases h
  · rw [Option.map_eq_some_iff] at h
    obtain ⟨x, hx, he⟩ := h
    cases he
    have := indexByte_lt l 59
    exact ⟨refd_char _ _ hx, by omega, by omega⟩
theorem frst_ok (l : List UInt8) (hne : l ≠ []) (r : Int) (n : Nat) (h : frst l = some (r, n)) : charB r = true ∧ 1 ≤ n ∧ n ≤ l.length := by
  unfold frst at h
  split at h
  · exact refe_ok l r n h
  · split at h
    · cases h
    · next hc =>
      cases h
      refine ⟨?_, Lib.decodeL_width l, Lib.decodeL_le l hne⟩
      cases hx : charB ((decodeL l).1 : Int)
      · exact absurd (Or.inr hx) hc
      · rfl
theorem unes_nil (f : Nat) : unes f [] = some [] := by cases f <;> simp [unes]
theorem unes_step (f : Nat) (l : List UInt8) (hne : l ≠ []) (r : Int) (n : Nat) (h : frst l = some (r, n)) : unes (f + 1) l = (unes f (l.drop n)).map fun t => encodeRune r ++ t := by
  rw [unes, if_neg hne, h]
  rfl
theorem unes_fail (f : Nat) (l : List UInt8) (hne : l ≠ []) (h : frst l = none) : unes (f + 1) l = none := by
  rw [unes, if_neg hne, h]
  rfl
end Sp
end Go.Proofs.YtimecocegnnjjaaDoor
/-
  PLAIN: how a text is written. No program in this text.
-/
namespace Go.Proofs.YtimecocegnnjjaaDoor
namespace Sp
def esc1 (attr : Bool) (c : UInt8) : List UInt8 := if writ (c.toNat : Int) attr = [] then [c] else writ (c.toNat : Int) attr
def esc (attr : Bool) (l : List UInt8) : List UInt8 := l.flatMap (esc1 attr)
theorem writ_le (c : Int) (attr : Bool) : (writ c attr).length ≤ 6 := by
  unfold writ
  repeat' split
  all_goals simp
theorem esc1_self (attr : Bool) (c : UInt8) (h : writ (c.toNat : Int) attr = []) : esc1 attr c = [c] := by rw [esc1, if_pos h]
theorem esc1_writ (attr : Bool) (c : UInt8) (h : ¬ writ (c.toNat : Int) attr = []) : esc1 attr c = writ (c.toNat : Int) attr := by rw [esc1, if_neg h]
theorem esc1_le (attr : Bool) (c : UInt8) : (esc1 attr c).length ≤ 6 := by
  unfold esc1
  split
  · simp
  · exact writ_le _ _
theorem take_byte (s : ByteArray) (k : Nat) (h : k < s.size) : s.data.toList.take (k + 1) = s.data.toList.take k ++ [s[k]] := by
  rw [List.take_succ_eq_append_getElem (by simpa using h)]
  rfl
theorem esc_snoc (attr : Bool) (l : List UInt8) (c : UInt8) : esc attr (l ++ [c]) = esc attr l ++ esc1 attr c := by simp [esc]
theorem esc_append (attr : Bool) (a b : List UInt8) : esc attr (a ++ b) = esc attr a ++ esc attr b := by simp [esc]
theorem esc_cons (attr : Bool) (c : UInt8) (l : List UInt8) : esc attr (c :: l) = esc1 attr c ++ esc attr l := by simp [esc]
theorem esc_nil (attr : Bool) : esc attr [] = [] := rfl
theorem esc_le (attr : Bool) : ∀ l : List UInt8, (esc attr l).length ≤ 6 * l.length
  | [] => by simp [esc]
  | c :: t => by
    have h1 := esc_le attr t
    have h2 := esc1_le attr c
    rw [esc_cons, List.length_append, List.length_cons]
    omega
theorem take_all (s : ByteArray) (k : Nat) (h : s.size ≤ k) : s.data.toList.take k = s.data.toList := List.take_of_length_le (by simpa using h)
end Sp
end Go.Proofs.YtimecocegnnjjaaDoor
/-
  PLAIN: qualified names. No program in this text.
-/
namespace Go.Proofs.YtimecocegnnjjaaDoor
namespace Sp
open Go.Lib (indexByte)
def splitL (l : List UInt8) : List UInt8 × List UInt8 := if 0 ≤ indexByte l 58 then (l.take (indexByte l 58).toNat, l.drop ((indexByte l 58).toNat + 1)) else ([], l)
def qualB (l : List UInt8) : Bool := if 0 ≤ indexByte l 58 then isB (l.take (indexByte l 58).toNat) && isB (l.drop ((indexByte l 58).toNat + 1)) else isB l
theorem cut_found (l : List UInt8) (n : Nat) (h : indexByte l 58 = n) : Lib.cut l [58] = (l.take n, l.drop (n + 1), true) := by
  unfold Lib.cut
  rw [Lib.index_one, h, if_pos (by omega)]
  rfl
theorem cut_none (l : List UInt8) (h : indexByte l 58 < 0) : Lib.cut l [58] = (l, [], false) := by
  unfold Lib.cut
  rw [Lib.index_one, if_neg (by omega)]
theorem splitL_found (l : List UInt8) (n : Nat) (h : indexByte l 58 = n) : splitL l = (l.take n, l.drop (n + 1)) := by
  unfold splitL
  rw [h, if_pos (by omega)]
  rfl
theorem splitL_none (l : List UInt8) (h : indexByte l 58 < 0) : splitL l = ([], l) := by
  unfold splitL
  rw [if_neg (by omega)]
theorem qualB_found (l : List UInt8) (n : Nat) (h : indexByte l 58 = n) : qualB l = (isB (l.take n) && isB (l.drop (n + 1))) := by
  unfold qualB
  rw [h, if_pos (by omega)]
  rfl
theorem qualB_none (l : List UInt8) (h : indexByte l 58 < 0) : qualB l = isB l := by
  unfold qualB
  rw [if_neg (by omega)]
def twoV (p : List UInt8 × List UInt8) : Value := .tuple #[.string ⟨p.1.toArray⟩, .string ⟨p.2.toArray⟩]
theorem ba_eq {t : ByteArray} {l : List UInt8} (h : t = ⟨l.toArray⟩) : t.data.toList = l := by rw [h]
theorem ba_of {t : ByteArray} {l : List UInt8} (h : t.data.toList = l) : t = ⟨l.toArray⟩ := by
  obtain ⟨⟨x⟩⟩ := t
  simp at h
  rw [h]
end Sp
end Go.Proofs.YtimecocegnnjjaaDoor
/-
  PLAIN: point pairs in names. No program in this text.
-/
namespace Go.Proofs.YtimecocegnnjjaaDoor
namespace Sp
open Go.Lib (indexByte)
theorem cat_data (x y : ByteArray) : (x ++ y).data.toList = x.data.toList ++ y.data.toList := by
  rw [ByteArray.data_append]
  simp
theorem indexByte_without (c : UInt8) : ∀ l : List UInt8, (∀ b ∈ l, b ≠ c) → indexByte l c = -1
  | [], _ => rfl
  | b :: t, h => by
    rw [indexByte, if_neg (by simpa using h b (by simp)), indexByte_without c t (fun x hx => h x (by simp [hx]))]
    rfl
theorem indexByte_behind (c : UInt8) (t : List UInt8) : ∀ l : List UInt8, (∀ b ∈ l, b ≠ c) → indexByte (l ++ c :: t) c = l.length
  | [], _ => by simp [indexByte]
  | b :: r, h => by
    have ih := indexByte_behind c t r (fun x hx => h x (by simp [hx]))
    rw [List.cons_append, indexByte, if_neg (by simpa using h b (by simp)), ih, if_neg (by rw [beq_iff_eq]; omega)]
    simp
theorem isB_colon (a t : List UInt8) : isB (a ++ 58 :: t) = false := by
  apply isB_go _ a.length
  · simp
  · simp [List.getD]
    decide
theorem isB_mem (l : List UInt8) (h : isB l = true) : 1 ≤ l.length ∧ l.length ≤ 12 ∧ begZ ((l.getD 0 0).toNat : Int) = true ∧ ∀ b ∈ l, goZ (b.toNat : Int) = true := by
  unfold isB at h
  simp only [Bool.and_eq_true, decide_eq_true_eq, List.all_eq_true] at h
  exact ⟨h.1.1.1, h.1.1.2, h.1.2, h.2⟩
theorem isB_no_colon (l : List UInt8) (h : isB l = true) : ∀ b ∈ l, b ≠ 58 := by
  intro b hb e
  have := (isB_mem l h).2.2.2 b hb
  rw [e] at this
  exact absurd this (by decide)
theorem rep_mem (n : Nat) (c d : UInt8) (hcd : c ≠ d) : ∀ b ∈ List.replicate n c, b ≠ d := by
  intro b hb
  rw [List.mem_replicate] at hb
  rw [hb.2]
  exact hcd
theorem isB_rep (n : Nat) (c : UInt8) (hb : begZ (c.toNat : Int) = true) : isB (List.replicate n c) = decide (1 ≤ n ∧ n ≤ 12) := by
  by_cases h : 1 ≤ n ∧ n ≤ 12
  · rw [decide_eq_true h]
    have hg : ∀ k, k < n → (List.replicate n c).getD k 0 = c := fun k hk => by simp [List.getD, hk]
    apply isB_yes
    · simpa using h.1
    · simpa using h.2
    · rw [hg 0 (by omega)]
      exact hb
    · intro k hk
      rw [hg k (by simpa using hk)]
      exact begZ_goZ _ hb
  · rw [decide_eq_false h]
    apply isB_len
    rw [List.length_replicate]
    omega
theorem qualB_rep (n : Nat) : qualB (List.replicate n 97) = decide (1 ≤ n ∧ n ≤ 12) := by
  rw [qualB_none _ (by rw [indexByte_without 58 _ (rep_mem n 97 58 (by decide))]; decide), isB_rep n 97 (by decide)]
theorem qualB_two (a b : List UInt8) (h : ∀ x ∈ a, x ≠ 58) : qualB (a ++ 58 :: b) = (isB a && isB b) := by
  rw [qualB_found _ a.length (indexByte_behind 58 b a h)]
  congr 1
  · congr 1
    simp
  · congr 1
    simp
theorem splitL_two (a b : List UInt8) (h : ∀ x ∈ a, x ≠ 58) : splitL (a ++ 58 :: b) = (a, b) := by
  rw [splitL_found _ a.length (indexByte_behind 58 b a h)]
  simp
end Sp
end Go.Proofs.YtimecocegnnjjaaDoor
/-
  PLAIN: texts of signs. No program in this text.
-/
namespace Go.Proofs.YtimecocegnnjjaaDoor
namespace Sp
open Go.Lib (decodeL validD)
def runes : Nat → List UInt8 → List Nat
  | 0, _ => []
  | f + 1, l => if l = [] then [] else (decodeL l).1 :: runes f (l.drop (decodeL l).2)
def signsB (l : List UInt8) : Bool := validD l && (runes l.length l).all fun r => charB (r : Int)
theorem runes_nil (f : Nat) : runes f [] = [] := by cases f <;> simp [runes]
theorem runes_len : ∀ (f : Nat) (l : List UInt8), (runes f l).length ≤ f
  | 0, _ => by simp [runes]
  | f + 1, l => by
    rw [runes]
    split
    · simp
    · have := runes_len f (l.drop (decodeL l).2)
      simp
      exact this
theorem runesFrom_eq (s : ByteArray) : ∀ (f i : Nat) (acc : Array Value), Conv.runesFrom s f i acc = acc ++ ((runes f (s.data.toList.drop i)).map fun r : Nat => Value.int .i32 (r : Int)).toArray
  | 0, i, acc => by simp [Conv.runesFrom, runes]
  | f + 1, i, acc => by
    unfold Conv.runesFrom
    by_cases h : i < s.size
    · have hne : s.data.toList.drop i ≠ [] := by
        rw [drop_byte s i h]
        simp
      rw [if_pos h, runes, if_neg hne]
      simp only [runesFrom_eq s f, Lib.decodeL_drop, List.drop_drop]
      rw [← Array.toList_inj]
      simp
    · rw [if_neg h, drop_all s i (by omega), runes_nil]
      simp
theorem runes_all (s : ByteArray) : Conv.runesFrom s s.size 0 #[] = ((runes s.size s.data.toList).map fun r : Nat => Value.int .i32 (r : Int)).toArray := by
  rw [runesFrom_eq, List.drop_zero]
  simp
theorem runes_fuel : ∀ (f g : Nat) (l : List UInt8), l.length ≤ f → l.length ≤ g → runes f l = runes g l
  | 0, g, l, hf, _ => by
    have : l = [] := List.eq_nil_of_length_eq_zero (by omega)
    subst this
    rw [runes_nil, runes_nil]
  | f + 1, 0, l, _, hg => by
    have : l = [] := List.eq_nil_of_length_eq_zero (by omega)
    subst this
    rw [runes_nil, runes_nil]
  | f + 1, g + 1, l, hf, hg => by
    rw [runes, runes]
    by_cases hne : l = []
    · rw [if_pos hne, if_pos hne]
    · have hw := Lib.decodeL_width l
      have hl : 0 < l.length := List.length_pos_iff.2 hne
      rw [if_neg hne, if_neg hne, runes_fuel f g (l.drop (decodeL l).2) (by rw [List.length_drop]; omega) (by rw [List.length_drop]; omega)]
theorem signsB_nil : signsB [] = true := by decide
theorem signsB_step (l : List UInt8) (hne : l ≠ []) : signsB l = if ((decodeL l).1 = 65533 ∧ (decodeL l).2 = 1) ∨ charB ((decodeL l).1 : Int) = false then false else signsB (l.drop (decodeL l).2) := by
  have hw := Lib.decodeL_width l
  have hl : 0 < l.length := List.length_pos_iff.2 hne
  obtain ⟨n, hn⟩ : ∃ n, l.length = n + 1 := ⟨l.length - 1, by omega⟩
  unfold signsB
  rw [Lib.validD_step l hne, hn, runes, if_neg hne, runes_fuel n (l.drop (decodeL l).2).length (l.drop (decodeL l).2) (by rw [List.length_drop]; omega) (by omega)]
  by_cases h1 : (decodeL l).1 = 65533 ∧ (decodeL l).2 = 1
  · rw [if_pos h1, if_pos (Or.inl h1)]
    rfl
  · rw [if_neg h1]
    cases h2 : charB ((decodeL l).1 : Int)
    · rw [if_pos (Or.inr rfl)]
      simp [h2]
    · rw [if_neg (by simp; omega)]
      simp [h2]
end Sp
end Go.Proofs.YtimecocegnnjjaaDoor
/-
  The small functions of the document's answer: each by its contract.
-/
set_option linter.unusedSimpArgs false
namespace Go.Proofs.YtimecocegnnjjaaDoor
open Go.RowKit

theorem first_ref (c : Int) (w : World) :
    Calls Tryd.prog 32 #[.int .u8 c] w fun e w' => e = .returned (.bool (Sp.begZ c)) ∧ w' = w := by
  go_enter Tryd.func32, Tryd.ntmps32
  go_wp2
  all_goals go_ret
  all_goals refine ⟨Sp.ret_bool ?_, rfl⟩
  all_goals rw [Bool.eq_iff_iff]
  all_goals simp only [Sp.begZ, Bool.or_eq_true, beq_iff_eq, decide_eq_true_eq, true_iff]
  all_goals first | omega | simp

theorem byte_ref (c : Int) (w : World) :
    Calls Tryd.prog 33 #[.int .u8 c] w fun e w' => e = .returned (.bool (Sp.goZ c)) ∧ w' = w := by
  obtain ⟨b, hq, hb⟩ : ∃ b, (b = true ↔ ((97 ≤ c ∧ c ≤ 122) ∨ (65 ≤ c ∧ c ≤ 90) ∨ c = 95)) ∧ Sp.begZ c = b := ⟨_, by simp [Sp.begZ], rfl⟩
  have HQ : Hid (b = true ↔ ((97 ≤ c ∧ c ≤ 122) ∨ (65 ≤ c ∧ c ≤ 90) ∨ c = 95)) := hq
  clear hq
  cases b
  all_goals go_enter Tryd.func33, Tryd.ntmps33
  all_goals go_wp2_with (go_at_call 32; refine (first_ref _ _).mono ?_; rintro e w' ⟨rfl, rfl⟩)
  all_goals go_ret
  all_goals refine ⟨Sp.ret_bool ?_, rfl⟩
  all_goals rw [Bool.eq_iff_iff]
  all_goals have hq := HQ.out
  all_goals simp only [Bool.false_eq_true, false_iff, true_iff] at hq
  all_goals simp only [Sp.goZ, Bool.or_eq_true, Bool.and_eq_true, beq_iff_eq, decide_eq_true_eq, true_iff]
  all_goals first | omega | simp

theorem char_ref (c : Int) (w : World) :
    Calls Tryd.prog 22 #[.int .i32 c] w fun e w' => e = .returned (.bool (Sp.charB c)) ∧ w' = w := by
  go_enter Tryd.func22, Tryd.ntmps22
  go_wp2
  all_goals go_ret
  all_goals refine ⟨Sp.ret_bool ?_, rfl⟩
  all_goals (try simp only [beq_iff_eq, beq_eq_false_iff_ne] at *)
  all_goals rw [Bool.eq_iff_iff]
  all_goals simp only [Sp.charB, Bool.or_eq_true, Bool.and_eq_true, beq_iff_eq, decide_eq_true_eq, true_iff, Bool.false_eq_true, false_iff]
  all_goals first | omega | simp
end Go.Proofs.YtimecocegnnjjaaDoor
/-
  The small functions of package name: each by its contract.
-/
set_option linter.unusedSimpArgs false
namespace Go.Proofs.YtimecocegnnjjaaDoor
open Go.RowKit

theorem begins_any (c : Int) (w : World) :
    Calls Tryd.prog 68 #[.int .u8 c] w fun e w' => e = .returned (.bool (Sp.begZ c)) ∧ w' = w := by
  go_enter Tryd.func68, Tryd.ntmps68
  go_wp2
  all_goals go_ret
  all_goals refine ⟨Sp.ret_bool ?_, rfl⟩
  all_goals rw [Bool.eq_iff_iff]
  all_goals simp only [Sp.begZ, Bool.or_eq_true, beq_iff_eq, decide_eq_true_eq, true_iff]
  all_goals first | omega | simp

theorem goesOn_any (c : Int) (w : World) :
    Calls Tryd.prog 69 #[.int .u8 c] w fun e w' => e = .returned (.bool (Sp.goZ c)) ∧ w' = w := by
  obtain ⟨b, hq, hb⟩ : ∃ b, (b = true ↔ ((97 ≤ c ∧ c ≤ 122) ∨ (65 ≤ c ∧ c ≤ 90) ∨ c = 95)) ∧ Sp.begZ c = b := ⟨_, by simp [Sp.begZ], rfl⟩
  have HQ : Hid (b = true ↔ ((97 ≤ c ∧ c ≤ 122) ∨ (65 ≤ c ∧ c ≤ 90) ∨ c = 95)) := hq
  clear hq
  cases b
  all_goals go_enter Tryd.func69, Tryd.ntmps69
  all_goals go_wp2_with (go_at_call 68; refine (begins_any _ _).mono ?_; rintro e w' ⟨rfl, rfl⟩)
  all_goals go_ret
  all_goals refine ⟨Sp.ret_bool ?_, rfl⟩
  all_goals rw [Bool.eq_iff_iff]
  all_goals have hq := HQ.out
  all_goals simp only [Bool.false_eq_true, false_iff, true_iff] at hq
  all_goals simp only [Sp.goZ, Bool.or_eq_true, Bool.and_eq_true, beq_iff_eq, decide_eq_true_eq, true_iff]
  all_goals first | omega | simp

theorem char_any (c : Int) (w : World) :
    Calls Tryd.prog 62 #[.int .i32 c] w fun e w' => e = .returned (.bool (Sp.charB c)) ∧ w' = w := by
  go_enter Tryd.func62, Tryd.ntmps62
  go_wp2
  all_goals go_ret
  all_goals refine ⟨Sp.ret_bool ?_, rfl⟩
  all_goals simp only [beq_iff_eq, beq_eq_false_iff_ne] at *
  all_goals rw [Bool.eq_iff_iff]
  all_goals simp only [Sp.charB, decide_eq_true_eq, true_iff, Bool.false_eq_true, false_iff]
  all_goals first | omega | simp

theorem digit_any (c : Int) (w : World) (h0 : 0 ≤ c) (h1 : c ≤ 255) :
    Calls Tryd.prog 96 #[.int .u8 c] w fun e w' => e = .returned (.int .i32 (Sp.digZ c)) ∧ w' = w := by
  go_enter Tryd.func96, Tryd.ntmps96
  go_wp2
  all_goals go_ret
  all_goals refine ⟨Sp.ret_int ?_, rfl⟩
  all_goals unfold Sp.digZ
  all_goals (repeat' split) <;> omega

theorem written_any (c : Int) (attr : Bool) (w : World) :
    Calls Tryd.prog 36 #[.int .u8 c, .bool attr] w fun e w' => e = .returned (.string ⟨(Sp.writ c attr).toArray⟩) ∧ w' = w := by
  cases attr
  all_goals go_enter Tryd.func36, Tryd.ntmps36
  all_goals go_wp2
  all_goals go_ret
  all_goals refine ⟨?_, rfl⟩
  all_goals simp only [beq_iff_eq, beq_eq_false_iff_ne] at *
  all_goals simp [Sp.writ, *]
end Go.Proofs.YtimecocegnnjjaaDoor
/-
  name.numbered, by its contract.
-/
set_option linter.unusedSimpArgs false
namespace Go.Proofs.YtimecocegnnjjaaDoor
open Go.RowKit

theorem numbered_any (s : ByteArray) (base : Int) (w : World) (hs : s.size ≤ maxLen) (hb : base = 10 ∨ base = 16) :
    Calls Tryd.prog 94 #[.string s, .int .i32 base] w fun e w' => e = .returned (Sp.optV (Sp.numb base s.data.toList)) ∧ w' = w := by
  unfold maxLen at hs
  by_cases h1 : s.size < 1
  · have HF : Hid (Sp.numb base s.data.toList = none) := Sp.numb_len _ _ (by rw [Sp.len_byte]; omega)
    go_enter Tryd.func94, Tryd.ntmps94
    go_wp2
    go_ret2
    exact ⟨Sp.ret_none HF.out, rfl⟩
  by_cases h2 : 7 < s.size
  · have HF : Hid (Sp.numb base s.data.toList = none) := Sp.numb_len _ _ (by rw [Sp.len_byte]; omega)
    go_enter Tryd.func94, Tryd.ntmps94
    go_wp2
    go_ret2
    exact ⟨Sp.ret_none HF.out, rfl⟩
  have HN : Hid (Sp.numb base s.data.toList = (Sp.numd base 0 s.data.toList).bind Sp.chk) := Sp.numb_of _ _ (by rw [Sp.len_byte]; omega)
  have HB : Hid (base = 10 ∨ base = 16) := hb
  have hb0 : 10 ≤ base := by omega
  have hb1 : base ≤ 16 := by omega
  clear hb
  go_enter Tryd.func94, Tryd.ntmps94
  go_wp2
  go_loop [6, 7, 8] (fun r i _d => ∃ (k : Nat) (acc : Int), k ≤ s.size ∧ i = .int .i64 k ∧ r = .int .i32 acc ∧ 0 ≤ acc ∧ Hid (acc < 16 ^ k) ∧ Hid (Sp.numd base 0 s.data.toList = Sp.numd base acc (s.data.toList.drop k))) (fun _ i _ => s.size - (intOf i).toNat)
  case atStart => exact ⟨0, 0, by omega, rfl, rfl, by omega, show (0 : Int) < 16 ^ 0 by simp, rfl⟩
  case round =>
    obtain ⟨k, acc, hk, rfl, rfl, ha0, HA, HD⟩ := hrel
    by_cases hlt : k < s.size
    · have hc := UInt8.toNat_lt s[k]
      have hdr := Sp.digZ_range (s[k].toNat : Int) (by omega) (by omega)
      have HL : Hid (s.data.toList.drop k = s[k] :: s.data.toList.drop (k + 1)) := Sp.drop_byte s k hlt
      by_cases hbad : Sp.digZ (s[k].toNat : Int) < 0 ∨ base ≤ Sp.digZ (s[k].toNat : Int)
      · have HF : Hid (Sp.numb base s.data.toList = none) := by
          show Sp.numb base s.data.toList = none
          rw [HN.out, HD.out, HL.out, Sp.numd_bad _ _ _ _ hbad]
          rfl
        rcases hbad with hbad | hbad
        all_goals go_wp2_with (go_at_call 96; refine (digit_any _ _ (by omega) (by omega)).mono ?_; rintro e w' ⟨rfl, rfl⟩)
        all_goals go_ret2
        all_goals exact ⟨Sp.ret_none HF.out, rfl⟩
      · have hst := Sp.bd_step k (by omega) acc (Sp.digZ (s[k].toNat : Int)) base ha0 HA.out HB.out (by omega) (by omega)
        have HS : Hid (acc * base + Sp.digZ (s[k].toNat : Int) < 16 ^ (k + 1)) := hst.2.1
        have hs0 := hst.1
        have hs1 := hst.2.2.1
        have hs2 := hst.2.2.2.1
        have hs3 := hst.2.2.2.2
        have hn0 : 0 ≤ Sp.digZ (s[k].toNat : Int) := by omega
        have hn1 : Sp.digZ (s[k].toNat : Int) < base := by omega
        have HD2 : Hid (Sp.numd base 0 s.data.toList = Sp.numd base (acc * base + Sp.digZ (s[k].toNat : Int)) (s.data.toList.drop (k + 1))) := by
          show Sp.numd base 0 s.data.toList = _
          rw [HD.out, HL.out, Sp.numd_ok _ _ _ _ hbad]
        clear hst hbad
        go_wp2_with (go_at_call 96; refine (digit_any _ _ (by omega) (by omega)).mono ?_; rintro e w' ⟨rfl, rfl⟩)
        go_round
        case rel => exact ⟨k + 1, _, by omega, by go_num, rfl, hs0, HS, HD2⟩
        case measure => simp [intOf]; omega
    · have HE : Hid (Sp.numb base s.data.toList = Sp.chk acc) := by
        show Sp.numb base s.data.toList = _
        rw [HN.out, HD.out, Sp.drop_all s k (by omega)]
        rfl
      cases hch : Sp.charB acc
      · have HF : Hid (Sp.numb base s.data.toList = none) := by
          show Sp.numb base s.data.toList = none
          rw [HE.out, Sp.chk, hch]
          rfl
        go_wp2_with (go_at_call 62; refine (char_any _ _).mono ?_; rintro e w' ⟨rfl, rfl⟩)
        go_ret2
        exact ⟨Sp.ret_none HF.out, rfl⟩
      · have HF : Hid (Sp.numb base s.data.toList = some acc) := by
          show Sp.numb base s.data.toList = some acc
          rw [HE.out, Sp.chk, hch]
          rfl
        go_wp2_with (go_at_call 62; refine (char_any _ _).mono ?_; rintro e w' ⟨rfl, rfl⟩)
        go_ret2
        exact ⟨Sp.ret_some HF.out, rfl⟩
end Go.Proofs.YtimecocegnnjjaaDoor
/-
  name.referred, name.reference, name.first: each by its contract.
-/
set_option linter.unusedSimpArgs false
namespace Go.Proofs.YtimecocegnnjjaaDoor
open Go.RowKit

theorem numbered_vb (s : ByteArray) (base : Int) (w : World) (hs : s.size ≤ maxLen) (hb : base = 10 ∨ base = 16) (v : Int) (b : Bool) (h : Hid (Sp.optV (Sp.numb base s.data.toList) = .tuple #[.int .i32 v, .bool b])) :
    Calls Tryd.prog 94 #[.string s, .int .i32 base] w fun e w' => e = .returned (.tuple #[.int .i32 v, .bool b]) ∧ w' = w := by
  have := numbered_any s base w hs hb
  rw [h.out] at this
  exact this
theorem cutPrefix_yes (s p : ByteArray) (q : List UInt8) (w : World) (hp : p.data.toList = q) (h : Hid (Lib.hasPrefix s.data.toList q = true)) (t : ByteArray) (ht : Hid (t = ⟨(s.data.toList.drop q.length).toArray⟩)) :
    Calls Tryd.prog 93 #[.string s, .string p] w fun e w' => e = .returned (.tuple #[.string t, .bool true]) ∧ w' = w := by
  have := Tryd.strings_CutPrefix s p w
  rw [hp, Lib.trimPrefix, h.out, if_pos rfl, ← ht.out] at this
  exact this
theorem cutPrefix_no (s p : ByteArray) (q : List UInt8) (w : World) (hp : p.data.toList = q) (h : Hid (Lib.hasPrefix s.data.toList q = false)) :
    Calls Tryd.prog 93 #[.string s, .string p] w fun e w' => e = .returned (.tuple #[.string s, .bool false]) ∧ w' = w := by
  have := Tryd.strings_CutPrefix s p w
  rw [hp, Lib.trimPrefix, h.out, if_neg (by simp)] at this
  exact this

theorem referred_any (s : ByteArray) (w : World) (hs : s.size ≤ maxLen) :
    Calls Tryd.prog 91 #[.string s] w fun e w' => e = .returned (Sp.optV (Sp.refd s.data.toList)) ∧ w' = w := by
  have hl : s.toList = s.data.toList := Lib.toList_data s
  have HL : Hid (s.toList = s.data.toList) := hl
  clear hl
  by_cases h1 : s.data.toList = [97, 109, 112]
  · have t1 : (s.toList == [97, 109, 112]) = true := by rw [HL.out, h1]; rfl
    have HF : Hid (Sp.refd s.data.toList = some 38) := by rw [h1]; exact rfl
    clear h1
    go_enter Tryd.func91, Tryd.ntmps91
    go_wp2
    go_ret2
    exact ⟨Sp.ret_some HF.out, rfl⟩
  have t1 : (s.toList == [97, 109, 112]) = false := by rw [HL.out]; simpa using h1
  by_cases h2 : s.data.toList = [108, 116]
  · have t2 : (s.toList == [108, 116]) = true := by rw [HL.out, h2]; rfl
    have HF : Hid (Sp.refd s.data.toList = some 60) := by rw [h2]; exact rfl
    clear h1 h2
    go_enter Tryd.func91, Tryd.ntmps91
    go_wp2
    go_ret2
    exact ⟨Sp.ret_some HF.out, rfl⟩
  have t2 : (s.toList == [108, 116]) = false := by rw [HL.out]; simpa using h2
  by_cases h3 : s.data.toList = [103, 116]
  · have t3 : (s.toList == [103, 116]) = true := by rw [HL.out, h3]; rfl
    have HF : Hid (Sp.refd s.data.toList = some 62) := by rw [h3]; exact rfl
    clear h1 h2 h3
    go_enter Tryd.func91, Tryd.ntmps91
    go_wp2
    go_ret2
    exact ⟨Sp.ret_some HF.out, rfl⟩
  have t3 : (s.toList == [103, 116]) = false := by rw [HL.out]; simpa using h3
  by_cases h4 : s.data.toList = [113, 117, 111, 116]
  · have t4 : (s.toList == [113, 117, 111, 116]) = true := by rw [HL.out, h4]; rfl
    have HF : Hid (Sp.refd s.data.toList = some 34) := by rw [h4]; exact rfl
    clear h1 h2 h3 h4
    go_enter Tryd.func91, Tryd.ntmps91
    go_wp2
    go_ret2
    exact ⟨Sp.ret_some HF.out, rfl⟩
  have t4 : (s.toList == [113, 117, 111, 116]) = false := by rw [HL.out]; simpa using h4
  by_cases h5 : s.data.toList = [97, 112, 111, 115]
  · have t5 : (s.toList == [97, 112, 111, 115]) = true := by rw [HL.out, h5]; rfl
    have HF : Hid (Sp.refd s.data.toList = some 39) := by rw [h5]; exact rfl
    clear h1 h2 h3 h4 h5
    go_enter Tryd.func91, Tryd.ntmps91
    go_wp2
    go_ret2
    exact ⟨Sp.ret_some HF.out, rfl⟩
  have t5 : (s.toList == [97, 112, 111, 115]) = false := by rw [HL.out]; simpa using h5
  cases h6 : Lib.hasPrefix s.data.toList [35, 120]
  · cases h7 : Lib.hasPrefix s.data.toList [35]
    · have HF : Hid (Sp.refd s.data.toList = none) := by
        show Sp.refd s.data.toList = none
        unfold Sp.refd
        rw [if_neg h1, if_neg h2, if_neg h3, if_neg h4, if_neg h5, h6, h7]
        rfl
      have H6 : Hid (Lib.hasPrefix s.data.toList [35, 120] = false) := h6
      have H7 : Hid (Lib.hasPrefix s.data.toList [35] = false) := h7
      clear h1 h2 h3 h4 h5 h6 h7
      go_enter Tryd.func91, Tryd.ntmps91
      go_wp2_with fail
      refine (cutPrefix_no _ _ [35, 120] _ rfl H6).mono ?_
      rintro e w1 ⟨rfl, rfl⟩
      go_wp2_with fail
      refine (cutPrefix_no _ _ [35] _ rfl H7).mono ?_
      rintro e w1 ⟨rfl, rfl⟩
      go_wp2_with fail
      go_ret2
      exact ⟨Sp.ret_none HF.out, rfl⟩
    · have HF : Hid (Sp.refd s.data.toList = Sp.numb 10 (s.data.toList.drop 1)) := by
        show Sp.refd s.data.toList = _
        unfold Sp.refd
        rw [if_neg h1, if_neg h2, if_neg h3, if_neg h4, if_neg h5, h6, h7]
        rfl
      have H6 : Hid (Lib.hasPrefix s.data.toList [35, 120] = false) := h6
      have H7 : Hid (Lib.hasPrefix s.data.toList [35] = true) := h7
      clear h1 h2 h3 h4 h5 h6 h7
      obtain ⟨t, HT⟩ : ∃ t : ByteArray, Hid (t = ⟨(s.data.toList.drop ([35] : List UInt8).length).toArray⟩) := ⟨_, rfl⟩
      have htl : Hid (t.data.toList = s.data.toList.drop 1) := by rw [HT.out]; exact rfl
      have hts : t.size ≤ maxLen := by
        have : t.size = (s.data.toList.drop 1).length := by rw [← htl.out, Sp.len_byte]
        rw [this, List.length_drop, Sp.len_byte]
        omega
      obtain ⟨v, b, HV⟩ : ∃ v b, Hid (Sp.optV (Sp.numb 10 t.data.toList) = .tuple #[.int .i32 v, .bool b]) := ⟨_, _, rfl⟩
      have HE : Hid (Ending.returned (.tuple #[.int .i32 v, .bool b]) = .returned (Sp.optV (Sp.refd s.data.toList))) := by
        show Ending.returned (.tuple #[.int .i32 v, .bool b]) = .returned (Sp.optV (Sp.refd s.data.toList))
        rw [HF.out, ← htl.out, HV.out]
      go_enter Tryd.func91, Tryd.ntmps91
      go_wp2_with fail
      refine (cutPrefix_no _ _ [35, 120] _ rfl H6).mono ?_
      rintro e w1 ⟨rfl, rfl⟩
      go_wp2_with fail
      refine (cutPrefix_yes _ _ [35] _ rfl H7 t HT).mono ?_
      rintro e w1 ⟨rfl, rfl⟩
      go_wp2_with fail
      refine (numbered_vb t 10 _ hts (Or.inl rfl) v b HV).mono ?_
      rintro e w1 ⟨rfl, rfl⟩
      go_wp2_with fail
      go_ret2
      exact ⟨HE.out, rfl⟩
  · have HF : Hid (Sp.refd s.data.toList = Sp.numb 16 (s.data.toList.drop 2)) := by
      show Sp.refd s.data.toList = _
      unfold Sp.refd
      rw [if_neg h1, if_neg h2, if_neg h3, if_neg h4, if_neg h5, h6]
      rfl
    have H6 : Hid (Lib.hasPrefix s.data.toList [35, 120] = true) := h6
    clear h1 h2 h3 h4 h5 h6
    obtain ⟨t, HT⟩ : ∃ t : ByteArray, Hid (t = ⟨(s.data.toList.drop ([35, 120] : List UInt8).length).toArray⟩) := ⟨_, rfl⟩
    have htl : Hid (t.data.toList = s.data.toList.drop 2) := by rw [HT.out]; exact rfl
    have hts : t.size ≤ maxLen := by
      have : t.size = (s.data.toList.drop 2).length := by rw [← htl.out, Sp.len_byte]
      rw [this, List.length_drop, Sp.len_byte]
      omega
    obtain ⟨v, b, HV⟩ : ∃ v b, Hid (Sp.optV (Sp.numb 16 t.data.toList) = .tuple #[.int .i32 v, .bool b]) := ⟨_, _, rfl⟩
    have HE : Hid (Ending.returned (.tuple #[.int .i32 v, .bool b]) = .returned (Sp.optV (Sp.refd s.data.toList))) := by
      show Ending.returned (.tuple #[.int .i32 v, .bool b]) = .returned (Sp.optV (Sp.refd s.data.toList))
      rw [HF.out, ← htl.out, HV.out]
    go_enter Tryd.func91, Tryd.ntmps91
    go_wp2_with fail
    refine (cutPrefix_yes _ _ [35, 120] _ rfl H6 t HT).mono ?_
    rintro e w1 ⟨rfl, rfl⟩
    go_wp2_with fail
    refine (numbered_vb t 16 _ hts (Or.inr rfl) v b HV).mono ?_
    rintro e w1 ⟨rfl, rfl⟩
    go_wp2_with fail
    go_ret2
    exact ⟨HE.out, rfl⟩
end Go.Proofs.YtimecocegnnjjaaDoor
/-
  name.reference, name.first: each by its contract.
-/
set_option linter.unusedSimpArgs false
namespace Go.Proofs.YtimecocegnnjjaaDoor
open Go.RowKit

theorem indexByte_v (s : ByteArray) (w : World) (E : Int) (h : Hid (Lib.indexByte s.data.toList 59 = E)) :
    Calls Tryd.prog 90 #[.string s, .int .u8 59] w fun e w' => e = .returned (.int .i64 E) ∧ w' = w := by
  have := Tryd.strings_IndexByte s 59 w
  rw [show (59 : Int).toNat.toUInt8 = 59 from rfl, h.out] at this
  exact this
theorem referred_vb (s : ByteArray) (w : World) (hs : s.size ≤ maxLen) (v : Int) (b : Bool) (h : Hid (Sp.optV (Sp.refd s.data.toList) = .tuple #[.int .i32 v, .bool b])) :
    Calls Tryd.prog 91 #[.string s] w fun e w' => e = .returned (.tuple #[.int .i32 v, .bool b]) ∧ w' = w := by
  have := referred_any s w hs
  rw [h.out] at this
  exact this
theorem optV_false {o : Option Int} {v : Int} (h : Sp.optV o = .tuple #[.int .i32 v, .bool false]) : o = none := by
  cases o with
  | none => rfl
  | some x => simp [Sp.optV] at h
theorem optV_true {o : Option Int} {v : Int} (h : Sp.optV o = .tuple #[.int .i32 v, .bool true]) : o = some v := by
  cases o with
  | none => simp [Sp.optV] at h
  | some x => simp [Sp.optV] at h; rw [h]
theorem indexByte_head (b : UInt8) (t : List UInt8) (c : UInt8) (h : b ≠ c) : Lib.indexByte (b :: t) c < 0 ∨ 1 ≤ Lib.indexByte (b :: t) c := by
  rw [Lib.indexByte, if_neg (by simpa using h)]
  have := Lib.indexByte_ge t c
  split
  · omega
  · next hne =>
    have : Lib.indexByte t c ≠ -1 := by simpa using hne
    omega

theorem reference_any (s : ByteArray) (w : World) (hs : s.size ≤ maxLen) (h0 : 0 < s.size) (hamp : s.data.toList.getD 0 0 = 38) :
    Calls Tryd.prog 87 #[.string s] w fun e w' => e = .returned (Sp.pairV (Sp.refe s.data.toList)) ∧ w' = w := by
  obtain ⟨E, HE⟩ : ∃ E, Hid (Lib.indexByte s.data.toList 59 = E) := ⟨_, rfl⟩
  have hlt : E < s.size := by
    have := Sp.indexByte_lt s.data.toList 59
    rw [HE.out, Sp.len_byte] at this
    exact this
  by_cases hneg : E < 0
  · have HF : Hid (Sp.refe s.data.toList = none) := by
      show Sp.refe s.data.toList = none
      unfold Sp.refe
      rw [HE.out, if_pos hneg]
    clear hamp
    go_enter Tryd.func87, Tryd.ntmps87
    go_wp2_with fail
    refine (indexByte_v s _ E HE).mono ?_
    rintro e w1 ⟨rfl, rfl⟩
    go_wp2_with fail
    go_ret2
    exact ⟨Sp.pair_none HF.out, rfl⟩
  · obtain ⟨n, rfl⟩ := Int.eq_ofNat_of_zero_le (show 0 ≤ E by omega)
    have hn1 : 1 ≤ n := by
      have hh : s.data.toList = s[0] :: s.data.toList.drop 1 := by
        have := Sp.drop_byte s 0 h0
        simpa using this
      have h38 : s[0] = 38 := by rw [← Sp.getD_byte s 0 h0]; exact hamp
      have := indexByte_head s[0] (s.data.toList.drop 1) 59 (by rw [h38]; decide)
      rw [← hh, HE.out] at this
      omega
    have hn2 : n < s.size := by omega
    unfold maxLen at hs
    obtain ⟨t, HT⟩ : ∃ t : ByteArray, Hid (s.extract 1 n = t) := ⟨_, rfl⟩
    have htl : Hid (t.data.toList = (s.data.toList.take n).drop 1) := by
      show t.data.toList = _
      rw [← HT.out, Lib.extract_data, List.drop_take]
    have hts : t.size ≤ maxLen := by
      have : t.size = ((s.data.toList.take n).drop 1).length := by rw [← htl.out, Sp.len_byte]
      rw [this, List.length_drop, List.length_take, Sp.len_byte]
      unfold maxLen
      omega
    obtain ⟨v, b, HV⟩ : ∃ v b, Hid (Sp.optV (Sp.refd t.data.toList) = .tuple #[.int .i32 v, .bool b]) := ⟨_, _, rfl⟩
    have HR : Hid (Sp.refe s.data.toList = (Sp.refd t.data.toList).map fun r => (r, n + 1)) := by
      show Sp.refe s.data.toList = _
      unfold Sp.refe
      rw [HE.out, if_neg (by omega), htl.out]
      rfl
    clear hamp
    cases b
    · have HF : Hid (Sp.refe s.data.toList = none) := by
        show Sp.refe s.data.toList = none
        rw [HR.out, optV_false HV.out]
        rfl
      go_enter Tryd.func87, Tryd.ntmps87
      go_wp2_with fail
      refine (indexByte_v s _ n HE).mono ?_
      rintro e w1 ⟨rfl, rfl⟩
      go_wp2_with fail
      rw [HT.out]
      refine (referred_vb t _ hts v false HV).mono ?_
      rintro e w1 ⟨rfl, rfl⟩
      go_wp2_with fail
      go_ret2
      exact ⟨Sp.pair_none HF.out, rfl⟩
    · have HF : Hid (Sp.refe s.data.toList = some (v, n + 1)) := by
        show Sp.refe s.data.toList = some (v, n + 1)
        rw [HR.out, optV_true HV.out]
        rfl
      go_enter Tryd.func87, Tryd.ntmps87
      go_wp2_with fail
      refine (indexByte_v s _ n HE).mono ?_
      rintro e w1 ⟨rfl, rfl⟩
      go_wp2_with fail
      rw [HT.out]
      refine (referred_vb t _ hts v true HV).mono ?_
      rintro e w1 ⟨rfl, rfl⟩
      go_wp2_with fail
      go_ret2
      exact ⟨Sp.pair_some HF.out, rfl⟩

theorem decode_v (s : ByteArray) (w : World) (hT : Lib.Utf8Tabs 0 1 w) (h0 : 0 < s.size) (r n : Nat) (h : Hid (Lib.decodeL s.data.toList = (r, n))) :
    Calls Tryd.prog 86 #[.string s] w fun e w' => e = .returned (.tuple #[.int .i32 r, .int .i64 n]) ∧ Below w.heap.size w w' := by
  have := Tryd.utf8_DecodeRuneInString s w hT
  have e1 : Lib.decodeGo s = (r, n) := by
    rw [← h.out, Lib.decodeGo, if_neg (by omega), Lib.decodeL]
  rw [e1] at this
  exact this
theorem decodeL_amp (l : List UInt8) (hne : l ≠ []) (h : (Lib.decodeL l).1 = 38) : l.getD 0 0 = 38 := by
  match l, hne with
  | b :: t, _ =>
    by_cases hb : b.toNat < 128
    · rw [Lib.decodeL_ascii b t hb] at h
      show b = 38
      apply UInt8.toNat_inj.1
      simpa using h
    · have := decode_high ⟨(b :: t).toArray⟩ 0 (by simp [ByteArray.size]) (by show 128 ≤ b.toNat; omega)
      have h' : (Utf8.decode ⟨(b :: t).toArray⟩ 0).1 = 38 := h
      omega
theorem reference_v (s : ByteArray) (w : World) (hs : s.size ≤ maxLen) (h0 : 0 < s.size) (hamp : Hid (s.data.toList.getD 0 0 = 38)) (v m : Int) (h : Hid (Sp.pairV (Sp.refe s.data.toList) = .tuple #[.int .i32 v, .int .i64 m])) :
    Calls Tryd.prog 87 #[.string s] w fun e w' => e = .returned (.tuple #[.int .i32 v, .int .i64 m]) ∧ w' = w := by
  have := reference_any s w hs h0 hamp.out
  rw [h.out] at this
  exact this

theorem first_any (s : ByteArray) (w : World) (hs : s.size ≤ maxLen) (hT : Lib.Utf8Tabs 0 1 w) (h0 : 0 < s.size) :
    Calls Tryd.prog 84 #[.string s] w fun e w' => e = .returned (Sp.pairV (Sp.frst s.data.toList)) ∧ Below w.heap.size w w' := by
  obtain ⟨r, n, HD⟩ : ∃ r n, Hid (Lib.decodeL s.data.toList = (r, n)) := ⟨_, _, rfl⟩
  have hne : Hid (s.data.toList ≠ []) := fun h => by
    have := congrArg List.length h
    rw [Sp.len_byte, List.length_nil] at this
    omega
  have HT : Hid (Lib.Utf8Tabs 0 1 w) := hT
  clear hT
  have hr2 : r ≤ 1114111 := by
    have := Lib.decodeL_rune s.data.toList
    rw [HD.out] at this
    exact this
  have hn2 : n ≤ s.size := by
    have := Lib.decodeL_le s.data.toList hne.out
    rw [HD.out, Sp.len_byte] at this
    exact this
  by_cases h38 : r = 38
  · subst h38
    have HA : Hid (s.data.toList.getD 0 0 = 38) := decodeL_amp _ hne.out (by rw [HD.out])
    obtain ⟨v, m, HV⟩ : ∃ v m, Hid (Sp.pairV (Sp.refe s.data.toList) = .tuple #[.int .i32 v, .int .i64 m]) := ⟨_, _, rfl⟩
    have HF : Hid (Ending.returned (.tuple #[.int .i32 v, .int .i64 m]) = .returned (Sp.pairV (Sp.frst s.data.toList))) := by
      show Ending.returned (.tuple #[.int .i32 v, .int .i64 m]) = .returned (Sp.pairV (Sp.frst s.data.toList))
      rw [Sp.frst, HD.out, if_pos rfl, HV.out]
    go_enter Tryd.func84, Tryd.ntmps84
    go_wp2_with fail
    refine (decode_v s _ HT.out h0 38 n HD).mono ?_
    rintro e w1 ⟨rfl, hb1⟩
    go_wp2_with fail
    refine (reference_v s _ hs h0 HA v m HV).mono ?_
    rintro e w2 ⟨rfl, rfl⟩
    go_wp2_with fail
    go_ret2
    exact ⟨HF.out, hb1⟩
  · have t1 : ((r : Int) == 38) = false := by rw [beq_eq_false_iff_ne]; omega
    have HX : Hid (Sp.frst s.data.toList = if (r = 65533 ∧ n ≤ 1) ∨ Sp.charB (r : Int) = false then none else some ((r : Int), n)) := by
      show Sp.frst s.data.toList = _
      rw [Sp.frst, HD.out, if_neg h38]
    clear h38
    cases hc : Sp.charB (r : Int)
    · have HF : Hid (Sp.frst s.data.toList = none) := by
        show Sp.frst s.data.toList = none
        rw [HX.out, if_pos (Or.inr hc)]
      by_cases h3 : r = 65533
      · exact absurd hc (by rw [h3]; decide)
      · have t2 : ((r : Int) == 65533) = false := by rw [beq_eq_false_iff_ne]; omega
        clear h3
        go_enter Tryd.func84, Tryd.ntmps84
        go_wp2_with fail
        refine (decode_v s _ HT.out h0 r n HD).mono ?_
        rintro e w1 ⟨rfl, hb1⟩
        go_wp2_with fail
        refine (char_any _ _).mono ?_
        rintro e w2 ⟨rfl, rfl⟩
        go_wp2_with fail
        go_ret2
        exact ⟨Sp.pair_none HF.out, hb1⟩
    · by_cases h3 : r = 65533
      · subst h3
        by_cases h4 : n ≤ 1
        · have HF : Hid (Sp.frst s.data.toList = none) := by
            show Sp.frst s.data.toList = none
            rw [HX.out, if_pos (Or.inl ⟨rfl, h4⟩)]
          go_enter Tryd.func84, Tryd.ntmps84
          go_wp2_with fail
          refine (decode_v s _ HT.out h0 65533 n HD).mono ?_
          rintro e w1 ⟨rfl, hb1⟩
          go_wp2_with fail
          go_ret2
          exact ⟨Sp.pair_none HF.out, hb1⟩
        · have HF : Hid (Sp.frst s.data.toList = some ((65533 : Int), n)) := by
            show Sp.frst s.data.toList = _
            rw [HX.out, if_neg (by rw [hc]; simp; omega)]
            rfl
          have hc' : Sp.charB 65533 = true := hc
          clear hc HX
          go_enter Tryd.func84, Tryd.ntmps84
          go_wp2_with fail
          refine (decode_v s _ HT.out h0 65533 n HD).mono ?_
          rintro e w1 ⟨rfl, hb1⟩
          go_wp2_with fail
          refine (char_any _ _).mono ?_
          rintro e w2 ⟨rfl, rfl⟩
          go_wp2_with fail
          go_ret2
          exact ⟨Sp.pair_some HF.out, hb1⟩
      · have t2 : ((r : Int) == 65533) = false := by rw [beq_eq_false_iff_ne]; omega
        have HF : Hid (Sp.frst s.data.toList = some ((r : Int), n)) := by
          show Sp.frst s.data.toList = _
          rw [HX.out, if_neg (by rw [hc]; simp [h3])]
        clear h3
        go_enter Tryd.func84, Tryd.ntmps84
        go_wp2_with fail
        refine (decode_v s _ HT.out h0 r n HD).mono ?_
        rintro e w1 ⟨rfl, hb1⟩
        go_wp2_with fail
        refine (char_any _ _).mono ?_
        rintro e w2 ⟨rfl, rfl⟩
        go_wp2_with fail
        go_ret2
        exact ⟨Sp.pair_some HF.out, hb1⟩
end Go.Proofs.YtimecocegnnjjaaDoor
/-
  name.Unescape, name.Escape: each by its contract.
-/
set_option linter.unusedSimpArgs false
namespace Go.Proofs.YtimecocegnnjjaaDoor
open Go.RowKit

theorem first_v (s : ByteArray) (w : World) (hs : s.size ≤ maxLen) (hT : Lib.Utf8Tabs 0 1 w) (h0 : 0 < s.size) (v m : Int) (h : Hid (Sp.pairV (Sp.frst s.data.toList) = .tuple #[.int .i32 v, .int .i64 m])) :
    Calls Tryd.prog 84 #[.string s] w fun e w' => e = .returned (.tuple #[.int .i32 v, .int .i64 m]) ∧ Below w.heap.size w w' := by
  have := first_any s w hs hT h0
  rw [h.out] at this
  exact this
theorem isBuilderF_below {T e B b : Nat} {bs : List Value} {w w' : World} (h : Lib.IsBuilderF T e B b bs w) (hb : Below w.heap.size w w') : Lib.IsBuilderF T e B b bs w' := by
  have old : ∀ (k : Nat) (x : Obj), w.heap[k]? = some x → w'.heap[k]? = some x := fun k x hk => by
    rw [hb.block k (Array.getElem?_eq_some_iff.1 hk).1]
    exact hk
  have one : ∀ p, Lib.BuilderAtF T e B b p bs w → Lib.BuilderAtF T e B b p bs w' := by
    rintro p ⟨hB, v, hbk, hown, hne⟩
    refine ⟨hB, v, old _ _ hbk, ?_, hne⟩
    obtain ⟨h1, h2⟩ := hown
    refine ⟨h1, ?_⟩
    rcases h2 with h2 | ⟨g, cap, cur, fz, hv, hg, hgg, hr⟩
    · exact Or.inl h2
    · exact Or.inr ⟨g, cap, cur, fz, hv, hg, old _ _ hgg, hr⟩
  exact h.elim (fun x => Or.inl (one _ x)) (fun x => Or.inr (one _ x))

set_option maxRecDepth 100000 in
theorem unescape_any (s : ByteArray) (w : World) (hs : s.size ≤ 1000000) (hT : Lib.Utf8Tabs 0 1 w) :
    Calls Tryd.prog 80 #[.string s] w fun e w' => e = .returned (Sp.textV (Sp.unesc s.data.toList)) ∧ Below w.heap.size w w' := by
  have HT : Hid (Lib.Utf8Tabs 0 1 w) := hT
  clear hT
  go_enter Tryd.func80, Tryd.ntmps80
  go_wp2
  go_loopw [5, 6, 7] (fun i _r _n wr => ∃ (pos fuel : Nat) (acc : List UInt8), i = .int .i64 pos ∧ pos ≤ s.size ∧ s.size ≤ pos + fuel ∧ acc.length ≤ 4 * pos ∧ Hid (Lib.IsBuilderF 41 5 w.heap.size w.heap.size (Lib.byteCells acc) wr) ∧ Hid (Below w.heap.size w wr) ∧ w.heap.size < wr.heap.size ∧ Hid (Sp.unesc s.data.toList = (Sp.unes fuel (s.data.toList.drop pos)).map fun t => acc ++ t)) (fun i _ _ _ => s.size - (intOf i).toNat)
  case atStart =>
    refine ⟨0, s.size, [], rfl, by omega, by omega, by simp, (Lib.IsBuilderF.of (Lib.fresh_isBuilder 41 5 w)), (Below.refl _ w).alloc (Nat.le_refl _) _, by simp, ?_⟩
    show Sp.unesc s.data.toList = _
    rw [Sp.unesc, Sp.len_byte, List.drop_zero]
    generalize Sp.unes s.size s.data.toList = o
    cases o <;> rfl
  case round =>
    obtain ⟨pos, fuel, acc, rfl, hp, hfu, hal, HI, HB, hsz, HU⟩ := hrel
    by_cases hlt : pos < s.size
    · obtain ⟨f, rfl⟩ : ∃ f, fuel = f + 1 := ⟨fuel - 1, by omega⟩
      obtain ⟨t, HE⟩ : ∃ t : ByteArray, Hid (s.extract pos s.size = t) := ⟨_, rfl⟩
      have htl : Hid (t.data.toList = s.data.toList.drop pos) := by
        show t.data.toList = _
        rw [← HE.out, Lib.extract_to_end]
      have htz : t.size = s.size - pos := by rw [← Sp.len_byte t, htl.out, List.length_drop, Sp.len_byte]
      have hts : t.size ≤ maxLen := by unfold maxLen; omega
      have ht0 : 0 < t.size := by omega
      have hne : Hid (t.data.toList ≠ []) := fun h => by
        have := congrArg List.length h
        rw [Sp.len_byte, List.length_nil] at this
        omega
      have HTr : Hid (Lib.Utf8Tabs 0 1 wr) := Utf8Tabs_below HT.out HB.out
      clear htz
      cases hf : Sp.frst t.data.toList with
      | none =>
        have HP : Hid (Sp.pairV (Sp.frst t.data.toList) = .tuple #[.int .i32 0, .int .i64 0]) := by rw [hf]; exact rfl
        have HF : Hid (Sp.unesc s.data.toList = none) := by
          show Sp.unesc s.data.toList = none
          rw [HU.out, ← htl.out, Sp.unes_fail f _ hne.out hf]
          rfl
        clear hf
        go_wp2_with fail
        rw [HE.out]
        refine (first_v t _ hts HTr.out ht0 0 0 HP).mono ?_
        rintro e w1 ⟨rfl, hb1⟩
        go_wp2_with fail
        go_ret2
        exact ⟨Sp.text_none HF.out, HB.out.trans (hb1.mono (by omega))⟩
      | some p =>
        obtain ⟨r, n⟩ := p
        have hok := Sp.frst_ok _ hne.out r n hf
        have hrr := Sp.charB_range r hok.1
        have hn1 := hok.2.1
        have hn2 : pos + n ≤ s.size := by
          have := hok.2.2
          rw [htl.out, List.length_drop, Sp.len_byte] at this
          omega
        have HP : Hid (Sp.pairV (Sp.frst t.data.toList) = .tuple #[.int .i32 r, .int .i64 n]) := by rw [hf]; exact rfl
        have HF : Hid (Sp.unesc s.data.toList = (Sp.unes f (s.data.toList.drop (pos + n))).map fun t => (acc ++ Lib.encodeRune r) ++ t) := by
          show Sp.unesc s.data.toList = _
          rw [HU.out, ← htl.out, Sp.unes_step f _ hne.out r n hf, htl.out, List.drop_drop]
          cases Sp.unes f (s.data.toList.drop (pos + n)) <;> simp
        have hr0 := hrr.1
        have hr1 := hrr.2
        clear hf hok hrr
        have n0 : ((n : Int) == 0) = false := by rw [beq_eq_false_iff_ne]; omega
        go_wp2_with fail
        rw [HE.out]
        refine (first_v t _ hts HTr.out ht0 r n HP).mono ?_
        rintro e w1 ⟨rfl, hb1⟩
        have HI1 := isBuilderF_below HI.out hb1
        have hz1 := hb1.size
        go_wp2_with fail
        refine (Tryd.Builder_WriteRune_k w.heap.size w.heap.size _ r (by omega) (by omega) _ HI1 (by rw [Lib.byteCells_length]; omega) (by omega)).mono ?_
        rintro e w2 ⟨rfl, h2, b2, k2⟩
        have hz2 := b2.size
        go_wp2_with fail
        go_roundw
        case rel =>
          have hl4 := Lib.runeCells_le r
          rw [Lib.runeCells_length] at hl4
          refine ⟨pos + n, f, acc ++ Lib.encodeRune r, by go_num, by omega, by omega, by simp; omega, ?_, (HB.out.trans (hb1.mono (by omega))).trans b2, by omega, HF⟩
          show Lib.IsBuilderF _ _ _ _ _ _
          rw [Lib.byteCells_append, Lib.byteCells_encodeRune]
          exact Or.inr h2
        case measure => simp [intOf]; omega
    · have HF : Hid (Sp.unesc s.data.toList = some acc) := by
        show Sp.unesc s.data.toList = some acc
        rw [HU.out, Sp.drop_all s pos (by omega), Sp.unes_nil]
        simp
      go_wp2_with fail
      refine (Tryd.Builder_String_any_k w.heap.size w.heap.size acc _ HI.out (by omega)).mono ?_
      rintro e w2 ⟨rfl, _, b2, _⟩
      go_wp2_with fail
      go_ret2
      exact ⟨Sp.text_some HF.out, HB.out.trans b2⟩
end Go.Proofs.YtimecocegnnjjaaDoor
/-
  name.Escape, by its contract.
-/
set_option linter.unusedSimpArgs false
namespace Go.Proofs.YtimecocegnnjjaaDoor
open Go.RowKit

theorem written_v (c : Int) (attr : Bool) (w : World) (t : ByteArray) (h : Hid (t = ⟨(Sp.writ c attr).toArray⟩)) :
    Calls Tryd.prog 36 #[.int .u8 c, .bool attr] w fun e w' => e = .returned (.string t) ∧ w' = w := by
  rw [h.out]
  exact written_any c attr w

set_option maxRecDepth 100000 in
theorem escape_any (s : ByteArray) (attr : Bool) (w : World) (hs : s.size ≤ 1000000) :
    Calls Tryd.prog 24 #[.string s, .bool attr] w fun e w' => e = .returned (.string ⟨(Sp.esc attr s.data.toList).toArray⟩) ∧ Below w.heap.size w w' := by
  go_enter Tryd.func24, Tryd.ntmps24
  go_wp2
  go_loopw [6, 7] (fun i _w wr => ∃ (k : Nat), i = .int .i64 k ∧ k ≤ s.size ∧ Hid (Lib.IsBuilderF 41 5 w.heap.size w.heap.size (Lib.byteCells (Sp.esc attr (s.data.toList.take k))) wr) ∧ Hid (Below w.heap.size w wr) ∧ w.heap.size < wr.heap.size) (fun i _ _ => s.size - (intOf i).toNat)
  case atStart =>
    exact ⟨0, rfl, by omega, (Lib.IsBuilderF.of (Lib.fresh_isBuilder 41 5 w)), (Below.refl _ w).alloc (Nat.le_refl _) _, by simp⟩
  case round =>
    obtain ⟨k, rfl, hk, HI, HB, hsz⟩ := hrel
    by_cases hlt : k < s.size
    · have HL : Hid ((Sp.esc attr (s.data.toList.take k)).length ≤ 6 * 1000000) := by
        have h1 := Sp.esc_le attr (s.data.toList.take k)
        have h2 : (s.data.toList.take k).length ≤ k := List.length_take_le _ _
        show _ ≤ _
        omega
      have HS : Hid (Sp.esc attr (s.data.toList.take (k + 1)) = Sp.esc attr (s.data.toList.take k) ++ Sp.esc1 attr s[k]) := by
        show Sp.esc attr (s.data.toList.take (k + 1)) = _
        rw [Sp.take_byte s k hlt, Sp.esc_snoc]
      by_cases hw : Sp.writ (s[k].toNat : Int) attr = []
      · have HE : Hid (Sp.esc1 attr s[k] = [s[k]]) := Sp.esc1_self _ _ hw
        have HT : Hid ((⟨#[]⟩ : ByteArray) = ⟨(Sp.writ (s[k].toNat : Int) attr).toArray⟩) := by rw [hw]; exact rfl
        clear hw
        go_wp2_with fail
        refine (written_v _ _ _ _ HT).mono ?_
        rintro e w1 ⟨rfl, rfl⟩
        go_wp2_with fail
        refine (Tryd.Builder_WriteByte_k w.heap.size w.heap.size _ _ _ HI.out (by rw [Lib.byteCells_length]; have := HL.out; omega) (by omega)).mono ?_
        rintro e w2 ⟨rfl, h2, b2, k2⟩
        have hz2 := b2.size
        go_wp2_with fail
        go_roundw
        case rel =>
          refine ⟨k + 1, by go_num, by omega, ?_, HB.out.trans b2, by omega⟩
          show Lib.IsBuilderF _ _ _ _ _ _
          rw [HS.out, HE.out, Lib.byteCells_append]
          exact Or.inr h2
        case measure => simp [intOf]; omega
      · have HE : Hid (Sp.esc1 attr s[k] = Sp.writ (s[k].toNat : Int) attr) := Sp.esc1_writ _ _ hw
        obtain ⟨t, HT⟩ : ∃ t : ByteArray, Hid (t = ⟨(Sp.writ (s[k].toNat : Int) attr).toArray⟩) := ⟨(⟨(Sp.writ (s[k].toNat : Int) attr).toArray⟩ : ByteArray), rfl⟩
        have htl : Hid (t.data.toList = Sp.writ (s[k].toNat : Int) attr) := by rw [HT.out]; exact rfl
        have hts : t.size ≤ 6 := by
          rw [← Sp.len_byte t, htl.out]
          exact Sp.writ_le _ _
        have hne : t.toList.isEmpty = false := by
          rw [Lib.toList_data, htl.out]
          simpa using hw
        clear hw
        go_wp2_with fail
        refine (written_v _ _ _ t HT).mono ?_
        rintro e w1 ⟨rfl, rfl⟩
        go_wp2_with fail
        refine (Tryd.Builder_WriteString_k w.heap.size w.heap.size _ t _ HI.out (by rw [Lib.byteCells_length]; have := HL.out; omega) (by omega)).mono ?_
        rintro e w2 ⟨rfl, h2, b2, k2⟩
        have hz2 := b2.size
        go_wp2_with fail
        go_roundw
        case rel =>
          refine ⟨k + 1, by go_num, by omega, ?_, HB.out.trans b2, by omega⟩
          show Lib.IsBuilderF _ _ _ _ _ _
          rw [HS.out, HE.out, Lib.byteCells_append, ← htl.out, ← Lib.strCells_eq]
          exact Or.inr h2
        case measure => simp [intOf]; omega
    · have HK : Hid (s.data.toList.take k = s.data.toList) := Sp.take_all s k (by omega)
      go_wp2_with fail
      refine (Tryd.Builder_String_any_k w.heap.size w.heap.size _ _ HI.out (by omega)).mono ?_
      rintro e w2 ⟨rfl, _, b2, _⟩
      go_wp2_with fail
      go_ret
      exact ⟨Sp.ret_str (by rw [HK.out]), HB.out.trans b2⟩
end Go.Proofs.YtimecocegnnjjaaDoor
/-
  name.Is and the document's Is: each by its contract.
-/
set_option linter.unusedSimpArgs false
namespace Go.Proofs.YtimecocegnnjjaaDoor
open Go.RowKit

theorem is_any (s : ByteArray) (w : World) (hs : s.size ≤ maxLen) :
    Calls Tryd.prog 63 #[.string s] w fun e w' => e = .returned (.bool (Sp.isB s.data.toList)) ∧ w' = w := by
  unfold maxLen at hs
  by_cases h1 : s.size < 1
  · have HF : Hid (Sp.isB s.data.toList = false) := Sp.isB_len _ (by rw [Sp.len_byte]; omega)
    go_enter Tryd.func63, Tryd.ntmps63
    go_wp2
    go_ret
    exact ⟨Sp.ret_bool HF.out.symm, rfl⟩
  by_cases h2 : 12 < s.size
  · have HF : Hid (Sp.isB s.data.toList = false) := Sp.isB_len _ (by rw [Sp.len_byte]; omega)
    go_enter Tryd.func63, Tryd.ntmps63
    go_wp2
    go_ret
    exact ⟨Sp.ret_bool HF.out.symm, rfl⟩
  have h0 : 0 < s.size := by omega
  cases hb : Sp.begZ (s[0].toNat : Int)
  · have HF : Hid (Sp.isB s.data.toList = false) := Sp.isB_beg _ (by rw [Sp.getD_byte s 0 h0]; exact hb)
    go_enter Tryd.func63, Tryd.ntmps63
    go_wp2_with (go_at_call 68; refine (begins_any _ _).mono ?_; rintro e w' ⟨rfl, rfl⟩)
    go_ret
    exact ⟨Sp.ret_bool HF.out.symm, rfl⟩
  · have HB : Hid (Sp.begZ (s[0].toNat : Int) = true) := hb
    go_enter Tryd.func63, Tryd.ntmps63
    go_wp2_with (go_at_call 68; refine (begins_any _ _).mono ?_; rintro e w' ⟨rfl, rfl⟩)
    go_loop [3] (fun i => ∃ k : Nat, 1 ≤ k ∧ k ≤ s.size ∧ i = .int .i64 k ∧ ∀ j, j < k → Sp.goZ ((s.data.toList.getD j 0).toNat : Int) = true) (fun i => s.size - (intOf i).toNat)
    case atStart =>
      refine ⟨1, by omega, by omega, rfl, fun j hj => ?_⟩
      obtain rfl : j = 0 := by omega
      rw [Sp.getD_byte s 0 h0]
      exact Sp.begZ_goZ _ HB.out
    case round =>
      obtain ⟨k, hk1, hk2, rfl, hall⟩ := hrel
      have HA : Hid (∀ j, j < k → Sp.goZ ((s.data.toList.getD j 0).toNat : Int) = true) := hall
      clear hall
      by_cases hlt : k < s.size
      · cases hg : Sp.goZ (s[k].toNat : Int)
        · have HF : Hid (Sp.isB s.data.toList = false) := Sp.isB_go _ k (by rw [Sp.len_byte]; omega) (by rw [Sp.getD_byte s k hlt]; exact hg)
          go_wp2_with (go_at_call 69; refine (goesOn_any _ _).mono ?_; rintro e w' ⟨rfl, rfl⟩)
          go_ret
          exact ⟨Sp.ret_bool HF.out.symm, rfl⟩
        · have HG : Hid (Sp.goZ (s[k].toNat : Int) = true) := hg
          go_wp2_with (go_at_call 69; refine (goesOn_any _ _).mono ?_; rintro e w' ⟨rfl, rfl⟩)
          go_round
          case rel =>
            refine ⟨k + 1, by omega, by omega, by go_num, fun j hj => ?_⟩
            by_cases hj' : j < k
            · exact HA.out j hj'
            · obtain rfl : j = k := by omega
              rw [Sp.getD_byte s j hlt]
              exact HG.out
          case measure => simp [intOf]; omega
      · have HF : Hid (Sp.isB s.data.toList = true) := Sp.isB_yes _ (by rw [Sp.len_byte]; omega) (by rw [Sp.len_byte]; omega) (by rw [Sp.getD_byte s 0 h0]; exact HB.out) (fun j hj => HA.out j (by rw [Sp.len_byte] at hj; omega))
        go_wp2
        go_ret
        exact ⟨Sp.ret_bool HF.out.symm, rfl⟩
end Go.Proofs.YtimecocegnnjjaaDoor
/-
  What the calls ask of the world; name.Split, name.IsQual: each by its contract.
-/
set_option linter.unusedSimpArgs false
namespace Go.Proofs.YtimecocegnnjjaaDoor
open Go.RowKit

/-- What the library's variables hold: the two tables of unicode/utf8, and whatever number internal/bytealg.MaxLen is. -/
def Ok (w : World) : Prop := Lib.Utf8Tabs 0 1 w ∧ ∃ m, w.cell? ⟨2, 0, none⟩ = some (.int .i64 m)
theorem Ok.below {w w' : World} (h : Ok w) (hb : Below w.heap.size w w') : Ok w' := by
  obtain ⟨h1, m, h2⟩ := h
  refine ⟨Utf8Tabs_below h1 hb, m, ?_⟩
  rw [hb.cell (cell_lt h2)]
  exact h2

theorem cut_yes (s : ByteArray) (w : World) (hs : s.size ≤ 1000000) (hw : Ok w) (n : Nat) (h : Hid (Lib.indexByte s.data.toList 58 = n)) (p q : ByteArray) (hp : Hid (p = ⟨(s.data.toList.take n).toArray⟩)) (hq : Hid (q = ⟨(s.data.toList.drop (n + 1)).toArray⟩)) :
    Calls Tryd.prog 51 #[.string s, .string ⟨#[58]⟩] w fun e w' => e = .returned (.tuple #[.string p, .string q, .bool true]) ∧ Below w.heap.size w w' := by
  obtain ⟨_, m, hm⟩ := hw
  have := Tryd.strings_Cut s ⟨#[58]⟩ m w (by omega) hm
  rw [show (⟨#[58]⟩ : ByteArray).data.toList = [58] from rfl, Sp.cut_found _ n h.out, ← hp.out, ← hq.out] at this
  refine this.mono ?_
  rintro e w' ⟨rfl, k, rfl⟩
  exact ⟨rfl, below_drewN (Below.refl _ _) k⟩
theorem cut_no (s : ByteArray) (w : World) (hs : s.size ≤ 1000000) (hw : Ok w) (h : Hid (Lib.indexByte s.data.toList 58 < 0)) :
    Calls Tryd.prog 51 #[.string s, .string ⟨#[58]⟩] w fun e w' => e = .returned (.tuple #[.string s, .string ⟨#[]⟩, .bool false]) ∧ Below w.heap.size w w' := by
  obtain ⟨_, m, hm⟩ := hw
  have := Tryd.strings_Cut s ⟨#[58]⟩ m w (by omega) hm
  rw [show (⟨#[58]⟩ : ByteArray).data.toList = [58] from rfl, Sp.cut_none _ h.out] at this
  refine this.mono ?_
  rintro e w' ⟨rfl, k, rfl⟩
  exact ⟨rfl, below_drewN (Below.refl _ _) k⟩
theorem is_v (s : ByteArray) (w : World) (hs : s.size ≤ 1000000) (b : Bool) (h : Hid (Sp.isB s.data.toList = b)) :
    Calls Tryd.prog 63 #[.string s] w fun e w' => e = .returned (.bool b) ∧ w' = w := by
  have := is_any s w (by unfold maxLen; omega)
  rw [h.out] at this
  exact this

theorem isQual_any (s : ByteArray) (w : World) (hs : s.size ≤ 1000000) (hw : Ok w) :
    Calls Tryd.prog 54 #[.string s] w fun e w' => e = .returned (.bool (Sp.qualB s.data.toList)) ∧ Below w.heap.size w w' := by
  have HW : Hid (Ok w) := hw
  clear hw
  by_cases hneg : Lib.indexByte s.data.toList 58 < 0
  · have HN : Hid (Lib.indexByte s.data.toList 58 < 0) := hneg
    obtain ⟨b, HB⟩ : ∃ b, Hid (Sp.isB s.data.toList = b) := ⟨Sp.isB s.data.toList, rfl⟩
    have HF : Hid (b = Sp.qualB s.data.toList) := by
      show b = Sp.qualB s.data.toList
      rw [Sp.qualB_none _ hneg, HB.out]
    clear hneg
    go_enter Tryd.func54, Tryd.ntmps54
    go_wp2_with fail
    refine (cut_no s _ hs HW.out HN).mono ?_
    rintro e w1 ⟨rfl, hb1⟩
    go_wp2_with fail
    refine (is_v s _ hs b HB).mono ?_
    rintro e w2 ⟨rfl, rfl⟩
    go_wp2_with fail
    go_ret
    exact ⟨Sp.ret_bool HF.out, hb1⟩
  · obtain ⟨n, hn⟩ := Int.eq_ofNat_of_zero_le (show 0 ≤ Lib.indexByte s.data.toList 58 by omega)
    have HN : Hid (Lib.indexByte s.data.toList 58 = n) := hn
    obtain ⟨p, HP⟩ : ∃ p : ByteArray, Hid (p = ⟨(s.data.toList.take n).toArray⟩) := ⟨(⟨(s.data.toList.take n).toArray⟩ : ByteArray), rfl⟩
    obtain ⟨q, HQ⟩ : ∃ q : ByteArray, Hid (q = ⟨(s.data.toList.drop (n + 1)).toArray⟩) := ⟨(⟨(s.data.toList.drop (n + 1)).toArray⟩ : ByteArray), rfl⟩
    have hp : p.size ≤ 1000000 := by
      rw [← Sp.len_byte p, Sp.ba_eq HP.out, List.length_take, Sp.len_byte]
      omega
    have hq : q.size ≤ 1000000 := by
      rw [← Sp.len_byte q, Sp.ba_eq HQ.out, List.length_drop, Sp.len_byte]
      omega
    obtain ⟨b, HB⟩ : ∃ b, Hid (Sp.isB p.data.toList = b) := ⟨Sp.isB p.data.toList, rfl⟩
    obtain ⟨c, HC⟩ : ∃ c, Hid (Sp.isB q.data.toList = c) := ⟨Sp.isB q.data.toList, rfl⟩
    have HF : Hid (Sp.qualB s.data.toList = (b && c)) := by
      show Sp.qualB s.data.toList = (b && c)
      rw [Sp.qualB_found _ n hn, ← HB.out, ← HC.out, Sp.ba_eq HP.out, Sp.ba_eq HQ.out]
    clear hneg hn
    cases b
    · go_enter Tryd.func54, Tryd.ntmps54
      go_wp2_with fail
      refine (cut_yes s _ hs HW.out n HN p q HP HQ).mono ?_
      rintro e w1 ⟨rfl, hb1⟩
      go_wp2_with fail
      refine (is_v p _ hp false HB).mono ?_
      rintro e w2 ⟨rfl, rfl⟩
      go_wp2_with fail
      go_ret
      exact ⟨Sp.ret_bool HF.out.symm, hb1⟩
    · go_enter Tryd.func54, Tryd.ntmps54
      go_wp2_with fail
      refine (cut_yes s _ hs HW.out n HN p q HP HQ).mono ?_
      rintro e w1 ⟨rfl, hb1⟩
      go_wp2_with fail
      refine (is_v p _ hp true HB).mono ?_
      rintro e w2 ⟨rfl, rfl⟩
      go_wp2_with fail
      refine (is_v q _ hq c HC).mono ?_
      rintro e w2 ⟨rfl, rfl⟩
      go_wp2_with fail
      go_ret
      exact ⟨Sp.ret_bool (by rw [HF.out]; simp), hb1⟩
end Go.Proofs.YtimecocegnnjjaaDoor
/-
  The laws' own 'known', by its contract.
-/
set_option linter.unusedSimpArgs false
namespace Go.Proofs.YtimecocegnnjjaaDoor
open Go.RowKit

theorem unescape_v (s : ByteArray) (w : World) (hs : s.size ≤ 1000000) (hw : Ok w) (t : ByteArray) (b : Bool) (h : Hid (Sp.textV (Sp.unesc s.data.toList) = .tuple #[.string t, .bool b])) :
    Calls Tryd.prog 80 #[.string s] w fun e w' => e = .returned (.tuple #[.string t, .bool b]) ∧ Below w.heap.size w w' := by
  have := unescape_any s w hs hw.1
  rw [h.out] at this
  exact this
theorem escape_v (s : ByteArray) (attr : Bool) (w : World) (hs : s.size ≤ 1000000) (t : ByteArray) (h : Hid (t = ⟨(Sp.esc attr s.data.toList).toArray⟩)) :
    Calls Tryd.prog 24 #[.string s, .bool attr] w fun e w' => e = .returned (.string t) ∧ Below w.heap.size w w' := by
  rw [h.out]
  exact escape_any s attr w hs
theorem isQual_v (s : ByteArray) (w : World) (hs : s.size ≤ 1000000) (hw : Ok w) (b : Bool) (h : Hid (Sp.qualB s.data.toList = b)) :
    Calls Tryd.prog 54 #[.string s] w fun e w' => e = .returned (.bool b) ∧ Below w.heap.size w w' := by
  have := isQual_any s w hs hw
  rw [h.out] at this
  exact this
theorem k1 : Sp.unesc [97, 38, 35, 120, 52, 49, 59, 38, 108, 116, 59] = some [97, 65, 60] := by decide +kernel

end Go.Proofs.YtimecocegnnjjaaDoor
