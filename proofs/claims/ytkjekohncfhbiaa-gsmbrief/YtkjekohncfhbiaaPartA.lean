/-
  Several texts in one: each opens with its own word.
-/
import Derived.Lib.RuneBytes
import Derived.Lib.Bytealg
/-
  PLAIN: the document's chapter 1 as plain functions on lists of bytes. No program in this text.
-/
namespace Go.Proofs.Ytkjekohncfhbiaa
namespace Sp

def charB (r : Int) : Bool := decide (r = 9 ∨ r = 10 ∨ r = 13 ∨ (32 ≤ r ∧ r ≤ 55295) ∨ (57344 ≤ r ∧ r ≤ 65533) ∨ (65536 ≤ r ∧ r ≤ 1114111))
def begZ (c : Int) : Bool := decide ((97 ≤ c ∧ c ≤ 122) ∨ (65 ≤ c ∧ c ≤ 90) ∨ c = 95)
def goZ (c : Int) : Bool := decide ((97 ≤ c ∧ c ≤ 122) ∨ (65 ≤ c ∧ c ≤ 90) ∨ c = 95 ∨ (48 ≤ c ∧ c ≤ 57) ∨ c = 45 ∨ c = 46)
def digZ (c : Int) : Int := if 48 ≤ c ∧ c ≤ 57 then c - 48 else if 97 ≤ c ∧ c ≤ 102 then c - 87 else if 65 ≤ c ∧ c ≤ 70 then c - 55 else -1
def digR (c : Int) (hex : Bool) : Int := if 48 ≤ c ∧ c ≤ 57 then c - 48 else if hex = true ∧ 97 ≤ c ∧ c ≤ 102 then c - 87 else if hex = true ∧ 65 ≤ c ∧ c ≤ 70 then c - 55 else -1
/-- what is written for a byte, where that is not the byte itself -/
def writ (c : Int) (attr : Bool) : List UInt8 :=
  if c = 38 then [38, 97, 109, 112, 59] else if c = 60 then [38, 108, 116, 59] else if c = 62 then [38, 103, 116, 59]
  else if attr = false then [] else if c = 34 then [38, 113, 117, 111, 116, 59] else if c = 9 then [38, 35, 57, 59] else if c = 10 then [38, 35, 49, 48, 59] else if c = 13 then [38, 35, 49, 51, 59] else []
theorem begZ_goZ (c : Int) (h : begZ c = true) : goZ c = true := by
  simp only [begZ, goZ, decide_eq_true_eq] at *
  omega
theorem ret_bool {a b : Bool} (h : a = b) : Ending.returned (.bool a) = .returned (.bool b) := by rw [h]
theorem ret_int {k : IntKind} {a b : Int} (h : a = b) : Ending.returned (.int k a) = .returned (.int k b) := by rw [h]
theorem ret_str {a b : List UInt8} (h : a = b) : Ending.returned (.string ⟨a.toArray⟩) = .returned (.string ⟨b.toArray⟩) := by rw [h]

end Sp
end Go.Proofs.Ytkjekohncfhbiaa
/-
  PLAIN: names. No program in this text.
-/
namespace Go.Proofs.Ytkjekohncfhbiaa
namespace Sp
theorem getD_lt {l : List UInt8} {k : Nat} (h : k < l.length) : l.getD k 0 = l[k] := by simp [List.getD, h]
def isB (l : List UInt8) : Bool := decide (1 ≤ l.length ∧ l.length ≤ 12) && begZ ((l.getD 0 0).toNat : Int) && l.all fun c => goZ (c.toNat : Int)
theorem isB_len (l : List UInt8) (h : l.length < 1 ∨ 12 < l.length) : isB l = false := by
  unfold isB
  rw [decide_eq_false (by omega)]
  rfl
theorem isB_beg (l : List UInt8) (h : begZ ((l.getD 0 0).toNat : Int) = false) : isB l = false := by
  unfold isB
  rw [h]
  simp
theorem isB_go (l : List UInt8) (k : Nat) (hk : k < l.length) (h : goZ ((l.getD k 0).toNat : Int) = false) : isB l = false := by
  unfold isB
  have : (l.all fun c => goZ (c.toNat : Int)) = false := by
    rw [List.all_eq_false]
    refine ⟨l.getD k 0, ?_, by rw [h]; simp⟩
    rw [getD_lt hk]
    exact List.getElem_mem hk
  rw [this]
  simp
theorem isB_yes (l : List UInt8) (h1 : 1 ≤ l.length) (h2 : l.length ≤ 12) (hb : begZ ((l.getD 0 0).toNat : Int) = true) (h : ∀ k, k < l.length → goZ ((l.getD k 0).toNat : Int) = true) : isB l = true := by
  unfold isB
  rw [decide_eq_true ⟨h1, h2⟩, hb]
  simp only [Bool.true_and, List.all_eq_true]
  intro c hc
  obtain ⟨k, hk, rfl⟩ := List.mem_iff_getElem.1 hc
  have := h k hk
  rwa [getD_lt hk] at this
theorem getD_byte (s : ByteArray) (k : Nat) (h : k < s.size) : s.data.toList.getD k 0 = s[k] := by
  rw [getD_lt (show k < s.data.toList.length by simpa using h)]
  rfl
theorem len_byte (s : ByteArray) : s.data.toList.length = s.size := by simp

end Sp
end Go.Proofs.Ytkjekohncfhbiaa
/-
  Models as plain data, and what the program asks of them: plain functions.
-/
set_option linter.unusedVariables false
namespace Go.Proofs.Ytkjekohncfhbiaa.Mp
abbrev BA := ByteArray
abbrev On := BA × Int
abbrev Cond := BA × BA × Int
abbrev Sent := List On × List Cond
structure Item where
  id : BA
  kind : Int
  parent : BA
  req : Bool
  ticks : Int
  entry : List Sent
  exit : List Sent
structure Model where
  files : List BA
  items : List Item
/-- A text that is nothing. -/
abbrev e0 : BA := ⟨#[]⟩
def isN (s : BA) : Bool := Sp.isB s.data.toList
/-- The place of one in a row; whether it is there. -/
def idx {α : Type} [DecidableEq α] (l : List α) (s : α) : Option Nat := l.findIdx? (fun t => decide (t = s))
def has {α : Type} [DecidableEq α] (l : List α) (s : α) : Bool := (idx l s).isSome
/-- All are names, none twice. -/
def namesF : List BA → List BA → Bool
  | _, [] => true
  | seen, s :: r => isN s && !has seen s && namesF (seen ++ [s]) r
def filesB (l : List BA) : Bool := decide (l.length ≤ 6) && namesF [] l
def idsB (l : List Item) : Bool := decide (1 ≤ l.length) && decide (l.length ≤ 16) && namesF [] (l.map Item.id)
def planB (x : Item) : Bool := decide (x.kind = 1) && decide (x.parent = e0) && !x.req && decide (x.entry.length = 0) && decide (x.exit.length = 0)
def nestF : List BA → List Item → Bool
  | _, [] => true
  | op, x :: r => match idx op x.parent with
    | none => false
    | some p => if 5 < p + 1 then false else nestF (if x.kind = 1 then op.take (p + 1) ++ [x.id] else op.take (p + 1)) r
def kindB (k : Int) : Bool := decide (1 ≤ k) && decide (k ≤ 5)
def ticksB (x : Item) : Bool := if x.kind = 5 then decide (1 ≤ x.ticks) && decide (x.ticks ≤ 100) else decide (x.ticks = 0)
def waitB (x : Item) : Bool := if x.kind = 4 ∨ x.kind = 5 then !x.req && decide (x.entry.length = 0) else true
def legalB (k e : Int) : Bool :=
  if e = 1 ∨ e = 5 then kindB k else if e = 2 ∨ e = 3 then decide (k = 1 ∨ k = 2) else if e = 4 then decide (k = 3 ∨ k = 4 ∨ k = 5) else false
def placeO (l : List Item) (s : BA) : Option Nat := l.findIdx? (fun x => decide (x.id = s))
def placeZ (l : List Item) (s : BA) : Int := match placeO l s with
  | some k => k
  | none => -1
def kidsF (s : BA) : Nat → List Item → List Int
  | _, [] => []
  | k, x :: r => if x.parent = s then (k : Int) :: kidsF s (k + 1) r else kidsF s (k + 1) r
def onLegal (l : List Item) (o : On) : Bool := match placeO l o.1 with
  | none => false
  | some k => match l[k]? with
    | none => false
    | some x => legalB x.kind o.2
def onsF (l : List Item) : List On → List On → Bool
  | _, [] => true
  | seen, o :: r => onLegal l o && !has seen o && onsF l (seen ++ [o]) r
def onB (m : Model) (row : List On) : Bool := decide (row.length ≤ 3) && onsF m.items [] row
def opB (s : BA) : Bool := decide (s = ⟨#[60]⟩) || decide (s = ⟨#[60, 61]⟩) || decide (s = ⟨#[61]⟩) || decide (s = ⟨#[33, 61]⟩) || decide (s = ⟨#[62, 61]⟩) || decide (s = ⟨#[62]⟩)
def condB (fs : List BA) (c : Cond) : Bool := has fs c.1 && opB c.2.1 && decide (-1000000 ≤ c.2.2) && decide (c.2.2 ≤ 1000000)
def ifB (m : Model) (row : List Cond) : Bool := decide (row.length ≤ 2) && row.all (condB m.files)
def sentB (m : Model) (s : Sent) : Bool := !(decide (s.1.length = 0) && decide (s.2.length = 0)) && onB m s.1 && ifB m s.2
def sentsB (m : Model) (l : List Sent) : Bool := decide (l.length ≤ 3) && l.all (sentB m)
def itemB (m : Model) (x : Item) : Bool := kindB x.kind && ticksB x && waitB x && sentsB m x.entry && sentsB m x.exit
def nestB : List Item → Bool
  | [] => false
  | x :: r => nestF [x.id] r
def headB : List Item → Bool
  | [] => false
  | x :: _ => planB x
def isB (m : Model) : Bool := filesB m.files && idsB m.items && headB m.items && nestB m.items && m.items.all (itemB m)
/-! ### Rows, step by step -/
theorem drop_at {α : Type} {l : List α} {k : Nat} {x : α} (h : l[k]? = some x) : l.drop k = x :: l.drop (k + 1) := by
  obtain ⟨hk, rfl⟩ := List.getElem?_eq_some_iff.1 h
  exact (List.drop_eq_getElem_cons hk)
theorem take_at {α : Type} {l : List α} {k : Nat} {x : α} (h : l[k]? = some x) : l.take (k + 1) = l.take k ++ [x] := by
  obtain ⟨hk, rfl⟩ := List.getElem?_eq_some_iff.1 h
  exact List.take_succ_eq_append_getElem hk
theorem at_lt {α : Type} {l : List α} {k : Nat} (h : k < l.length) : ∃ x, l[k]? = some x := ⟨l[k], List.getElem?_eq_getElem h⟩
theorem drop_all {α : Type} {l : List α} {k : Nat} (h : l.length ≤ k) : l.drop k = [] := List.drop_of_length_le h
theorem find_some {α : Type} {p : α → Bool} : ∀ {l : List α} {k : Nat} {x : α}, l[k]? = some x → p x = true → (∀ (j : Nat) y, j < k → l[j]? = some y → p y = false) → l.findIdx? p = some k
  | [], k, x, h, _, _ => by simp at h
  | a :: l, 0, x, h, hp, _ => by
    simp only [List.getElem?_cons_zero, Option.some.injEq] at h
    subst h
    rw [List.findIdx?_cons, hp]
    rfl
  | a :: l, k + 1, x, h, hp, hb => by
    rw [List.getElem?_cons_succ] at h
    have h0 := hb 0 a (by omega) rfl
    rw [List.findIdx?_cons, h0, find_some h hp (fun j y hj hy => hb (j + 1) y (by omega) (by rw [List.getElem?_cons_succ]; exact hy))]
    rfl
theorem find_none {α : Type} {p : α → Bool} {l : List α} (h : ∀ (j : Nat) y, l[j]? = some y → p y = false) : l.findIdx? p = none := by
  rw [List.findIdx?_eq_none_iff]
  intro x hx
  obtain ⟨j, hj⟩ := List.getElem?_of_mem hx
  exact h j x hj
theorem find_some_inv {α : Type} {p : α → Bool} {l : List α} {k : Nat} (h : l.findIdx? p = some k) : ∃ x, l[k]? = some x ∧ p x = true ∧ ∀ (j : Nat) y, j < k → l[j]? = some y → p y = false := by
  rw [List.findIdx?_eq_some_iff_getElem] at h
  obtain ⟨hk, hp, hb⟩ := h
  refine ⟨l[k], List.getElem?_eq_getElem hk, hp, fun j y hj hy => ?_⟩
  obtain ⟨hl, rfl⟩ := List.getElem?_eq_some_iff.1 hy
  simpa using hb j hj
theorem find_none_inv {α : Type} {p : α → Bool} {l : List α} (h : l.findIdx? p = none) : ∀ (j : Nat) y, l[j]? = some y → p y = false := by
  rw [List.findIdx?_eq_none_iff] at h
  intro j y hy
  exact h y (List.mem_of_getElem? hy)
theorem mem_take {α : Type} {l : List α} {k : Nat} {x : α} : x ∈ l.take k ↔ ∃ j, j < k ∧ l[j]? = some x := by
  rw [List.mem_iff_getElem?]
  constructor
  · rintro ⟨j, hj⟩
    rw [List.getElem?_take] at hj
    split at hj
    · exact ⟨j, by assumption, hj⟩
    · cases hj
  · rintro ⟨j, hj, h⟩
    exact ⟨j, by rw [List.getElem?_take, if_pos hj]; exact h⟩
end Go.Proofs.Ytkjekohncfhbiaa.Mp
