/-
  Several texts in one: each opens with its own word.
-/
import Derived.Lib.RuneBytes
import Derived.Lib.Bytealg
import Derived.Lib.Small
import Derived.Shelf.SlSortCmp.Insertion
/-
  PLAIN: the document's chapter 1 as plain functions on lists of bytes. No program in this text.
-/
namespace Go.Proofs.YtdcahnaempabcabGreat
namespace Sp

def charB (r : Int) : Bool := decide (r = 9 ∨ r = 10 ∨ r = 13 ∨ (32 ≤ r ∧ r ≤ 55295) ∨ (57344 ≤ r ∧ r ≤ 65533) ∨ (65536 ≤ r ∧ r ≤ 1114111))
def begZ (c : Int) : Bool := decide ((97 ≤ c ∧ c ≤ 122) ∨ (65 ≤ c ∧ c ≤ 90) ∨ c = 95)
def goZ (c : Int) : Bool := decide ((97 ≤ c ∧ c ≤ 122) ∨ (65 ≤ c ∧ c ≤ 90) ∨ c = 95 ∨ (48 ≤ c ∧ c ≤ 57) ∨ c = 45 ∨ c = 46)
def digZ (c : Int) : Int := if 48 ≤ c ∧ c ≤ 57 then c - 48 else if 97 ≤ c ∧ c ≤ 102 then c - 87 else if 65 ≤ c ∧ c ≤ 70 then c - 55 else -1
def digR (c : Int) (hex : Bool) : Int := if 48 ≤ c ∧ c ≤ 57 then c - 48 else if hex = true ∧ 97 ≤ c ∧ c ≤ 102 then c - 87 else if hex = true ∧ 65 ≤ c ∧ c ≤ 70 then c - 55 else -1
/-- what is written for a byte, where that is not the byte itself -/
def writ (c : Int) (attr : Bool) : List UInt8 :=
  if c = 38 then [38, 97, 109, 112, 59] else if c = 60 then [38, 108, 116, 59] else if c = 62 then [38, 103, 116, 59]
  else if attr = false then [] else if c = 34 then [38, 113, 117, 111, 116, 59] else if c = 9 then [38, 35, 57, 59] else if c = 10 then [38, 35, 49, 48, 59] else if c = 13 then [38, 35, 49, 51, 59] else []
theorem begZ_goZ (c : Int) (h : begZ c = true) : goZ c = true := by
  simp only [begZ, goZ, decide_eq_true_eq] at *
  omega
theorem ret_bool {a b : Bool} (h : a = b) : Ending.returned (.bool a) = .returned (.bool b) := by rw [h]
theorem ret_int {k : IntKind} {a b : Int} (h : a = b) : Ending.returned (.int k a) = .returned (.int k b) := by rw [h]
theorem ret_str {a b : List UInt8} (h : a = b) : Ending.returned (.string ⟨a.toArray⟩) = .returned (.string ⟨b.toArray⟩) := by rw [h]

end Sp
end Go.Proofs.YtdcahnaempabcabGreat
/-
  PLAIN: names. No program in this text.
-/
namespace Go.Proofs.YtdcahnaempabcabGreat
namespace Sp
theorem getD_lt {l : List UInt8} {k : Nat} (h : k < l.length) : l.getD k 0 = l[k] := by simp [List.getD, h]
def isB (l : List UInt8) : Bool := decide (1 ≤ l.length ∧ l.length ≤ 12) && begZ ((l.getD 0 0).toNat : Int) && l.all fun c => goZ (c.toNat : Int)
theorem isB_len (l : List UInt8) (h : l.length < 1 ∨ 12 < l.length) : isB l = false := by
  unfold isB
  rw [decide_eq_false (by omega)]
  rfl
theorem isB_beg (l : List UInt8) (h : begZ ((l.getD 0 0).toNat : Int) = false) : isB l = false := by
  unfold isB
  rw [h]
  simp
theorem isB_go (l : List UInt8) (k : Nat) (hk : k < l.length) (h : goZ ((l.getD k 0).toNat : Int) = false) : isB l = false := by
  unfold isB
  have : (l.all fun c => goZ (c.toNat : Int)) = false := by
    rw [List.all_eq_false]
    refine ⟨l.getD k 0, ?_, by rw [h]; simp⟩
    rw [getD_lt hk]
    exact List.getElem_mem hk
  rw [this]
  simp
theorem isB_yes (l : List UInt8) (h1 : 1 ≤ l.length) (h2 : l.length ≤ 12) (hb : begZ ((l.getD 0 0).toNat : Int) = true) (h : ∀ k, k < l.length → goZ ((l.getD k 0).toNat : Int) = true) : isB l = true := by
  unfold isB
  rw [decide_eq_true ⟨h1, h2⟩, hb]
  simp only [Bool.true_and, List.all_eq_true]
  intro c hc
  obtain ⟨k, hk, rfl⟩ := List.mem_iff_getElem.1 hc
  have := h k hk
  rwa [getD_lt hk] at this
theorem getD_byte (s : ByteArray) (k : Nat) (h : k < s.size) : s.data.toList.getD k 0 = s[k] := by
  rw [getD_lt (show k < s.data.toList.length by simpa using h)]
  rfl
theorem len_byte (s : ByteArray) : s.data.toList.length = s.size := by simp

end Sp
end Go.Proofs.YtdcahnaempabcabGreat
/-
  Models as plain data, and what the program asks of them: plain functions.
-/
set_option linter.unusedVariables false
namespace Go.Proofs.YtdcahnaempabcabGreat.Mp
abbrev BA := ByteArray
abbrev On := BA × Int
abbrev Cond := BA × BA × Int
abbrev Sent := List On × List Cond
structure Item where
  id : BA
  kind : Int
  parent : BA
  req : Bool
  ticks : Int
  entry : List Sent
  exit : List Sent
structure Model where
  files : List BA
  items : List Item
/-- A text that is nothing. -/
abbrev e0 : BA := ⟨#[]⟩
def isN (s : BA) : Bool := Sp.isB s.data.toList
/-- The place of one in a row; whether it is there. -/
def idx {α : Type} [DecidableEq α] (l : List α) (s : α) : Option Nat := l.findIdx? (fun t => decide (t = s))
def has {α : Type} [DecidableEq α] (l : List α) (s : α) : Bool := (idx l s).isSome
/-- All are names, none twice. -/
def namesF : List BA → List BA → Bool
  | _, [] => true
  | seen, s :: r => isN s && !has seen s && namesF (seen ++ [s]) r
def filesB (l : List BA) : Bool := decide (l.length ≤ 6) && namesF [] l
def idsB (l : List Item) : Bool := decide (1 ≤ l.length) && decide (l.length ≤ 16) && namesF [] (l.map Item.id)
def planB (x : Item) : Bool := decide (x.kind = 1) && decide (x.parent = e0) && !x.req && decide (x.entry.length = 0) && decide (x.exit.length = 0)
def nestF : List BA → List Item → Bool
  | _, [] => true
  | op, x :: r => match idx op x.parent with
    | none => false
    | some p => if 5 < p + 1 then false else nestF (if x.kind = 1 then op.take (p + 1) ++ [x.id] else op.take (p + 1)) r
def kindB (k : Int) : Bool := decide (1 ≤ k) && decide (k ≤ 5)
def ticksB (x : Item) : Bool := if x.kind = 5 then decide (1 ≤ x.ticks) && decide (x.ticks ≤ 100) else decide (x.ticks = 0)
def waitB (x : Item) : Bool := if x.kind = 4 ∨ x.kind = 5 then !x.req && decide (x.entry.length = 0) else true
def legalB (k e : Int) : Bool :=
  if e = 1 ∨ e = 5 then kindB k else if e = 2 ∨ e = 3 then decide (k = 1 ∨ k = 2) else if e = 4 then decide (k = 3 ∨ k = 4 ∨ k = 5) else false
def placeO (l : List Item) (s : BA) : Option Nat := l.findIdx? (fun x => decide (x.id = s))
def placeZ (l : List Item) (s : BA) : Int := match placeO l s with
  | some k => k
  | none => -1
def kidsF (s : BA) : Nat → List Item → List Int
  | _, [] => []
  | k, x :: r => if x.parent = s then (k : Int) :: kidsF s (k + 1) r else kidsF s (k + 1) r
def onLegal (l : List Item) (o : On) : Bool := match placeO l o.1 with
  | none => false
  | some k => match l[k]? with
    | none => false
    | some x => legalB x.kind o.2
def onsF (l : List Item) : List On → List On → Bool
  | _, [] => true
  | seen, o :: r => onLegal l o && !has seen o && onsF l (seen ++ [o]) r
def onB (m : Model) (row : List On) : Bool := decide (row.length ≤ 3) && onsF m.items [] row
def opB (s : BA) : Bool := decide (s = ⟨#[60]⟩) || decide (s = ⟨#[60, 61]⟩) || decide (s = ⟨#[61]⟩) || decide (s = ⟨#[33, 61]⟩) || decide (s = ⟨#[62, 61]⟩) || decide (s = ⟨#[62]⟩)
def condB (fs : List BA) (c : Cond) : Bool := has fs c.1 && opB c.2.1 && decide (-1000000 ≤ c.2.2) && decide (c.2.2 ≤ 1000000)
def ifB (m : Model) (row : List Cond) : Bool := decide (row.length ≤ 2) && row.all (condB m.files)
def sentB (m : Model) (s : Sent) : Bool := !(decide (s.1.length = 0) && decide (s.2.length = 0)) && onB m s.1 && ifB m s.2
def sentsB (m : Model) (l : List Sent) : Bool := decide (l.length ≤ 3) && l.all (sentB m)
def itemB (m : Model) (x : Item) : Bool := kindB x.kind && ticksB x && waitB x && sentsB m x.entry && sentsB m x.exit
def nestB : List Item → Bool
  | [] => false
  | x :: r => nestF [x.id] r
def headB : List Item → Bool
  | [] => false
  | x :: _ => planB x
def isB (m : Model) : Bool := filesB m.files && idsB m.items && headB m.items && nestB m.items && m.items.all (itemB m)
/-! ### Rows, step by step -/
theorem drop_at {α : Type} {l : List α} {k : Nat} {x : α} (h : l[k]? = some x) : l.drop k = x :: l.drop (k + 1) := by
  obtain ⟨hk, rfl⟩ := List.getElem?_eq_some_iff.1 h
  exact (List.drop_eq_getElem_cons hk)
theorem take_at {α : Type} {l : List α} {k : Nat} {x : α} (h : l[k]? = some x) : l.take (k + 1) = l.take k ++ [x] := by
  obtain ⟨hk, rfl⟩ := List.getElem?_eq_some_iff.1 h
  exact List.take_succ_eq_append_getElem hk
theorem at_lt {α : Type} {l : List α} {k : Nat} (h : k < l.length) : ∃ x, l[k]? = some x := ⟨l[k], List.getElem?_eq_getElem h⟩
theorem drop_all {α : Type} {l : List α} {k : Nat} (h : l.length ≤ k) : l.drop k = [] := List.drop_of_length_le h
theorem find_some {α : Type} {p : α → Bool} : ∀ {l : List α} {k : Nat} {x : α}, l[k]? = some x → p x = true → (∀ (j : Nat) y, j < k → l[j]? = some y → p y = false) → l.findIdx? p = some k
  | [], k, x, h, _, _ => by simp at h
  | a :: l, 0, x, h, hp, _ => by
    simp only [List.getElem?_cons_zero, Option.some.injEq] at h
    subst h
    rw [List.findIdx?_cons, hp]
    rfl
  | a :: l, k + 1, x, h, hp, hb => by
    rw [List.getElem?_cons_succ] at h
    have h0 := hb 0 a (by omega) rfl
    rw [List.findIdx?_cons, h0, find_some h hp (fun j y hj hy => hb (j + 1) y (by omega) (by rw [List.getElem?_cons_succ]; exact hy))]
    rfl
theorem find_none {α : Type} {p : α → Bool} {l : List α} (h : ∀ (j : Nat) y, l[j]? = some y → p y = false) : l.findIdx? p = none := by
  rw [List.findIdx?_eq_none_iff]
  intro x hx
  obtain ⟨j, hj⟩ := List.getElem?_of_mem hx
  exact h j x hj
theorem find_some_inv {α : Type} {p : α → Bool} {l : List α} {k : Nat} (h : l.findIdx? p = some k) : ∃ x, l[k]? = some x ∧ p x = true ∧ ∀ (j : Nat) y, j < k → l[j]? = some y → p y = false := by
  rw [List.findIdx?_eq_some_iff_getElem] at h
  obtain ⟨hk, hp, hb⟩ := h
  refine ⟨l[k], List.getElem?_eq_getElem hk, hp, fun j y hj hy => ?_⟩
  obtain ⟨hl, rfl⟩ := List.getElem?_eq_some_iff.1 hy
  simpa using hb j hj
theorem find_none_inv {α : Type} {p : α → Bool} {l : List α} (h : l.findIdx? p = none) : ∀ (j : Nat) y, l[j]? = some y → p y = false := by
  rw [List.findIdx?_eq_none_iff] at h
  intro j y hy
  exact h y (List.mem_of_getElem? hy)
theorem mem_take {α : Type} {l : List α} {k : Nat} {x : α} : x ∈ l.take k ↔ ∃ j, j < k ∧ l[j]? = some x := by
  rw [List.mem_iff_getElem?]
  constructor
  · rintro ⟨j, hj⟩
    rw [List.getElem?_take] at hj
    split at hj
    · exact ⟨j, by assumption, hj⟩
    · cases hj
  · rintro ⟨j, hj, h⟩
    exact ⟨j, by rw [List.getElem?_take, if_pos hj]; exact h⟩
end Go.Proofs.YtdcahnaempabcabGreat.Mp
/-
  Orders that part whatever is not one: of texts, numbers, pairs, rows; rows put in order, and without what stands there twice. Plain functions.
-/
set_option linter.unusedVariables false
set_option linter.unusedSimpArgs false
namespace Go.Proofs.YtdcahnaempabcabGreat.Np
abbrev BA := ByteArray
/-- The first that is not nought. -/
def or2 (x y : Int) : Int := if x = 0 then y else x
/-- An order that parts whatever is not one. -/
structure Tot {α : Type} (c : α → α → Int) : Prop where
  vals : ∀ a b, c a b = -1 ∨ c a b = 0 ∨ c a b = 1
  anti : ∀ a b, c b a = - c a b
  eq0 : ∀ a b, c a b = 0 ↔ a = b
  trans : ∀ a b d, c a b < 0 → c b d < 0 → c a d < 0
theorem Tot.self {α : Type} {c : α → α → Int} (h : Tot c) (a : α) : c a a = 0 := (h.eq0 a a).2 rfl
theorem Tot.or {α : Type} {c : α → α → Int} (h : Tot c) (a b : α) : c a b < 0 ∨ a = b ∨ 0 < c a b := by
  rcases h.vals a b with h1 | h1 | h1
  · left; omega
  · right; left; exact (h.eq0 a b).1 h1
  · right; right; omega
theorem Tot.int : Tot Lib.compareInt where
  vals a b := by unfold Lib.compareInt; split <;> (try split) <;> simp
  anti a b := by unfold Lib.compareInt; split <;> (try split) <;> (try split) <;> omega
  eq0 a b := by unfold Lib.compareInt; split <;> (try split) <;> constructor <;> intro h <;> omega
  trans a b d := by unfold Lib.compareInt; intro h1 h2; split at h1 <;> (try split at h1) <;> split at h2 <;> (try split at h2) <;> (try split) <;> omega
/-- Pairs: by the first, then by the second. -/
def prodC {α β : Type} (c : α → α → Int) (d : β → β → Int) (p q : α × β) : Int := or2 (c p.1 q.1) (d p.2 q.2)
theorem Tot.prod {α β : Type} {c : α → α → Int} {d : β → β → Int} (hc : Tot c) (hd : Tot d) : Tot (prodC c d) where
  vals p q := by
    unfold prodC or2
    split
    · exact hd.vals _ _
    · exact hc.vals _ _
  anti p q := by
    have h1 := hc.anti p.1 q.1
    have h2 := hd.anti p.2 q.2
    unfold prodC or2
    rw [h1, h2]
    by_cases h : c p.1 q.1 = 0
    · rw [if_pos h, if_pos (by omega)]
    · rw [if_neg h, if_neg (by omega)]
  eq0 p q := by
    unfold prodC or2
    obtain ⟨p1, p2⟩ := p
    obtain ⟨q1, q2⟩ := q
    simp only [Prod.mk.injEq]
    split
    · rename_i h
      rw [hd.eq0]
      exact ⟨fun h2 => ⟨(hc.eq0 _ _).1 h, h2⟩, fun h2 => h2.2⟩
    · rename_i h
      exact ⟨fun h2 => absurd h2 h, fun h2 => absurd ((hc.eq0 _ _).2 h2.1) h⟩
  trans p q r := by
    unfold prodC or2
    intro h1 h2
    by_cases a : c p.1 q.1 = 0
    · rw [if_pos a] at h1
      rw [(hc.eq0 _ _).1 a]
      by_cases b : c q.1 r.1 = 0
      · rw [if_pos b] at h2 ⊢
        exact hd.trans _ _ _ h1 h2
      · rw [if_neg b] at h2 ⊢
        exact h2
    · rw [if_neg a] at h1
      by_cases b : c q.1 r.1 = 0
      · rw [← (hc.eq0 _ _).1 b, if_neg a]
        exact h1
      · rw [if_neg b] at h2
        have := hc.trans _ _ _ h1 h2
        rw [if_neg (by omega)]
        exact this
/-- Rows: one by one; who ends first, ahead. -/
def rowC {α : Type} (c : α → α → Int) : List α → List α → Int
  | [], [] => 0
  | [], _ :: _ => -1
  | _ :: _, [] => 1
  | a :: xs, b :: ys => or2 (c a b) (rowC c xs ys)
theorem Tot.row {α : Type} {c : α → α → Int} (hc : Tot c) : Tot (rowC c) where
  vals p q := by
    induction p generalizing q with
    | nil => cases q <;> simp [rowC]
    | cons a p ih => cases q with
      | nil => simp [rowC]
      | cons b q =>
        rw [rowC]; unfold or2; split
        · exact ih q
        · exact hc.vals a b
  anti p q := by
    induction p generalizing q with
    | nil => cases q <;> simp [rowC]
    | cons a p ih => cases q with
      | nil => simp [rowC]
      | cons b q =>
        rw [rowC, rowC, hc.anti a b, ih q]; unfold or2
        by_cases h : c a b = 0
        · rw [if_pos h, if_pos (by omega)]
        · rw [if_neg h, if_neg (by omega)]
  eq0 p q := by
    induction p generalizing q with
    | nil => cases q <;> simp [rowC]
    | cons a p ih => cases q with
      | nil => simp [rowC]
      | cons b q =>
        rw [rowC]; unfold or2
        rw [List.cons.injEq]
        split
        · rename_i h
          rw [ih q]
          exact ⟨fun h2 => ⟨(hc.eq0 _ _).1 h, h2⟩, fun h2 => h2.2⟩
        · rename_i h
          exact ⟨fun h2 => absurd h2 h, fun h2 => absurd ((hc.eq0 _ _).2 h2.1) h⟩
  trans p q r := by
    induction p generalizing q r with
    | nil => cases q <;> cases r <;> simp [rowC]
    | cons a p ih => cases q with
      | nil => simp [rowC]
      | cons b q => cases r with
        | nil => simp [rowC]
        | cons d r =>
          rw [rowC, rowC, rowC]; unfold or2
          intro h1 h2
          by_cases x : c a b = 0
          · rw [if_pos x] at h1
            rw [(hc.eq0 _ _).1 x]
            by_cases y : c b d = 0
            · rw [if_pos y] at h2 ⊢
              exact ih _ _ h1 h2
            · rw [if_neg y] at h2 ⊢
              exact h2
          · rw [if_neg x] at h1
            by_cases y : c b d = 0
            · rw [← (hc.eq0 _ _).1 y, if_neg x]
              exact h1
            · rw [if_neg y] at h2
              have := hc.trans _ _ _ h1 h2
              rw [if_neg (by omega)]
              exact this
/-- An order pulled back along what parts. -/
theorem Tot.pull {α β : Type} {c : α → α → Int} (hc : Tot c) (f : β → α) (hf : ∀ a b, f a = f b → a = b) : Tot (fun a b => c (f a) (f b)) where
  vals a b := hc.vals _ _
  anti a b := hc.anti _ _
  eq0 a b := ⟨fun h => hf _ _ ((hc.eq0 _ _).1 h), fun h => by rw [h]; exact hc.self _⟩
  trans a b d := hc.trans _ _ _
/-- Texts, byte by byte. -/
def byteC (a b : UInt8) : Int := if a < b then -1 else if b < a then 1 else 0
theorem byteC_tot : Tot byteC := by
  have h : ∀ a b : UInt8, byteC a b = Lib.compareInt (a.toNat : Int) (b.toNat : Int) := fun a b => by
    unfold byteC Lib.compareInt
    simp only [UInt8.lt_iff_toNat_lt]
    split <;> split <;> (try split) <;> (try split) <;> omega
  have e : byteC = fun a b => Lib.compareInt (a.toNat : Int) (b.toNat : Int) := funext fun a => funext fun b => h a b
  rw [e]
  exact Tot.int.pull (fun a : UInt8 => (a.toNat : Int)) (fun a b h => UInt8.toNat_inj.1 (by omega))
theorem bytes_row : ∀ (a b : List UInt8), Lib.compareBytes a b = rowC byteC a b
  | [], [] => rfl
  | [], _ :: _ => rfl
  | _ :: _, [] => rfl
  | a :: xs, b :: ys => by
    rw [Lib.compareBytes, rowC, bytes_row xs ys]
    unfold or2 byteC
    by_cases h : a < b
    · simp [h]
    · by_cases h2 : b < a <;> simp [h, h2]
def cmpS (a b : BA) : Int := Lib.compareBytes a.data.toList b.data.toList
theorem cmpS_tot : Tot cmpS := by
  have e : cmpS = fun a b : BA => rowC byteC a.data.toList b.data.toList := funext fun a => funext fun b => bytes_row _ _
  rw [e]
  exact byteC_tot.row.pull (fun a : BA => a.data.toList) (fun a b h => by
    obtain ⟨⟨x⟩⟩ := a; obtain ⟨⟨y⟩⟩ := b
    have : x = y := h
    rw [this])
/-! ### In order -/
def leC {α : Type} (c : α → α → Int) (x y : α) : Bool := !(ltOf c y x)
theorem leC_iff {α : Type} {c : α → α → Int} (h : Tot c) (x y : α) : leC c x y = true ↔ c x y ≤ 0 := by
  unfold leC ltOf
  have := h.anti x y
  simp
  omega
theorem Tot.swo {α : Type} [Inhabited α] {c : α → α → Int} (h : Tot c) : Sort.SWO (ltOf c) where
  irrefl x := by unfold ltOf; rw [h.self]; rfl
  trans x y z h1 h2 := by
    unfold ltOf at *
    simp only [decide_eq_true_eq] at *
    exact h.trans _ _ _ h1 h2
  ntrans x y z h1 h2 := by
    unfold ltOf at *
    simp only [decide_eq_false_iff_not] at *
    intro h3
    rcases h.or x y with a | a | a
    · exact h1 a
    · subst a; exact h2 h3
    · rcases h.or y z with b | b | b
      · exact h2 b
      · subst b; exact h1 h3
      · have := h.anti x y; have := h.anti y z; have := h.anti x z
        have := h.trans z y x (by omega) (by omega)
        omega
theorem le_trans' {α : Type} {c : α → α → Int} (h : Tot c) {a b d : α} (h1 : c a b ≤ 0) (h2 : c b d ≤ 0) : c a d ≤ 0 := by
  rcases h.or a b with x | x | x
  · rcases h.or b d with y | y | y
    · have := h.trans _ _ _ x y; omega
    · subst y; omega
    · omega
  · subst x; exact h2
  · omega
/-- A row, rising. -/
def sortC {α : Type} (c : α → α → Int) (l : List α) : List α := l.mergeSort (leC c)
theorem leC_tr {α : Type} {c : α → α → Int} (h : Tot c) : ∀ a b d : α, leC c a b = true → leC c b d = true → leC c a d = true := fun a b d h1 h2 => by
  rw [leC_iff h] at *
  exact le_trans' h h1 h2
theorem leC_to {α : Type} {c : α → α → Int} (h : Tot c) : ∀ a b : α, (leC c a b || leC c b a) = true := fun a b => by
  rw [Bool.or_eq_true, leC_iff h, leC_iff h]
  have := h.anti a b
  omega
theorem sortC_perm {α : Type} (c : α → α → Int) (l : List α) : (sortC c l).Perm l := List.mergeSort_perm l _
theorem sortC_pw {α : Type} {c : α → α → Int} (h : Tot c) (l : List α) : (sortC c l).Pairwise (fun a b => c a b ≤ 0) :=
  (List.pairwise_mergeSort (leC_tr h) (leC_to h) l).imp fun {a b} h1 => (leC_iff h a b).1 h1
theorem sorted_one {α : Type} {c : α → α → Int} (h : Tot c) {l l' : List α} (h1 : l.Pairwise (fun a b => c a b ≤ 0)) (h2 : l'.Pairwise (fun a b => c a b ≤ 0)) (hp : l.Perm l') : l = l' :=
  List.Perm.eq_of_pairwise (fun a b _ _ x y => (h.eq0 a b).1 (by have := h.anti a b; omega)) h1 h2 hp
theorem sortC_eq {α : Type} {c : α → α → Int} (h : Tot c) {l l' : List α} (h1 : l'.Pairwise (fun a b => c a b ≤ 0)) (hp : l'.Perm l) : l' = sortC c l :=
  sorted_one h h1 (sortC_pw h l) (hp.trans (sortC_perm c l).symm)
theorem sortC_of_perm {α : Type} {c : α → α → Int} (h : Tot c) {l l' : List α} (hp : l.Perm l') : sortC c l = sortC c l' :=
  sortC_eq h (sortC_pw h l) ((sortC_perm c l).trans hp)
theorem sortC_id {α : Type} {c : α → α → Int} (h : Tot c) {l : List α} (h1 : l.Pairwise (fun a b => c a b ≤ 0)) : sortC c l = l := (sortC_eq h h1 (.refl _)).symm
theorem sortC_length {α : Type} (c : α → α → Int) (l : List α) : (sortC c l).length = l.length := (sortC_perm c l).length_eq
theorem mem_sortC {α : Type} {c : α → α → Int} {l : List α} {x : α} : x ∈ sortC c l ↔ x ∈ l := (sortC_perm c l).mem_iff
/-! ### None twice, where equal ones stand together -/
def cptF {α : Type} (c : α → α → Int) (p : α) : List α → List α
  | [] => []
  | x :: r => if c x p = 0 then cptF c x r else x :: cptF c x r
def cpt {α : Type} (c : α → α → Int) : List α → List α
  | [] => []
  | x :: r => x :: cptF c x r
def sortU {α : Type} (c : α → α → Int) (l : List α) : List α := cpt c (sortC c l)
theorem cptF_spec {α : Type} {c : α → α → Int} (h : Tot c) : ∀ (l : List α) (p : α), (∀ x ∈ l, c p x ≤ 0) → l.Pairwise (fun a b => c a b ≤ 0) →
    (∀ x ∈ cptF c p l, c p x < 0) ∧ (cptF c p l).Pairwise (fun a b => c a b < 0) ∧ (∀ x, x = p ∨ x ∈ cptF c p l ↔ x = p ∨ x ∈ l)
  | [], p, _, _ => ⟨fun x hx => by simp [cptF] at hx, .nil, fun x => by simp [cptF]⟩
  | y :: l, p, hp, hl => by
    rw [List.pairwise_cons] at hl
    obtain ⟨i1, i2, i3⟩ := cptF_spec h l y hl.1 hl.2
    have hpy := hp y List.mem_cons_self
    rw [cptF]
    split
    · rename_i e
      obtain rfl := (h.eq0 _ _).1 e
      refine ⟨i1, i2, fun x => ?_⟩
      rw [i3 x, List.mem_cons]
      constructor
      · rintro (e | e)
        · exact .inl e
        · exact .inr (.inr e)
      · rintro (e | e | e)
        · exact .inl e
        · exact .inl e
        · exact .inr e
    · rename_i e
      have hlt : c p y < 0 := by
        have := h.anti p y
        omega
      refine ⟨fun x hx => ?_, List.pairwise_cons.2 ⟨i1, i2⟩, fun x => ?_⟩
      · rcases List.mem_cons.1 hx with rfl | hx
        · exact hlt
        · exact h.trans _ _ _ hlt (i1 x hx)
      · rw [List.mem_cons, i3 x, List.mem_cons]
theorem cpt_spec {α : Type} {c : α → α → Int} (h : Tot c) {l : List α} (hl : l.Pairwise (fun a b => c a b ≤ 0)) : (cpt c l).Pairwise (fun a b => c a b < 0) ∧ ∀ x, x ∈ cpt c l ↔ x ∈ l := by
  cases l with
  | nil => exact ⟨.nil, fun x => Iff.rfl⟩
  | cons y l =>
    rw [List.pairwise_cons] at hl
    obtain ⟨i1, i2, i3⟩ := cptF_spec h l y hl.1 hl.2
    exact ⟨List.pairwise_cons.2 ⟨i1, i2⟩, fun x => by rw [cpt, List.mem_cons, i3, List.mem_cons]⟩
theorem sortU_pw {α : Type} {c : α → α → Int} (h : Tot c) (l : List α) : (sortU c l).Pairwise (fun a b => c a b < 0) := (cpt_spec h (sortC_pw h l)).1
theorem mem_sortU {α : Type} {c : α → α → Int} (h : Tot c) {l : List α} {x : α} : x ∈ sortU c l ↔ x ∈ l := ((cpt_spec h (sortC_pw h l)).2 x).trans mem_sortC
theorem strict_one {α : Type} {c : α → α → Int} (h : Tot c) {l l' : List α} (h1 : l.Pairwise (fun a b => c a b < 0)) (h2 : l'.Pairwise (fun a b => c a b < 0)) (hm : ∀ x, x ∈ l ↔ x ∈ l') : l = l' := by
  have nd : ∀ {l : List α}, l.Pairwise (fun a b => c a b < 0) → l.Nodup := fun hl => hl.imp fun {a b} hab e => by subst e; rw [h.self] at hab; omega
  exact sorted_one h (h1.imp fun {a b} x => by omega) (h2.imp fun {a b} x => by omega) ((List.perm_ext_iff_of_nodup (nd h1) (nd h2)).2 hm)
theorem sortU_eq {α : Type} {c : α → α → Int} (h : Tot c) {l l' : List α} (h1 : l'.Pairwise (fun a b => c a b < 0)) (hm : ∀ x, x ∈ l' ↔ x ∈ l) : l' = sortU c l :=
  strict_one h h1 (sortU_pw h l) fun x => by rw [hm, mem_sortU h]
theorem sortU_of_mem {α : Type} {c : α → α → Int} (h : Tot c) {l l' : List α} (hm : ∀ x, x ∈ l ↔ x ∈ l') : sortU c l = sortU c l' :=
  sortU_eq h (sortU_pw h l) fun x => by rw [mem_sortU h, hm]
theorem sortU_id {α : Type} {c : α → α → Int} (h : Tot c) {l : List α} (h1 : l.Pairwise (fun a b => c a b < 0)) : sortU c l = l := (sortU_eq h h1 fun x => Iff.rfl).symm
theorem cptF_length {α : Type} (c : α → α → Int) : ∀ (l : List α) (p : α), (cptF c p l).length ≤ l.length
  | [], _ => Nat.le_refl _
  | x :: r, p => by
    rw [cptF]
    have := cptF_length c r x
    split <;> simp only [List.length_cons] <;> omega
theorem cpt_length {α : Type} (c : α → α → Int) (l : List α) : (cpt c l).length ≤ l.length := by
  cases l with
  | nil => exact Nat.le_refl _
  | cons x r => have := cptF_length c r x; simp only [cpt, List.length_cons]; omega
theorem sortU_length {α : Type} (c : α → α → Int) (l : List α) : (sortU c l).length ≤ l.length := by
  have := cpt_length c (sortC c l)
  rw [sortC_length] at this
  exact this
end Go.Proofs.YtdcahnaempabcabGreat.Np
/-
  Models in order: plain functions.
-/
set_option linter.unusedVariables false
set_option linter.unusedSimpArgs false
namespace Go.Proofs.YtdcahnaempabcabGreat.Np
abbrev onC : Mp.On → Mp.On → Int := prodC cmpS Lib.compareInt
abbrev condC : Mp.Cond → Mp.Cond → Int := prodC cmpS (prodC cmpS Lib.compareInt)
abbrev sentC : Mp.Sent → Mp.Sent → Int := prodC (rowC onC) (rowC condC)
theorem onC_tot : Tot onC := cmpS_tot.prod Tot.int
theorem condC_tot : Tot condC := cmpS_tot.prod (cmpS_tot.prod Tot.int)
theorem sentC_tot : Tot sentC := onC_tot.row.prod condC_tot.row
def sentN (s : Mp.Sent) : Mp.Sent := (sortC onC s.1, sortU condC s.2)
def sentsN (l : List Mp.Sent) : List Mp.Sent := sortU sentC (l.map sentN)
def itemN (x : Mp.Item) : Mp.Item := { x with entry := sentsN x.entry, exit := sentsN x.exit }
/-- The ways of items, those ahead of them known. -/
def wayF (l : List Mp.Item) (acc : List (List BA)) (x : Mp.Item) : List BA := (match Mp.placeO l x.parent with
  | some p => (acc[p]?).getD []
  | none => []) ++ [x.id]
def waysF (l : List Mp.Item) : List (List BA) → List Mp.Item → List (List BA)
  | acc, [] => acc
  | acc, x :: r => waysF l (acc ++ [wayF l acc x]) r
def ways (l : List Mp.Item) : List (List BA) := waysF l [] l
abbrev wayC (p q : List BA × Mp.Item) : Int := rowC cmpS p.1 q.1
/-- Items by their ways. -/
def byWay (l : List Mp.Item) : List (List BA × Mp.Item) := ((ways l).zip l).mergeSort (leC wayC)
def itemsN (l : List Mp.Item) : List Mp.Item := (byWay l).map fun p => itemN p.2
def normB (m : Mp.Model) : Mp.Model := ⟨sortC cmpS m.files, itemsN m.items⟩
theorem wayC_to : ∀ a b : List BA × Mp.Item, (leC wayC a b || leC wayC b a) = true := fun a b => leC_to cmpS_tot.row a.1 b.1
theorem wayC_tr : ∀ a b d : List BA × Mp.Item, leC wayC a b = true → leC wayC b d = true → leC wayC a d = true := fun a b d => leC_tr cmpS_tot.row a.1 b.1 d.1
theorem wayC_swo : Sort.SWO (ltOf wayC) :=
  ⟨fun x => cmpS_tot.row.swo.irrefl x.1, fun x y z => cmpS_tot.row.swo.trans x.1 y.1 z.1, fun x y z => cmpS_tot.row.swo.ntrans x.1 y.1 z.1⟩
theorem waysF_length (l : List Mp.Item) : ∀ (r : List Mp.Item) (acc : List (List BA)), (waysF l acc r).length = acc.length + r.length
  | [], acc => rfl
  | x :: r, acc => by
    rw [waysF, waysF_length l r, List.length_append, List.length_cons]
    simp only [List.length_cons, List.length_nil]
    omega
theorem ways_length (l : List Mp.Item) : (ways l).length = l.length := by rw [ways, waysF_length]; simp
theorem waysF_old (l : List Mp.Item) : ∀ (r : List Mp.Item) (acc : List (List BA)) (j : Nat), j < acc.length → (waysF l acc r)[j]? = acc[j]?
  | [], acc, j, h => rfl
  | x :: r, acc, j, h => by
    rw [waysF, waysF_old l r _ j (by rw [List.length_append]; omega), List.getElem?_append_left h]
theorem waysF_take (l : List Mp.Item) : ∀ (r s : List Mp.Item) (acc : List (List BA)), waysF l acc (r ++ s) = waysF l (waysF l acc r) s
  | [], s, acc => rfl
  | x :: r, s, acc => by rw [List.cons_append, waysF, waysF, waysF_take l r s]
/-- Each way ends with its item's ID. -/
theorem waysF_at (l : List Mp.Item) : ∀ (r : List Mp.Item) (acc : List (List BA)) (j : Nat) (x : Mp.Item), r[j]? = some x → ∃ acc', acc'.length = acc.length + j ∧ acc' = (waysF l acc r).take (acc.length + j) ∧ (waysF l acc r)[acc.length + j]? = some (wayF l acc' x)
  | [], acc, j, x, h => by simp at h
  | y :: r, acc, 0, x, h => by
    simp only [List.getElem?_cons_zero, Option.some.injEq] at h
    subst h
    refine ⟨acc, rfl, ?_, ?_⟩
    · refine List.ext_getElem? fun i => ?_
      by_cases hi : i < acc.length
      · rw [Nat.add_zero, List.getElem?_take, if_pos hi, waysF, waysF_old _ _ _ _ (by rw [List.length_append]; omega), List.getElem?_append_left hi]
      · rw [Nat.add_zero, List.getElem?_take, if_neg hi, List.getElem?_eq_none (by omega)]
    · rw [Nat.add_zero, waysF, waysF_old _ _ _ _ (by simp), List.getElem?_append_right (Nat.le_refl _), Nat.sub_self]
      rfl
  | y :: r, acc, j + 1, x, h => by
    rw [List.getElem?_cons_succ] at h
    obtain ⟨acc', h1, h2, h3⟩ := waysF_at l r (acc ++ [wayF l acc y]) j x h
    rw [List.length_append, List.length_singleton] at h1 h2 h3
    exact ⟨acc', by omega, by rw [h2, waysF, show acc.length + (j + 1) = acc.length + 1 + j by omega], by rw [waysF, show acc.length + (j + 1) = acc.length + 1 + j by omega]; exact h3⟩
theorem ways_at {l : List Mp.Item} {j : Nat} {x : Mp.Item} (h : l[j]? = some x) : (ways l)[j]? = some (wayF l ((ways l).take j) x) := by
  obtain ⟨acc', h1, h2, h3⟩ := waysF_at l l [] j x h
  rw [List.length_nil, Nat.zero_add] at h1 h2 h3
  unfold ways
  rw [h3, h2]
theorem sentsN_length (l : List Mp.Sent) : (sentsN l).length ≤ l.length := by
  have := sortU_length sentC (l.map sentN)
  rw [List.length_map] at this
  exact this
end Go.Proofs.YtdcahnaempabcabGreat.Np
/-
  What the document asks of models: plain functions.
-/
set_option linter.unusedVariables false
namespace Go.Proofs.YtdcahnaempabcabGreat.Mp
def parAt (l : List Item) (i : Nat) : BA := match l[i]? with
  | some x => x.parent
  | none => e0
def idAt (l : List Item) (i : Nat) : BA := match l[i]? with
  | some x => x.id
  | none => e0
def kindAt (l : List Item) (i : Nat) : Int := match l[i]? with
  | some x => x.kind
  | none => 0
def upZ (l : List Item) (i : Int) : Int := placeZ l (parAt l i.toNat)
def depthG (l : List Item) : Nat → Int → Nat → Int
  | 0, _, _ => -1
  | f + 1, i, n => if 0 < i then depthG l f (upZ l i) (n + 1) else if i < 0 then -1 else n
def depthZ (l : List Item) (i : Int) : Int := depthG l (l.length + 1) i 0
def withinG (l : List Item) (s : BA) : Nat → Int → Bool
  | 0, _ => false
  | f + 1, i => if i < 0 then false else if idAt l i.toNat = s then true else withinG l s f (upZ l i)
def withinZ (l : List Item) (i : Int) (s : BA) : Bool := withinG l s (l.length + 1) i
def nestedR (l : List Item) (i : Nat) (x : Item) : Bool :=
  !decide (x.parent = e0) && decide (0 ≤ placeZ l x.parent) && decide (placeZ l x.parent < i) && decide (kindAt l (placeZ l x.parent).toNat = 1) && withinZ l ((i : Int) - 1) x.parent && decide (1 ≤ depthZ l i) && decide (depthZ l i ≤ 5)
def itemR (l : List Item) (i : Nat) (x : Item) : Bool :=
  isN x.id && decide (placeZ l x.id = i) && kindB x.kind && ticksB x && waitB x && (if i = 0 then planB x else nestedR l i x)
def itemsF (l : List Item) : Nat → List Item → Bool
  | _, [] => true
  | k, x :: r => itemR l k x && itemsF l (k + 1) r
def bothS (m : Model) (x : Item) : Bool := sentsB m x.entry && sentsB m x.exit
def isR (m : Model) : Bool := decide (m.files.length ≤ 6) && decide (1 ≤ m.items.length) && decide (m.items.length ≤ 16) && namesF [] m.files && itemsF m.items 0 m.items && m.items.all (bothS m)
theorem placeZ_ge (l : List Item) (s : BA) : -1 ≤ placeZ l s := by
  unfold placeZ
  cases placeO l s with
  | none => exact Int.le_refl _
  | some k => show (-1 : Int) ≤ k; omega
theorem placeZ_lt (l : List Item) (s : BA) : placeZ l s < l.length ∨ placeZ l s = -1 := by
  unfold placeZ
  cases h : placeO l s with
  | none => exact .inr rfl
  | some k =>
    obtain ⟨x, hx, _⟩ := find_some_inv h
    have := (List.getElem?_eq_some_iff.1 hx).1
    exact .inl (by show (k : Int) < _; omega)
theorem upZ_ge (l : List Item) (i : Int) : -1 ≤ upZ l i := placeZ_ge _ _
theorem upZ_lt (l : List Item) (i : Int) (h : 0 < l.length) : upZ l i < l.length := by
  rcases placeZ_lt l (parAt l i.toNat) with h1 | h1
  · exact h1
  · unfold upZ
    omega
end Go.Proofs.YtdcahnaempabcabGreat.Mp
/-
  PLAIN: what the document asks of a model is what the program asks.
-/
set_option linter.unusedVariables false
namespace Go.Proofs.YtdcahnaempabcabGreat.Mp
theorem at_inj {l : List Item} {i : Nat} {x y : Item} (h1 : l[i]? = some x) (h2 : l[i]? = some y) : x = y := Option.some.inj (h1.symm.trans h2)
/-! ### Names that stand once -/
theorem has_iff {α : Type} [DecidableEq α] (l : List α) (s : α) : has l s = true ↔ ∃ i : Nat, l[i]? = some s := by
  unfold has idx
  cases h : l.findIdx? (fun t => decide (t = s)) with
  | none =>
    refine ⟨fun e => (by cases e), fun ⟨i, hi⟩ => ?_⟩
    have := find_none_inv h i s hi
    rw [decide_eq_true rfl] at this
    cases this
  | some k =>
    obtain ⟨x, hx, he, _⟩ := find_some_inv h
    rw [of_decide_eq_true he] at hx
    exact ⟨fun _ => ⟨k, hx⟩, fun _ => rfl⟩
theorem has_false {α : Type} [DecidableEq α] (l : List α) (s : α) : has l s = false ↔ ∀ i : Nat, l[i]? ≠ some s := by
  constructor
  · intro h i hi
    have := (has_iff l s).2 ⟨i, hi⟩
    rw [h] at this
    cases this
  · intro h
    cases hb : has l s with
    | false => rfl
    | true =>
      obtain ⟨i, hi⟩ := (has_iff l s).1 hb
      exact absurd hi (h i)
theorem namesF_iff : ∀ (r seen : List BA), namesF seen r = true ↔ (∀ s ∈ r, isN s = true) ∧ (∀ s ∈ r, ∀ i : Nat, seen[i]? ≠ some s) ∧ (∀ (i j : Nat) s, i < j → r[i]? = some s → r[j]? ≠ some s)
  | [], seen => by simp [namesF]
  | a :: r, seen => by
    rw [namesF, Bool.and_eq_true, Bool.and_eq_true, namesF_iff r (seen ++ [a]), Bool.not_eq_true', has_false]
    constructor
    · rintro ⟨⟨h1, h2⟩, h3, h4, h5⟩
      refine ⟨fun s hs => ?_, fun s hs => ?_, fun i j s hij hi => ?_⟩
      · rcases List.mem_cons.1 hs with rfl | hs
        · exact h1
        · exact h3 s hs
      · rcases List.mem_cons.1 hs with rfl | hs
        · exact h2
        · intro i hi
          have := h4 s hs i
          rw [List.getElem?_append_left (List.getElem?_eq_some_iff.1 hi).1] at this
          exact this hi
      · cases j with
        | zero => omega
        | succ j =>
          rw [List.getElem?_cons_succ]
          cases i with
          | zero =>
            simp only [List.getElem?_cons_zero, Option.some.injEq] at hi
            subst hi
            intro hj
            have := h4 a (List.mem_of_getElem? hj) seen.length
            rw [List.getElem?_append_right (Nat.le_refl _), Nat.sub_self] at this
            exact this rfl
          | succ i =>
            rw [List.getElem?_cons_succ] at hi
            exact h5 i j s (by omega) hi
    · rintro ⟨h1, h2, h3⟩
      refine ⟨⟨h1 a List.mem_cons_self, h2 a List.mem_cons_self⟩, fun s hs => h1 s (List.mem_cons_of_mem _ hs), fun s hs i hi => ?_, fun i j s hij hi hj => ?_⟩
      · rcases Nat.lt_or_ge i seen.length with hl | hl
        · rw [List.getElem?_append_left hl] at hi
          exact h2 s (List.mem_cons_of_mem _ hs) i hi
        · rw [List.getElem?_append_right hl] at hi
          have h0 : i - seen.length = 0 := by
            have := (List.getElem?_eq_some_iff.1 hi).1
            simp at this
            omega
          rw [h0] at hi
          simp only [List.getElem?_cons_zero, Option.some.injEq] at hi
          subst hi
          obtain ⟨k, hk⟩ := List.getElem?_of_mem hs
          exact h3 0 (k + 1) a (by omega) rfl (by rw [List.getElem?_cons_succ]; exact hk)
      · exact h3 (i + 1) (j + 1) s (by omega) (by rw [List.getElem?_cons_succ]; exact hi) (by rw [List.getElem?_cons_succ]; exact hj)
/-- IDs that stand once: where each stands. -/
def Once (l : List Item) : Prop := ∀ (i j : Nat) x y, l[i]? = some x → l[j]? = some y → x.id = y.id → i = j
theorem once_of {l : List Item} (h : namesF [] (l.map Item.id) = true) : Once l := by
  obtain ⟨_, _, h3⟩ := (namesF_iff _ _).1 h
  intro i j x y hi hj he
  have hi' : (l.map Item.id)[i]? = some x.id := by rw [List.getElem?_map, hi]; rfl
  have hj' : (l.map Item.id)[j]? = some x.id := by rw [List.getElem?_map, hj, he]; rfl
  rcases Nat.lt_trichotomy i j with h | h | h
  · exact absurd hj' (h3 i j _ h hi')
  · exact h
  · exact absurd hi' (h3 j i _ h hj')
theorem placeZ_at {l : List Item} (ho : Once l) {i : Nat} {x : Item} (h : l[i]? = some x) : placeZ l x.id = i := by
  unfold placeZ placeO
  rw [find_some (p := fun y => decide (y.id = x.id)) h (decide_eq_true rfl) (fun j y hj hy => decide_eq_false fun e => by have := ho j i y x hy h e; omega)]
theorem placeZ_inv {l : List Item} {s : BA} {k : Nat} (h : placeZ l s = k) : ∃ x, l[k]? = some x ∧ x.id = s := by
  unfold placeZ at h
  cases hp : placeO l s with
  | none =>
    rw [hp] at h
    have h' : (-1 : Int) = (k : Int) := h
    omega
  | some j =>
    rw [hp] at h
    have h' : (j : Int) = (k : Int) := h
    have hj : j = k := by omega
    subst hj
    obtain ⟨x, hx, he, _⟩ := find_some_inv hp
    exact ⟨x, hx, of_decide_eq_true he⟩
theorem upZ_at {l : List Item} {k : Nat} {x : Item} (h : l[k]? = some x) : upZ l (k : Int) = placeZ l x.parent := by
  unfold upZ parAt
  rw [Int.toNat_natCast, h]
theorem idAt_at {l : List Item} {k : Nat} {x : Item} (h : l[k]? = some x) : idAt l k = x.id := by
  unfold idAt
  rw [h]
theorem kindAt_at {l : List Item} {k : Nat} {x : Item} (h : l[k]? = some x) : kindAt l k = x.kind := by
  unfold kindAt
  rw [h]
/-! ### The stages in which an item may stand -/
structure Ch (l : List Item) (i : Nat) (op : List BA) (c : List Nat) : Prop where
  one : 1 ≤ i
  len : c.length = op.length
  pos : 0 < op.length
  zero : c[0]? = some 0
  each : ∀ (t k : Nat), c[t]? = some k → k < i ∧ ∃ y, l[k]? = some y ∧ y.kind = 1 ∧ op[t]? = some y.id
  link : ∀ (t k k' : Nat), c[t]? = some k → c[t + 1]? = some k' → k < k' ∧ upZ l k' = k
  last : ∃ y k, l[i - 1]? = some y ∧ c[op.length - 1]? = some k ∧ ((y.kind = 1 ∧ k = i - 1) ∨ (y.kind ≠ 1 ∧ upZ l ((i - 1 : Nat) : Int) = k))
theorem Ch.at {l : List Item} {i : Nat} {op : List BA} {c : List Nat} (h : Ch l i op c) {t : Nat} (ht : t < op.length) : ∃ k y, c[t]? = some k ∧ k < i ∧ l[k]? = some y ∧ y.kind = 1 ∧ op[t]? = some y.id := by
  have hc : c[t]? = some (c[t]'(by have := h.len; omega)) := List.getElem?_eq_getElem _
  obtain ⟨h1, y, h2, h3, h4⟩ := h.each t _ hc
  exact ⟨_, y, hc, h1, h2, h3, h4⟩
theorem Ch.ge {l : List Item} {i : Nat} {op : List BA} {c : List Nat} (h : Ch l i op c) : ∀ (t k : Nat), c[t]? = some k → t ≤ k
  | 0, k, _ => Nat.zero_le _
  | t + 1, k, hk => by
    have hlt := (List.getElem?_eq_some_iff.1 hk).1
    have hc : c[t]? = some (c[t]'(by omega)) := List.getElem?_eq_getElem _
    have := h.ge t _ hc
    have := (h.link t _ _ hc hk).1
    omega
theorem Ch.depth {l : List Item} {i : Nat} {op : List BA} {c : List Nat} (h : Ch l i op c) : ∀ (t k f n : Nat), c[t]? = some k → t < f → depthG l f k n = ((n + t : Nat) : Int)
  | 0, k, f, n, hk, hf => by
    obtain rfl : k = 0 := Option.some.inj (hk.symm.trans h.zero)
    obtain ⟨f', rfl⟩ : ∃ f', f = f' + 1 := ⟨f - 1, by omega⟩
    rw [depthG, if_neg (by omega), if_neg (by omega)]
    rfl
  | t + 1, k, f, n, hk, hf => by
    have hlt := (List.getElem?_eq_some_iff.1 hk).1
    have hc : c[t]? = some (c[t]'(by omega)) := List.getElem?_eq_getElem _
    obtain ⟨h1, h2⟩ := h.link t _ _ hc hk
    obtain ⟨f', rfl⟩ : ∃ f', f = f' + 1 := ⟨f - 1, by omega⟩
    rw [depthG, if_pos (by omega), h2, h.depth t _ f' (n + 1) hc (by omega)]
    congr 1
    omega
theorem Ch.withinT {l : List Item} {i : Nat} {op : List BA} {c : List Nat} (h : Ch l i op c) (s : BA) : ∀ (t k f u : Nat), c[t]? = some k → u ≤ t → op[u]? = some s → t - u < f → withinG l s f k = true
  | 0, k, f, u, hk, hu, hs, hf => by
    obtain ⟨f', rfl⟩ : ∃ f', f = f' + 1 := ⟨f - 1, by omega⟩
    obtain rfl : u = 0 := by omega
    obtain ⟨_, y, h2, _, h4⟩ := h.each 0 k hk
    rw [withinG, if_neg (by omega), Int.toNat_natCast, idAt_at h2, if_pos (Option.some.inj (h4.symm.trans hs))]
  | t + 1, k, f, u, hk, hu, hs, hf => by
    obtain ⟨f', rfl⟩ : ∃ f', f = f' + 1 := ⟨f - 1, by omega⟩
    obtain ⟨_, y, h2, _, h4⟩ := h.each (t + 1) k hk
    rw [withinG, if_neg (by omega), Int.toNat_natCast, idAt_at h2]
    by_cases e : y.id = s
    · rw [if_pos e]
    · rw [if_neg e]
      have hlt := (List.getElem?_eq_some_iff.1 hk).1
      have hc : c[t]? = some (c[t]'(by omega)) := List.getElem?_eq_getElem _
      obtain ⟨h1, hup⟩ := h.link t _ _ hc hk
      rw [hup]
      have hut : u ≤ t := by
        rcases Nat.lt_or_ge t u with h' | h'
        · obtain rfl : u = t + 1 := by omega
          exact absurd (Option.some.inj (h4.symm.trans hs)) e
        · exact h'
      exact h.withinT s t _ f' u hc hut hs (by omega)
theorem Ch.withinF {l : List Item} {i : Nat} {op : List BA} {c : List Nat} (h : Ch l i op c) (hroot : upZ l 0 = -1) (s : BA) : ∀ (t k f : Nat), c[t]? = some k → withinG l s f k = true → ∃ u : Nat, op[u]? = some s
  | t, k, 0, hk, hw => by cases hw
  | 0, k, f + 1, hk, hw => by
    obtain rfl : k = 0 := Option.some.inj (hk.symm.trans h.zero)
    obtain ⟨_, y, h2, _, h4⟩ := h.each 0 0 hk
    rw [withinG, if_neg (by omega), Int.toNat_natCast, idAt_at h2] at hw
    by_cases e : y.id = s
    · exact ⟨0, by rw [h4, e]⟩
    · rw [if_neg e] at hw
      have hw' : withinG l s f (upZ l 0) = true := hw
      rw [hroot] at hw'
      cases f with
      | zero => cases hw'
      | succ f => rw [withinG, if_pos (by omega)] at hw'; cases hw'
  | t + 1, k, f + 1, hk, hw => by
    obtain ⟨_, y, h2, _, h4⟩ := h.each (t + 1) k hk
    rw [withinG, if_neg (by omega), Int.toNat_natCast, idAt_at h2] at hw
    by_cases e : y.id = s
    · exact ⟨t + 1, by rw [h4, e]⟩
    · rw [if_neg e] at hw
      have hlt := (List.getElem?_eq_some_iff.1 hk).1
      have hc : c[t]? = some (c[t]'(by omega)) := List.getElem?_eq_getElem _
      obtain ⟨h1, hup⟩ := h.link t _ _ hc hk
      rw [hup] at hw
      exact h.withinF hroot s t _ f hc hw
end Go.Proofs.YtdcahnaempabcabGreat.Mp
/-
  PLAIN: what the document asks of a model is what the program asks: the stages, item by item.
-/
set_option linter.unusedVariables false
namespace Go.Proofs.YtdcahnaempabcabGreat.Mp
theorem idx_some {op : List BA} {s : BA} {p : Nat} (h : idx op s = some p) : op[p]? = some s := by
  obtain ⟨x, hx, he, _⟩ := find_some_inv h
  rw [of_decide_eq_true he] at hx
  exact hx
theorem idx_none {op : List BA} {s : BA} (h : idx op s = none) (u : Nat) : op[u]? ≠ some s := by
  intro hu
  have := find_none_inv h u s hu
  rw [decide_eq_true rfl] at this
  cases this
section
variable {l : List Item} {i : Nat} {op : List BA} {c : List Nat}
theorem Ch.some_step (h : Ch l i op c) (ho : Once l) (hn : ∀ (k : Nat) y, l[k]? = some y → y.id ≠ e0) {x : Item} (hx : l[i]? = some x) {p : Nat} (hp : idx op x.parent = some p) :
    nestedR l i x = decide (p + 1 ≤ 5) := by
  have hop := idx_some hp
  have hpl := (List.getElem?_eq_some_iff.1 hop).1
  have hil := (List.getElem?_eq_some_iff.1 hx).1
  obtain ⟨k, y, hk, hki, hy, hy1, hyo⟩ := h.at hpl
  have hid : y.id = x.parent := Option.some.inj (hyo.symm.trans hop)
  have hpz : placeZ l x.parent = k := by rw [← hid]; exact placeZ_at ho hy
  have hpk := h.ge p k hk
  have hone := h.one
  have hw : withinZ l ((i : Int) - 1) x.parent = true := by
    unfold withinZ
    obtain ⟨y', kl, hy', hkl, hc⟩ := h.last
    have hge := h.ge _ _ hkl
    have hlt := (h.each _ _ hkl).1
    rw [show ((i : Int) - 1) = ((i - 1 : Nat) : Int) by omega]
    rcases hc with ⟨_, rfl⟩ | ⟨_, hup⟩
    · exact h.withinT x.parent _ _ _ p hkl (by omega) hop (by omega)
    · rw [withinG, if_neg (by omega), Int.toNat_natCast]
      split
      · rfl
      · rw [hup]
        exact h.withinT x.parent _ _ _ p hkl (by omega) hop (by omega)
  have hd : depthZ l i = ((1 + p : Nat) : Int) := by
    unfold depthZ
    rw [depthG, if_pos (by omega), upZ_at hx, hpz]
    exact h.depth p k _ _ hk (by omega)
  unfold nestedR
  rw [hpz, hw, hd, decide_eq_false (by rw [← hid]; exact hn k y hy), decide_eq_true (p := (0 : Int) ≤ k) (by omega), decide_eq_true (p := (k : Int) < i) (by omega), Int.toNat_natCast, kindAt_at hy, decide_eq_true hy1, decide_eq_true (p := (1 : Int) ≤ ((1 + p : Nat) : Int)) (by omega)]
  show decide (((1 + p : Nat) : Int) ≤ 5) = decide (p + 1 ≤ 5)
  rw [Bool.eq_iff_iff]
  simp only [decide_eq_true_eq]
  omega
theorem Ch.none_step (h : Ch l i op c) (ho : Once l) (hroot : upZ l 0 = -1) {x : Item} (hx : l[i]? = some x) (hp : idx op x.parent = none) : nestedR l i x = false := by
  cases hb : nestedR l i x with
  | false => rfl
  | true =>
    exfalso
    unfold nestedR at hb
    simp only [Bool.and_eq_true, decide_eq_true_eq] at hb
    obtain ⟨⟨⟨⟨⟨⟨_, h0⟩, hlt⟩, hk1⟩, hw⟩, _⟩, _⟩ := hb
    have hone := h.one
    obtain ⟨y', kl, hy', hkl, hc⟩ := h.last
    unfold withinZ at hw
    rw [show ((i : Int) - 1) = ((i - 1 : Nat) : Int) by omega] at hw
    have key : ∃ u : Nat, op[u]? = some x.parent := by
      rcases hc with ⟨_, rfl⟩ | ⟨hne, hup⟩
      · exact h.withinF hroot x.parent _ _ _ hkl hw
      · rw [withinG, if_neg (by omega), Int.toNat_natCast, idAt_at hy'] at hw
        by_cases e : y'.id = x.parent
        · exfalso
          have : placeZ l x.parent = ((i - 1 : Nat) : Int) := by rw [← e]; exact placeZ_at ho hy'
          rw [this, Int.toNat_natCast, kindAt_at hy'] at hk1
          exact hne hk1
        · rw [if_neg e, hup] at hw
          exact h.withinF hroot x.parent _ _ _ hkl hw
    obtain ⟨u, hu⟩ := key
    exact idx_none hp u hu
theorem Ch.next (h : Ch l i op c) (ho : Once l) {x : Item} (hx : l[i]? = some x) {p : Nat} (hp : idx op x.parent = some p) :
    ∃ c', Ch l (i + 1) (if x.kind = 1 then op.take (p + 1) ++ [x.id] else op.take (p + 1)) c' := by
  have hop := idx_some hp
  have hpl := (List.getElem?_eq_some_iff.1 hop).1
  obtain ⟨k, y, hk, hki, hy, hy1, hyo⟩ := h.at hpl
  have hid : y.id = x.parent := Option.some.inj (hyo.symm.trans hop)
  have hpz : placeZ l x.parent = k := by rw [← hid]; exact placeZ_at ho hy
  have hup : upZ l i = k := by rw [upZ_at hx, hpz]
  have hcl := h.len
  have l1 : (op.take (p + 1)).length = p + 1 := by rw [List.length_take]; omega
  have l2 : (c.take (p + 1)).length = p + 1 := by rw [List.length_take]; omega
  have tk : ∀ (t : Nat), t < p + 1 → (c.take (p + 1))[t]? = c[t]? := fun t ht => List.getElem?_take_of_lt ht
  have tn : ∀ (t q : Nat), (c.take (p + 1))[t]? = some q → t < p + 1 ∧ c[t]? = some q := by
    intro t q hq
    have := (List.getElem?_eq_some_iff.1 hq).1
    rw [l2] at this
    rw [tk t this] at hq
    exact ⟨this, hq⟩
  by_cases hs : x.kind = 1
  · rw [if_pos hs]
    refine ⟨c.take (p + 1) ++ [i], by omega, by simp only [List.length_append, List.length_cons, List.length_nil]; omega, by simp, ?_, fun t q hq => ?_, fun t q q' hq hq' => ?_, ?_⟩
    · rw [List.getElem?_append_left (by omega), tk 0 (by omega)]
      exact h.zero
    · rcases Nat.lt_or_ge t (p + 1) with ht | ht
      · rw [List.getElem?_append_left (by omega), tk t ht] at hq
        obtain ⟨h1, z, h2, h3, h4⟩ := h.each t q hq
        exact ⟨by omega, z, h2, h3, by rw [List.getElem?_append_left (by omega), List.getElem?_take_of_lt ht]; exact h4⟩
      · rw [List.getElem?_append_right (by omega), l2] at hq
        have h0 : t - (p + 1) = 0 := by
          have := (List.getElem?_eq_some_iff.1 hq).1
          simp at this
          omega
        rw [h0] at hq
        obtain rfl : i = q := Option.some.inj hq
        exact ⟨by omega, x, hx, hs, by rw [List.getElem?_append_right (by omega), l1, h0]; rfl⟩
    · rcases Nat.lt_or_ge (t + 1) (p + 1) with ht | ht
      · rw [List.getElem?_append_left (by omega), tk _ (by omega)] at hq hq'
        exact h.link t q q' hq hq'
      · rw [List.getElem?_append_right (by omega), l2] at hq'
        have h0 : t + 1 - (p + 1) = 0 := by
          have := (List.getElem?_eq_some_iff.1 hq').1
          simp at this
          omega
        rw [h0] at hq'
        obtain rfl : i = q' := Option.some.inj hq'
        obtain rfl : t = p := by omega
        rw [List.getElem?_append_left (by omega), tk t (by omega), hk] at hq
        obtain rfl : k = q := Option.some.inj hq
        exact ⟨hki, hup⟩
    · refine ⟨x, i, by simpa using hx, ?_, .inl ⟨hs, by omega⟩⟩
      rw [List.length_append, l1, List.getElem?_append_right (by simp only [List.length_cons, List.length_nil]; omega), l2]
      simp
  · rw [if_neg hs]
    refine ⟨c.take (p + 1), by omega, by rw [l1, l2], by omega, ?_, fun t q hq => ?_, fun t q q' hq hq' => ?_, ?_⟩
    · rw [tk 0 (by omega)]
      exact h.zero
    · obtain ⟨ht, hq⟩ := tn t q hq
      obtain ⟨h1, z, h2, h3, h4⟩ := h.each t q hq
      exact ⟨by omega, z, h2, h3, by rw [List.getElem?_take_of_lt ht]; exact h4⟩
    · obtain ⟨ht, hq⟩ := tn t q hq
      obtain ⟨ht', hq'⟩ := tn (t + 1) q' hq'
      exact h.link t q q' hq hq'
    · refine ⟨x, k, by simpa using hx, ?_, .inr ⟨hs, by simpa using hup⟩⟩
      rw [l1, Nat.add_sub_cancel, tk p (by omega)]
      exact hk
end
theorem nest_all {l : List Item} (ho : Once l) (hn : ∀ (k : Nat) y, l[k]? = some y → y.id ≠ e0) (hroot : upZ l 0 = -1) : ∀ (d i : Nat) (op : List BA) (c : List Nat), l.length - i = d → Ch l i op c → (nestF op (l.drop i) = true ↔ ∀ (j : Nat) x, i ≤ j → l[j]? = some x → nestedR l j x = true)
  | 0, i, op, c, hd, h => by
    rw [drop_all (by omega), nestF]
    refine ⟨fun _ j x hj hx => ?_, fun _ => rfl⟩
    have := (List.getElem?_eq_some_iff.1 hx).1
    omega
  | d + 1, i, op, c, hd, h => by
    obtain ⟨x, hx⟩ := at_lt (l := l) (k := i) (by omega)
    rw [drop_at hx, nestF]
    cases hp : idx op x.parent with
    | none =>
      dsimp only
      have := h.none_step ho hroot hx hp
      refine ⟨fun e => by (cases e), fun e => ?_⟩
      have h2 := e i x (Nat.le_refl _) hx
      rw [this] at h2
      exact h2
    | some p =>
      dsimp only
      have hs := h.some_step ho hn hx hp
      by_cases h5 : 5 < p + 1
      · rw [if_pos h5]
        refine ⟨fun e => by (cases e), fun e => ?_⟩
        have h2 := e i x (Nat.le_refl _) hx
        rw [hs, decide_eq_false (by omega)] at h2
        exact h2
      · rw [if_neg h5]
        obtain ⟨c', h'⟩ := h.next ho hx hp
        rw [nest_all ho hn hroot d (i + 1) _ c' (by omega) h']
        constructor
        · intro e j z hj hz
          rcases Nat.eq_or_lt_of_le hj with rfl | hj
          · rw [hx] at hz
            cases hz
            rw [hs]
            exact decide_eq_true (by omega)
          · exact e j z hj hz
        · intro e j z hj hz
          exact e j z (by omega) hz
theorem itemsF_iff (l : List Item) : ∀ (r : List Item) (k : Nat), itemsF l k r = true ↔ ∀ (j : Nat) x, r[j]? = some x → itemR l (k + j) x = true
  | [], k => by simp [itemsF]
  | a :: r, k => by
    rw [itemsF, Bool.and_eq_true, itemsF_iff l r (k + 1)]
    constructor
    · rintro ⟨h1, h2⟩ j x hx
      cases j with
      | zero =>
        simp only [List.getElem?_cons_zero, Option.some.injEq] at hx
        subst hx
        exact h1
      | succ j =>
        rw [List.getElem?_cons_succ] at hx
        have := h2 j x hx
        rwa [show k + 1 + j = k + (j + 1) by omega] at this
    · intro h
      refine ⟨h 0 a rfl, fun j x hx => ?_⟩
      have := h (j + 1) x (by rw [List.getElem?_cons_succ]; exact hx)
      rwa [show k + 1 + j = k + (j + 1) by omega]
theorem isN_ne {s : BA} (h : isN s = true) : s ≠ e0 := by
  intro e
  rw [e] at h
  revert h
  unfold isN Sp.isB
  simp
theorem is_eq (m : Model) : isR m = isB m := by
  rw [Bool.eq_iff_iff]
  unfold isR isB filesB idsB
  simp only [Bool.and_eq_true, decide_eq_true_eq]
  have root : ∀ {l : List Item}, (∀ (k : Nat) y, l[k]? = some y → y.id ≠ e0) → ∀ x, l[0]? = some x → x.parent = e0 → upZ l 0 = -1 := by
    intro l hn x hx hp
    have h0 : upZ l ((0 : Nat) : Int) = placeZ l x.parent := upZ_at hx
    have h1 : upZ l 0 = placeZ l x.parent := h0
    rw [h1, hp]
    unfold placeZ placeO
    rw [find_none (p := fun y => decide (y.id = e0)) (fun j y hy => decide_eq_false (hn j y hy))]
  have start : ∀ {l : List Item} {x : Item}, l[0]? = some x → x.kind = 1 → Ch l 1 [x.id] [0] := by
    intro l x hx hk
    refine ⟨Nat.le_refl _, rfl, by simp, rfl, fun t q hq => ?_, fun t q q' hq hq' => ?_, x, 0, hx, rfl, .inl ⟨hk, rfl⟩⟩
    · cases t with
      | zero =>
        obtain rfl : 0 = q := Option.some.inj hq
        exact ⟨by omega, x, hx, hk, rfl⟩
      | succ t => simp at hq
    · simp at hq'
  constructor
  · rintro ⟨⟨⟨⟨⟨f1, i1⟩, i2⟩, f2⟩, hit⟩, hb⟩
    have hI := (itemsF_iff m.items m.items 0).1 hit
    have hI' : ∀ (j : Nat) x, m.items[j]? = some x → itemR m.items j x = true := fun j x hx => by have := hI j x hx; rwa [Nat.zero_add] at this
    have parts : ∀ (j : Nat) x, m.items[j]? = some x → isN x.id = true ∧ placeZ m.items x.id = j ∧ kindB x.kind = true ∧ ticksB x = true ∧ waitB x = true ∧ (if j = 0 then planB x else nestedR m.items j x) = true := by
      intro j x hx
      have := hI' j x hx
      unfold itemR at this
      simp only [Bool.and_eq_true, decide_eq_true_eq] at this
      exact ⟨this.1.1.1.1.1, this.1.1.1.1.2, this.1.1.1.2, this.1.1.2, this.1.2, this.2⟩
    have ho : Once m.items := fun i j x y hx hy e => by
      have h1 := (parts i x hx).2.1
      have h2 := (parts j y hy).2.1
      rw [e, h2] at h1
      omega
    have hn : ∀ (k : Nat) y, m.items[k]? = some y → y.id ≠ e0 := fun k y hy => isN_ne (parts k y hy).1
    obtain ⟨x0, hx0⟩ := at_lt (l := m.items) (k := 0) (by omega)
    have hp0 := (parts 0 x0 hx0).2.2.2.2.2
    rw [if_pos rfl] at hp0
    have hcons : m.items = x0 :: m.items.drop 1 := by
      have := drop_at hx0
      rwa [List.drop_zero] at this
    have hpl : x0.kind = 1 ∧ x0.parent = e0 := by
      unfold planB at hp0
      simp only [Bool.and_eq_true, decide_eq_true_eq] at hp0
      exact ⟨hp0.1.1.1.1, hp0.1.1.1.2⟩
    refine ⟨⟨⟨⟨⟨f1, f2⟩, ⟨i1, i2⟩, ?_⟩, ?_⟩, ?_⟩, ?_⟩
    · rw [namesF_iff]
      refine ⟨fun s hs => ?_, fun s hs i hi => by simp at hi, fun i j s hij hi hj => ?_⟩
      · obtain ⟨x, hx, rfl⟩ := List.mem_map.1 hs
        obtain ⟨k, hk⟩ := List.getElem?_of_mem hx
        exact (parts k x hk).1
      · rw [List.getElem?_map] at hi hj
        cases h1 : m.items[i]? with
        | none => rw [h1] at hi; cases hi
        | some x =>
          cases h2 : m.items[j]? with
          | none => rw [h2] at hj; cases hj
          | some y =>
            rw [h1] at hi
            rw [h2] at hj
            have e : x.id = y.id := (Option.some.inj hi).trans (Option.some.inj hj).symm
            have := ho i j x y h1 h2 e
            omega
    · rw [hcons]
      exact hp0
    · have hnest : nestB m.items = nestF [x0.id] (m.items.drop 1) := by
        conv => lhs; rw [hcons]
        rfl
      rw [hnest, nest_all ho hn (root hn x0 hx0 hpl.2) _ 1 _ _ rfl (start hx0 hpl.1)]
      intro j x hj hx
      have := (parts j x hx).2.2.2.2.2
      rwa [if_neg (by omega)] at this
    · rw [List.all_eq_true] at hb ⊢
      intro x hx
      obtain ⟨k, hk⟩ := List.getElem?_of_mem hx
      obtain ⟨_, _, h3, h4, h5, _⟩ := parts k x hk
      have h6 := hb x hx
      unfold bothS at h6
      rw [Bool.and_eq_true] at h6
      unfold itemB
      rw [h3, h4, h5, h6.1, h6.2]
      rfl
  · rintro ⟨⟨⟨⟨⟨f1, f2⟩, ⟨i1, i2⟩, hid⟩, hh⟩, hne⟩, hb⟩
    have ho := once_of hid
    obtain ⟨hnm, _, _⟩ := (namesF_iff _ _).1 hid
    have hN : ∀ (k : Nat) y, m.items[k]? = some y → isN y.id = true := fun k y hy => hnm y.id (List.mem_map.2 ⟨y, List.mem_of_getElem? hy, rfl⟩)
    have hn : ∀ (k : Nat) y, m.items[k]? = some y → y.id ≠ e0 := fun k y hy => isN_ne (hN k y hy)
    obtain ⟨x0, hx0⟩ := at_lt (l := m.items) (k := 0) (by omega)
    have hcons : m.items = x0 :: m.items.drop 1 := by
      have := drop_at hx0
      rwa [List.drop_zero] at this
    have hp0 : planB x0 = true := by
      rw [hcons] at hh
      exact hh
    have hpl : x0.kind = 1 ∧ x0.parent = e0 := by
      unfold planB at hp0
      simp only [Bool.and_eq_true, decide_eq_true_eq] at hp0
      exact ⟨hp0.1.1.1.1, hp0.1.1.1.2⟩
    have hnest : nestB m.items = nestF [x0.id] (m.items.drop 1) := by
      conv => lhs; rw [hcons]
      rfl
    rw [hnest, nest_all ho hn (root hn x0 hx0 hpl.2) _ 1 _ _ rfl (start hx0 hpl.1)] at hne
    rw [List.all_eq_true] at hb
    have itB : ∀ x ∈ m.items, kindB x.kind = true ∧ ticksB x = true ∧ waitB x = true ∧ sentsB m x.entry = true ∧ sentsB m x.exit = true := by
      intro x hx
      have := hb x hx
      unfold itemB at this
      simp only [Bool.and_eq_true] at this
      exact ⟨this.1.1.1.1, this.1.1.1.2, this.1.1.2, this.1.2, this.2⟩
    refine ⟨⟨⟨⟨⟨f1, i1⟩, i2⟩, f2⟩, ?_⟩, ?_⟩
    · rw [itemsF_iff]
      intro j x hx
      rw [Nat.zero_add]
      obtain ⟨h3, h4, h5, _⟩ := itB x (List.mem_of_getElem? hx)
      unfold itemR
      rw [hN j x hx, decide_eq_true (placeZ_at ho hx), h3, h4, h5]
      by_cases h0 : j = 0
      · subst h0
        rw [if_pos rfl]
        obtain rfl := at_inj hx hx0
        rw [hp0]
        rfl
      · rw [if_neg h0, hne j x (by omega) hx]
        rfl
    · rw [List.all_eq_true]
      intro x hx
      obtain ⟨_, _, _, h6, h7⟩ := itB x hx
      unfold bothS
      rw [h6, h7]
      rfl
end Go.Proofs.YtdcahnaempabcabGreat.Mp
/-
  PLAIN: the ways of a model's items; items by their ways are within one another as they were.
-/
set_option linter.unusedVariables false
set_option linter.unusedSimpArgs false
namespace Go.Proofs.YtdcahnaempabcabGreat.Np
abbrev It := Mp.Item
/-- Items within one another, with their ways. -/
structure Tree (S : It → Prop) (W : BA → List BA) (r : BA) : Prop where
  uniq : ∀ x y, S x → S y → x.id = y.id → x = y
  name : ∀ x, S x → x.id ≠ Mp.e0
  root : ∃ x, S x ∧ x.id = r
  wr : W r = [r]
  top : ∀ x, S x → x.id = r → x.kind = 1 ∧ x.parent = Mp.e0
  kid : ∀ x, S x → x.id ≠ r → ∃ y, S y ∧ y.id = x.parent ∧ y.kind = 1 ∧ W x.id = W y.id ++ [x.id]
  len : ∀ x, S x → (W x.id).length ≤ 6
section
variable {S : It → Prop} {W : BA → List BA} {r : BA}
theorem Tree.last (h : Tree S W r) {x : It} (hx : S x) : ∃ p, W x.id = p ++ [x.id] := by
  by_cases e : x.id = r
  · exact ⟨[], by rw [e, h.wr]; rfl⟩
  · obtain ⟨y, _, _, _, hy⟩ := h.kid x hx e
    exact ⟨_, hy⟩
theorem Tree.inj (h : Tree S W r) {x y : It} (hx : S x) (hy : S y) (e : W x.id = W y.id) : x = y := by
  obtain ⟨p, hp⟩ := h.last hx
  obtain ⟨q, hq⟩ := h.last hy
  rw [hp, hq] at e
  have := (List.append_inj' e rfl).2
  exact h.uniq x y hx hy (by simpa using this)
/-- Each beginning of a way is the way of an item. -/
theorem Tree.pre (h : Tree S W r) : ∀ (n : Nat) (x : It), S x → (W x.id).length ≤ n → ∀ q, q < (W x.id).length → ∃ z, S z ∧ W z.id = (W x.id).take (q + 1) ∧ (W x.id)[q]? = some z.id
  | 0, x, hx, hn, q, hq => by omega
  | n + 1, x, hx, hn, q, hq => by
    obtain ⟨p, hp⟩ := h.last hx
    by_cases hl : q + 1 = (W x.id).length
    · refine ⟨x, hx, by rw [hl, List.take_length], ?_⟩
      have : q = p.length := by rw [hp, List.length_append] at hl; simp at hl; omega
      rw [hp, this, List.getElem?_append_right (Nat.le_refl _), Nat.sub_self]
      rfl
    · by_cases e : x.id = r
      · rw [e, h.wr] at hq hl
        simp at hq hl
        omega
      · obtain ⟨y, hy, _, _, hw⟩ := h.kid x hx e
        have hlen : (W x.id).length = (W y.id).length + 1 := by rw [hw, List.length_append]; rfl
        obtain ⟨z, hz, h1, h2⟩ := h.pre n y hy (by omega) q (by omega)
        refine ⟨z, hz, ?_, ?_⟩
        · rw [h1, hw, List.take_append_of_le_length (by omega)]
        · rw [hw, List.getElem?_append_left (by omega)]
          exact h2
theorem Tree.nodup (h : Tree S W r) {x : It} (hx : S x) {i j : Nat} {s : BA} (hi : (W x.id)[i]? = some s) (hj : (W x.id)[j]? = some s) : i = j := by
  have li := (List.getElem?_eq_some_iff.1 hi).1
  have lj := (List.getElem?_eq_some_iff.1 hj).1
  obtain ⟨z, hz, h1, h2⟩ := h.pre _ x hx (Nat.le_refl _) i li
  obtain ⟨z', hz', h1', h2'⟩ := h.pre _ x hx (Nat.le_refl _) j lj
  have e : z = z' := h.uniq z z' hz hz' (by rw [hi] at h2; rw [hj] at h2'; exact (Option.some.inj h2).symm.trans (Option.some.inj h2'))
  subst e
  have := congrArg List.length (h1.symm.trans h1')
  rw [List.length_take, List.length_take] at this
  omega
theorem Tree.pos (h : Tree S W r) {x : It} (hx : S x) : 1 ≤ (W x.id).length := by
  obtain ⟨p, hp⟩ := h.last hx
  rw [hp, List.length_append]
  simp
end
/-! ### Beginnings and the order of rows -/
theorem rowC_pre {α : Type} {c : α → α → Int} (h : Tot c) : ∀ (a b : List α), b ≠ [] → rowC c a (a ++ b) < 0
  | [], [], hb => absurd rfl hb
  | [], _ :: _, _ => by simp [rowC]
  | x :: a, b, hb => by
    rw [List.cons_append, rowC, h.self, or2, if_pos rfl]
    exact rowC_pre h a b hb
/-- What stands between a row and that row with one more begins with it. -/
theorem rowC_mid {α : Type} {c : α → α → Int} (h : Tot c) : ∀ (a v : List α) (z : α), rowC c a v ≤ 0 → rowC c v (a ++ [z]) < 0 → ∃ t, v = a ++ t
  | [], v, z, _, _ => ⟨v, rfl⟩
  | x :: a, [], z, h1, h2 => by simp [rowC] at h1
  | x :: a, y :: v, z, h1, h2 => by
    rw [rowC] at h1
    rw [List.cons_append, rowC] at h2
    unfold or2 at h1 h2
    have ha := h.anti x y
    by_cases e : c x y = 0
    · rw [if_pos e] at h1
      rw [if_pos (by omega)] at h2
      obtain ⟨t, rfl⟩ := rowC_mid h a v z h1 h2
      exact ⟨t, by rw [(h.eq0 x y).1 e]; rfl⟩
    · rw [if_neg e] at h1
      rw [if_neg (by omega)] at h2
      omega
abbrev ltC (c : BA → BA → Int) (W : BA → List BA) (a b : It) : Prop := rowC c (W a.id) (W b.id) < 0
abbrev ltW (W : BA → List BA) (a b : It) : Prop := ltC cmpS W a b
theorem idx_at {op : List BA} {s : BA} {q : Nat} (h : op[q]? = some s) (hn : ∀ i, op[i]? = some s → i = q) : Mp.idx op s = some q := by
  unfold Mp.idx
  refine Mp.find_some h (decide_eq_true rfl) fun j y hj hy => decide_eq_false fun e => ?_
  subst e
  have := hn j hy
  omega
/-- Items that stand by their ways: each in one that is open. -/
theorem nest_sorted {c : BA → BA → Int} (hc : Tot c) {W : BA → List BA} {r : BA} {L : List It} (h : Tree (· ∈ L) W r) : ∀ (rest pre : List It) (y : It), L = pre ++ y :: rest → L.Pairwise (ltC c W) → Mp.nestF (if y.kind = 1 then W y.id else (W y.id).dropLast) rest = true
  | [], pre, y, _, _ => by rw [Mp.nestF]
  | x :: rest, pre, y, hL, hs => by
    have hyL : y ∈ L := by rw [hL]; simp
    have hxL : x ∈ L := by rw [hL]; simp
    have hs' := hs
    rw [hL, List.pairwise_append] at hs'
    obtain ⟨hp1, hp2, hp3⟩ := hs'
    rw [List.pairwise_cons] at hp2
    obtain ⟨hp4, hp5⟩ := hp2
    rw [List.pairwise_cons] at hp5
    have hyx : ltC c W y x := hp4 x List.mem_cons_self
    have hself : ∀ z : It, ¬ ltC c W z z := fun z hz => by unfold ltC at hz; rw [hc.row.self] at hz; omega
    have hanti : ∀ a b : It, ltC c W a b → ¬ ltC c W b a := fun a b h1 h2 => by
      unfold ltC at h1 h2
      have := hc.row.anti (W a.id) (W b.id)
      omega
    have hxr : x.id ≠ r := by
      intro e
      obtain ⟨p, hp⟩ := h.last hyL
      by_cases ey : y.id = r
      · have : x = y := h.uniq x y hxL hyL (by rw [e, ey])
        subst this
        exact hself x hyx
      · obtain ⟨z, hz, h1, h2⟩ := h.pre _ y hyL (Nat.le_refl _) 0 (by have := h.pos hyL; omega)
        have hzl := h.last hz
        obtain ⟨q, hq⟩ := hzl
        have hz1 : W z.id = [z.id] := by
          have hl : (W z.id).length = 1 := by rw [h1, List.length_take]; have := h.pos hyL; omega
          rw [hq, List.length_append] at hl
          simp at hl
          rw [hq, hl]
          rfl
        have hzr : z.id = r := by
          by_cases ez : z.id = r
          · exact ez
          · obtain ⟨y', hy', _, _, hw⟩ := h.kid z hz ez
            rw [hz1] at hw
            have l1 := congrArg List.length hw
            rw [List.length_append] at l1
            have l2 := h.pos hy'
            simp only [List.length_cons, List.length_nil] at l1
            omega
        have : ltC c W x y := by
          unfold ltC
          rw [e, h.wr]
          have hh := List.take_append_drop 1 (W y.id)
          rw [← h1, hz1, hzr] at hh
          rw [← hh]
          refine rowC_pre hc _ _ fun e0 => ?_
          rw [e0] at hh
          have : y = z := h.inj hyL hz (by rw [← hh, hz1, hzr]; rfl)
          exact ey (by rw [this]; exact hzr)
        exact hanti _ _ this hyx
    obtain ⟨y', hy', hid, hk1, hw⟩ := h.kid x hxL hxr
    have hy'x : ltC c W y' x := by unfold ltC; rw [hw]; exact rowC_pre hc _ _ (by simp)
    have hle : rowC c (W y'.id) (W y.id) ≤ 0 := by
      have hm := hy'
      rw [hL, List.mem_append, List.mem_cons] at hm
      rcases hm with hm | rfl | hm
      · exact Int.le_of_lt (hp3 y' hm y List.mem_cons_self)
      · rw [hc.row.self]; omega
      · rcases List.mem_cons.1 hm with rfl | hm
        · exact absurd hy'x (hself _)
        · exact absurd hy'x (hanti _ _ (hp5.1 y' hm))
    obtain ⟨t, ht⟩ := rowC_mid hc (W y'.id) (W y.id) x.id hle (by unfold ltC at hyx; rw [hw] at hyx; exact hyx)
    obtain ⟨op, hop⟩ : ∃ op, (if y.kind = 1 then W y.id else (W y.id).dropLast) = op := ⟨_, rfl⟩
    have hpre : ∃ t', op = W y'.id ++ t' := by
      rw [← hop]
      split
      · exact ⟨t, ht⟩
      · rename_i hk
        have hne : t ≠ [] := by
          intro e0
          rw [e0, List.append_nil] at ht
          have : y = y' := h.inj hyL hy' ht
          rw [this] at hk
          exact hk hk1
        exact ⟨t.dropLast, by rw [ht, List.dropLast_append_of_ne_nil hne]⟩
    obtain ⟨t', ht'⟩ := hpre
    have hsub : ∀ (i : Nat) s, op[i]? = some s → (W y.id)[i]? = some s := by
      intro i s hi
      rw [← hop] at hi
      split at hi
      · exact hi
      · rw [List.getElem?_dropLast] at hi
        split at hi
        · exact hi
        · cases hi
    obtain ⟨p, hp⟩ := h.last hy'
    have hpl : (W y'.id).length = p.length + 1 := by rw [hp, List.length_append]; rfl
    have hat : op[p.length]? = some x.parent := by
      rw [ht', List.getElem?_append_left (by omega), hp, List.getElem?_append_right (Nat.le_refl _), Nat.sub_self, ← hid]
      rfl
    have hidx : Mp.idx op x.parent = some p.length := idx_at hat fun i hi => h.nodup hyL (hsub i _ hi) (hsub _ _ hat)
    have hlen := h.len x hxL
    rw [hw, List.length_append] at hlen
    have hlen' : (W y'.id).length + 1 ≤ 6 := hlen
    rw [hop, Mp.nestF, hidx]
    dsimp only
    rw [if_neg (by omega)]
    have htk : op.take (p.length + 1) = W y'.id := by rw [← hpl, ht', List.take_left]
    rw [htk]
    have := nest_sorted hc h rest (pre ++ [y]) x (by rw [hL]; simp) hs
    rw [hw] at this
    rw [List.dropLast_concat] at this
    exact this
/-- Two trees of the same items have the same ways. -/
theorem ways_one {S S' : It → Prop} {W W' : BA → List BA} {r r' : BA} (h : Tree S W r) (h' : Tree S' W' r') (hh : ∀ x', S' x' → ∃ x, S x ∧ x.id = x'.id ∧ x.parent = x'.parent) : ∀ (n : Nat) x', S' x' → (W' x'.id).length ≤ n → W' x'.id = W x'.id
  | 0, x', hx, hn => by have := h'.pos hx; omega
  | n + 1, x', hx, hn => by
    obtain ⟨x, sx, e1, e2⟩ := hh x' hx
    by_cases e : x'.id = r'
    · have hp := (h'.top x' hx e).2
      have : x.id = r := by
        by_cases er : x.id = r
        · exact er
        · obtain ⟨y, hy, hy1, _⟩ := h.kid x sx er
          exact absurd (by rw [hy1, e2, hp]) (h.name y hy)
      rw [← e1, this, h.wr, ← this, e1, e, h'.wr]
    · obtain ⟨y', hy', h1, h2, h3⟩ := h'.kid x' hx e
      have hne : x.id ≠ r := by
        intro er
        have := (h.top x sx er).2
        rw [e2, ← h1] at this
        exact h'.name y' hy' this
      obtain ⟨y, hy, k1, k2, k3⟩ := h.kid x sx hne
      have hlen : (W' x'.id).length = (W' y'.id).length + 1 := by rw [h3, List.length_append]; rfl
      have ih := ways_one h h' hh n y' hy' (by omega)
      rw [h3, ih, ← e1, k3, k1, h1, e2, e1]
end Go.Proofs.YtdcahnaempabcabGreat.Np
/-
  PLAIN: a model that may be is a tree; in its order it may be, too.
-/
set_option linter.unusedVariables false
set_option linter.unusedSimpArgs false
namespace Go.Proofs.YtdcahnaempabcabGreat.Np
theorem parts_of {m : Mp.Model} (h : Mp.isB m = true) : 1 ≤ m.items.length ∧ m.items.length ≤ 16 ∧ Mp.Once m.items ∧ ∀ (j : Nat) x, m.items[j]? = some x → x.id ≠ Mp.e0 ∧ Mp.isN x.id = true ∧ Mp.kindB x.kind = true ∧ Mp.ticksB x = true ∧ Mp.waitB x = true ∧ (j = 0 → Mp.planB x = true) ∧ (j ≠ 0 → x.parent ≠ Mp.e0 ∧ 0 ≤ Mp.placeZ m.items x.parent ∧ Mp.placeZ m.items x.parent < j ∧ Mp.kindAt m.items (Mp.placeZ m.items x.parent).toNat = 1 ∧ Mp.depthZ m.items j ≤ 5) := by
  rw [← Mp.is_eq] at h
  unfold Mp.isR at h
  simp only [Bool.and_eq_true, decide_eq_true_eq] at h
  obtain ⟨⟨⟨⟨⟨f1, i1⟩, i2⟩, f2⟩, hit⟩, hb⟩ := h
  have hI := (Mp.itemsF_iff m.items m.items 0).1 hit
  have parts : ∀ (j : Nat) x, m.items[j]? = some x → Mp.isN x.id = true ∧ Mp.placeZ m.items x.id = j ∧ (if j = 0 then Mp.planB x else Mp.nestedR m.items j x) = true ∧ Mp.kindB x.kind = true ∧ Mp.ticksB x = true ∧ Mp.waitB x = true := by
    intro j x hx
    have := hI j x hx
    rw [Nat.zero_add] at this
    unfold Mp.itemR at this
    simp only [Bool.and_eq_true, decide_eq_true_eq] at this
    exact ⟨this.1.1.1.1.1, this.1.1.1.1.2, this.2, this.1.1.1.2, this.1.1.2, this.1.2⟩
  refine ⟨i1, i2, fun i j x y hx hy e => ?_, fun j x hx => ?_⟩
  · have h1 := (parts i x hx).2.1
    have h2 := (parts j y hy).2.1
    rw [e, h2] at h1
    omega
  · obtain ⟨h1, _, h3, h4, h5, h6⟩ := parts j x hx
    refine ⟨Mp.isN_ne h1, h1, h4, h5, h6, fun h0 => ?_, fun h0 => ?_⟩
    · rw [if_pos h0] at h3
      exact h3
    · rw [if_neg h0] at h3
      unfold Mp.nestedR at h3
      simp only [Bool.and_eq_true, decide_eq_true_eq, Bool.not_eq_true', decide_eq_false_iff_not] at h3
      exact ⟨h3.1.1.1.1.1.1, h3.1.1.1.1.1.2, h3.1.1.1.1.2, h3.1.1.1.2, h3.2⟩
theorem placeO_of {l : List It} {s : BA} {p : Int} (h : Mp.placeZ l s = p) (hp : 0 ≤ p) : Mp.placeO l s = some p.toNat := by
  unfold Mp.placeZ at h
  cases h1 : Mp.placeO l s with
  | none => rw [h1] at h; dsimp only at h; omega
  | some k => rw [h1] at h; dsimp only at h; rw [← h, Int.toNat_natCast]
theorem placeO_at {l : List It} (ho : Mp.Once l) {i : Nat} {x : It} (h : l[i]? = some x) : Mp.placeO l x.id = some i := by
  have := placeO_of (Mp.placeZ_at ho h) (by omega)
  rwa [Int.toNat_natCast] at this
def W (l : List It) (s : BA) : List BA := match Mp.placeO l s with
  | some j => ((ways l)[j]?).getD []
  | none => []
theorem W_at {l : List It} (ho : Mp.Once l) {j : Nat} {x : It} (h : l[j]? = some x) : (ways l)[j]? = some (W l x.id) := by
  unfold W
  rw [placeO_at ho h]
  dsimp only
  rw [ways_at h]
  rfl
theorem W_kid {l : List It} (ho : Mp.Once l) {j p : Nat} {x y : It} (h : l[j]? = some x) (hy : l[p]? = some y) (hp : Mp.placeZ l x.parent = p) (hlt : p < j) : W l x.id = W l y.id ++ [x.id] := by
  have h1 := W_at ho h
  rw [ways_at h] at h1
  rw [← Option.some.inj h1]
  unfold wayF
  rw [placeO_of hp (by omega), Int.toNat_natCast]
  dsimp only
  rw [List.getElem?_take, if_pos hlt, W_at ho hy]
  rfl
theorem W_root {l : List It} (ho : Mp.Once l) {j : Nat} {x : It} (h : l[j]? = some x) (hn : Mp.placeO l x.parent = none) : W l x.id = [x.id] := by
  have h1 := W_at ho h
  rw [ways_at h] at h1
  rw [← Option.some.inj h1]
  unfold wayF
  rw [hn]
  rfl
theorem depth_W {l : List It} (ho : Mp.Once l) (hp : ∀ (j : Nat) x, l[j]? = some x → (j = 0 → W l x.id = [x.id]) ∧ (j ≠ 0 → ∃ (p : Nat) (y : It), l[p]? = some y ∧ Mp.placeZ l x.parent = p ∧ p < j)) : ∀ (f j n : Nat) (x : It), l[j]? = some x → j < f → Mp.depthG l f j n + 1 = ((n + (W l x.id).length : Nat) : Int)
  | 0, j, n, x, _, h => by omega
  | f + 1, j, n, x, hx, h => by
    rw [Mp.depthG]
    by_cases h0 : j = 0
    · subst h0
      rw [if_neg (by omega), if_neg (by omega), (hp 0 x hx).1 rfl]
      simp
    · obtain ⟨p, y, hy, hpz, hlt⟩ := (hp j x hx).2 h0
      rw [if_pos (by omega), Mp.upZ_at hx, hpz, depth_W ho hp f p (n + 1) y hy (by omega), W_kid ho hx hy hpz hlt, List.length_append, List.length_singleton]
      omega
theorem ways_W {l : List It} (ho : Mp.Once l) : ways l = l.map fun x => W l x.id := by
  refine List.ext_getElem? fun j => ?_
  cases h : l[j]? with
  | none => rw [List.getElem?_eq_none (by rw [ways_length]; exact List.getElem?_eq_none_iff.1 h), List.getElem?_map, h]; rfl
  | some x => rw [W_at ho h, List.getElem?_map, h]; rfl
/-- The plan's own ID. -/
def top (l : List It) : BA := match l with
  | [] => Mp.e0
  | x :: _ => x.id
theorem tree_of {m : Mp.Model} (h : Mp.isB m = true) : Tree (· ∈ m.items) (W m.items) (top m.items) := by
  obtain ⟨i1, i2, ho, hp⟩ := parts_of h
  obtain ⟨x0, hx0⟩ := Mp.at_lt (l := m.items) (k := 0) (by omega)
  have htop : top m.items = x0.id := by
    unfold top
    cases hm : m.items with
    | nil => rw [hm] at hx0; simp at hx0
    | cons a r => rw [hm] at hx0; simp at hx0; rw [hx0]
  have hnone : ∀ x : It, x.parent = Mp.e0 → Mp.placeO m.items x.parent = none := fun x hx => by
    unfold Mp.placeO
    rw [hx]
    exact Mp.find_none (p := fun y : It => decide (y.id = Mp.e0)) (fun j y hy => decide_eq_false (hp j y hy).1)
  have plan : ∀ x : It, Mp.planB x = true → x.kind = 1 ∧ x.parent = Mp.e0 := fun x hx => by
    unfold Mp.planB at hx
    simp only [Bool.and_eq_true, decide_eq_true_eq] at hx
    exact ⟨hx.1.1.1.1, hx.1.1.1.2⟩
  have hroot : ∀ (j : Nat) x, m.items[j]? = some x → j = 0 → W m.items x.id = [x.id] := fun j x hx h0 => W_root ho hx (hnone x (plan x ((hp j x hx).2.2.2.2.2.1 h0)).2)
  have hpar : ∀ (j : Nat) x, m.items[j]? = some x → j ≠ 0 → ∃ (p : Nat) (y : It), m.items[p]? = some y ∧ Mp.placeZ m.items x.parent = p ∧ p < j := fun j x hx h0 => by
    obtain ⟨_, k1, k2, _, _⟩ := (hp j x hx).2.2.2.2.2.2 h0
    obtain ⟨p, hpp⟩ : ∃ p : Nat, Mp.placeZ m.items x.parent = p := ⟨(Mp.placeZ m.items x.parent).toNat, by omega⟩
    obtain ⟨y, hy, _⟩ := Mp.placeZ_inv hpp
    exact ⟨p, y, hy, hpp, by omega⟩
  have hj0 : ∀ (j : Nat) x, m.items[j]? = some x → x.id = top m.items → j = 0 := fun j x hx e => ho j 0 x x0 hx hx0 (by rw [e, htop])
  refine ⟨fun x y hx hy e => ?_, fun x hx => ?_, ⟨x0, List.mem_of_getElem? hx0, htop.symm⟩, ?_, fun x hx e => ?_, fun x hx e => ?_, fun x hx => ?_⟩
  · obtain ⟨i, hi⟩ := List.getElem?_of_mem hx
    obtain ⟨j, hj⟩ := List.getElem?_of_mem hy
    have := ho i j x y hi hj e
    subst this
    rw [hi] at hj
    exact Option.some.inj hj
  · obtain ⟨i, hi⟩ := List.getElem?_of_mem hx
    exact (hp i x hi).1
  · rw [htop]
    exact hroot 0 x0 hx0 rfl
  · obtain ⟨i, hi⟩ := List.getElem?_of_mem hx
    exact plan x ((hp i x hi).2.2.2.2.2.1 (hj0 i x hi e))
  · obtain ⟨i, hi⟩ := List.getElem?_of_mem hx
    have h0 : i ≠ 0 := fun h0 => by
      subst h0
      rw [hx0] at hi
      cases hi
      exact e htop.symm
    obtain ⟨p, y, hy, hpz, hlt⟩ := hpar i x hi h0
    obtain ⟨_, _, _, hk, _⟩ := (hp i x hi).2.2.2.2.2.2 h0
    obtain ⟨y', hy', e'⟩ := Mp.placeZ_inv hpz
    rw [hy] at hy'
    cases hy'
    rw [hpz, Int.toNat_natCast, Mp.kindAt_at hy] at hk
    exact ⟨y, List.mem_of_getElem? hy, e', hk, W_kid ho hi hy hpz hlt⟩
  · obtain ⟨i, hi⟩ := List.getElem?_of_mem hx
    by_cases h0 : i = 0
    · rw [hroot i x hi h0]; simp
    · have hd := ((hp i x hi).2.2.2.2.2.2 h0).2.2.2.2
      have := depth_W ho (fun j x hx => ⟨hroot j x hx, hpar j x hx⟩) (m.items.length + 1) i 0 x hi (by have := (List.getElem?_eq_some_iff.1 hi).1; omega)
      unfold Mp.depthZ at hd
      omega
/-! ### A model's items in order -/
theorem zip_map {α β : Type} (f : α → β) : ∀ l : List α, (l.map f).zip l = l.map fun x => (f x, x)
  | [] => rfl
  | a :: l => by rw [List.map_cons, List.map_cons, List.zip_cons_cons, zip_map f l]
theorem byWay_eq {l : List It} (ho : Mp.Once l) : byWay l = (l.map fun x => (W l x.id, x)).mergeSort (leC wayC) := by
  unfold byWay
  rw [ways_W ho, zip_map]
theorem byWay_perm {l : List It} (ho : Mp.Once l) : (byWay l).Perm (l.map fun x => (W l x.id, x)) := by
  rw [byWay_eq ho]
  exact List.mergeSort_perm _ _
theorem byWay_snd {l : List It} (ho : Mp.Once l) : ((byWay l).map Prod.snd).Perm l := by
  have := (byWay_perm ho).map Prod.snd
  rw [List.map_map] at this
  have e : (l.map (Prod.snd ∘ fun x => (W l x.id, x))) = l := by
    have : (Prod.snd ∘ fun x : It => (W l x.id, x)) = id := rfl
    rw [this, List.map_id]
  rwa [e] at this
theorem byWay_mem {l : List It} (ho : Mp.Once l) {p : List BA × It} (h : p ∈ byWay l) : p.1 = W l p.2.id ∧ p.2 ∈ l := by
  have := (byWay_perm ho).mem_iff.1 h
  obtain ⟨x, hx, rfl⟩ := List.mem_map.1 this
  exact ⟨rfl, hx⟩
theorem nodup_at {α : Type} {l : List α} : l.Nodup ↔ ∀ i j : Nat, i < j → j < l.length → l[i]? ≠ l[j]? := by
  unfold List.Nodup
  rw [List.pairwise_iff_getElem]
  constructor
  · intro h i j hij hj e
    rw [List.getElem?_eq_getElem (by omega), List.getElem?_eq_getElem hj] at e
    exact h i j (by omega) hj hij (Option.some.inj e)
  · intro h i j hi hj hij e
    exact h i j hij hj (by rw [List.getElem?_eq_getElem hi, List.getElem?_eq_getElem hj, e])
theorem nodup_ids {l : List It} (ho : Mp.Once l) : (l.map (·.id)).Nodup := by
  rw [nodup_at]
  intro i j hij hj e
  rw [List.length_map] at hj
  obtain ⟨x, hx⟩ := Mp.at_lt (l := l) (k := i) (by omega)
  obtain ⟨y, hy⟩ := Mp.at_lt (l := l) (k := j) hj
  rw [List.getElem?_map, List.getElem?_map, hx, hy] at e
  have := ho i j x y hx hy (Option.some.inj e)
  omega
theorem once_nodup {l : List It} (h : (l.map (·.id)).Nodup) : Mp.Once l := by
  intro i j x y hx hy e
  rw [nodup_at] at h
  have hi := (List.getElem?_eq_some_iff.1 hx).1
  have hj := (List.getElem?_eq_some_iff.1 hy).1
  have ex : (l.map (·.id))[i]? = some x.id := by rw [List.getElem?_map, hx]; rfl
  have ey : (l.map (·.id))[j]? = some x.id := by rw [List.getElem?_map, hy, e]; rfl
  rcases Nat.lt_trichotomy i j with a | a | a
  · exact absurd (ex.trans ey.symm) (h i j a (by rw [List.length_map]; exact hj))
  · exact a
  · exact absurd (ey.trans ex.symm) (h j i a (by rw [List.length_map]; exact hi))
theorem itemN_id (x : It) : (itemN x).id = x.id := rfl
theorem itemN_kind (x : It) : (itemN x).kind = x.kind := rfl
theorem itemN_parent (x : It) : (itemN x).parent = x.parent := rfl
theorem itemsN_eq (l : List It) : itemsN l = ((byWay l).map Prod.snd).map itemN := by unfold itemsN; rw [List.map_map]; rfl
theorem itemsN_perm {l : List It} (ho : Mp.Once l) : (itemsN l).Perm (l.map itemN) := by
  rw [itemsN_eq]
  exact (byWay_snd ho).map itemN
theorem itemsN_ids {l : List It} (ho : Mp.Once l) : ((itemsN l).map (·.id)).Perm (l.map (·.id)) := by
  have := (itemsN_perm ho).map (·.id)
  rw [List.map_map] at this
  exact this
theorem itemsN_once {l : List It} (ho : Mp.Once l) : Mp.Once (itemsN l) := once_nodup ((itemsN_ids ho).nodup_iff.2 (nodup_ids ho))
theorem itemsN_length {l : List It} (ho : Mp.Once l) : (itemsN l).length = l.length := by
  have := (itemsN_perm ho).length_eq
  rwa [List.length_map] at this
theorem mem_itemsN {l : List It} (ho : Mp.Once l) {y : It} : y ∈ itemsN l ↔ ∃ x ∈ l, itemN x = y := by
  rw [(itemsN_perm ho).mem_iff, List.mem_map]
theorem Tree.norm {l : List It} (ho : Mp.Once l) {V : BA → List BA} {r : BA} (h : Tree (· ∈ l) V r) : Tree (· ∈ itemsN l) V r where
  uniq x y hx hy e := by
    obtain ⟨x', hx', rfl⟩ := (mem_itemsN ho).1 hx
    obtain ⟨y', hy', rfl⟩ := (mem_itemsN ho).1 hy
    rw [h.uniq x' y' hx' hy' e]
  name x hx := by
    obtain ⟨x', hx', rfl⟩ := (mem_itemsN ho).1 hx
    exact h.name x' hx'
  root := by
    obtain ⟨x, hx, e⟩ := h.root
    exact ⟨itemN x, (mem_itemsN ho).2 ⟨x, hx, rfl⟩, e⟩
  wr := h.wr
  top x hx e := by
    obtain ⟨x', hx', rfl⟩ := (mem_itemsN ho).1 hx
    exact h.top x' hx' e
  kid x hx e := by
    obtain ⟨x', hx', rfl⟩ := (mem_itemsN ho).1 hx
    obtain ⟨y, hy, h1, h2, h3⟩ := h.kid x' hx' e
    exact ⟨itemN y, (mem_itemsN ho).2 ⟨y, hy, rfl⟩, h1, h2, h3⟩
  len x hx := by
    obtain ⟨x', hx', rfl⟩ := (mem_itemsN ho).1 hx
    exact h.len x' hx'
theorem sorted_of {l : List It} {r : BA} (ho : Mp.Once l) (h : Tree (· ∈ l) (W l) r) : (itemsN l).Pairwise (ltW (W l)) := by
  have h1 : (byWay l).Pairwise (fun a b => leC wayC a b = true) := by
    unfold byWay
    exact List.pairwise_mergeSort wayC_tr wayC_to _
  have h2 : ((byWay l).map fun p => p.2.id).Nodup := by
    have := (byWay_snd ho).map (·.id)
    rw [List.map_map] at this
    exact this.nodup_iff.2 (nodup_ids ho)
  unfold itemsN
  rw [List.pairwise_map]
  refine (h1.and (List.pairwise_map.1 h2)).imp_of_mem fun {a b} ha hb hab => ?_
  obtain ⟨a1, a2⟩ := byWay_mem ho ha
  obtain ⟨b1, b2⟩ := byWay_mem ho hb
  obtain ⟨h3, h4⟩ := hab
  unfold ltW ltC
  rw [itemN_id, itemN_id, ← a1, ← b1]
  unfold leC ltOf at h3
  have h5 := cmpS_tot.row.anti a.1 b.1
  have h6 : rowC cmpS a.1 b.1 ≠ 0 := fun e => by
    have e1 := (cmpS_tot.row.eq0 _ _).1 e
    rw [a1, b1] at e1
    have := h.inj a2 b2 e1
    exact h4 (by rw [this])
  simp only [Bool.not_eq_true', decide_eq_false_iff_not] at h3
  have h3' : ¬ rowC cmpS b.1 a.1 < 0 := h3
  omega
end Go.Proofs.YtdcahnaempabcabGreat.Np
/-
  PLAIN: a model that may be, in its order, may be; its order is one of all that has the same items.
-/
set_option linter.unusedVariables false
set_option linter.unusedSimpArgs false
namespace Go.Proofs.YtdcahnaempabcabGreat.Np
theorem has_mem {α : Type} [DecidableEq α] (l : List α) (s : α) : Mp.has l s = true ↔ s ∈ l := by
  rw [Mp.has_iff, List.mem_iff_getElem?]
theorem names_iff : ∀ (l seen : List BA), Mp.namesF seen l = true ↔ (∀ s ∈ l, Mp.isN s = true) ∧ (∀ s ∈ l, s ∉ seen) ∧ l.Nodup
  | [], seen => by simp [Mp.namesF]
  | a :: l, seen => by
    rw [Mp.namesF, Bool.and_eq_true, Bool.and_eq_true, names_iff l (seen ++ [a]), List.nodup_cons, Bool.not_eq_true']
    have hh : Mp.has seen a = false ↔ a ∉ seen := by rw [← Bool.not_eq_true, has_mem]
    rw [hh]
    simp only [List.mem_cons, List.mem_append, List.mem_singleton, forall_eq_or_imp]
    constructor
    · rintro ⟨⟨h1, h2⟩, h3, h4, h5⟩
      exact ⟨⟨h1, h3⟩, ⟨h2, fun s hs h => h4 s hs (.inl h)⟩, fun h => h4 a h (.inr (by simp)), h5⟩
    · rintro ⟨⟨h1, h3⟩, ⟨h2, h4⟩, h6, h5⟩
      refine ⟨⟨h1, h2⟩, h3, fun s hs h => ?_, h5⟩
      rcases h with h | h
      · exact h4 s hs h
      · rcases h with rfl | h
        · exact h6 hs
        · simp at h
theorem names_perm {l l' : List BA} (h : l.Perm l') : Mp.namesF [] l = Mp.namesF [] l' := by
  rw [Bool.eq_iff_iff, names_iff, names_iff]
  constructor <;> rintro ⟨h1, h2, h3⟩
  · exact ⟨fun s hs => h1 s (h.mem_iff.2 hs), fun s hs => by simp, h.nodup_iff.1 h3⟩
  · exact ⟨fun s hs => h1 s (h.mem_iff.1 hs), fun s hs => by simp, h.nodup_iff.2 h3⟩
theorem ons_iff (l : List It) : ∀ (r seen : List Mp.On), Mp.onsF l seen r = true ↔ (∀ o ∈ r, Mp.onLegal l o = true) ∧ (∀ o ∈ r, o ∉ seen) ∧ r.Nodup
  | [], seen => by simp [Mp.onsF]
  | a :: r, seen => by
    rw [Mp.onsF, Bool.and_eq_true, Bool.and_eq_true, ons_iff l r (seen ++ [a]), List.nodup_cons, Bool.not_eq_true']
    have hh : Mp.has seen a = false ↔ a ∉ seen := by rw [← Bool.not_eq_true, has_mem]
    rw [hh]
    simp only [List.mem_cons, List.mem_append, List.mem_singleton, forall_eq_or_imp]
    constructor
    · rintro ⟨⟨h1, h2⟩, h3, h4, h5⟩
      exact ⟨⟨h1, h3⟩, ⟨h2, fun s hs h => h4 s hs (.inl h)⟩, fun h => h4 a h (.inr (by simp)), h5⟩
    · rintro ⟨⟨h1, h3⟩, ⟨h2, h4⟩, h6, h5⟩
      refine ⟨⟨h1, h2⟩, h3, fun s hs h => ?_, h5⟩
      rcases h with h | h
      · exact h4 s hs h
      · rcases h with rfl | h
        · exact h6 hs
        · simp at h
theorem legal_iff {l : List It} (ho : Mp.Once l) (o : Mp.On) : Mp.onLegal l o = true ↔ ∃ x ∈ l, x.id = o.1 ∧ Mp.legalB x.kind o.2 = true := by
  unfold Mp.onLegal
  constructor
  · intro h
    cases hp : Mp.placeO l o.1 with
    | none => rw [hp] at h; cases h
    | some k =>
      rw [hp] at h
      dsimp only at h
      obtain ⟨x, hx, he, _⟩ := Mp.find_some_inv hp
      rw [hx] at h
      exact ⟨x, List.mem_of_getElem? hx, of_decide_eq_true he, h⟩
  · rintro ⟨x, hx, e, h⟩
    obtain ⟨k, hk⟩ := List.getElem?_of_mem hx
    rw [← e, placeO_at ho hk]
    dsimp only
    rw [hk]
    exact h
theorem legal_norm {l : List It} (ho : Mp.Once l) (o : Mp.On) (h : Mp.onLegal l o = true) : Mp.onLegal (itemsN l) o = true := by
  rw [legal_iff ho] at h
  rw [legal_iff (itemsN_once ho)]
  obtain ⟨x, hx, h1, h2⟩ := h
  exact ⟨itemN x, (mem_itemsN ho).2 ⟨x, hx, rfl⟩, h1, h2⟩
theorem sentsN_nil : sentsN [] = [] := by unfold sentsN sortU sortC; simp [cpt]
theorem mem_sentsN {l : List Mp.Sent} {s : Mp.Sent} : s ∈ sentsN l ↔ ∃ t ∈ l, sentN t = s := by
  unfold sentsN
  rw [mem_sortU sentC_tot, List.mem_map]
theorem sentN_sentN (s : Mp.Sent) : sentN (sentN s) = sentN s := by
  unfold sentN
  rw [sortC_id onC_tot (sortC_pw onC_tot _), sortU_id condC_tot (sortU_pw condC_tot _)]
theorem sentsN_sentsN (l : List Mp.Sent) : sentsN (sentsN l) = sentsN l := by
  have h1 : (sentsN l).map sentN = sentsN l := by
    have : (sentsN l).map sentN = (sentsN l).map id := List.map_congr_left fun s hs => by
      obtain ⟨t, _, rfl⟩ := mem_sentsN.1 hs
      exact sentN_sentN t
    rw [this, List.map_id]
  have h2 : sentsN (sentsN l) = sortU sentC ((sentsN l).map sentN) := rfl
  rw [h2, h1]
  exact sortU_id sentC_tot (sortU_pw sentC_tot _)
theorem itemN_itemN (x : It) : itemN (itemN x) = itemN x := by
  unfold itemN
  rw [sentsN_sentsN, sentsN_sentsN]
theorem sentB_norm {m : Mp.Model} (ho : Mp.Once m.items) (s : Mp.Sent) (h : Mp.sentB m s = true) : Mp.sentB (normB m) (sentN s) = true := by
  unfold Mp.sentB at h ⊢
  rw [Bool.and_eq_true, Bool.and_eq_true] at h ⊢
  obtain ⟨⟨h1, h2⟩, h3⟩ := h
  refine ⟨⟨?_, ?_⟩, ?_⟩
  · rw [Bool.not_eq_true'] at h1 ⊢
    rw [Bool.and_eq_false_iff] at h1 ⊢
    rcases h1 with h1 | h1
    · left
      rw [decide_eq_false_iff_not] at h1 ⊢
      show ¬ (sortC onC s.1).length = 0
      rw [sortC_length]
      exact h1
    · right
      rw [decide_eq_false_iff_not] at h1 ⊢
      intro e
      have e' : sortU condC s.2 = [] := List.eq_nil_of_length_eq_zero e
      cases hs : s.2 with
      | nil => exact h1 (by rw [hs]; rfl)
      | cons a r =>
        have : a ∈ sortU condC s.2 := (mem_sortU condC_tot).2 (by rw [hs]; exact List.mem_cons_self)
        rw [e'] at this
        simp at this
  · unfold Mp.onB at h2 ⊢
    rw [Bool.and_eq_true, decide_eq_true_eq, ons_iff] at h2 ⊢
    obtain ⟨k1, k2, k3, k4⟩ := h2
    have hp : (sentN s).1.Perm s.1 := sortC_perm onC s.1
    refine ⟨by rw [hp.length_eq]; exact k1, fun o ho' => legal_norm ho o (k2 o (hp.mem_iff.1 ho')), fun o _ => by simp, hp.nodup_iff.2 k4⟩
  · unfold Mp.ifB at h3 ⊢
    rw [Bool.and_eq_true, decide_eq_true_eq, List.all_eq_true] at h3 ⊢
    obtain ⟨k1, k2⟩ := h3
    refine ⟨Nat.le_trans (sortU_length condC s.2) k1, fun c hc => ?_⟩
    have hc' : c ∈ s.2 := (mem_sortU condC_tot).1 hc
    have := k2 c hc'
    unfold Mp.condB at this ⊢
    simp only [Bool.and_eq_true] at this ⊢
    refine ⟨⟨⟨?_, this.1.1.2⟩, this.1.2⟩, this.2⟩
    rw [has_mem]
    exact mem_sortC.2 ((has_mem _ _).1 this.1.1.1)
theorem sentsB_norm {m : Mp.Model} (ho : Mp.Once m.items) (l : List Mp.Sent) (h : Mp.sentsB m l = true) : Mp.sentsB (normB m) (sentsN l) = true := by
  unfold Mp.sentsB at h ⊢
  rw [Bool.and_eq_true, decide_eq_true_eq, List.all_eq_true] at h ⊢
  refine ⟨Nat.le_trans (sentsN_length l) h.1, fun s hs => ?_⟩
  obtain ⟨t, ht, rfl⟩ := mem_sentsN.1 hs
  exact sentB_norm ho t (h.2 t ht)
theorem nilN {l : List Mp.Sent} (h : l.length = 0) : (sentsN l).length = 0 := by
  rw [List.eq_nil_of_length_eq_zero h, sentsN_nil]
  rfl
theorem itemB_norm {m : Mp.Model} (ho : Mp.Once m.items) (x : It) (h : Mp.itemB m x = true) : Mp.itemB (normB m) (itemN x) = true := by
  unfold Mp.itemB at h ⊢
  simp only [Bool.and_eq_true] at h ⊢
  obtain ⟨⟨⟨⟨h1, h2⟩, h3⟩, h4⟩, h5⟩ := h
  refine ⟨⟨⟨⟨h1, h2⟩, ?_⟩, sentsB_norm ho _ h4⟩, sentsB_norm ho _ h5⟩
  unfold Mp.waitB at h3 ⊢
  rw [itemN_kind]
  split
  · rename_i hk
    rw [if_pos hk, Bool.and_eq_true, decide_eq_true_eq] at h3
    rw [Bool.and_eq_true, decide_eq_true_eq]
    exact ⟨h3.1, nilN h3.2⟩
  · rfl
theorem Tree.first {c : BA → BA → Int} (hc : Tot c) {W : BA → List BA} {r : BA} {L : List It} (h : Tree (· ∈ L) W r) {a : It} {rest : List It} (hL : L = a :: rest) (hs : L.Pairwise (ltC c W)) : a.id = r := by
  by_cases e : a.id = r
  · exact e
  have ha : a ∈ L := by rw [hL]; exact List.mem_cons_self
  obtain ⟨y, hy, hyr⟩ := h.root
  have hlt : ltC c W a y := by
    have hs' := hs
    rw [hL, List.pairwise_cons] at hs'
    have hy' : y ∈ L := hy
    rw [hL] at hy'
    rcases List.mem_cons.1 hy' with rfl | hy'
    · exact absurd hyr e
    · exact hs'.1 y hy'
  obtain ⟨z, hz, h1, h2⟩ := h.pre _ a ha (Nat.le_refl _) 0 (by have := h.pos ha; omega)
  obtain ⟨q, hq⟩ := h.last hz
  have hz1 : W z.id = [z.id] := by
    have hl : (W z.id).length = 1 := by rw [h1, List.length_take]; have := h.pos ha; omega
    rw [hq, List.length_append] at hl
    simp at hl
    rw [hq, hl]
    rfl
  have hzr : z.id = r := by
    by_cases ez : z.id = r
    · exact ez
    · obtain ⟨y', hy', _, _, hw⟩ := h.kid z hz ez
      rw [hz1] at hw
      have l1 := congrArg List.length hw
      rw [List.length_append] at l1
      have l2 := h.pos hy'
      simp only [List.length_cons, List.length_nil] at l1
      omega
  have : ltC c W y a := by
    unfold ltC
    rw [hyr, h.wr]
    have hh := List.take_append_drop 1 (W a.id)
    rw [← h1, hz1, hzr] at hh
    rw [← hh]
    refine rowC_pre hc _ _ fun e0 => ?_
    rw [e0] at hh
    have : a = z := h.inj ha hz (by rw [← hh, hz1, hzr]; rfl)
    exact e (by rw [this]; exact hzr)
  unfold ltC at this hlt
  have h3 := hc.row.anti (W a.id) (W y.id)
  omega
theorem isB_norm {m : Mp.Model} (h : Mp.isB m = true) : Mp.isB (normB m) = true := by
  obtain ⟨i1, i2, ho, hp⟩ := parts_of h
  have ht := tree_of h
  have hT := ht.norm ho
  have hS := sorted_of ho ht
  have hlen := itemsN_length ho
  have h' := h
  unfold Mp.isB at h'
  simp only [Bool.and_eq_true] at h'
  obtain ⟨⟨⟨⟨f1, f2⟩, _⟩, _⟩, f5⟩ := h'
  obtain ⟨a, rest, hL⟩ : ∃ a rest, itemsN m.items = a :: rest := by
    cases hh : itemsN m.items with
    | nil => rw [hh] at hlen; simp at hlen; omega
    | cons a r => exact ⟨a, r, rfl⟩
  have hfirst := hT.first cmpS_tot hL hS
  have haL : a ∈ itemsN m.items := by rw [hL]; exact List.mem_cons_self
  unfold Mp.isB
  simp only [Bool.and_eq_true]
  refine ⟨⟨⟨⟨?_, ?_⟩, ?_⟩, ?_⟩, ?_⟩
  · unfold Mp.filesB at f1 ⊢
    rw [Bool.and_eq_true, decide_eq_true_eq] at f1 ⊢
    have hpf : (sortC cmpS m.files).Perm m.files := sortC_perm _ _
    exact ⟨by show (sortC cmpS m.files).length ≤ 6; rw [hpf.length_eq]; exact f1.1, by show Mp.namesF [] (sortC cmpS m.files) = true; rw [names_perm hpf]; exact f1.2⟩
  · unfold Mp.idsB at f2 ⊢
    simp only [Bool.and_eq_true, decide_eq_true_eq] at f2 ⊢
    show (1 ≤ (itemsN m.items).length ∧ (itemsN m.items).length ≤ 16) ∧ Mp.namesF [] ((itemsN m.items).map (·.id)) = true
    rw [hlen, names_perm (itemsN_ids ho)]
    exact f2
  · show Mp.headB (itemsN m.items) = true
    rw [hL]
    show Mp.planB a = true
    obtain ⟨x, hx, rfl⟩ := (mem_itemsN ho).1 haL
    obtain ⟨j, hj⟩ := List.getElem?_of_mem hx
    have hj0 : j = 0 := by
      obtain ⟨x0, hx0⟩ := Mp.at_lt (l := m.items) (k := 0) (by omega)
      refine ho j 0 x x0 hj hx0 ?_
      have h1 : x.id = top m.items := hfirst
      rw [h1]
      unfold top
      cases hm : m.items with
      | nil => rw [hm] at hx0; simp at hx0
      | cons b r => rw [hm] at hx0; simp at hx0; rw [hx0]
    have hpl := (hp j x hj).2.2.2.2.2.1 hj0
    unfold Mp.planB at hpl ⊢
    simp only [Bool.and_eq_true, decide_eq_true_eq] at hpl ⊢
    exact ⟨⟨⟨⟨hpl.1.1.1.1, hpl.1.1.1.2⟩, hpl.1.1.2⟩, nilN hpl.1.2⟩, nilN hpl.2⟩
  · show Mp.nestB (itemsN m.items) = true
    have hn := nest_sorted cmpS_tot hT rest [] a (by rw [hL]; rfl) hS
    rw [if_pos (hT.top a haL hfirst).1, hfirst, hT.wr, ← hfirst] at hn
    rw [hL]
    exact hn
  · rw [List.all_eq_true] at f5 ⊢
    intro y hy
    obtain ⟨x, hx, rfl⟩ := (mem_itemsN ho).1 hy
    exact itemB_norm ho x (f5 x hx)
/-! ### One order -/
theorem ltW_one {c : BA → BA → Int} (hc : Tot c) {W : BA → List BA} {l l' : List It} (h1 : l.Pairwise (ltC c W)) (h2 : l'.Pairwise (ltC c W)) (hm : ∀ y, y ∈ l ↔ y ∈ l') : l = l' := by
  have nd : ∀ {l : List It}, l.Pairwise (ltC c W) → l.Nodup := fun hl => hl.imp fun {a b} hab e => by subst e; unfold ltC at hab; rw [hc.row.self] at hab; omega
  refine List.Perm.eq_of_pairwise (fun a b _ _ x y => ?_) h1 h2 ((List.perm_ext_iff_of_nodup (nd h1) (nd h2)).2 hm)
  unfold ltC at x y
  have := hc.row.anti (W a.id) (W b.id)
  omega
theorem items_one {m m' : Mp.Model} (h : Mp.isB m = true) (h' : Mp.isB m' = true) (hh : ∀ y, (∃ x ∈ m.items, itemN x = y) ↔ ∃ x ∈ m'.items, itemN x = y) : itemsN m.items = itemsN m'.items := by
  have ho := (parts_of h).2.2.1
  have ho' := (parts_of h').2.2.1
  have ht := tree_of h
  have ht' := tree_of h'
  have hw := ways_one ht ht' (fun x' hx' => by
    obtain ⟨x, hx, e⟩ := (hh (itemN x')).2 ⟨x', hx', rfl⟩
    exact ⟨x, hx, (congrArg Mp.Item.id e : (itemN x).id = (itemN x').id), (congrArg Mp.Item.parent e : (itemN x).parent = (itemN x').parent)⟩)
  refine ltW_one cmpS_tot (sorted_of ho ht) ((sorted_of ho' ht').imp_of_mem fun {a b} ha hb hab => ?_) fun y => by rw [mem_itemsN ho, mem_itemsN ho', hh]
  obtain ⟨a', ha', rfl⟩ := (mem_itemsN ho').1 ha
  obtain ⟨b', hb', rfl⟩ := (mem_itemsN ho').1 hb
  unfold ltW ltC at *
  rw [itemN_id, itemN_id] at hab ⊢
  rw [hw _ a' ha' (Nat.le_refl _), hw _ b' hb' (Nat.le_refl _)] at hab
  exact hab
/-- What comes in order is in order. -/
theorem normB_normB {m : Mp.Model} (h : Mp.isB m = true) : normB (normB m) = normB m := by
  have ho := (parts_of h).2.2.1
  have h1 : itemsN (normB m).items = itemsN m.items := items_one (isB_norm h) h fun y => by
    constructor
    · rintro ⟨x, hx, rfl⟩
      obtain ⟨z, hz, rfl⟩ := (mem_itemsN ho).1 hx
      exact ⟨z, hz, (itemN_itemN z).symm⟩
    · rintro ⟨x, hx, rfl⟩
      exact ⟨itemN x, (mem_itemsN ho).2 ⟨x, hx, rfl⟩, itemN_itemN x⟩
  have h2 : sortC cmpS (normB m).files = sortC cmpS m.files := sortC_id cmpS_tot (sortC_pw cmpS_tot _)
  have e : normB (normB m) = ⟨sortC cmpS (normB m).files, itemsN (normB m).items⟩ := rfl
  rw [e, h1, h2]
  rfl
end Go.Proofs.YtdcahnaempabcabGreat.Np
/-
  PLAIN: who goes through a tree from an item down, kids in an order, meets all that stands in it, by its ways.
-/
set_option linter.unusedVariables false
set_option linter.unusedSimpArgs false
namespace Go.Proofs.YtdcahnaempabcabGreat.Np
theorem rowC_split {α : Type} {c : α → α → Int} (h : Tot c) {a b : α} (hab : c a b < 0) (t1 t2 : List α) : ∀ p : List α, rowC c (p ++ a :: t1) (p ++ b :: t2) < 0
  | [] => by
    rw [List.nil_append, List.nil_append, rowC, or2, if_neg (by omega)]
    exact hab
  | x :: p => by
    rw [List.cons_append, List.cons_append, rowC, h.self, or2, if_pos rfl]
    exact rowC_split h hab t1 t2 p
section
variable {l : List It} {W : BA → List BA} {r : BA}
theorem Tree.kid_of (h : Tree (· ∈ l) W r) {x y : It} (hx : x ∈ l) (hy : y ∈ l) (e : y.parent = x.id) : W y.id = W x.id ++ [y.id] := by
  have hne : y.id ≠ r := fun er => h.name x hx (by rw [← e]; exact (h.top y hy er).2)
  obtain ⟨y', hy', h1, _, h3⟩ := h.kid y hy hne
  have : y' = x := h.uniq y' x hy' hx (by rw [h1, e])
  rw [← this]
  exact h3
theorem Tree.of_way (h : Tree (· ∈ l) W r) {x y : It} (hx : x ∈ l) (hy : y ∈ l) (e : W y.id = W x.id ++ [y.id]) : y.parent = x.id := by
  have hne : y.id ≠ r := fun er => by
    have hw := h.wr
    rw [er, hw] at e
    have l1 := congrArg List.length e
    rw [List.length_append] at l1
    have := h.pos hx
    simp only [List.length_cons, List.length_nil] at l1
    omega
  obtain ⟨y', hy', h1, _, h3⟩ := h.kid y hy hne
  rw [e] at h3
  have := (List.append_inj' h3 rfl).1
  have : x = y' := h.inj hx hy' this
  rw [this, h1]
theorem dfs_one {c : BA → BA → Int} (hc : Tot c) (h : Tree (· ∈ l) W r) (g : It → It) (hg : ∀ x, (g x).id = x.id) (K : It → List It) (hK1 : ∀ x ∈ l, (K x).Pairwise (fun a b => c a.id b.id < 0)) (hK2 : ∀ x ∈ l, ∀ y, y ∈ K x ↔ y ∈ l ∧ y.parent = x.id)
    (D : Nat → It → List It) (hD : ∀ f x, x ∈ l → D (f + 1) x = g x :: (K x).flatMap (D f)) :
    ∀ f x, x ∈ l → 7 ≤ f + (W x.id).length → (D f x).Pairwise (ltC c W) ∧ ∀ z', z' ∈ D f x ↔ ∃ z ∈ l, (∃ t, W z.id = W x.id ++ t) ∧ g z = z'
  | 0, x, hx, hf => by have := h.len x hx; omega
  | f + 1, x, hx, hf => by
    have hk : ∀ y ∈ K x, y ∈ l ∧ W y.id = W x.id ++ [y.id] := fun y hy => by
      obtain ⟨h1, h2⟩ := (hK2 x hx y).1 hy
      exact ⟨h1, h.kid_of hx h1 h2⟩
    have ih : ∀ y ∈ K x, (D f y).Pairwise (ltC c W) ∧ ∀ z', z' ∈ D f y ↔ ∃ z ∈ l, (∃ t, W z.id = W y.id ++ t) ∧ g z = z' := fun y hy => by
      obtain ⟨h1, h2⟩ := hk y hy
      exact dfs_one hc h g hg K hK1 hK2 D hD f y h1 (by rw [h2, List.length_append, List.length_singleton]; omega)
    have hw : ∀ y ∈ K x, ∀ z' ∈ D f y, ∃ t, W z'.id = W x.id ++ y.id :: t := fun y hy z' hz => by
      obtain ⟨z, _, ⟨t, ht⟩, rfl⟩ := ((ih y hy).2 z').1 hz
      exact ⟨t, by rw [hg, ht, (hk y hy).2, List.append_assoc]; rfl⟩
    rw [hD f x hx]
    refine ⟨?_, fun z' => ?_⟩
    · rw [List.pairwise_cons]
      refine ⟨fun z' hz => ?_, ?_⟩
      · obtain ⟨y, hy, hz⟩ := List.mem_flatMap.1 hz
        obtain ⟨t, ht⟩ := hw y hy z' hz
        unfold ltC
        rw [hg, ht]
        exact rowC_pre hc _ _ (by simp)
      · rw [List.pairwise_flatMap]
        refine ⟨fun y hy => (ih y hy).1, (hK1 x hx).imp_of_mem fun {a b} ha hb hab => fun z1 hz1 z2 hz2 => ?_⟩
        obtain ⟨t1, h1⟩ := hw a ha z1 hz1
        obtain ⟨t2, h2⟩ := hw b hb z2 hz2
        unfold ltC
        rw [h1, h2]
        exact rowC_split hc hab t1 t2 _
    · rw [List.mem_cons, List.mem_flatMap]
      constructor
      · rintro (rfl | ⟨y, hy, hz⟩)
        · exact ⟨x, hx, ⟨[], (List.append_nil _).symm⟩, rfl⟩
        · obtain ⟨z, hz1, ⟨t, ht⟩, e⟩ := ((ih y hy).2 z').1 hz
          exact ⟨z, hz1, ⟨[y.id] ++ t, by rw [ht, (hk y hy).2, List.append_assoc]⟩, e⟩
      · rintro ⟨z, hz, ⟨t, ht⟩, rfl⟩
        cases t with
        | nil =>
          left
          rw [List.append_nil] at ht
          rw [h.inj hz hx ht]
        | cons s t =>
          right
          have hq : (W x.id).length < (W z.id).length := by rw [ht, List.length_append, List.length_cons]; omega
          obtain ⟨y, hy, h1, h2⟩ := h.pre _ z hz (Nat.le_refl _) _ hq
          have hs : s = y.id := by
            rw [ht, List.getElem?_append_right (Nat.le_refl _), Nat.sub_self] at h2
            exact Option.some.inj h2
          have hyw : W y.id = W x.id ++ [y.id] := by
            rw [h1, ht, List.take_append, List.take_of_length_le (by omega), show (W x.id).length + 1 - (W x.id).length = 1 by omega, hs]
            rfl
          have hyK : y ∈ K x := (hK2 x hx y).2 ⟨hy, h.of_way hx hy hyw⟩
          refine ⟨y, hyK, ((ih y hyK).2 _).2 ⟨z, hz, ⟨t, ?_⟩, rfl⟩⟩
          rw [ht, hyw, hs, List.append_assoc]
          rfl
theorem Tree.all (h : Tree (· ∈ l) W r) {x : It} (hx : x ∈ l) : ∃ t, W x.id = [r] ++ t := by
  obtain ⟨z, hz, h1, h2⟩ := h.pre _ x hx (Nat.le_refl _) 0 (by have := h.pos hx; omega)
  obtain ⟨q, hq⟩ := h.last hz
  have hz1 : W z.id = [z.id] := by
    have hl : (W z.id).length = 1 := by rw [h1, List.length_take]; have := h.pos hx; omega
    rw [hq, List.length_append] at hl
    simp at hl
    rw [hq, hl]
    rfl
  have hzr : z.id = r := by
    by_cases ez : z.id = r
    · exact ez
    · obtain ⟨y', hy', _, _, hw⟩ := h.kid z hz ez
      rw [hz1] at hw
      have l1 := congrArg List.length hw
      rw [List.length_append] at l1
      have l2 := h.pos hy'
      simp only [List.length_cons, List.length_nil] at l1
      omega
  have hh := List.take_append_drop 1 (W x.id)
  rw [← h1, hz1, hzr] at hh
  exact ⟨_, hh.symm⟩
/-- From the plan down: all. -/
theorem dfs_all {c : BA → BA → Int} (hc : Tot c) (h : Tree (· ∈ l) W r) (g : It → It) (hg : ∀ x, (g x).id = x.id) (K : It → List It) (hK1 : ∀ x ∈ l, (K x).Pairwise (fun a b => c a.id b.id < 0)) (hK2 : ∀ x ∈ l, ∀ y, y ∈ K x ↔ y ∈ l ∧ y.parent = x.id)
    (D : Nat → It → List It) (hD : ∀ f x, x ∈ l → D (f + 1) x = g x :: (K x).flatMap (D f)) (f : Nat) (hf : 6 ≤ f) (x : It) (hx : x ∈ l) (hr : x.id = r) : (D f x).Pairwise (ltC c W) ∧ ∀ z', z' ∈ D f x ↔ ∃ z ∈ l, g z = z' := by
  obtain ⟨h1, h2⟩ := dfs_one hc h g hg K hK1 hK2 D hD f x hx (by rw [hr, h.wr]; simp; omega)
  refine ⟨h1, fun z' => (h2 z').trans ⟨fun ⟨z, hz, _, e⟩ => ⟨z, hz, e⟩, fun ⟨z, hz, e⟩ => ⟨z, hz, ?_, e⟩⟩⟩
  rw [hr, h.wr]
  exact h.all hz
end
end Go.Proofs.YtdcahnaempabcabGreat.Np
