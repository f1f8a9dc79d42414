/-
  Several texts in one: each opens with its own word.
-/
import Derived.Lib.RuneBytes
import Derived.Lib.Bytealg
/-
  PLAIN: the document's chapter 1 as plain functions on lists of bytes. No program in this text.
-/
namespace Go.Proofs.YtpipjkbgbhefcaaGreat
namespace Sp

def charB (r : Int) : Bool := decide (r = 9 ∨ r = 10 ∨ r = 13 ∨ (32 ≤ r ∧ r ≤ 55295) ∨ (57344 ≤ r ∧ r ≤ 65533) ∨ (65536 ≤ r ∧ r ≤ 1114111))
def begZ (c : Int) : Bool := decide ((97 ≤ c ∧ c ≤ 122) ∨ (65 ≤ c ∧ c ≤ 90) ∨ c = 95)
def goZ (c : Int) : Bool := decide ((97 ≤ c ∧ c ≤ 122) ∨ (65 ≤ c ∧ c ≤ 90) ∨ c = 95 ∨ (48 ≤ c ∧ c ≤ 57) ∨ c = 45 ∨ c = 46)
def digZ (c : Int) : Int := if 48 ≤ c ∧ c ≤ 57 then c - 48 else if 97 ≤ c ∧ c ≤ 102 then c - 87 else if 65 ≤ c ∧ c ≤ 70 then c - 55 else -1
def digR (c : Int) (hex : Bool) : Int := if 48 ≤ c ∧ c ≤ 57 then c - 48 else if hex = true ∧ 97 ≤ c ∧ c ≤ 102 then c - 87 else if hex = true ∧ 65 ≤ c ∧ c ≤ 70 then c - 55 else -1
/-- what is written for a byte, where that is not the byte itself -/
def writ (c : Int) (attr : Bool) : List UInt8 :=
  if c = 38 then [38, 97, 109, 112, 59] else if c = 60 then [38, 108, 116, 59] else if c = 62 then [38, 103, 116, 59]
  else if attr = false then [] else if c = 34 then [38, 113, 117, 111, 116, 59] else if c = 9 then [38, 35, 57, 59] else if c = 10 then [38, 35, 49, 48, 59] else if c = 13 then [38, 35, 49, 51, 59] else []
theorem begZ_goZ (c : Int) (h : begZ c = true) : goZ c = true := by
  simp only [begZ, goZ, decide_eq_true_eq] at *
  omega
theorem ret_bool {a b : Bool} (h : a = b) : Ending.returned (.bool a) = .returned (.bool b) := by rw [h]
theorem ret_int {k : IntKind} {a b : Int} (h : a = b) : Ending.returned (.int k a) = .returned (.int k b) := by rw [h]
theorem ret_str {a b : List UInt8} (h : a = b) : Ending.returned (.string ⟨a.toArray⟩) = .returned (.string ⟨b.toArray⟩) := by rw [h]

end Sp
end Go.Proofs.YtpipjkbgbhefcaaGreat
/-
  PLAIN: names. No program in this text.
-/
namespace Go.Proofs.YtpipjkbgbhefcaaGreat
namespace Sp
theorem getD_lt {l : List UInt8} {k : Nat} (h : k < l.length) : l.getD k 0 = l[k] := by simp [List.getD, h]
def isB (l : List UInt8) : Bool := decide (1 ≤ l.length ∧ l.length ≤ 12) && begZ ((l.getD 0 0).toNat : Int) && l.all fun c => goZ (c.toNat : Int)
theorem isB_len (l : List UInt8) (h : l.length < 1 ∨ 12 < l.length) : isB l = false := by
  unfold isB
  rw [decide_eq_false (by omega)]
  rfl
theorem isB_beg (l : List UInt8) (h : begZ ((l.getD 0 0).toNat : Int) = false) : isB l = false := by
  unfold isB
  rw [h]
  simp
theorem isB_go (l : List UInt8) (k : Nat) (hk : k < l.length) (h : goZ ((l.getD k 0).toNat : Int) = false) : isB l = false := by
  unfold isB
  have : (l.all fun c => goZ (c.toNat : Int)) = false := by
    rw [List.all_eq_false]
    refine ⟨l.getD k 0, ?_, by rw [h]; simp⟩
    rw [getD_lt hk]
    exact List.getElem_mem hk
  rw [this]
  simp
theorem isB_yes (l : List UInt8) (h1 : 1 ≤ l.length) (h2 : l.length ≤ 12) (hb : begZ ((l.getD 0 0).toNat : Int) = true) (h : ∀ k, k < l.length → goZ ((l.getD k 0).toNat : Int) = true) : isB l = true := by
  unfold isB
  rw [decide_eq_true ⟨h1, h2⟩, hb]
  simp only [Bool.true_and, List.all_eq_true]
  intro c hc
  obtain ⟨k, hk, rfl⟩ := List.mem_iff_getElem.1 hc
  have := h k hk
  rwa [getD_lt hk] at this
theorem getD_byte (s : ByteArray) (k : Nat) (h : k < s.size) : s.data.toList.getD k 0 = s[k] := by
  rw [getD_lt (show k < s.data.toList.length by simpa using h)]
  rfl
theorem len_byte (s : ByteArray) : s.data.toList.length = s.size := by simp

end Sp
end Go.Proofs.YtpipjkbgbhefcaaGreat
/-
  Models as plain data, and what the program asks of them: plain functions.
-/
set_option linter.unusedVariables false
namespace Go.Proofs.YtpipjkbgbhefcaaGreat.Mp
abbrev BA := ByteArray
abbrev On := BA × Int
abbrev Cond := BA × BA × Int
abbrev Sent := List On × List Cond
structure Item where
  id : BA
  kind : Int
  parent : BA
  req : Bool
  ticks : Int
  entry : List Sent
  exit : List Sent
structure Model where
  files : List BA
  items : List Item
/-- A text that is nothing. -/
abbrev e0 : BA := ⟨#[]⟩
def isN (s : BA) : Bool := Sp.isB s.data.toList
/-- The place of one in a row; whether it is there. -/
def idx {α : Type} [DecidableEq α] (l : List α) (s : α) : Option Nat := l.findIdx? (fun t => decide (t = s))
def has {α : Type} [DecidableEq α] (l : List α) (s : α) : Bool := (idx l s).isSome
/-- All are names, none twice. -/
def namesF : List BA → List BA → Bool
  | _, [] => true
  | seen, s :: r => isN s && !has seen s && namesF (seen ++ [s]) r
def filesB (l : List BA) : Bool := decide (l.length ≤ 6) && namesF [] l
def idsB (l : List Item) : Bool := decide (1 ≤ l.length) && decide (l.length ≤ 16) && namesF [] (l.map Item.id)
def planB (x : Item) : Bool := decide (x.kind = 1) && decide (x.parent = e0) && !x.req && decide (x.entry.length = 0) && decide (x.exit.length = 0)
def nestF : List BA → List Item → Bool
  | _, [] => true
  | op, x :: r => match idx op x.parent with
    | none => false
    | some p => if 5 < p + 1 then false else nestF (if x.kind = 1 then op.take (p + 1) ++ [x.id] else op.take (p + 1)) r
def kindB (k : Int) : Bool := decide (1 ≤ k) && decide (k ≤ 5)
def ticksB (x : Item) : Bool := if x.kind = 5 then decide (1 ≤ x.ticks) && decide (x.ticks ≤ 100) else decide (x.ticks = 0)
def waitB (x : Item) : Bool := if x.kind = 4 ∨ x.kind = 5 then !x.req && decide (x.entry.length = 0) else true
def legalB (k e : Int) : Bool :=
  if e = 1 ∨ e = 5 then kindB k else if e = 2 ∨ e = 3 then decide (k = 1 ∨ k = 2) else if e = 4 then decide (k = 3 ∨ k = 4 ∨ k = 5) else false
def placeO (l : List Item) (s : BA) : Option Nat := l.findIdx? (fun x => decide (x.id = s))
def placeZ (l : List Item) (s : BA) : Int := match placeO l s with
  | some k => k
  | none => -1
def kidsF (s : BA) : Nat → List Item → List Int
  | _, [] => []
  | k, x :: r => if x.parent = s then (k : Int) :: kidsF s (k + 1) r else kidsF s (k + 1) r
def onLegal (l : List Item) (o : On) : Bool := match placeO l o.1 with
  | none => false
  | some k => match l[k]? with
    | none => false
    | some x => legalB x.kind o.2
def onsF (l : List Item) : List On → List On → Bool
  | _, [] => true
  | seen, o :: r => onLegal l o && !has seen o && onsF l (seen ++ [o]) r
def onB (m : Model) (row : List On) : Bool := decide (row.length ≤ 3) && onsF m.items [] row
def opB (s : BA) : Bool := decide (s = ⟨#[60]⟩) || decide (s = ⟨#[60, 61]⟩) || decide (s = ⟨#[61]⟩) || decide (s = ⟨#[33, 61]⟩) || decide (s = ⟨#[62, 61]⟩) || decide (s = ⟨#[62]⟩)
def condB (fs : List BA) (c : Cond) : Bool := has fs c.1 && opB c.2.1 && decide (-1000000 ≤ c.2.2) && decide (c.2.2 ≤ 1000000)
def ifB (m : Model) (row : List Cond) : Bool := decide (row.length ≤ 2) && row.all (condB m.files)
def sentB (m : Model) (s : Sent) : Bool := !(decide (s.1.length = 0) && decide (s.2.length = 0)) && onB m s.1 && ifB m s.2
def sentsB (m : Model) (l : List Sent) : Bool := decide (l.length ≤ 3) && l.all (sentB m)
def itemB (m : Model) (x : Item) : Bool := kindB x.kind && ticksB x && waitB x && sentsB m x.entry && sentsB m x.exit
def nestB : List Item → Bool
  | [] => false
  | x :: r => nestF [x.id] r
def headB : List Item → Bool
  | [] => false
  | x :: _ => planB x
def isB (m : Model) : Bool := filesB m.files && idsB m.items && headB m.items && nestB m.items && m.items.all (itemB m)
/-! ### Rows, step by step -/
theorem drop_at {α : Type} {l : List α} {k : Nat} {x : α} (h : l[k]? = some x) : l.drop k = x :: l.drop (k + 1) := by
  obtain ⟨hk, rfl⟩ := List.getElem?_eq_some_iff.1 h
  exact (List.drop_eq_getElem_cons hk)
theorem take_at {α : Type} {l : List α} {k : Nat} {x : α} (h : l[k]? = some x) : l.take (k + 1) = l.take k ++ [x] := by
  obtain ⟨hk, rfl⟩ := List.getElem?_eq_some_iff.1 h
  exact List.take_succ_eq_append_getElem hk
theorem at_lt {α : Type} {l : List α} {k : Nat} (h : k < l.length) : ∃ x, l[k]? = some x := ⟨l[k], List.getElem?_eq_getElem h⟩
theorem drop_all {α : Type} {l : List α} {k : Nat} (h : l.length ≤ k) : l.drop k = [] := List.drop_of_length_le h
theorem find_some {α : Type} {p : α → Bool} : ∀ {l : List α} {k : Nat} {x : α}, l[k]? = some x → p x = true → (∀ (j : Nat) y, j < k → l[j]? = some y → p y = false) → l.findIdx? p = some k
  | [], k, x, h, _, _ => by simp at h
  | a :: l, 0, x, h, hp, _ => by
    simp only [List.getElem?_cons_zero, Option.some.injEq] at h
    subst h
    rw [List.findIdx?_cons, hp]
    rfl
  | a :: l, k + 1, x, h, hp, hb => by
    rw [List.getElem?_cons_succ] at h
    have h0 := hb 0 a (by omega) rfl
    rw [List.findIdx?_cons, h0, find_some h hp (fun j y hj hy => hb (j + 1) y (by omega) (by rw [List.getElem?_cons_succ]; exact hy))]
    rfl
theorem find_none {α : Type} {p : α → Bool} {l : List α} (h : ∀ (j : Nat) y, l[j]? = some y → p y = false) : l.findIdx? p = none := by
  rw [List.findIdx?_eq_none_iff]
  intro x hx
  obtain ⟨j, hj⟩ := List.getElem?_of_mem hx
  exact h j x hj
theorem find_some_inv {α : Type} {p : α → Bool} {l : List α} {k : Nat} (h : l.findIdx? p = some k) : ∃ x, l[k]? = some x ∧ p x = true ∧ ∀ (j : Nat) y, j < k → l[j]? = some y → p y = false := by
  rw [List.findIdx?_eq_some_iff_getElem] at h
  obtain ⟨hk, hp, hb⟩ := h
  refine ⟨l[k], List.getElem?_eq_getElem hk, hp, fun j y hj hy => ?_⟩
  obtain ⟨hl, rfl⟩ := List.getElem?_eq_some_iff.1 hy
  simpa using hb j hj
theorem find_none_inv {α : Type} {p : α → Bool} {l : List α} (h : l.findIdx? p = none) : ∀ (j : Nat) y, l[j]? = some y → p y = false := by
  rw [List.findIdx?_eq_none_iff] at h
  intro j y hy
  exact h y (List.mem_of_getElem? hy)
theorem mem_take {α : Type} {l : List α} {k : Nat} {x : α} : x ∈ l.take k ↔ ∃ j, j < k ∧ l[j]? = some x := by
  rw [List.mem_iff_getElem?]
  constructor
  · rintro ⟨j, hj⟩
    rw [List.getElem?_take] at hj
    split at hj
    · exact ⟨j, by assumption, hj⟩
    · cases hj
  · rintro ⟨j, hj, h⟩
    exact ⟨j, by rw [List.getElem?_take, if_pos hj]; exact h⟩
end Go.Proofs.YtpipjkbgbhefcaaGreat.Mp
/-
  What the document asks of models: plain functions.
-/
set_option linter.unusedVariables false
namespace Go.Proofs.YtpipjkbgbhefcaaGreat.Mp
def parAt (l : List Item) (i : Nat) : BA := match l[i]? with
  | some x => x.parent
  | none => e0
def idAt (l : List Item) (i : Nat) : BA := match l[i]? with
  | some x => x.id
  | none => e0
def kindAt (l : List Item) (i : Nat) : Int := match l[i]? with
  | some x => x.kind
  | none => 0
def upZ (l : List Item) (i : Int) : Int := placeZ l (parAt l i.toNat)
def depthG (l : List Item) : Nat → Int → Nat → Int
  | 0, _, _ => -1
  | f + 1, i, n => if 0 < i then depthG l f (upZ l i) (n + 1) else if i < 0 then -1 else n
def depthZ (l : List Item) (i : Int) : Int := depthG l (l.length + 1) i 0
def withinG (l : List Item) (s : BA) : Nat → Int → Bool
  | 0, _ => false
  | f + 1, i => if i < 0 then false else if idAt l i.toNat = s then true else withinG l s f (upZ l i)
def withinZ (l : List Item) (i : Int) (s : BA) : Bool := withinG l s (l.length + 1) i
def nestedR (l : List Item) (i : Nat) (x : Item) : Bool :=
  !decide (x.parent = e0) && decide (0 ≤ placeZ l x.parent) && decide (placeZ l x.parent < i) && decide (kindAt l (placeZ l x.parent).toNat = 1) && withinZ l ((i : Int) - 1) x.parent && decide (1 ≤ depthZ l i) && decide (depthZ l i ≤ 5)
def itemR (l : List Item) (i : Nat) (x : Item) : Bool :=
  isN x.id && decide (placeZ l x.id = i) && kindB x.kind && ticksB x && waitB x && (if i = 0 then planB x else nestedR l i x)
def itemsF (l : List Item) : Nat → List Item → Bool
  | _, [] => true
  | k, x :: r => itemR l k x && itemsF l (k + 1) r
def bothS (m : Model) (x : Item) : Bool := sentsB m x.entry && sentsB m x.exit
def isR (m : Model) : Bool := decide (m.files.length ≤ 6) && decide (1 ≤ m.items.length) && decide (m.items.length ≤ 16) && namesF [] m.files && itemsF m.items 0 m.items && m.items.all (bothS m)
theorem placeZ_ge (l : List Item) (s : BA) : -1 ≤ placeZ l s := by
  unfold placeZ
  cases placeO l s with
  | none => exact Int.le_refl _
  | some k => show (-1 : Int) ≤ k; omega
theorem placeZ_lt (l : List Item) (s : BA) : placeZ l s < l.length ∨ placeZ l s = -1 := by
  unfold placeZ
  cases h : placeO l s with
  | none => exact .inr rfl
  | some k =>
    obtain ⟨x, hx, _⟩ := find_some_inv h
    have := (List.getElem?_eq_some_iff.1 hx).1
    exact .inl (by show (k : Int) < _; omega)
theorem upZ_ge (l : List Item) (i : Int) : -1 ≤ upZ l i := placeZ_ge _ _
theorem upZ_lt (l : List Item) (i : Int) (h : 0 < l.length) : upZ l i < l.length := by
  rcases placeZ_lt l (parAt l i.toNat) with h1 | h1
  · exact h1
  · unfold upZ
    omega
end Go.Proofs.YtpipjkbgbhefcaaGreat.Mp
/-
  PLAIN: what the document asks of a model is what the program asks.
-/
set_option linter.unusedVariables false
namespace Go.Proofs.YtpipjkbgbhefcaaGreat.Mp
theorem at_inj {l : List Item} {i : Nat} {x y : Item} (h1 : l[i]? = some x) (h2 : l[i]? = some y) : x = y := Option.some.inj (h1.symm.trans h2)
/-! ### Names that stand once -/
theorem has_iff {α : Type} [DecidableEq α] (l : List α) (s : α) : has l s = true ↔ ∃ i : Nat, l[i]? = some s := by
  unfold has idx
  cases h : l.findIdx? (fun t => decide (t = s)) with
  | none =>
    refine ⟨fun e => (by cases e), fun ⟨i, hi⟩ => ?_⟩
    have := find_none_inv h i s hi
    rw [decide_eq_true rfl] at this
    cases this
  | some k =>
    obtain ⟨x, hx, he, _⟩ := find_some_inv h
    rw [of_decide_eq_true he] at hx
    exact ⟨fun _ => ⟨k, hx⟩, fun _ => rfl⟩
theorem has_false {α : Type} [DecidableEq α] (l : List α) (s : α) : has l s = false ↔ ∀ i : Nat, l[i]? ≠ some s := by
  constructor
  · intro h i hi
    have := (has_iff l s).2 ⟨i, hi⟩
    rw [h] at this
    cases this
  · intro h
    cases hb : has l s with
    | false => rfl
    | true =>
      obtain ⟨i, hi⟩ := (has_iff l s).1 hb
      exact absurd hi (h i)
theorem namesF_iff : ∀ (r seen : List BA), namesF seen r = true ↔ (∀ s ∈ r, isN s = true) ∧ (∀ s ∈ r, ∀ i : Nat, seen[i]? ≠ some s) ∧ (∀ (i j : Nat) s, i < j → r[i]? = some s → r[j]? ≠ some s)
  | [], seen => by simp [namesF]
  | a :: r, seen => by
    rw [namesF, Bool.and_eq_true, Bool.and_eq_true, namesF_iff r (seen ++ [a]), Bool.not_eq_true', has_false]
    constructor
    · rintro ⟨⟨h1, h2⟩, h3, h4, h5⟩
      refine ⟨fun s hs => ?_, fun s hs => ?_, fun i j s hij hi => ?_⟩
      · rcases List.mem_cons.1 hs with rfl | hs
        · exact h1
        · exact h3 s hs
      · rcases List.mem_cons.1 hs with rfl | hs
        · exact h2
        · intro i hi
          have := h4 s hs i
          rw [List.getElem?_append_left (List.getElem?_eq_some_iff.1 hi).1] at this
          exact this hi
      · cases j with
        | zero => omega
        | succ j =>
          rw [List.getElem?_cons_succ]
          cases i with
          | zero =>
            simp only [List.getElem?_cons_zero, Option.some.injEq] at hi
            subst hi
            intro hj
            have := h4 a (List.mem_of_getElem? hj) seen.length
            rw [List.getElem?_append_right (Nat.le_refl _), Nat.sub_self] at this
            exact this rfl
          | succ i =>
            rw [List.getElem?_cons_succ] at hi
            exact h5 i j s (by omega) hi
    · rintro ⟨h1, h2, h3⟩
      refine ⟨⟨h1 a List.mem_cons_self, h2 a List.mem_cons_self⟩, fun s hs => h1 s (List.mem_cons_of_mem _ hs), fun s hs i hi => ?_, fun i j s hij hi hj => ?_⟩
      · rcases Nat.lt_or_ge i seen.length with hl | hl
        · rw [List.getElem?_append_left hl] at hi
          exact h2 s (List.mem_cons_of_mem _ hs) i hi
        · rw [List.getElem?_append_right hl] at hi
          have h0 : i - seen.length = 0 := by
            have := (List.getElem?_eq_some_iff.1 hi).1
            simp at this
            omega
          rw [h0] at hi
          simp only [List.getElem?_cons_zero, Option.some.injEq] at hi
          subst hi
          obtain ⟨k, hk⟩ := List.getElem?_of_mem hs
          exact h3 0 (k + 1) a (by omega) rfl (by rw [List.getElem?_cons_succ]; exact hk)
      · exact h3 (i + 1) (j + 1) s (by omega) (by rw [List.getElem?_cons_succ]; exact hi) (by rw [List.getElem?_cons_succ]; exact hj)
/-- IDs that stand once: where each stands. -/
def Once (l : List Item) : Prop := ∀ (i j : Nat) x y, l[i]? = some x → l[j]? = some y → x.id = y.id → i = j
theorem once_of {l : List Item} (h : namesF [] (l.map Item.id) = true) : Once l := by
  obtain ⟨_, _, h3⟩ := (namesF_iff _ _).1 h
  intro i j x y hi hj he
  have hi' : (l.map Item.id)[i]? = some x.id := by rw [List.getElem?_map, hi]; rfl
  have hj' : (l.map Item.id)[j]? = some x.id := by rw [List.getElem?_map, hj, he]; rfl
  rcases Nat.lt_trichotomy i j with h | h | h
  · exact absurd hj' (h3 i j _ h hi')
  · exact h
  · exact absurd hi' (h3 j i _ h hj')
theorem placeZ_at {l : List Item} (ho : Once l) {i : Nat} {x : Item} (h : l[i]? = some x) : placeZ l x.id = i := by
  unfold placeZ placeO
  rw [find_some (p := fun y => decide (y.id = x.id)) h (decide_eq_true rfl) (fun j y hj hy => decide_eq_false fun e => by have := ho j i y x hy h e; omega)]
theorem placeZ_inv {l : List Item} {s : BA} {k : Nat} (h : placeZ l s = k) : ∃ x, l[k]? = some x ∧ x.id = s := by
  unfold placeZ at h
  cases hp : placeO l s with
  | none =>
    rw [hp] at h
    have h' : (-1 : Int) = (k : Int) := h
    omega
  | some j =>
    rw [hp] at h
    have h' : (j : Int) = (k : Int) := h
    have hj : j = k := by omega
    subst hj
    obtain ⟨x, hx, he, _⟩ := find_some_inv hp
    exact ⟨x, hx, of_decide_eq_true he⟩
theorem upZ_at {l : List Item} {k : Nat} {x : Item} (h : l[k]? = some x) : upZ l (k : Int) = placeZ l x.parent := by
  unfold upZ parAt
  rw [Int.toNat_natCast, h]
theorem idAt_at {l : List Item} {k : Nat} {x : Item} (h : l[k]? = some x) : idAt l k = x.id := by
  unfold idAt
  rw [h]
theorem kindAt_at {l : List Item} {k : Nat} {x : Item} (h : l[k]? = some x) : kindAt l k = x.kind := by
  unfold kindAt
  rw [h]
/-! ### The stages in which an item may stand -/
structure Ch (l : List Item) (i : Nat) (op : List BA) (c : List Nat) : Prop where
  one : 1 ≤ i
  len : c.length = op.length
  pos : 0 < op.length
  zero : c[0]? = some 0
  each : ∀ (t k : Nat), c[t]? = some k → k < i ∧ ∃ y, l[k]? = some y ∧ y.kind = 1 ∧ op[t]? = some y.id
  link : ∀ (t k k' : Nat), c[t]? = some k → c[t + 1]? = some k' → k < k' ∧ upZ l k' = k
  last : ∃ y k, l[i - 1]? = some y ∧ c[op.length - 1]? = some k ∧ ((y.kind = 1 ∧ k = i - 1) ∨ (y.kind ≠ 1 ∧ upZ l ((i - 1 : Nat) : Int) = k))
theorem Ch.at {l : List Item} {i : Nat} {op : List BA} {c : List Nat} (h : Ch l i op c) {t : Nat} (ht : t < op.length) : ∃ k y, c[t]? = some k ∧ k < i ∧ l[k]? = some y ∧ y.kind = 1 ∧ op[t]? = some y.id := by
  have hc : c[t]? = some (c[t]'(by have := h.len; omega)) := List.getElem?_eq_getElem _
  obtain ⟨h1, y, h2, h3, h4⟩ := h.each t _ hc
  exact ⟨_, y, hc, h1, h2, h3, h4⟩
theorem Ch.ge {l : List Item} {i : Nat} {op : List BA} {c : List Nat} (h : Ch l i op c) : ∀ (t k : Nat), c[t]? = some k → t ≤ k
  | 0, k, _ => Nat.zero_le _
  | t + 1, k, hk => by
    have hlt := (List.getElem?_eq_some_iff.1 hk).1
    have hc : c[t]? = some (c[t]'(by omega)) := List.getElem?_eq_getElem _
    have := h.ge t _ hc
    have := (h.link t _ _ hc hk).1
    omega
theorem Ch.depth {l : List Item} {i : Nat} {op : List BA} {c : List Nat} (h : Ch l i op c) : ∀ (t k f n : Nat), c[t]? = some k → t < f → depthG l f k n = ((n + t : Nat) : Int)
  | 0, k, f, n, hk, hf => by
    obtain rfl : k = 0 := Option.some.inj (hk.symm.trans h.zero)
    obtain ⟨f', rfl⟩ : ∃ f', f = f' + 1 := ⟨f - 1, by omega⟩
    rw [depthG, if_neg (by omega), if_neg (by omega)]
    rfl
  | t + 1, k, f, n, hk, hf => by
    have hlt := (List.getElem?_eq_some_iff.1 hk).1
    have hc : c[t]? = some (c[t]'(by omega)) := List.getElem?_eq_getElem _
    obtain ⟨h1, h2⟩ := h.link t _ _ hc hk
    obtain ⟨f', rfl⟩ : ∃ f', f = f' + 1 := ⟨f - 1, by omega⟩
    rw [depthG, if_pos (by omega), h2, h.depth t _ f' (n + 1) hc (by omega)]
    congr 1
    omega
theorem Ch.withinT {l : List Item} {i : Nat} {op : List BA} {c : List Nat} (h : Ch l i op c) (s : BA) : ∀ (t k f u : Nat), c[t]? = some k → u ≤ t → op[u]? = some s → t - u < f → withinG l s f k = true
  | 0, k, f, u, hk, hu, hs, hf => by
    obtain ⟨f', rfl⟩ : ∃ f', f = f' + 1 := ⟨f - 1, by omega⟩
    obtain rfl : u = 0 := by omega
    obtain ⟨_, y, h2, _, h4⟩ := h.each 0 k hk
    rw [withinG, if_neg (by omega), Int.toNat_natCast, idAt_at h2, if_pos (Option.some.inj (h4.symm.trans hs))]
  | t + 1, k, f, u, hk, hu, hs, hf => by
    obtain ⟨f', rfl⟩ : ∃ f', f = f' + 1 := ⟨f - 1, by omega⟩
    obtain ⟨_, y, h2, _, h4⟩ := h.each (t + 1) k hk
    rw [withinG, if_neg (by omega), Int.toNat_natCast, idAt_at h2]
    by_cases e : y.id = s
    · rw [if_pos e]
    · rw [if_neg e]
      have hlt := (List.getElem?_eq_some_iff.1 hk).1
      have hc : c[t]? = some (c[t]'(by omega)) := List.getElem?_eq_getElem _
      obtain ⟨h1, hup⟩ := h.link t _ _ hc hk
      rw [hup]
      have hut : u ≤ t := by
        rcases Nat.lt_or_ge t u with h' | h'
        · obtain rfl : u = t + 1 := by omega
          exact absurd (Option.some.inj (h4.symm.trans hs)) e
        · exact h'
      exact h.withinT s t _ f' u hc hut hs (by omega)
theorem Ch.withinF {l : List Item} {i : Nat} {op : List BA} {c : List Nat} (h : Ch l i op c) (hroot : upZ l 0 = -1) (s : BA) : ∀ (t k f : Nat), c[t]? = some k → withinG l s f k = true → ∃ u : Nat, op[u]? = some s
  | t, k, 0, hk, hw => by cases hw
  | 0, k, f + 1, hk, hw => by
    obtain rfl : k = 0 := Option.some.inj (hk.symm.trans h.zero)
    obtain ⟨_, y, h2, _, h4⟩ := h.each 0 0 hk
    rw [withinG, if_neg (by omega), Int.toNat_natCast, idAt_at h2] at hw
    by_cases e : y.id = s
    · exact ⟨0, by rw [h4, e]⟩
    · rw [if_neg e] at hw
      have hw' : withinG l s f (upZ l 0) = true := hw
      rw [hroot] at hw'
      cases f with
      | zero => cases hw'
      | succ f => rw [withinG, if_pos (by omega)] at hw'; cases hw'
  | t + 1, k, f + 1, hk, hw => by
    obtain ⟨_, y, h2, _, h4⟩ := h.each (t + 1) k hk
    rw [withinG, if_neg (by omega), Int.toNat_natCast, idAt_at h2] at hw
    by_cases e : y.id = s
    · exact ⟨t + 1, by rw [h4, e]⟩
    · rw [if_neg e] at hw
      have hlt := (List.getElem?_eq_some_iff.1 hk).1
      have hc : c[t]? = some (c[t]'(by omega)) := List.getElem?_eq_getElem _
      obtain ⟨h1, hup⟩ := h.link t _ _ hc hk
      rw [hup] at hw
      exact h.withinF hroot s t _ f hc hw
end Go.Proofs.YtpipjkbgbhefcaaGreat.Mp
/-
  PLAIN: what the document asks of a model is what the program asks: the stages, item by item.
-/
set_option linter.unusedVariables false
namespace Go.Proofs.YtpipjkbgbhefcaaGreat.Mp
theorem idx_some {op : List BA} {s : BA} {p : Nat} (h : idx op s = some p) : op[p]? = some s := by
  obtain ⟨x, hx, he, _⟩ := find_some_inv h
  rw [of_decide_eq_true he] at hx
  exact hx
theorem idx_none {op : List BA} {s : BA} (h : idx op s = none) (u : Nat) : op[u]? ≠ some s := by
  intro hu
  have := find_none_inv h u s hu
  rw [decide_eq_true rfl] at this
  cases this
section
variable {l : List Item} {i : Nat} {op : List BA} {c : List Nat}
theorem Ch.some_step (h : Ch l i op c) (ho : Once l) (hn : ∀ (k : Nat) y, l[k]? = some y → y.id ≠ e0) {x : Item} (hx : l[i]? = some x) {p : Nat} (hp : idx op x.parent = some p) :
    nestedR l i x = decide (p + 1 ≤ 5) := by
  have hop := idx_some hp
  have hpl := (List.getElem?_eq_some_iff.1 hop).1
  have hil := (List.getElem?_eq_some_iff.1 hx).1
  obtain ⟨k, y, hk, hki, hy, hy1, hyo⟩ := h.at hpl
  have hid : y.id = x.parent := Option.some.inj (hyo.symm.trans hop)
  have hpz : placeZ l x.parent = k := by rw [← hid]; exact placeZ_at ho hy
  have hpk := h.ge p k hk
  have hone := h.one
  have hw : withinZ l ((i : Int) - 1) x.parent = true := by
    unfold withinZ
    obtain ⟨y', kl, hy', hkl, hc⟩ := h.last
    have hge := h.ge _ _ hkl
    have hlt := (h.each _ _ hkl).1
    rw [show ((i : Int) - 1) = ((i - 1 : Nat) : Int) by omega]
    rcases hc with ⟨_, rfl⟩ | ⟨_, hup⟩
    · exact h.withinT x.parent _ _ _ p hkl (by omega) hop (by omega)
    · rw [withinG, if_neg (by omega), Int.toNat_natCast]
      split
      · rfl
      · rw [hup]
        exact h.withinT x.parent _ _ _ p hkl (by omega) hop (by omega)
  have hd : depthZ l i = ((1 + p : Nat) : Int) := by
    unfold depthZ
    rw [depthG, if_pos (by omega), upZ_at hx, hpz]
    exact h.depth p k _ _ hk (by omega)
  unfold nestedR
  rw [hpz, hw, hd, decide_eq_false (by rw [← hid]; exact hn k y hy), decide_eq_true (p := (0 : Int) ≤ k) (by omega), decide_eq_true (p := (k : Int) < i) (by omega), Int.toNat_natCast, kindAt_at hy, decide_eq_true hy1, decide_eq_true (p := (1 : Int) ≤ ((1 + p : Nat) : Int)) (by omega)]
  show decide (((1 + p : Nat) : Int) ≤ 5) = decide (p + 1 ≤ 5)
  rw [Bool.eq_iff_iff]
  simp only [decide_eq_true_eq]
  omega
theorem Ch.none_step (h : Ch l i op c) (ho : Once l) (hroot : upZ l 0 = -1) {x : Item} (hx : l[i]? = some x) (hp : idx op x.parent = none) : nestedR l i x = false := by
  cases hb : nestedR l i x with
  | false => rfl
  | true =>
    exfalso
    unfold nestedR at hb
    simp only [Bool.and_eq_true, decide_eq_true_eq] at hb
    obtain ⟨⟨⟨⟨⟨⟨_, h0⟩, hlt⟩, hk1⟩, hw⟩, _⟩, _⟩ := hb
    have hone := h.one
    obtain ⟨y', kl, hy', hkl, hc⟩ := h.last
    unfold withinZ at hw
    rw [show ((i : Int) - 1) = ((i - 1 : Nat) : Int) by omega] at hw
    have key : ∃ u : Nat, op[u]? = some x.parent := by
      rcases hc with ⟨_, rfl⟩ | ⟨hne, hup⟩
      · exact h.withinF hroot x.parent _ _ _ hkl hw
      · rw [withinG, if_neg (by omega), Int.toNat_natCast, idAt_at hy'] at hw
        by_cases e : y'.id = x.parent
        · exfalso
          have : placeZ l x.parent = ((i - 1 : Nat) : Int) := by rw [← e]; exact placeZ_at ho hy'
          rw [this, Int.toNat_natCast, kindAt_at hy'] at hk1
          exact hne hk1
        · rw [if_neg e, hup] at hw
          exact h.withinF hroot x.parent _ _ _ hkl hw
    obtain ⟨u, hu⟩ := key
    exact idx_none hp u hu
theorem Ch.next (h : Ch l i op c) (ho : Once l) {x : Item} (hx : l[i]? = some x) {p : Nat} (hp : idx op x.parent = some p) :
    ∃ c', Ch l (i + 1) (if x.kind = 1 then op.take (p + 1) ++ [x.id] else op.take (p + 1)) c' := by
  have hop := idx_some hp
  have hpl := (List.getElem?_eq_some_iff.1 hop).1
  obtain ⟨k, y, hk, hki, hy, hy1, hyo⟩ := h.at hpl
  have hid : y.id = x.parent := Option.some.inj (hyo.symm.trans hop)
  have hpz : placeZ l x.parent = k := by rw [← hid]; exact placeZ_at ho hy
  have hup : upZ l i = k := by rw [upZ_at hx, hpz]
  have hcl := h.len
  have l1 : (op.take (p + 1)).length = p + 1 := by rw [List.length_take]; omega
  have l2 : (c.take (p + 1)).length = p + 1 := by rw [List.length_take]; omega
  have tk : ∀ (t : Nat), t < p + 1 → (c.take (p + 1))[t]? = c[t]? := fun t ht => List.getElem?_take_of_lt ht
  have tn : ∀ (t q : Nat), (c.take (p + 1))[t]? = some q → t < p + 1 ∧ c[t]? = some q := by
    intro t q hq
    have := (List.getElem?_eq_some_iff.1 hq).1
    rw [l2] at this
    rw [tk t this] at hq
    exact ⟨this, hq⟩
  by_cases hs : x.kind = 1
  · rw [if_pos hs]
    refine ⟨c.take (p + 1) ++ [i], by omega, by simp only [List.length_append, List.length_cons, List.length_nil]; omega, by simp, ?_, fun t q hq => ?_, fun t q q' hq hq' => ?_, ?_⟩
    · rw [List.getElem?_append_left (by omega), tk 0 (by omega)]
      exact h.zero
    · rcases Nat.lt_or_ge t (p + 1) with ht | ht
      · rw [List.getElem?_append_left (by omega), tk t ht] at hq
        obtain ⟨h1, z, h2, h3, h4⟩ := h.each t q hq
        exact ⟨by omega, z, h2, h3, by rw [List.getElem?_append_left (by omega), List.getElem?_take_of_lt ht]; exact h4⟩
      · rw [List.getElem?_append_right (by omega), l2] at hq
        have h0 : t - (p + 1) = 0 := by
          have := (List.getElem?_eq_some_iff.1 hq).1
          simp at this
          omega
        rw [h0] at hq
        obtain rfl : i = q := Option.some.inj hq
        exact ⟨by omega, x, hx, hs, by rw [List.getElem?_append_right (by omega), l1, h0]; rfl⟩
    · rcases Nat.lt_or_ge (t + 1) (p + 1) with ht | ht
      · rw [List.getElem?_append_left (by omega), tk _ (by omega)] at hq hq'
        exact h.link t q q' hq hq'
      · rw [List.getElem?_append_right (by omega), l2] at hq'
        have h0 : t + 1 - (p + 1) = 0 := by
          have := (List.getElem?_eq_some_iff.1 hq').1
          simp at this
          omega
        rw [h0] at hq'
        obtain rfl : i = q' := Option.some.inj hq'
        obtain rfl : t = p := by omega
        rw [List.getElem?_append_left (by omega), tk t (by omega), hk] at hq
        obtain rfl : k = q := Option.some.inj hq
        exact ⟨hki, hup⟩
    · refine ⟨x, i, by simpa using hx, ?_, .inl ⟨hs, by omega⟩⟩
      rw [List.length_append, l1, List.getElem?_append_right (by simp only [List.length_cons, List.length_nil]; omega), l2]
      simp
  · rw [if_neg hs]
    refine ⟨c.take (p + 1), by omega, by rw [l1, l2], by omega, ?_, fun t q hq => ?_, fun t q q' hq hq' => ?_, ?_⟩
    · rw [tk 0 (by omega)]
      exact h.zero
    · obtain ⟨ht, hq⟩ := tn t q hq
      obtain ⟨h1, z, h2, h3, h4⟩ := h.each t q hq
      exact ⟨by omega, z, h2, h3, by rw [List.getElem?_take_of_lt ht]; exact h4⟩
    · obtain ⟨ht, hq⟩ := tn t q hq
      obtain ⟨ht', hq'⟩ := tn (t + 1) q' hq'
      exact h.link t q q' hq hq'
    · refine ⟨x, k, by simpa using hx, ?_, .inr ⟨hs, by simpa using hup⟩⟩
      rw [l1, Nat.add_sub_cancel, tk p (by omega)]
      exact hk
end
theorem nest_all {l : List Item} (ho : Once l) (hn : ∀ (k : Nat) y, l[k]? = some y → y.id ≠ e0) (hroot : upZ l 0 = -1) : ∀ (d i : Nat) (op : List BA) (c : List Nat), l.length - i = d → Ch l i op c → (nestF op (l.drop i) = true ↔ ∀ (j : Nat) x, i ≤ j → l[j]? = some x → nestedR l j x = true)
  | 0, i, op, c, hd, h => by
    rw [drop_all (by omega), nestF]
    refine ⟨fun _ j x hj hx => ?_, fun _ => rfl⟩
    have := (List.getElem?_eq_some_iff.1 hx).1
    omega
  | d + 1, i, op, c, hd, h => by
    obtain ⟨x, hx⟩ := at_lt (l := l) (k := i) (by omega)
    rw [drop_at hx, nestF]
    cases hp : idx op x.parent with
    | none =>
      dsimp only
      have := h.none_step ho hroot hx hp
      refine ⟨fun e => by (cases e), fun e => ?_⟩
      have h2 := e i x (Nat.le_refl _) hx
      rw [this] at h2
      exact h2
    | some p =>
      dsimp only
      have hs := h.some_step ho hn hx hp
      by_cases h5 : 5 < p + 1
      · rw [if_pos h5]
        refine ⟨fun e => by (cases e), fun e => ?_⟩
        have h2 := e i x (Nat.le_refl _) hx
        rw [hs, decide_eq_false (by omega)] at h2
        exact h2
      · rw [if_neg h5]
        obtain ⟨c', h'⟩ := h.next ho hx hp
        rw [nest_all ho hn hroot d (i + 1) _ c' (by omega) h']
        constructor
        · intro e j z hj hz
          rcases Nat.eq_or_lt_of_le hj with rfl | hj
          · rw [hx] at hz
            cases hz
            rw [hs]
            exact decide_eq_true (by omega)
          · exact e j z hj hz
        · intro e j z hj hz
          exact e j z (by omega) hz
theorem itemsF_iff (l : List Item) : ∀ (r : List Item) (k : Nat), itemsF l k r = true ↔ ∀ (j : Nat) x, r[j]? = some x → itemR l (k + j) x = true
  | [], k => by simp [itemsF]
  | a :: r, k => by
    rw [itemsF, Bool.and_eq_true, itemsF_iff l r (k + 1)]
    constructor
    · rintro ⟨h1, h2⟩ j x hx
      cases j with
      | zero =>
        simp only [List.getElem?_cons_zero, Option.some.injEq] at hx
        subst hx
        exact h1
      | succ j =>
        rw [List.getElem?_cons_succ] at hx
        have := h2 j x hx
        rwa [show k + 1 + j = k + (j + 1) by omega] at this
    · intro h
      refine ⟨h 0 a rfl, fun j x hx => ?_⟩
      have := h (j + 1) x (by rw [List.getElem?_cons_succ]; exact hx)
      rwa [show k + 1 + j = k + (j + 1) by omega]
theorem isN_ne {s : BA} (h : isN s = true) : s ≠ e0 := by
  intro e
  rw [e] at h
  revert h
  unfold isN Sp.isB
  simp
theorem is_eq (m : Model) : isR m = isB m := by
  rw [Bool.eq_iff_iff]
  unfold isR isB filesB idsB
  simp only [Bool.and_eq_true, decide_eq_true_eq]
  have root : ∀ {l : List Item}, (∀ (k : Nat) y, l[k]? = some y → y.id ≠ e0) → ∀ x, l[0]? = some x → x.parent = e0 → upZ l 0 = -1 := by
    intro l hn x hx hp
    have h0 : upZ l ((0 : Nat) : Int) = placeZ l x.parent := upZ_at hx
    have h1 : upZ l 0 = placeZ l x.parent := h0
    rw [h1, hp]
    unfold placeZ placeO
    rw [find_none (p := fun y => decide (y.id = e0)) (fun j y hy => decide_eq_false (hn j y hy))]
  have start : ∀ {l : List Item} {x : Item}, l[0]? = some x → x.kind = 1 → Ch l 1 [x.id] [0] := by
    intro l x hx hk
    refine ⟨Nat.le_refl _, rfl, by simp, rfl, fun t q hq => ?_, fun t q q' hq hq' => ?_, x, 0, hx, rfl, .inl ⟨hk, rfl⟩⟩
    · cases t with
      | zero =>
        obtain rfl : 0 = q := Option.some.inj hq
        exact ⟨by omega, x, hx, hk, rfl⟩
      | succ t => simp at hq
    · simp at hq'
  constructor
  · rintro ⟨⟨⟨⟨⟨f1, i1⟩, i2⟩, f2⟩, hit⟩, hb⟩
    have hI := (itemsF_iff m.items m.items 0).1 hit
    have hI' : ∀ (j : Nat) x, m.items[j]? = some x → itemR m.items j x = true := fun j x hx => by have := hI j x hx; rwa [Nat.zero_add] at this
    have parts : ∀ (j : Nat) x, m.items[j]? = some x → isN x.id = true ∧ placeZ m.items x.id = j ∧ kindB x.kind = true ∧ ticksB x = true ∧ waitB x = true ∧ (if j = 0 then planB x else nestedR m.items j x) = true := by
      intro j x hx
      have := hI' j x hx
      unfold itemR at this
      simp only [Bool.and_eq_true, decide_eq_true_eq] at this
      exact ⟨this.1.1.1.1.1, this.1.1.1.1.2, this.1.1.1.2, this.1.1.2, this.1.2, this.2⟩
    have ho : Once m.items := fun i j x y hx hy e => by
      have h1 := (parts i x hx).2.1
      have h2 := (parts j y hy).2.1
      rw [e, h2] at h1
      omega
    have hn : ∀ (k : Nat) y, m.items[k]? = some y → y.id ≠ e0 := fun k y hy => isN_ne (parts k y hy).1
    obtain ⟨x0, hx0⟩ := at_lt (l := m.items) (k := 0) (by omega)
    have hp0 := (parts 0 x0 hx0).2.2.2.2.2
    rw [if_pos rfl] at hp0
    have hcons : m.items = x0 :: m.items.drop 1 := by
      have := drop_at hx0
      rwa [List.drop_zero] at this
    have hpl : x0.kind = 1 ∧ x0.parent = e0 := by
      unfold planB at hp0
      simp only [Bool.and_eq_true, decide_eq_true_eq] at hp0
      exact ⟨hp0.1.1.1.1, hp0.1.1.1.2⟩
    refine ⟨⟨⟨⟨⟨f1, f2⟩, ⟨i1, i2⟩, ?_⟩, ?_⟩, ?_⟩, ?_⟩
    · rw [namesF_iff]
      refine ⟨fun s hs => ?_, fun s hs i hi => by simp at hi, fun i j s hij hi hj => ?_⟩
      · obtain ⟨x, hx, rfl⟩ := List.mem_map.1 hs
        obtain ⟨k, hk⟩ := List.getElem?_of_mem hx
        exact (parts k x hk).1
      · rw [List.getElem?_map] at hi hj
        cases h1 : m.items[i]? with
        | none => rw [h1] at hi; cases hi
        | some x =>
          cases h2 : m.items[j]? with
          | none => rw [h2] at hj; cases hj
          | some y =>
            rw [h1] at hi
            rw [h2] at hj
            have e : x.id = y.id := (Option.some.inj hi).trans (Option.some.inj hj).symm
            have := ho i j x y h1 h2 e
            omega
    · rw [hcons]
      exact hp0
    · have hnest : nestB m.items = nestF [x0.id] (m.items.drop 1) := by
        conv => lhs; rw [hcons]
        rfl
      rw [hnest, nest_all ho hn (root hn x0 hx0 hpl.2) _ 1 _ _ rfl (start hx0 hpl.1)]
      intro j x hj hx
      have := (parts j x hx).2.2.2.2.2
      rwa [if_neg (by omega)] at this
    · rw [List.all_eq_true] at hb ⊢
      intro x hx
      obtain ⟨k, hk⟩ := List.getElem?_of_mem hx
      obtain ⟨_, _, h3, h4, h5, _⟩ := parts k x hk
      have h6 := hb x hx
      unfold bothS at h6
      rw [Bool.and_eq_true] at h6
      unfold itemB
      rw [h3, h4, h5, h6.1, h6.2]
      rfl
  · rintro ⟨⟨⟨⟨⟨f1, f2⟩, ⟨i1, i2⟩, hid⟩, hh⟩, hne⟩, hb⟩
    have ho := once_of hid
    obtain ⟨hnm, _, _⟩ := (namesF_iff _ _).1 hid
    have hN : ∀ (k : Nat) y, m.items[k]? = some y → isN y.id = true := fun k y hy => hnm y.id (List.mem_map.2 ⟨y, List.mem_of_getElem? hy, rfl⟩)
    have hn : ∀ (k : Nat) y, m.items[k]? = some y → y.id ≠ e0 := fun k y hy => isN_ne (hN k y hy)
    obtain ⟨x0, hx0⟩ := at_lt (l := m.items) (k := 0) (by omega)
    have hcons : m.items = x0 :: m.items.drop 1 := by
      have := drop_at hx0
      rwa [List.drop_zero] at this
    have hp0 : planB x0 = true := by
      rw [hcons] at hh
      exact hh
    have hpl : x0.kind = 1 ∧ x0.parent = e0 := by
      unfold planB at hp0
      simp only [Bool.and_eq_true, decide_eq_true_eq] at hp0
      exact ⟨hp0.1.1.1.1, hp0.1.1.1.2⟩
    have hnest : nestB m.items = nestF [x0.id] (m.items.drop 1) := by
      conv => lhs; rw [hcons]
      rfl
    rw [hnest, nest_all ho hn (root hn x0 hx0 hpl.2) _ 1 _ _ rfl (start hx0 hpl.1)] at hne
    rw [List.all_eq_true] at hb
    have itB : ∀ x ∈ m.items, kindB x.kind = true ∧ ticksB x = true ∧ waitB x = true ∧ sentsB m x.entry = true ∧ sentsB m x.exit = true := by
      intro x hx
      have := hb x hx
      unfold itemB at this
      simp only [Bool.and_eq_true] at this
      exact ⟨this.1.1.1.1, this.1.1.1.2, this.1.1.2, this.1.2, this.2⟩
    refine ⟨⟨⟨⟨⟨f1, i1⟩, i2⟩, f2⟩, ?_⟩, ?_⟩
    · rw [itemsF_iff]
      intro j x hx
      rw [Nat.zero_add]
      obtain ⟨h3, h4, h5, _⟩ := itB x (List.mem_of_getElem? hx)
      unfold itemR
      rw [hN j x hx, decide_eq_true (placeZ_at ho hx), h3, h4, h5]
      by_cases h0 : j = 0
      · subst h0
        rw [if_pos rfl]
        obtain rfl := at_inj hx hx0
        rw [hp0]
        rfl
      · rw [if_neg h0, hne j x (by omega) hx]
        rfl
    · rw [List.all_eq_true]
      intro x hx
      obtain ⟨_, _, _, h6, h7⟩ := itB x hx
      unfold bothS
      rw [h6, h7]
      rfl
end Go.Proofs.YtpipjkbgbhefcaaGreat.Mp
