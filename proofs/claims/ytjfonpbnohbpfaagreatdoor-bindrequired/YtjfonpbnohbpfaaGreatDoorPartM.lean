/-
  Several texts in one: each opens with its own word.
-/
import Derived.Test.YtjfonpbnohbpfaaGreatDoorPartA
import Derived.Test.YtjfonpbnohbpfaaGreatDoorPartT
import Derived.Test.YtjfonpbnohbpfaaGreatDoorPartS
import Derived.BigQuiet
/-
  Models as plain data, and what the program asks of them: plain functions.
-/
set_option linter.unusedVariables false
namespace Go.Proofs.YtjfonpbnohbpfaaGreatDoor.Mp
abbrev BA := ByteArray
abbrev On := BA × Int
abbrev Cond := BA × BA × Int
abbrev Sent := List On × List Cond
structure Item where
  id : BA
  kind : Int
  parent : BA
  req : Bool
  ticks : Int
  entry : List Sent
  exit : List Sent
structure Model where
  files : List BA
  items : List Item
/-- A text that is nothing. -/
abbrev e0 : BA := ⟨#[]⟩
def isN (s : BA) : Bool := Sp.isB s.data.toList
/-- The place of one in a row; whether it is there. -/
def idx {α : Type} [DecidableEq α] (l : List α) (s : α) : Option Nat := l.findIdx? (fun t => decide (t = s))
def has {α : Type} [DecidableEq α] (l : List α) (s : α) : Bool := (idx l s).isSome
/-- All are names, none twice. -/
def namesF : List BA → List BA → Bool
  | _, [] => true
  | seen, s :: r => isN s && !has seen s && namesF (seen ++ [s]) r
def filesB (l : List BA) : Bool := decide (l.length ≤ 6) && namesF [] l
def idsB (l : List Item) : Bool := decide (1 ≤ l.length) && decide (l.length ≤ 16) && namesF [] (l.map Item.id)
def planB (x : Item) : Bool := decide (x.kind = 1) && decide (x.parent = e0) && !x.req && decide (x.entry.length = 0) && decide (x.exit.length = 0)
def nestF : List BA → List Item → Bool
  | _, [] => true
  | op, x :: r => match idx op x.parent with
    | none => false
    | some p => if 5 < p + 1 then false else nestF (if x.kind = 1 then op.take (p + 1) ++ [x.id] else op.take (p + 1)) r
def kindB (k : Int) : Bool := decide (1 ≤ k) && decide (k ≤ 5)
def ticksB (x : Item) : Bool := if x.kind = 5 then decide (1 ≤ x.ticks) && decide (x.ticks ≤ 100) else decide (x.ticks = 0)
def waitB (x : Item) : Bool := if x.kind = 4 ∨ x.kind = 5 then !x.req && decide (x.entry.length = 0) else true
def legalB (k e : Int) : Bool :=
  if e = 1 ∨ e = 5 then kindB k else if e = 2 ∨ e = 3 then decide (k = 1 ∨ k = 2) else if e = 4 then decide (k = 3 ∨ k = 4 ∨ k = 5) else false
def placeO (l : List Item) (s : BA) : Option Nat := l.findIdx? (fun x => decide (x.id = s))
def placeZ (l : List Item) (s : BA) : Int := match placeO l s with
  | some k => k
  | none => -1
def kidsF (s : BA) : Nat → List Item → List Int
  | _, [] => []
  | k, x :: r => if x.parent = s then (k : Int) :: kidsF s (k + 1) r else kidsF s (k + 1) r
def onLegal (l : List Item) (o : On) : Bool := match placeO l o.1 with
  | none => false
  | some k => match l[k]? with
    | none => false
    | some x => legalB x.kind o.2
def onsF (l : List Item) : List On → List On → Bool
  | _, [] => true
  | seen, o :: r => onLegal l o && !has seen o && onsF l (seen ++ [o]) r
def onB (m : Model) (row : List On) : Bool := decide (row.length ≤ 3) && onsF m.items [] row
def opB (s : BA) : Bool := decide (s = ⟨#[60]⟩) || decide (s = ⟨#[60, 61]⟩) || decide (s = ⟨#[61]⟩) || decide (s = ⟨#[33, 61]⟩) || decide (s = ⟨#[62, 61]⟩) || decide (s = ⟨#[62]⟩)
def condB (fs : List BA) (c : Cond) : Bool := has fs c.1 && opB c.2.1 && decide (-1000000 ≤ c.2.2) && decide (c.2.2 ≤ 1000000)
def ifB (m : Model) (row : List Cond) : Bool := decide (row.length ≤ 2) && row.all (condB m.files)
def sentB (m : Model) (s : Sent) : Bool := !(decide (s.1.length = 0) && decide (s.2.length = 0)) && onB m s.1 && ifB m s.2
def sentsB (m : Model) (l : List Sent) : Bool := decide (l.length ≤ 3) && l.all (sentB m)
def itemB (m : Model) (x : Item) : Bool := kindB x.kind && ticksB x && waitB x && sentsB m x.entry && sentsB m x.exit
def nestB : List Item → Bool
  | [] => false
  | x :: r => nestF [x.id] r
def headB : List Item → Bool
  | [] => false
  | x :: _ => planB x
def isB (m : Model) : Bool := filesB m.files && idsB m.items && headB m.items && nestB m.items && m.items.all (itemB m)
/-! ### Rows, step by step -/
theorem drop_at {α : Type} {l : List α} {k : Nat} {x : α} (h : l[k]? = some x) : l.drop k = x :: l.drop (k + 1) := by
  obtain ⟨hk, rfl⟩ := List.getElem?_eq_some_iff.1 h
  exact (List.drop_eq_getElem_cons hk)
theorem take_at {α : Type} {l : List α} {k : Nat} {x : α} (h : l[k]? = some x) : l.take (k + 1) = l.take k ++ [x] := by
  obtain ⟨hk, rfl⟩ := List.getElem?_eq_some_iff.1 h
  exact List.take_succ_eq_append_getElem hk
theorem at_lt {α : Type} {l : List α} {k : Nat} (h : k < l.length) : ∃ x, l[k]? = some x := ⟨l[k], List.getElem?_eq_getElem h⟩
theorem drop_all {α : Type} {l : List α} {k : Nat} (h : l.length ≤ k) : l.drop k = [] := List.drop_of_length_le h
theorem find_some {α : Type} {p : α → Bool} : ∀ {l : List α} {k : Nat} {x : α}, l[k]? = some x → p x = true → (∀ (j : Nat) y, j < k → l[j]? = some y → p y = false) → l.findIdx? p = some k
  | [], k, x, h, _, _ => by simp at h
  | a :: l, 0, x, h, hp, _ => by
    simp only [List.getElem?_cons_zero, Option.some.injEq] at h
    subst h
    rw [List.findIdx?_cons, hp]
    rfl
  | a :: l, k + 1, x, h, hp, hb => by
    rw [List.getElem?_cons_succ] at h
    have h0 := hb 0 a (by omega) rfl
    rw [List.findIdx?_cons, h0, find_some h hp (fun j y hj hy => hb (j + 1) y (by omega) (by rw [List.getElem?_cons_succ]; exact hy))]
    rfl
theorem find_none {α : Type} {p : α → Bool} {l : List α} (h : ∀ (j : Nat) y, l[j]? = some y → p y = false) : l.findIdx? p = none := by
  rw [List.findIdx?_eq_none_iff]
  intro x hx
  obtain ⟨j, hj⟩ := List.getElem?_of_mem hx
  exact h j x hj
theorem find_some_inv {α : Type} {p : α → Bool} {l : List α} {k : Nat} (h : l.findIdx? p = some k) : ∃ x, l[k]? = some x ∧ p x = true ∧ ∀ (j : Nat) y, j < k → l[j]? = some y → p y = false := by
  rw [List.findIdx?_eq_some_iff_getElem] at h
  obtain ⟨hk, hp, hb⟩ := h
  refine ⟨l[k], List.getElem?_eq_getElem hk, hp, fun j y hj hy => ?_⟩
  obtain ⟨hl, rfl⟩ := List.getElem?_eq_some_iff.1 hy
  simpa using hb j hj
theorem find_none_inv {α : Type} {p : α → Bool} {l : List α} (h : l.findIdx? p = none) : ∀ (j : Nat) y, l[j]? = some y → p y = false := by
  rw [List.findIdx?_eq_none_iff] at h
  intro j y hy
  exact h y (List.mem_of_getElem? hy)
theorem mem_take {α : Type} {l : List α} {k : Nat} {x : α} : x ∈ l.take k ↔ ∃ j, j < k ∧ l[j]? = some x := by
  rw [List.mem_iff_getElem?]
  constructor
  · rintro ⟨j, hj⟩
    rw [List.getElem?_take] at hj
    split at hj
    · exact ⟨j, by assumption, hj⟩
    · cases hj
  · rintro ⟨j, hj, h⟩
    exact ⟨j, by rw [List.getElem?_take, if_pos hj]; exact h⟩
end Go.Proofs.YtjfonpbnohbpfaaGreatDoor.Mp
/-
  Models in memory: what it means that a row of texts, events, conditions, sentries, items lies there.
-/
set_option linter.unusedSimpArgs false
set_option linter.unusedVariables false
namespace Go.Proofs.YtjfonpbnohbpfaaGreatDoor
open Go.RowKit
/-- A row of elements of z cells each. -/
def RowR {α : Type} (z : Nat) (R : World → List Value → α → Prop) (w : World) (v : Value) (l : List α) : Prop :=
  ∃ b o, (∃ ao cap, v = .slice ao l.length cap ∧ l.length ≤ cap ∧ (0 < l.length → ao = some ⟨b, o, none⟩)) ∧ l.length ≤ 10000000000000 ∧ ∀ (i : Nat) x, l[i]? = some x → ∃ cs : List Value, cs.length = z ∧ R w cs x ∧ ∀ (j : Nat) c, cs[j]? = some c → w.cell? ⟨b, o + i * z + j, none⟩ = some c
def strR (w : World) (cs : List Value) (s : ByteArray) : Prop := cs = [.string s] ∧ s.size ≤ 140737488355328
def onR (w : World) (cs : List Value) (x : Mp.On) : Prop := cs = [.string x.1, .int .i64 x.2] ∧ x.1.size ≤ 140737488355328
def condR (w : World) (cs : List Value) (x : Mp.Cond) : Prop := cs = [.string x.1, .string x.2.1, .int .i64 x.2.2] ∧ x.1.size ≤ 140737488355328 ∧ x.2.1.size ≤ 140737488355328
def sentR (w : World) (cs : List Value) (x : Mp.Sent) : Prop := ∃ v1 v2, cs = [v1, v2] ∧ RowR 2 onR w v1 x.1 ∧ RowR 3 condR w v2 x.2
abbrev itemC (x : Mp.Item) (v5 v6 : Value) : List Value := [.string x.id, .int .i64 x.kind, .string x.parent, .bool x.req, .int .i64 x.ticks, v5, v6]
def itemR (w : World) (cs : List Value) (x : Mp.Item) : Prop :=
  ∃ v5 v6, cs = itemC x v5 v6 ∧ (x.id.size ≤ 140737488355328 ∧ x.parent.size ≤ 140737488355328) ∧ RowR 2 sentR w v5 x.entry ∧ RowR 2 sentR w v6 x.exit
abbrev FRow := RowR 1 strR
abbrev ORow := RowR 2 onR
abbrev CRow := RowR 3 condR
abbrev SRow := RowR 2 sentR
abbrev IRow := RowR 7 itemR
theorem RowR.turn {α : Type} {z : Nat} {R R' : World → List Value → α → Prop} {w w' : World} {v : Value} {l : List α} (h : RowR z R w v l) (hR : ∀ cs x, x ∈ l → R w cs x → R' w' cs x) (hc : ∀ a c, w.cell? a = some c → w'.cell? a = some c) : RowR z R' w' v l := by
  obtain ⟨b, o, h1, h2, h3⟩ := h
  refine ⟨b, o, h1, h2, fun i x hx => ?_⟩
  obtain ⟨cs, k1, k2, k3⟩ := h3 i x hx
  exact ⟨cs, k1, hR cs x (List.mem_of_getElem? hx) k2, fun j c hj => hc _ _ (k3 j c hj)⟩
theorem below_cell {w w' : World} (hb : Below w.heap.size w w') (a : Addr) (c : Value) (h : w.cell? a = some c) : w'.cell? a = some c := by
  rw [hb.cell (cell_lt h)]
  exact h
theorem frow_turn {w w' : World} {v : Value} {l : List ByteArray} (h : FRow w v l) (hc : ∀ a c, w.cell? a = some c → w'.cell? a = some c) : FRow w' v l := RowR.turn h (fun _ _ _ h => h) hc
theorem orow_turn {w w' : World} {v : Value} {l : List Mp.On} (h : ORow w v l) (hc : ∀ a c, w.cell? a = some c → w'.cell? a = some c) : ORow w' v l := RowR.turn h (fun _ _ _ h => h) hc
theorem crow_turn {w w' : World} {v : Value} {l : List Mp.Cond} (h : CRow w v l) (hc : ∀ a c, w.cell? a = some c → w'.cell? a = some c) : CRow w' v l := RowR.turn h (fun _ _ _ h => h) hc
theorem srow_turn {w w' : World} {v : Value} {l : List Mp.Sent} (h : SRow w v l) (hc : ∀ a c, w.cell? a = some c → w'.cell? a = some c) : SRow w' v l :=
  RowR.turn h (fun cs x _ ⟨v1, v2, e, h1, h2⟩ => ⟨v1, v2, e, orow_turn h1 hc, crow_turn h2 hc⟩) hc
theorem irow_turn {w w' : World} {v : Value} {l : List Mp.Item} (h : IRow w v l) (hc : ∀ a c, w.cell? a = some c → w'.cell? a = some c) : IRow w' v l :=
  RowR.turn h (fun cs x _ ⟨v1, v2, e, hz, h1, h2⟩ => ⟨v1, v2, e, hz, srow_turn h1 hc, srow_turn h2 hc⟩) hc
theorem frow_below {w w' : World} {v : Value} {l : List ByteArray} (h : FRow w v l) (hb : Below w.heap.size w w') : FRow w' v l := frow_turn h (below_cell hb)
theorem orow_below {w w' : World} {v : Value} {l : List Mp.On} (h : ORow w v l) (hb : Below w.heap.size w w') : ORow w' v l := orow_turn h (below_cell hb)
theorem crow_below {w w' : World} {v : Value} {l : List Mp.Cond} (h : CRow w v l) (hb : Below w.heap.size w w') : CRow w' v l := crow_turn h (below_cell hb)
theorem srow_below {w w' : World} {v : Value} {l : List Mp.Sent} (h : SRow w v l) (hb : Below w.heap.size w w') : SRow w' v l := srow_turn h (below_cell hb)
theorem irow_below {w w' : World} {v : Value} {l : List Mp.Item} (h : IRow w v l) (hb : Below w.heap.size w w') : IRow w' v l := irow_turn h (below_cell hb)
/-- Each row's elements by their cells. -/
theorem rowR_nil {α : Type} {z : Nat} {R : World → List Value → α → Prop} (w : World) : RowR z R w nilS [] := ⟨0, 0, ⟨none, 0, rfl, Nat.le_refl _, fun h => absurd h (Nat.lt_irrefl 0)⟩, Nat.zero_le _, fun i x hx => by simp at hx⟩
theorem rowR_take {α : Type} {z : Nat} {R : World → List Value → α → Prop} {w : World} {ao : Option Addr} {n cap : Nat} {l : List α} (h : RowR z R w (.slice ao n cap) l) (k cap' : Nat) (hk : k ≤ n) (hk' : k ≤ cap') : RowR z R w (.slice ao k cap') (l.take k) := by
  obtain ⟨b, o, ⟨a1, c1, e, hcp, ha⟩, h2, h3⟩ := h
  cases e
  have hl : (l.take k).length = k := by rw [List.length_take]; omega
  refine ⟨b, o, ⟨ao, cap', by rw [hl], by omega, fun h0 => ha (by omega)⟩, by rw [hl]; omega, fun i x hx => ?_⟩
  rw [List.getElem?_take] at hx
  split at hx
  · exact h3 i x hx
  · cases hx
theorem frow_at {w : World} {ao : Option Addr} {n cap : Nat} {l : List ByteArray} (h : FRow w (.slice ao n cap) l) : n = l.length ∧ n ≤ 10000000000000 ∧ n ≤ cap ∧ ∃ b o, (0 < n → ao = some ⟨b, o, none⟩) ∧ ∀ (i : Nat) s, l[i]? = some s → s.size ≤ 140737488355328 ∧ w.cell? ⟨b, o + i, none⟩ = some (.string s) := by
  obtain ⟨b, o, ⟨a1, c1, e, hcp, ha⟩, h2, h3⟩ := h
  cases e
  refine ⟨rfl, h2, hcp, b, o, ha, fun i s hs => ?_⟩
  obtain ⟨cs, _, ⟨rfl, hz⟩, hc⟩ := h3 i s hs
  have := hc 0 _ rfl
  rw [Nat.mul_one] at this
  exact ⟨hz, this⟩
theorem orow_at {w : World} {ao : Option Addr} {n cap : Nat} {l : List Mp.On} (h : ORow w (.slice ao n cap) l) : n = l.length ∧ n ≤ 10000000000000 ∧ n ≤ cap ∧ ∃ b o, (0 < n → ao = some ⟨b, o, none⟩) ∧ ∀ (i : Nat) x, l[i]? = some x → x.1.size ≤ 140737488355328 ∧ w.cell? ⟨b, o + i * 2, none⟩ = some (.string x.1) ∧ w.cell? ⟨b, o + i * 2 + 1, none⟩ = some (.int .i64 x.2) := by
  obtain ⟨b, o, ⟨a1, c1, e, hcp, ha⟩, h2, h3⟩ := h
  cases e
  refine ⟨rfl, h2, hcp, b, o, ha, fun i s hs => ?_⟩
  obtain ⟨cs, _, ⟨rfl, hz⟩, hc⟩ := h3 i s hs
  exact ⟨hz, hc 0 _ rfl, hc 1 _ rfl⟩
theorem crow_at {w : World} {ao : Option Addr} {n cap : Nat} {l : List Mp.Cond} (h : CRow w (.slice ao n cap) l) : n = l.length ∧ n ≤ 10000000000000 ∧ n ≤ cap ∧ ∃ b o, (0 < n → ao = some ⟨b, o, none⟩) ∧ ∀ (i : Nat) x, l[i]? = some x → (x.1.size ≤ 140737488355328 ∧ x.2.1.size ≤ 140737488355328) ∧ w.cell? ⟨b, o + i * 3, none⟩ = some (.string x.1) ∧ w.cell? ⟨b, o + i * 3 + 1, none⟩ = some (.string x.2.1) ∧ w.cell? ⟨b, o + i * 3 + 2, none⟩ = some (.int .i64 x.2.2) := by
  obtain ⟨b, o, ⟨a1, c1, e, hcp, ha⟩, h2, h3⟩ := h
  cases e
  refine ⟨rfl, h2, hcp, b, o, ha, fun i s hs => ?_⟩
  obtain ⟨cs, _, ⟨rfl, hz⟩, hc⟩ := h3 i s hs
  exact ⟨hz, hc 0 _ rfl, hc 1 _ rfl, hc 2 _ rfl⟩
theorem row_val {α : Type} {z : Nat} {R : World → List Value → α → Prop} {w : World} {v : Value} {l : List α} (h : RowR z R w v l) : ∃ ao cap, v = .slice ao l.length cap := by
  obtain ⟨b, o, ⟨a1, c1, e, hcp, ha⟩, h2, h3⟩ := h
  exact ⟨a1, c1, e⟩
theorem srow_at {w : World} {ao : Option Addr} {n cap : Nat} {l : List Mp.Sent} (h : SRow w (.slice ao n cap) l) : n = l.length ∧ n ≤ 10000000000000 ∧ n ≤ cap ∧ ∃ b o, (0 < n → ao = some ⟨b, o, none⟩) ∧ ∀ (i : Nat) x, l[i]? = some x → ∃ a1 c1 a2 c2, ORow w (.slice a1 x.1.length c1) x.1 ∧ CRow w (.slice a2 x.2.length c2) x.2 ∧ w.cell? ⟨b, o + i * 2, none⟩ = some (.slice a1 x.1.length c1) ∧ w.cell? ⟨b, o + i * 2 + 1, none⟩ = some (.slice a2 x.2.length c2) := by
  obtain ⟨b, o, ⟨a1, c1, e, hcp, ha⟩, h2, h3⟩ := h
  cases e
  refine ⟨rfl, h2, hcp, b, o, ha, fun i s hs => ?_⟩
  obtain ⟨cs, _, ⟨v1, v2, rfl, r1, r2⟩, hc⟩ := h3 i s hs
  obtain ⟨a1, c1, rfl⟩ := row_val r1
  obtain ⟨a2, c2, rfl⟩ := row_val r2
  exact ⟨a1, c1, a2, c2, r1, r2, hc 0 _ rfl, hc 1 _ rfl⟩
/-- An item's cells. -/
structure ItemAt (w : World) (b o : Nat) (x : Mp.Item) (a5 : Option Addr) (c5 : Nat) (a6 : Option Addr) (c6 : Nat) : Prop where
  zid : x.id.size ≤ 140737488355328
  zpa : x.parent.size ≤ 140737488355328
  entry : SRow w (.slice a5 x.entry.length c5) x.entry
  exit : SRow w (.slice a6 x.exit.length c6) x.exit
  c0 : w.cell? ⟨b, o, none⟩ = some (.string x.id)
  c1 : w.cell? ⟨b, o + 1, none⟩ = some (.int .i64 x.kind)
  c2 : w.cell? ⟨b, o + 2, none⟩ = some (.string x.parent)
  c3 : w.cell? ⟨b, o + 3, none⟩ = some (.bool x.req)
  c4 : w.cell? ⟨b, o + 4, none⟩ = some (.int .i64 x.ticks)
  c5 : w.cell? ⟨b, o + 5, none⟩ = some (.slice a5 x.entry.length c5)
  c6 : w.cell? ⟨b, o + 6, none⟩ = some (.slice a6 x.exit.length c6)
theorem ItemAt.turn {w w' : World} {b o : Nat} {x : Mp.Item} {a5 a6 : Option Addr} {c5 c6 : Nat} (h : ItemAt w b o x a5 c5 a6 c6) (hc : ∀ a c, w.cell? a = some c → w'.cell? a = some c) : ItemAt w' b o x a5 c5 a6 c6 :=
  ⟨h.zid, h.zpa, srow_turn h.entry hc, srow_turn h.exit hc, hc _ _ h.c0, hc _ _ h.c1, hc _ _ h.c2, hc _ _ h.c3, hc _ _ h.c4, hc _ _ h.c5, hc _ _ h.c6⟩
theorem irow_at {w : World} {ao : Option Addr} {n cap : Nat} {l : List Mp.Item} (h : IRow w (.slice ao n cap) l) : n = l.length ∧ n ≤ 10000000000000 ∧ n ≤ cap ∧ ∃ b o, (0 < n → ao = some ⟨b, o, none⟩) ∧ ∀ (i : Nat) x, l[i]? = some x → ∃ a5 c5 a6 c6, ItemAt w b (o + i * 7) x a5 c5 a6 c6 := by
  obtain ⟨b, o, ⟨a1, c1, e, hcp, ha⟩, h2, h3⟩ := h
  cases e
  refine ⟨rfl, h2, hcp, b, o, ha, fun i s hs => ?_⟩
  obtain ⟨cs, _, ⟨v5, v6, rfl, hz, r5, r6⟩, hc⟩ := h3 i s hs
  obtain ⟨a5, c5, rfl⟩ := row_val r5
  obtain ⟨a6, c6, rfl⟩ := row_val r6
  exact ⟨a5, c5, a6, c6, hz.1, hz.2, r5, r6, hc 0 _ rfl, hc 1 _ rfl, hc 2 _ rfl, hc 3 _ rfl, hc 4 _ rfl, hc 5 _ rfl, hc 6 _ rfl⟩
/-- A model in memory. -/
structure ModelAt (w : World) (af : Option Addr) (cf : Nat) (ai : Option Addr) (ci : Nat) (m : Mp.Model) : Prop where
  files : FRow w (.slice af m.files.length cf) m.files
  items : IRow w (.slice ai m.items.length ci) m.items
theorem ModelAt.below {w w' : World} {af ai : Option Addr} {cf ci : Nat} {m : Mp.Model} (h : ModelAt w af cf ai ci m) (hb : Below w.heap.size w w') : ModelAt w' af cf ai ci m := ⟨frow_below h.files hb, irow_below h.items hb⟩
end Go.Proofs.YtjfonpbnohbpfaaGreatDoor
/-
  Small parts of package model: kinds, ticks, events, operators, the plan.
-/
set_option linter.unusedSimpArgs false
set_option linter.unusedVariables false
namespace Go.Proofs.YtjfonpbnohbpfaaGreatDoor
open Go.RowKit
theorem tl_neM {a : ByteArray} (b : ByteArray) (l : List UInt8) (h : a ≠ b) (hb : b.toList = l) : ¬ a.toList = l := fun e => h (toList_inj (e.trans hb.symm))
theorem tl_beqM {a : ByteArray} (b : ByteArray) (l : List UInt8) (h : a ≠ b) (hb : b.toList = l) : (a.toList == l) = false := beq_eq_false_iff_ne.2 (tl_neM b l h hb)
theorem ba_eq (s : ByteArray) (a : Array UInt8) : (s = ⟨a⟩) = (s.toList = a.toList) := propext ⟨fun h => by rw [h, ByteArray.toList_eq], fun h => toList_inj (by rw [h, ByteArray.toList_eq])⟩
theorem len_beq {α : Type} (l : List α) : (((l.length : Nat) : Int) == 0) = decide (l = []) := by
  cases l with
  | nil => rfl
  | cons a l => rw [decide_eq_false (by simp)]; exact beq_eq_false_iff_ne.2 (by simp only [List.length_cons]; omega)
theorem int_beq (a b : Int) : (a == b) = decide (a = b) := by
  by_cases h : a = b
  · rw [decide_eq_true h]; exact beq_iff_eq.2 h
  · rw [decide_eq_false h]; exact beq_eq_false_iff_ne.2 h
theorem isKindD (k : Int) (w : World) :
    Calls Tryz.prog 84 #[.int .i64 k] w fun e w' => e = .returned (.bool (Mp.kindB k)) ∧ w' = w := by
  go_enter Tryz.func84, Tryz.ntmps84
  go_wp2
  all_goals go_ret
  all_goals refine ⟨ret_b ?_, rfl⟩
  all_goals rw [Bool.eq_iff_iff]
  all_goals simp only [Mp.kindB, Bool.and_eq_true, decide_eq_true_eq]
  all_goals first | omega | (simp; done) | (simp; omega)
theorem legalD (k e : Int) (w : World) :
    Calls Tryz.prog 140 #[.int .i64 k, .int .i64 e] w fun r w' => r = .returned (.bool (Mp.legalB k e)) ∧ w' = w := by
  go_enter Tryz.func140, Tryz.ntmps140
  go_wp2_with (go_at_call 84; refine (isKindD _ _).mono ?_; rintro e w' ⟨rfl, rfl⟩)
  all_goals go_ret
  all_goals refine ⟨ret_b ?_, rfl⟩
  all_goals (try simp only [beq_iff_eq, beq_eq_false_iff_ne] at *)
  all_goals first | (simp_all [Mp.legalB]; done) | (simp_all [Mp.legalB]; rw [Bool.eq_iff_iff]; simp; omega) | (simp_all [Mp.legalB]; omega)
theorem ticksD (x : Mp.Item) (v5 v6 : Value) (w : World) :
    Calls Tryz.prog 85 #[.agg #[.string x.id, .int .i64 x.kind, .string x.parent, .bool x.req, .int .i64 x.ticks, v5, v6]] w fun e w' => e = .returned (.bool (Mp.ticksB x)) ∧ Below w.heap.size w w' := by
  go_enter Tryz.func85, Tryz.ntmps85
  go_wp2
  all_goals go_ret
  all_goals refine ⟨ret_b ?_, (Below.refl _ _).alloc (Nat.le_refl _) _⟩
  all_goals (try simp only [beq_iff_eq, beq_eq_false_iff_ne] at *)
  all_goals (try simp_all [Mp.ticksB, ba_eq, len_beq, int_beq])
  all_goals (try omega)
theorem waitD (x : Mp.Item) (a5 : Option Addr) (c5 : Nat) (v6 : Value) (w : World) :
    Calls Tryz.prog 86 #[.agg #[.string x.id, .int .i64 x.kind, .string x.parent, .bool x.req, .int .i64 x.ticks, .slice a5 x.entry.length c5, v6]] w fun e w' => e = .returned (.bool (Mp.waitB x)) ∧ Below w.heap.size w w' := by
  go_enter Tryz.func86, Tryz.ntmps86
  go_wp2
  all_goals go_ret
  all_goals refine ⟨ret_b ?_, (Below.refl _ _).alloc (Nat.le_refl _) _⟩
  all_goals (try simp only [beq_iff_eq, beq_eq_false_iff_ne] at *)
  all_goals (try simp_all [Mp.waitB, ba_eq, len_beq, int_beq])
  all_goals (try omega)
theorem isPlanD (x : Mp.Item) (a5 : Option Addr) (c5 : Nat) (a6 : Option Addr) (c6 : Nat) (w : World) :
    Calls Tryz.prog 49 #[.agg #[.string x.id, .int .i64 x.kind, .string x.parent, .bool x.req, .int .i64 x.ticks, .slice a5 x.entry.length c5, .slice a6 x.exit.length c6]] w fun e w' => e = .returned (.bool (Mp.planB x)) ∧ Below w.heap.size w w' := by
  go_enter Tryz.func49, Tryz.ntmps49
  go_wp2
  all_goals go_ret
  all_goals refine ⟨ret_b ?_, (Below.refl _ _).alloc (Nat.le_refl _) _⟩
  all_goals (try simp only [beq_iff_eq, beq_eq_false_iff_ne] at *)
  all_goals (try simp_all [Mp.planB, ba_eq, len_beq, int_beq])
  all_goals (try omega)
theorem isOpD (s : ByteArray) (w : World) :
    Calls Tryz.prog 142 #[.string s] w fun e w' => e = .returned (.bool (Mp.opB s)) ∧ w' = w := by
  go_enter Tryz.func142, Tryz.ntmps142
  go_wp2
  all_goals go_ret
  all_goals refine ⟨ret_b ?_, rfl⟩
  all_goals (try simp only [beq_iff_eq, beq_eq_false_iff_ne] at *)
  all_goals (try simp_all [Mp.opB, ba_eq, len_beq, int_beq])
  all_goals (try omega)
end Go.Proofs.YtjfonpbnohbpfaaGreatDoor
/-
  slices.Index and slices.Contains, of texts and of events.
-/
set_option linter.unusedSimpArgs false
set_option linter.unusedVariables false
namespace Go.Proofs.YtjfonpbnohbpfaaGreatDoor
open Go.RowKit
theorem ret_i {k : IntKind} {a v : Int} (h : a = v) : Ending.returned (.int k a) = .returned (.int k v) := by rw [h]
def idxZ {α : Type} [DecidableEq α] (l : List α) (s : α) : Int := match Mp.idx l s with
  | some k => k
  | none => -1
theorem idxZ_some {α : Type} [DecidableEq α] {l : List α} {s : α} {k : Nat} (h : l[k]? = some s) (hb : ∀ (j : Nat) y, j < k → l[j]? = some y → y ≠ s) : idxZ l s = k := by
  unfold idxZ Mp.idx
  rw [Mp.find_some h (decide_eq_true rfl) (fun j y hj hy => decide_eq_false (hb j y hj hy))]
theorem idxZ_none {α : Type} [DecidableEq α] {l : List α} {s : α} (hb : ∀ (j : Nat) y, l[j]? = some y → y ≠ s) : idxZ l s = -1 := by
  unfold idxZ Mp.idx
  rw [Mp.find_none (fun j y hy => decide_eq_false (hb j y hy))]
theorem idxZ_has {α : Type} [DecidableEq α] (l : List α) (s : α) : decide (0 ≤ idxZ l s) = Mp.has l s := by
  unfold idxZ Mp.has
  cases Mp.idx l s with
  | none => rfl
  | some k => exact decide_eq_true (by show (0 : Int) ≤ k; omega)
theorem idxZ_ge {α : Type} [DecidableEq α] (l : List α) (s : α) : -1 ≤ idxZ l s := by
  unfold idxZ
  cases Mp.idx l s with
  | none => exact Int.le_refl _
  | some k => show (-1 : Int) ≤ k; omega
theorem indexS (w : World) (ao : Option Addr) (n cap : Nat) (l : List ByteArray) (s : ByteArray) (h : FRow w (.slice ao n cap) l) :
    Calls Tryz.prog 83 #[.slice ao n cap, .string s] w fun e w' => e = .returned (.int .i64 (idxZ l s)) ∧ w' = w := by
  obtain ⟨hn, hl, hcap, b, o, ha, hc⟩ := frow_at h
  have HN := hideT hn
  have HC := hideT hc
  have HA := hideT ha
  clear hn hc ha h
  go_enter Tryz.func83, Tryz.ntmps83
  go_wp2_with fail
  go_loop [8] (fun i => ∃ k : Nat, k ≤ n ∧ i = .int .i64 k ∧ Hid (∀ (j : Nat) y, j < k → l[j]? = some y → y ≠ s)) (fun i => n - (intOf i).toNat)
  case atStart => exact ⟨0, by omega, rfl, fun j y hj => absurd hj (by omega)⟩
  case round =>
    obtain ⟨k, hk, rfl, HB⟩ := hrel
    by_cases hlt : k < n
    · obtain ⟨t, ht⟩ := Mp.at_lt (l := l) (k := k) (by have := HN.out; omega)
      obtain ⟨hz, c0⟩ := HC.out k t ht
      obtain rfl := HA.out (by omega)
      have HT := hideT ht
      clear ht
      by_cases e : s = t
      · subst e
        have HF := hideT (idxZ_some HT.out HB.out)
        go_wp2_with fail
        go_ret
        exact ⟨ret_i HF.out.symm, rfl⟩
      · have e1 : (s.toList == t.toList) = false := beq_eq_false_iff_ne.2 fun h => e (toList_inj h)
        have HE := hideT e
        clear e
        go_wp2_with fail
        go_round
        case rel =>
          refine ⟨k + 1, by omega, by go_num, fun j y hj hy => ?_⟩
          by_cases hj' : j < k
          · exact HB.out j y hj' hy
          · obtain rfl : j = k := by omega
            rw [HT.out] at hy
            cases hy
            exact fun h => HE.out h.symm
        case measure => simp [intOf]; omega
    · have HF := hideT (idxZ_none (l := l) (s := s) (fun j y hy => HB.out j y (by have := HN.out; have := (List.getElem?_eq_some_iff.1 hy).1; omega) hy))
      go_wp2_with fail
      go_ret
      exact ⟨ret_i HF.out.symm, rfl⟩
theorem containsS (w : World) (ao : Option Addr) (n cap : Nat) (l : List ByteArray) (s : ByteArray) (h : FRow w (.slice ao n cap) l) :
    Calls Tryz.prog 115 #[.slice ao n cap, .string s] w fun e w' => e = .returned (.bool (Mp.has l s)) ∧ w' = w := by
  have H := hideT h
  clear h
  go_enter Tryz.func115, Tryz.ntmps115
  go_wp2_with fail
  refine (indexS w ao n cap l s H.out).mono ?_
  rintro e w1 ⟨rfl, rfl⟩
  go_wp2_with fail
  go_ret
  exact ⟨ret_b (idxZ_has l s), rfl⟩
theorem indexO (w : World) (ao : Option Addr) (n cap : Nat) (l : List Mp.On) (s : Mp.On) (h : ORow w (.slice ao n cap) l) :
    Calls Tryz.prog 163 #[.slice ao n cap, .agg #[.string s.1, .int .i64 s.2]] w fun e w' => e = .returned (.int .i64 (idxZ l s)) ∧ Below w.heap.size w w' := by
  obtain ⟨hn, hl, hcap, b, o, ha, hc⟩ := orow_at h
  obtain ⟨s1, s2⟩ := s
  have HN := hideT hn
  have HC := hideT hc
  have HA := hideT ha
  clear hn hc ha h
  dsimp only
  go_enter Tryz.func163, Tryz.ntmps163
  go_wp2_with fail
  go_loopw [8] (fun i wr => ∃ k : Nat, k ≤ n ∧ i = .int .i64 k ∧ Hid (∀ (j : Nat) y, j < k → l[j]? = some y → y ≠ (s1, s2)) ∧ Hid (Below w.heap.size w wr ∧ Lies wr w.heap.size 128 #[.string s1, .int .i64 s2])) (fun i _ => n - (intOf i).toNat)
  case atStart => exact ⟨0, by omega, rfl, fun j y hj => absurd hj (by omega), (Below.refl _ _).alloc (Nat.le_refl _) _, Lies.new _ _ _⟩
  case round =>
    obtain ⟨k, hk, rfl, HB, HW⟩ := hrel
    have x0 := HW.out.2.cell 0
    have x1 := HW.out.2.cell 1
    simp only [List.getElem?_toArray, List.getElem?_cons_zero, List.getElem?_cons_succ] at x0 x1
    by_cases hlt : k < n
    · obtain ⟨⟨t1, t2⟩, ht⟩ := Mp.at_lt (l := l) (k := k) (by have := HN.out; omega)
      obtain ⟨hz, c0, c1⟩ := HC.out k _ ht
      have c0' := below_cell HW.out.1 _ _ c0
      have c1' := below_cell HW.out.1 _ _ c1
      dsimp only at c0' c1'
      obtain rfl := HA.out (by omega)
      have HT := hideT ht
      clear ht c0 c1
      by_cases e : (s1, s2) = (t1, t2)
      · have e1 : s1 = t1 := congrArg Prod.fst e
        have e2 : s2 = t2 := congrArg Prod.snd e
        subst e1
        subst e2
        have HF := hideT (idxZ_some HT.out HB.out)
        clear e
        go_wp2_with fail
        go_region
        go_wp2_with fail
        go_ret
        exact ⟨ret_i HF.out.symm, HW.out.1.drew⟩
      · have HR : Hid (∀ (j : Nat) y, j < k + 1 → l[j]? = some y → y ≠ (s1, s2)) := by
          intro j y hj hy
          by_cases hj' : j < k
          · exact HB.out j y hj' hy
          · obtain rfl : j = k := by omega
            rw [HT.out] at hy
            cases hy
            exact fun h => e h.symm
        by_cases e1 : s1 = t1
        · have e2 : ¬ s2 = t2 := fun h => e (by rw [e1, h])
          subst e1
          clear e
          go_wp2_with fail
          go_region
          go_wp2_with fail
          go_roundw
          case rel => exact ⟨k + 1, by omega, by go_num, HR, HW.out.1.drew, HW.out.2⟩
          case measure => simp [intOf]; omega
        · have e2 : ¬ s1.toList = t1.toList := fun h => e1 (toList_inj h)
          clear e e1
          go_wp2_with fail
          go_region
          go_wp2_with fail
          go_roundw
          case rel => exact ⟨k + 1, by omega, by go_num, HR, HW.out.1.drew, HW.out.2⟩
          case measure => simp [intOf]; omega
    · have HF := hideT (idxZ_none (l := l) (s := (s1, s2)) (fun j y hy => HB.out j y (by have := HN.out; have := (List.getElem?_eq_some_iff.1 hy).1; omega) hy))
      go_wp2_with fail
      go_ret
      exact ⟨ret_i HF.out.symm, HW.out.1⟩
theorem containsO (w : World) (ao : Option Addr) (n cap : Nat) (l : List Mp.On) (s : Mp.On) (h : ORow w (.slice ao n cap) l) :
    Calls Tryz.prog 141 #[.slice ao n cap, .agg #[.string s.1, .int .i64 s.2]] w fun e w' => e = .returned (.bool (Mp.has l s)) ∧ Below w.heap.size w w' := by
  have H := hideT h
  clear h
  obtain ⟨s1, s2⟩ := s
  dsimp only
  go_enter Tryz.func141, Tryz.ntmps141
  go_wp2_with fail
  generalize hW1 : w.alloc _ = W1
  have B1 : Below w.heap.size w W1 := by rw [← hW1]; exact (Below.refl _ _).alloc (Nat.le_refl _) _
  refine (indexO W1 ao n cap l (s1, s2) (orow_below H.out B1)).mono ?_
  rintro e w1 ⟨rfl, b1⟩
  go_wp2_with fail
  go_ret
  exact ⟨ret_b (idxZ_has l _), B1.trans (b1.mono B1.size)⟩
end Go.Proofs.YtjfonpbnohbpfaaGreatDoor
/-
  Rows of names; the place of an item.
-/
set_option linter.unusedSimpArgs false
set_option linter.unusedVariables false
namespace Go.Proofs.YtjfonpbnohbpfaaGreatDoor
open Go.RowKit
theorem isV (s : ByteArray) (w : World) (hs : s.size ≤ 140737488355328) (b : Bool) (h : Hid (Mp.isN s = b)) :
    Calls Tryz.prog 114 #[.string s] w fun e w' => e = .returned (.bool b) ∧ w' = w := by
  have := is_any s w (by unfold maxLen; omega)
  rw [← h.out]
  exact this
theorem containsSV (w : World) (ao : Option Addr) (n cap : Nat) (l : List ByteArray) (s : ByteArray) (h : FRow w (.slice ao n cap) l) (b : Bool) (hb : Hid (Mp.has l s = b)) :
    Calls Tryz.prog 115 #[.slice ao n cap, .string s] w fun e w' => e = .returned (.bool b) ∧ w' = w := by
  rw [← hb.out]
  exact containsS w ao n cap l s h
theorem areNamesD (w : World) (ao : Option Addr) (n cap : Nat) (l : List ByteArray) (h : FRow w (.slice ao n cap) l) :
    Calls Tryz.prog 82 #[.slice ao n cap] w fun e w' => e = .returned (.bool (Mp.namesF [] l)) ∧ w' = w := by
  obtain ⟨hn, hl, hcap, b, o, ha, hc⟩ := frow_at h
  have HN := hideT hn
  have HC := hideT hc
  have HA := hideT ha
  have H := hideT h
  clear hn hc ha h
  go_enter Tryz.func82, Tryz.ntmps82
  go_wp2_with fail
  go_loop [7] (fun i => ∃ k : Nat, k ≤ n ∧ i = .int .i64 k ∧ Hid (Mp.namesF (l.take k) (l.drop k) = Mp.namesF [] l)) (fun i => n - (intOf i).toNat)
  case atStart => exact ⟨0, by omega, rfl, rfl⟩
  case round =>
    obtain ⟨k, hk, rfl, HB⟩ := hrel
    by_cases hlt : k < n
    · obtain ⟨t, ht⟩ := Mp.at_lt (l := l) (k := k) (by have := HN.out; omega)
      obtain ⟨hz, c0⟩ := HC.out k t ht
      obtain rfl := HA.out (by omega)
      have HB2 := HB.out
      rw [Mp.drop_at ht, Mp.namesF] at HB2
      have HB2 := hideT HB2
      have HT := hideT (Mp.take_at ht)
      have HR := hideT (rowR_take H.out k cap (by omega) (by omega))
      clear ht
      obtain ⟨b1, H1⟩ : ∃ x, Hid (Mp.isN t = x) := ⟨_, rfl⟩
      obtain ⟨b2, H2⟩ : ∃ x, Hid (Mp.has (l.take k) t = x) := ⟨_, rfl⟩
      cases b1
      · have HF : Hid (Mp.namesF [] l = false) := by show _ = _; rw [← HB2.out, H1.out]; rfl
        go_wp2_with fail
        refine (isV t w hz false H1).mono ?_
        rintro e w1 ⟨rfl, rfl⟩
        go_wp2_with fail
        go_ret
        exact ⟨ret_b HF.out.symm, rfl⟩
      · cases b2
        · have HF : Hid (Mp.namesF (l.take (k + 1)) (l.drop (k + 1)) = Mp.namesF [] l) := by show _ = _; rw [← HB2.out, H1.out, H2.out, HT.out]; rfl
          go_wp2_with fail
          refine (isV t w hz true H1).mono ?_
          rintro e w1 ⟨rfl, rfl⟩
          go_wp2_with fail
          refine (containsSV _ _ k cap _ t HR.out false H2).mono ?_
          rintro e w1 ⟨rfl, rfl⟩
          go_wp2_with fail
          go_round
          case rel => exact ⟨k + 1, by omega, by go_num, HF⟩
          case measure => simp [intOf]; omega
        · have HF : Hid (Mp.namesF [] l = false) := by show _ = _; rw [← HB2.out, H1.out, H2.out]; rfl
          go_wp2_with fail
          refine (isV t w hz true H1).mono ?_
          rintro e w1 ⟨rfl, rfl⟩
          go_wp2_with fail
          refine (containsSV _ _ k cap _ t HR.out true H2).mono ?_
          rintro e w1 ⟨rfl, rfl⟩
          go_wp2_with fail
          go_ret
          exact ⟨ret_b HF.out.symm, rfl⟩
    · have HF : Hid (Mp.namesF [] l = true) := by show _ = _; rw [← HB.out, Mp.drop_all (by have := HN.out; omega)]; rfl
      go_wp2_with fail
      go_ret
      exact ⟨ret_b HF.out.symm, rfl⟩
theorem filesD (w : World) (ao : Option Addr) (n cap : Nat) (l : List ByteArray) (h : FRow w (.slice ao n cap) l) :
    Calls Tryz.prog 47 #[.slice ao n cap] w fun e w' => e = .returned (.bool (Mp.filesB l)) ∧ w' = w := by
  have HN := hideT (frow_at h).1
  have hl := (frow_at h).2.1
  have H := hideT h
  clear h
  by_cases h6 : n ≤ 6
  · have HF : Hid (Mp.filesB l = Mp.namesF [] l) := by show _ = _; unfold Mp.filesB; rw [decide_eq_true (by have := HN.out; omega)]; rfl
    go_enter Tryz.func47, Tryz.ntmps47
    go_wp2_with fail
    refine (areNamesD w ao n cap l H.out).mono ?_
    rintro e w1 ⟨rfl, rfl⟩
    go_wp2_with fail
    go_ret
    exact ⟨ret_b HF.out.symm, rfl⟩
  · have HF : Hid (Mp.filesB l = false) := by show _ = _; unfold Mp.filesB; rw [decide_eq_false (by have := HN.out; omega)]; rfl
    go_enter Tryz.func47, Tryz.ntmps47
    go_wp2_with fail
    go_ret
    exact ⟨ret_b HF.out.symm, rfl⟩
theorem placeFnD (x : Mp.Item) (v5 v6 : Value) (q : Nat) (s : ByteArray) (w : World) (hq : w.cell? ⟨q, 0, none⟩ = some (.string s)) :
    Calls Tryz.prog 162 #[.agg #[.string x.id, .int .i64 x.kind, .string x.parent, .bool x.req, .int .i64 x.ticks, v5, v6], .pointer (some ⟨q, 0, none⟩)] w fun e w' => e = .returned (.bool (decide (x.id = s))) ∧ Below w.heap.size w w' := by
  have hq' := (cell_old w (.cells #[.string x.id, .int .i64 x.kind, .string x.parent, .bool x.req, .int .i64 x.ticks, v5, v6] 31) ⟨q, 0, none⟩ (cell_lt hq)).trans hq
  by_cases e : x.id = s
  · subst e
    have HF : Hid (decide (x.id = x.id) = true) := decide_eq_true rfl
    go_enter Tryz.func162, Tryz.ntmps162
    go_wp2_with fail
    go_ret
    exact ⟨rfl, (Below.refl _ _).alloc (Nat.le_refl _) _⟩
  · have e1 : (x.id.toList == s.toList) = false := beq_eq_false_iff_ne.2 fun h => e (toList_inj h)
    have HF : Hid (decide (x.id = s) = false) := decide_eq_false e
    clear e
    go_enter Tryz.func162, Tryz.ntmps162
    go_wp2_with fail
    go_ret
    exact ⟨ret_b HF.out.symm, (Below.refl _ _).alloc (Nat.le_refl _) _⟩
end Go.Proofs.YtjfonpbnohbpfaaGreatDoor
/-
  The place of an item; the kids of one; the items' own names.
-/
set_option linter.unusedSimpArgs false
set_option linter.unusedVariables false
namespace Go.Proofs.YtjfonpbnohbpfaaGreatDoor
open Go.RowKit
theorem placeZ_some {l : List Mp.Item} {s : ByteArray} {k : Nat} {x : Mp.Item} (h : l[k]? = some x) (hx : x.id = s) (hb : ∀ (j : Nat) y, j < k → l[j]? = some y → y.id ≠ s) : Mp.placeZ l s = k := by
  unfold Mp.placeZ Mp.placeO
  rw [Mp.find_some h (decide_eq_true hx) (fun j y hj hy => decide_eq_false (hb j y hj hy))]
theorem placeZ_none {l : List Mp.Item} {s : ByteArray} (hb : ∀ (j : Nat) y, l[j]? = some y → y.id ≠ s) : Mp.placeZ l s = -1 := by
  unfold Mp.placeZ Mp.placeO
  rw [Mp.find_none (fun j y hy => decide_eq_false (hb j y hy))]
set_option maxHeartbeats 1000000 in
theorem indexFuncD (w : World) (ao : Option Addr) (n cap : Nat) (l : List Mp.Item) (s : ByteArray) (q : Nat) (hq : w.cell? ⟨q, 0, none⟩ = some (.string s)) (h : IRow w (.slice ao n cap) l) :
    Calls Tryz.prog 161 #[.slice ao n cap, .func (.func 162) #[] #[.pointer (some ⟨q, 0, none⟩)]] w fun e w' => e = .returned (.int .i64 (Mp.placeZ l s)) ∧ Below w.heap.size w w' := by
  obtain ⟨hn, hl, hcap, b, o, ha, hc⟩ := irow_at h
  have HN := hideT hn
  have HC := hideT hc
  have HA := hideT ha
  have HQ := hideT hq
  clear hn hc ha h hq
  go_enter Tryz.func161, Tryz.ntmps161
  go_wp2_with fail
  go_loopw [8] (fun i wr => ∃ k : Nat, k ≤ n ∧ i = .int .i64 k ∧ Hid (∀ (j : Nat) y, j < k → l[j]? = some y → y.id ≠ s) ∧ Hid (Below w.heap.size w wr)) (fun i _ => n - (intOf i).toNat)
  case atStart => exact ⟨0, by omega, rfl, fun j y hj => absurd hj (by omega), Below.refl _ _⟩
  case round =>
    obtain ⟨k, hk, rfl, HB, HW⟩ := hrel
    by_cases hlt : k < n
    · obtain ⟨x, hx⟩ := Mp.at_lt (l := l) (k := k) (by have := HN.out; omega)
      obtain ⟨a5, c5, a6, c6, I0⟩ := HC.out k _ hx
      have I1 := I0.turn (below_cell HW.out)
      obtain rfl := HA.out (by omega)
      have HX := hideT hx
      have d0 := I1.c0
      have d1 := I1.c1
      have d2 := I1.c2
      have d3 := I1.c3
      have d4 := I1.c4
      have d5 := I1.c5
      have d6 := I1.c6
      clear hx I0 I1
      go_wp2_with fail
      refine (placeFnD x (.slice a5 x.entry.length c5) (.slice a6 x.exit.length c6) q s wr (below_cell HW.out _ _ HQ.out)).mono ?_
      rintro e w1 ⟨rfl, b1⟩
      have HW1 := hideT (HW.out.trans (b1.mono HW.out.size))
      clear b1 d0 d1 d2 d3 d4 d5 d6
      by_cases e : x.id = s
      · have HF := hideT (placeZ_some HX.out e HB.out)
        have e1 : decide (x.id = s) = true := decide_eq_true e
        rw [e1]
        clear e e1
        go_wp2_with fail
        go_ret
        exact ⟨ret_i HF.out.symm, HW1.out⟩
      · have e1 : decide (x.id = s) = false := decide_eq_false e
        rw [e1]
        have HR : Hid (∀ (j : Nat) y, j < k + 1 → l[j]? = some y → y.id ≠ s) := by
          intro j y hj hy
          by_cases hj' : j < k
          · exact HB.out j y hj' hy
          · obtain rfl : j = k := by omega
            rw [HX.out] at hy
            cases hy
            exact e
        clear e e1
        go_wp2_with fail
        go_roundw
        case rel => exact ⟨k + 1, by omega, by go_num, HR, HW1⟩
        case measure => simp [intOf]; omega
    · have HF := hideT (placeZ_none (l := l) (s := s) (fun j y hy => HB.out j y (by have := HN.out; have := (List.getElem?_eq_some_iff.1 hy).1; omega) hy))
      go_wp2_with fail
      go_ret
      exact ⟨ret_i HF.out.symm, HW.out⟩
theorem placeD (w : World) (vf : Value) (ao : Option Addr) (n cap : Nat) (l : List Mp.Item) (s : ByteArray) (h : IRow w (.slice ao n cap) l) :
    Calls Tryz.prog 139 #[.agg #[vf, .slice ao n cap], .string s] w fun e w' => e = .returned (.int .i64 (Mp.placeZ l s)) ∧ Below w.heap.size w w' := by
  have H := hideT h
  clear h
  go_enter Tryz.func139, Tryz.ntmps139
  go_wp2_with fail
  generalize hW1 : w.alloc _ = W1
  have B1 : Below w.heap.size w W1 := by rw [← hW1]; exact (Below.refl _ _).alloc (Nat.le_refl _) _
  generalize hW2 : W1.alloc _ = W2
  have B2 : Below W1.heap.size W1 W2 := by rw [← hW2]; exact (Below.refl _ _).alloc (Nat.le_refl _) _
  have B12 : Below w.heap.size w W2 := B1.trans (B2.mono B1.size)
  have hz : W1.heap.size = w.heap.size + 1 := by rw [← hW1]; simp
  have hq : W2.cell? ⟨w.heap.size + 1, 0, none⟩ = some (.string s) := by rw [← hz, ← hW2]; exact cell_new _ _ _ 0
  refine (indexFuncD W2 ao n cap l s (w.heap.size + 1) hq (irow_below H.out B12)).mono ?_
  rintro e w1 ⟨rfl, b1⟩
  go_wp2_with fail
  go_ret
  exact ⟨rfl, B12.trans (b1.mono B12.size)⟩
end Go.Proofs.YtjfonpbnohbpfaaGreatDoor
/-
  Rows that were appended to, read as rows of elements.
-/
set_option linter.unusedSimpArgs false
set_option linter.unusedVariables false
namespace Go.Proofs.YtjfonpbnohbpfaaGreatDoor
open Go.RowKit
theorem infoS : (Tryz.prog.info? 9).map (fun i => (i.zero, i.size, i.bytes)) = some (some (.string ⟨#[]⟩), 1, 16) := by kernel_rfl
theorem infoInt : (Tryz.prog.info? 3).map (fun i => (i.zero, i.size, i.bytes)) = some (some (.int .i64 0), 1, 8) := by kernel_rfl
theorem infoI : (Tryz.prog.info? 31).map (fun i => (i.zero, i.size, i.bytes)) = some (some (.agg #[.string ⟨#[]⟩, .int .i64 0, .string ⟨#[]⟩, .bool false, .int .i64 0, .slice none 0 0, .slice none 0 0]), 7, 104) := by kernel_rfl
theorem own_capM {w : World} {H : Nat} {e : TypeId} {z : Nat} {ad : Option Addr} {cap m n : Nat} {xs : List Value} (h : w.ownsRow H e z (.slice ad m cap) n xs) : m = n ∧ n ≤ cap := by
  rcases h.2 with ⟨h1, h0⟩ | ⟨g, cap', cur, h1, _, _, h2, _⟩
  · cases h1; omega
  · cases h1; exact ⟨rfl, h2⟩
theorem own_below {w w' : World} {H : Nat} {e : TypeId} {z : Nat} {v : Value} {n : Nat} {xs : List Value} (h : w.ownsRow H e z v n xs) (hb : Below w.heap.size w w') : w'.ownsRow H e z v n xs :=
  own_keep h (fun g hg => hb.block g (own_lt h hg).1)
theorem news1 (w : World) (cs : Array Value) (t : TypeId) : ∀ (j : Nat) u, cs.toList[j]? = some u → (w.alloc (.cells cs t)).cell? ((⟨w.heap.size, 0, none⟩ : Addr).add j) = some u :=
  World.news_of_block (fr := (0, 0)) (Lies.new w t cs)
theorem news2 (w : World) (X : Obj) (cs : Array Value) (t : TypeId) : ∀ (j : Nat) u, cs.toList[j]? = some u → ((w.alloc X).alloc (.cells cs t)).cell? ((⟨w.heap.size + 1, 0, none⟩ : Addr).add j) = some u := by
  have h := news1 (w.alloc X) cs t
  rwa [show (w.alloc X).heap.size = w.heap.size + 1 by simp] at h
theorem flatten_get {z : Nat} : ∀ {CS : List (List Value)} {i j : Nat} {cs : List Value} {c : Value}, (∀ x ∈ CS, x.length = z) → CS[i]? = some cs → cs[j]? = some c → CS.flatten[i * z + j]? = some c
  | [], i, j, cs, c, _, h, _ => by simp at h
  | a :: CS, 0, j, cs, c, hz, h, hj => by
    simp only [List.getElem?_cons_zero, Option.some.injEq] at h
    subst h
    rw [Nat.zero_mul, Nat.zero_add, List.flatten_cons, List.getElem?_append_left (List.getElem?_eq_some_iff.1 hj).1]
    exact hj
  | a :: CS, i + 1, j, cs, c, hz, h, hj => by
    rw [List.getElem?_cons_succ] at h
    have ha := hz a List.mem_cons_self
    rw [List.flatten_cons, List.getElem?_append_right (by rw [ha, Nat.add_mul]; omega), ha, show (i + 1) * z + j - z = i * z + j by rw [Nat.add_mul]; omega]
    exact flatten_get (fun x hx => hz x (List.mem_cons_of_mem _ hx)) h hj
theorem rowR_of_own {α : Type} {z : Nat} {R : World → List Value → α → Prop} {w : World} {H : Nat} {e : TypeId} {v : Value} {L : List α} {CS : List (List Value)} (h : w.ownsRow H e z v L.length CS.flatten) (hl : L.length ≤ 10000000000000) (hlen : CS.length = L.length) (hz : ∀ x ∈ CS, x.length = z)
    (hR : ∀ (i : Nat) x cs, L[i]? = some x → CS[i]? = some cs → R w cs x) : RowR z R w v L := by
  rcases Nat.eq_zero_or_pos L.length with h0 | h0
  · obtain ⟨ad, cap, rfl⟩ := slice_form h
    exact ⟨0, 0, ⟨ad, cap, rfl, (own_capM h).2, fun h => by omega⟩, hl, fun i x hx => by have := (List.getElem?_eq_some_iff.1 hx).1; omega⟩
  · obtain ⟨g, cap, rfl, _, _⟩ := h.form h0
    refine ⟨g, 0, ⟨_, cap, rfl, (own_capM h).2, fun _ => rfl⟩, hl, fun i x hx => ?_⟩
    have hi := (List.getElem?_eq_some_iff.1 hx).1
    have hcs : CS[i]? = some (CS[i]'(by omega)) := List.getElem?_eq_getElem (by omega)
    refine ⟨CS[i]'(by omega), hz _ (List.getElem_mem _), hR i x _ hx hcs, fun j c hj => ?_⟩
    rw [Nat.zero_add]
    exact own_cell h (flatten_get hz hcs hj)
theorem flat_one {α : Type} (f : α → Value) (L : List α) : L.map f = (L.map fun s => [f s]).flatten := by
  induction L with
  | nil => rfl
  | cons a L ih => rw [List.map_cons, List.map_cons, List.flatten_cons, ← ih]; rfl
theorem frow_of_own {w : World} {H : Nat} {e : TypeId} {v : Value} {L : List ByteArray} {n : Nat} (h : w.ownsRow H e 1 v n (L.map Value.string)) (hn : n = L.length) (hl : n ≤ 10000000000000) (hz : ∀ s ∈ L, s.size ≤ 140737488355328) : FRow w v L := by
  subst hn
  rw [flat_one] at h
  refine rowR_of_own h hl (by rw [List.length_map]) (fun x hx => ?_) (fun i x cs hx hcs => ?_)
  · obtain ⟨s, _, rfl⟩ := List.mem_map.1 hx
    rfl
  · rw [List.getElem?_map, hx] at hcs
    obtain rfl := Option.some.inj hcs
    exact ⟨rfl, hz x (List.mem_of_getElem? hx)⟩
end Go.Proofs.YtjfonpbnohbpfaaGreatDoor
