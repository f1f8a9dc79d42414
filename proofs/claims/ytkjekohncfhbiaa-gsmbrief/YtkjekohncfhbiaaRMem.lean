/-
  Programs in memory.
-/
import Derived.Test.YtkjekohncfhbiaaPartX
import Derived.Test.YtkjekohncfhbiaaRPlain
set_option linter.unusedSimpArgs false
set_option linter.unusedVariables false
namespace Go.Proofs.Ytkjekohncfhbiaa
open Go.RowKit
/-- What tells whether something holds. -/
def BPost (P : Prop) (w : World) (e : Ending) (w' : World) : Prop := ∃ b : Bool, e = .returned (.bool b) ∧ (b = true ↔ P) ∧ Below w.heap.size w w'
theorem bpost {P : Prop} {w w' : World} {b c : Bool} (h : b = true ↔ P) (hc : c = b) (hb : Below w.heap.size w w') : BPost P w (.returned (.bool c)) w' := ⟨b, by rw [hc], h, hb⟩
theorem bpost_yes {P : Prop} {w w' : World} (h : P) (hb : Below w.heap.size w w') : BPost P w (.returned (.bool true)) w' := ⟨true, rfl, by simp [h], hb⟩
theorem bpost_no {P : Prop} {w w' : World} (h : ¬ P) (hb : Below w.heap.size w w') : BPost P w (.returned (.bool false)) w' := ⟨false, rfl, by simp [h], hb⟩
theorem BPost.iff {P Q : Prop} {w w' : World} {e : Ending} (h : BPost P w e w') (hi : P ↔ Q) : BPost Q w e w' := by
  obtain ⟨b, h1, h2, h3⟩ := h
  exact ⟨b, h1, h2.trans hi, h3⟩
/-- A row of numbers. -/
def ZRow (w : World) (v : Value) (l : List Int) : Prop :=
  ∃ b o, (∃ ao cap, v = .slice ao l.length cap ∧ l.length ≤ cap ∧ (0 < l.length → ao = some ⟨b, o, none⟩)) ∧ l.length ≤ 100000000000000 ∧ ∀ (i : Nat) x, l[i]? = some x → w.cell? ⟨b, o + i, none⟩ = some (.int .i64 x)
theorem zrow_turn {w w' : World} {v : Value} {l : List Int} (h : ZRow w v l) (hc : ∀ a c, w.cell? a = some c → w'.cell? a = some c) : ZRow w' v l := by
  obtain ⟨b, o, h1, h2, h3⟩ := h
  exact ⟨b, o, h1, h2, fun i x hx => hc _ _ (h3 i x hx)⟩
theorem zrow_below {w w' : World} {v : Value} {l : List Int} (h : ZRow w v l) (hb : Below w.heap.size w w') : ZRow w' v l := zrow_turn h (below_cell hb)
theorem zrow_at {w : World} {ao : Option Addr} {n cap : Nat} {l : List Int} (h : ZRow w (.slice ao n cap) l) : n = l.length ∧ n ≤ 100000000000000 ∧ n ≤ cap ∧ ∃ b o, (0 < n → ao = some ⟨b, o, none⟩) ∧ ∀ (i : Nat) x, l[i]? = some x → w.cell? ⟨b, o + i, none⟩ = some (.int .i64 x) := by
  obtain ⟨b, o, ⟨a1, c1, e, hcp, ha⟩, h2, h3⟩ := h
  cases e
  exact ⟨rfl, h2, hcp, b, o, ha, h3⟩
theorem zrow_nil (w : World) : ZRow w (.slice none 0 0) [] := ⟨0, 0, ⟨none, 0, rfl, Nat.le_refl _, fun h => absurd h (Nat.lt_irrefl 0)⟩, Nat.zero_le _, fun i x hx => by simp at hx⟩
theorem zrow_val {w : World} {v : Value} {l : List Int} (h : ZRow w v l) : ∃ ao cap, v = .slice ao l.length cap := by
  obtain ⟨b, o, ⟨a1, c1, e, _⟩, _⟩ := h
  exact ⟨a1, c1, e⟩
def litR (w : World) (cs : List Value) (x : Rp.Lit) : Prop := cs = [.int .i64 x.1, .bool x.2]
def ctrR (w : World) (cs : List Value) (x : Rp.Ctr) : Prop := cs = [.int .i64 x.1, .int .i64 x.2.1, .int .i64 x.2.2]
abbrev LRow := RowR 2 litR
def ruleR (w : World) (cs : List Value) (x : Rp.Rule) : Prop := ∃ v1 v2 v3, cs = [.int .i64 x.1, v1, v2, v3] ∧ LRow w v1 x.2.1 ∧ CRow w v2 x.2.2.1 ∧ LRow w v3 x.2.2.2
def userR (w : World) (cs : List Value) (x : Rp.User) : Prop := ∃ v2, cs = [.string x.1, .int .i64 x.2.1, v2, .int .i64 x.2.2.2] ∧ x.1.size ≤ 140737488355328 ∧ LRow w v2 x.2.2.1
abbrev TRow := RowR 3 ctrR
abbrev RRow := RowR 4 ruleR
abbrev URow := RowR 4 userR
theorem lrow_turn {w w' : World} {v : Value} {l : List Rp.Lit} (h : LRow w v l) (hc : ∀ a c, w.cell? a = some c → w'.cell? a = some c) : LRow w' v l := RowR.turn h (fun _ _ _ h => h) hc
theorem trow_turn {w w' : World} {v : Value} {l : List Rp.Ctr} (h : TRow w v l) (hc : ∀ a c, w.cell? a = some c → w'.cell? a = some c) : TRow w' v l := RowR.turn h (fun _ _ _ h => h) hc
theorem rrow_turn {w w' : World} {v : Value} {l : List Rp.Rule} (h : RRow w v l) (hc : ∀ a c, w.cell? a = some c → w'.cell? a = some c) : RRow w' v l :=
  RowR.turn h (fun cs x _ ⟨v1, v2, v3, e, h1, h2, h3⟩ => ⟨v1, v2, v3, e, lrow_turn h1 hc, crow_turn h2 hc, lrow_turn h3 hc⟩) hc
theorem urow_turn {w w' : World} {v : Value} {l : List Rp.User} (h : URow w v l) (hc : ∀ a c, w.cell? a = some c → w'.cell? a = some c) : URow w' v l :=
  RowR.turn h (fun cs x _ ⟨v2, e, hz, h2⟩ => ⟨v2, e, hz, lrow_turn h2 hc⟩) hc
theorem lrow_below {w w' : World} {v : Value} {l : List Rp.Lit} (h : LRow w v l) (hb : Below w.heap.size w w') : LRow w' v l := lrow_turn h (below_cell hb)
theorem trow_below {w w' : World} {v : Value} {l : List Rp.Ctr} (h : TRow w v l) (hb : Below w.heap.size w w') : TRow w' v l := trow_turn h (below_cell hb)
theorem rrow_below {w w' : World} {v : Value} {l : List Rp.Rule} (h : RRow w v l) (hb : Below w.heap.size w w') : RRow w' v l := rrow_turn h (below_cell hb)
theorem urow_below {w w' : World} {v : Value} {l : List Rp.User} (h : URow w v l) (hb : Below w.heap.size w w') : URow w' v l := urow_turn h (below_cell hb)
theorem lrow_at {w : World} {ao : Option Addr} {n cap : Nat} {l : List Rp.Lit} (h : LRow w (.slice ao n cap) l) : n = l.length ∧ n ≤ 10000000000000 ∧ n ≤ cap ∧ ∃ b o, (0 < n → ao = some ⟨b, o, none⟩) ∧ ∀ (i : Nat) x, l[i]? = some x → w.cell? ⟨b, o + i * 2, none⟩ = some (.int .i64 x.1) ∧ w.cell? ⟨b, o + i * 2 + 1, none⟩ = some (.bool x.2) := by
  obtain ⟨b, o, ⟨a1, c1, e, hcp, ha⟩, h2, h3⟩ := h
  cases e
  refine ⟨rfl, h2, hcp, b, o, ha, fun i s hs => ?_⟩
  obtain ⟨cs, _, rfl, hc⟩ := h3 i s hs
  exact ⟨hc 0 _ rfl, hc 1 _ rfl⟩
theorem trow_at {w : World} {ao : Option Addr} {n cap : Nat} {l : List Rp.Ctr} (h : TRow w (.slice ao n cap) l) : n = l.length ∧ n ≤ 10000000000000 ∧ n ≤ cap ∧ ∃ b o, (0 < n → ao = some ⟨b, o, none⟩) ∧ ∀ (i : Nat) x, l[i]? = some x → w.cell? ⟨b, o + i * 3, none⟩ = some (.int .i64 x.1) ∧ w.cell? ⟨b, o + i * 3 + 1, none⟩ = some (.int .i64 x.2.1) ∧ w.cell? ⟨b, o + i * 3 + 2, none⟩ = some (.int .i64 x.2.2) := by
  obtain ⟨b, o, ⟨a1, c1, e, hcp, ha⟩, h2, h3⟩ := h
  cases e
  refine ⟨rfl, h2, hcp, b, o, ha, fun i s hs => ?_⟩
  obtain ⟨cs, _, rfl, hc⟩ := h3 i s hs
  exact ⟨hc 0 _ rfl, hc 1 _ rfl, hc 2 _ rfl⟩
/-- A rule's cells. -/
structure RuleAt (w : World) (b o : Nat) (x : Rp.Rule) (a1 : Option Addr) (c1 : Nat) (a2 : Option Addr) (c2 : Nat) (a3 : Option Addr) (c3 : Nat) : Prop where
  ifs : LRow w (.slice a1 x.2.1.length c1) x.2.1
  conds : CRow w (.slice a2 x.2.2.1.length c2) x.2.2.1
  thens : LRow w (.slice a3 x.2.2.2.length c3) x.2.2.2
  c0 : w.cell? ⟨b, o, none⟩ = some (.int .i64 x.1)
  d1 : w.cell? ⟨b, o + 1, none⟩ = some (.slice a1 x.2.1.length c1)
  d2 : w.cell? ⟨b, o + 2, none⟩ = some (.slice a2 x.2.2.1.length c2)
  d3 : w.cell? ⟨b, o + 3, none⟩ = some (.slice a3 x.2.2.2.length c3)
theorem RuleAt.turn {w w' : World} {b o : Nat} {x : Rp.Rule} {a1 a2 a3 : Option Addr} {c1 c2 c3 : Nat} (h : RuleAt w b o x a1 c1 a2 c2 a3 c3) (hc : ∀ a c, w.cell? a = some c → w'.cell? a = some c) : RuleAt w' b o x a1 c1 a2 c2 a3 c3 :=
  ⟨lrow_turn h.ifs hc, crow_turn h.conds hc, lrow_turn h.thens hc, hc _ _ h.c0, hc _ _ h.d1, hc _ _ h.d2, hc _ _ h.d3⟩
theorem rrow_at {w : World} {ao : Option Addr} {n cap : Nat} {l : List Rp.Rule} (h : RRow w (.slice ao n cap) l) : n = l.length ∧ n ≤ 10000000000000 ∧ n ≤ cap ∧ ∃ b o, (0 < n → ao = some ⟨b, o, none⟩) ∧ ∀ (i : Nat) x, l[i]? = some x → ∃ a1 c1 a2 c2 a3 c3, RuleAt w b (o + i * 4) x a1 c1 a2 c2 a3 c3 := by
  obtain ⟨b, o, ⟨a1, c1, e, hcp, ha⟩, h2, h3⟩ := h
  cases e
  refine ⟨rfl, h2, hcp, b, o, ha, fun i s hs => ?_⟩
  obtain ⟨cs, _, ⟨v1, v2, v3, rfl, r1, r2, r3⟩, hc⟩ := h3 i s hs
  obtain ⟨a1, c1, rfl⟩ := row_val r1
  obtain ⟨a2, c2, rfl⟩ := row_val r2
  obtain ⟨a3, c3, rfl⟩ := row_val r3
  exact ⟨a1, c1, a2, c2, a3, c3, r1, r2, r3, hc 0 _ rfl, hc 1 _ rfl, hc 2 _ rfl, hc 3 _ rfl⟩
/-- A user's cells. -/
structure UserAt (w : World) (b o : Nat) (x : Rp.User) (a1 : Option Addr) (c1 : Nat) : Prop where
  zi : x.1.size ≤ 140737488355328
  whil : LRow w (.slice a1 x.2.2.1.length c1) x.2.2.1
  c0 : w.cell? ⟨b, o, none⟩ = some (.string x.1)
  d1 : w.cell? ⟨b, o + 1, none⟩ = some (.int .i64 x.2.1)
  d2 : w.cell? ⟨b, o + 2, none⟩ = some (.slice a1 x.2.2.1.length c1)
  d3 : w.cell? ⟨b, o + 3, none⟩ = some (.int .i64 x.2.2.2)
theorem UserAt.turn {w w' : World} {b o : Nat} {x : Rp.User} {a1 : Option Addr} {c1 : Nat} (h : UserAt w b o x a1 c1) (hc : ∀ a c, w.cell? a = some c → w'.cell? a = some c) : UserAt w' b o x a1 c1 :=
  ⟨h.zi, lrow_turn h.whil hc, hc _ _ h.c0, hc _ _ h.d1, hc _ _ h.d2, hc _ _ h.d3⟩
theorem urow_at {w : World} {ao : Option Addr} {n cap : Nat} {l : List Rp.User} (h : URow w (.slice ao n cap) l) : n = l.length ∧ n ≤ 10000000000000 ∧ n ≤ cap ∧ ∃ b o, (0 < n → ao = some ⟨b, o, none⟩) ∧ ∀ (i : Nat) x, l[i]? = some x → ∃ a1 c1, UserAt w b (o + i * 4) x a1 c1 := by
  obtain ⟨b, o, ⟨a1, c1, e, hcp, ha⟩, h2, h3⟩ := h
  cases e
  refine ⟨rfl, h2, hcp, b, o, ha, fun i s hs => ?_⟩
  obtain ⟨cs, _, ⟨v2, rfl, hz, r2⟩, hc⟩ := h3 i s hs
  obtain ⟨a2, c2, rfl⟩ := row_val r2
  exact ⟨a2, c2, hz, r2, hc 0 _ rfl, hc 1 _ rfl, hc 2 _ rfl, hc 3 _ rfl⟩
/-- Where a program's rows lie. -/
structure PA where
  a2 : Option Addr
  c2 : Nat
  a3 : Option Addr
  c3 : Nat
  a5 : Option Addr
  c5 : Nat
  a6 : Option Addr
  c6 : Nat
  a7 : Option Addr
  c7 : Nat
  a8 : Option Addr
  c8 : Nat
  a9 : Option Addr
  c9 : Nat
structure ProgAt (w : World) (A : PA) (p : Rp.Prog) : Prop where
  first : ZRow w (.slice A.a2 p.first.length A.c2) p.first
  over : ZRow w (.slice A.a3 p.over.length A.c3) p.over
  files : FRow w (.slice A.a5 p.files.length A.c5) p.files
  rules : RRow w (.slice A.a6 p.rules.length A.c6) p.rules
  ctrs : TRow w (.slice A.a7 p.ctrs.length A.c7) p.ctrs
  users : URow w (.slice A.a8 p.users.length A.c8) p.users
  notes : IRow w (.slice A.a9 p.notes.length A.c9) p.notes
theorem ProgAt.below {w w' : World} {A : PA} {p : Rp.Prog} (h : ProgAt w A p) (hb : Below w.heap.size w w') : ProgAt w' A p :=
  ⟨zrow_below h.first hb, zrow_below h.over hb, frow_below h.files hb, rrow_below h.rules hb, trow_below h.ctrs hb, urow_below h.users hb, irow_below h.notes hb⟩
end Go.Proofs.Ytkjekohncfhbiaa
