/-
  Several texts in one: each opens with its own word.
-/
import Derived.Test.YtkjekohncfhbiaaPartY
import Derived.Test.YtkjekohncfhbiaaPartA
import Derived.BigQuiet
/-
  Models in memory: what it means that a row of texts, events, conditions, sentries, items lies there.
-/
set_option linter.unusedSimpArgs false
set_option linter.unusedVariables false
namespace Go.Proofs.Ytkjekohncfhbiaa
open Go.RowKit
/-- A row of elements of z cells each. -/
def RowR {α : Type} (z : Nat) (R : World → List Value → α → Prop) (w : World) (v : Value) (l : List α) : Prop :=
  ∃ b o, (∃ ao cap, v = .slice ao l.length cap ∧ l.length ≤ cap ∧ (0 < l.length → ao = some ⟨b, o, none⟩)) ∧ l.length ≤ 10000000000000 ∧ ∀ (i : Nat) x, l[i]? = some x → ∃ cs : List Value, cs.length = z ∧ R w cs x ∧ ∀ (j : Nat) c, cs[j]? = some c → w.cell? ⟨b, o + i * z + j, none⟩ = some c
def strR (w : World) (cs : List Value) (s : ByteArray) : Prop := cs = [.string s] ∧ s.size ≤ 140737488355328
def onR (w : World) (cs : List Value) (x : Mp.On) : Prop := cs = [.string x.1, .int .i64 x.2] ∧ x.1.size ≤ 140737488355328
def condR (w : World) (cs : List Value) (x : Mp.Cond) : Prop := cs = [.string x.1, .string x.2.1, .int .i64 x.2.2] ∧ x.1.size ≤ 140737488355328 ∧ x.2.1.size ≤ 140737488355328
def sentR (w : World) (cs : List Value) (x : Mp.Sent) : Prop := ∃ v1 v2, cs = [v1, v2] ∧ RowR 2 onR w v1 x.1 ∧ RowR 3 condR w v2 x.2
abbrev itemC (x : Mp.Item) (v5 v6 : Value) : List Value := [.string x.id, .int .i64 x.kind, .string x.parent, .bool x.req, .int .i64 x.ticks, v5, v6]
def itemR (w : World) (cs : List Value) (x : Mp.Item) : Prop :=
  ∃ v5 v6, cs = itemC x v5 v6 ∧ (x.id.size ≤ 140737488355328 ∧ x.parent.size ≤ 140737488355328) ∧ RowR 2 sentR w v5 x.entry ∧ RowR 2 sentR w v6 x.exit
abbrev FRow := RowR 1 strR
abbrev ORow := RowR 2 onR
abbrev CRow := RowR 3 condR
abbrev SRow := RowR 2 sentR
abbrev IRow := RowR 7 itemR
theorem RowR.turn {α : Type} {z : Nat} {R R' : World → List Value → α → Prop} {w w' : World} {v : Value} {l : List α} (h : RowR z R w v l) (hR : ∀ cs x, x ∈ l → R w cs x → R' w' cs x) (hc : ∀ a c, w.cell? a = some c → w'.cell? a = some c) : RowR z R' w' v l := by
  obtain ⟨b, o, h1, h2, h3⟩ := h
  refine ⟨b, o, h1, h2, fun i x hx => ?_⟩
  obtain ⟨cs, k1, k2, k3⟩ := h3 i x hx
  exact ⟨cs, k1, hR cs x (List.mem_of_getElem? hx) k2, fun j c hj => hc _ _ (k3 j c hj)⟩
theorem below_cell {w w' : World} (hb : Below w.heap.size w w') (a : Addr) (c : Value) (h : w.cell? a = some c) : w'.cell? a = some c := by
  rw [hb.cell (cell_lt h)]
  exact h
theorem frow_turn {w w' : World} {v : Value} {l : List ByteArray} (h : FRow w v l) (hc : ∀ a c, w.cell? a = some c → w'.cell? a = some c) : FRow w' v l := RowR.turn h (fun _ _ _ h => h) hc
theorem orow_turn {w w' : World} {v : Value} {l : List Mp.On} (h : ORow w v l) (hc : ∀ a c, w.cell? a = some c → w'.cell? a = some c) : ORow w' v l := RowR.turn h (fun _ _ _ h => h) hc
theorem crow_turn {w w' : World} {v : Value} {l : List Mp.Cond} (h : CRow w v l) (hc : ∀ a c, w.cell? a = some c → w'.cell? a = some c) : CRow w' v l := RowR.turn h (fun _ _ _ h => h) hc
theorem srow_turn {w w' : World} {v : Value} {l : List Mp.Sent} (h : SRow w v l) (hc : ∀ a c, w.cell? a = some c → w'.cell? a = some c) : SRow w' v l :=
  RowR.turn h (fun cs x _ ⟨v1, v2, e, h1, h2⟩ => ⟨v1, v2, e, orow_turn h1 hc, crow_turn h2 hc⟩) hc
theorem irow_turn {w w' : World} {v : Value} {l : List Mp.Item} (h : IRow w v l) (hc : ∀ a c, w.cell? a = some c → w'.cell? a = some c) : IRow w' v l :=
  RowR.turn h (fun cs x _ ⟨v1, v2, e, hz, h1, h2⟩ => ⟨v1, v2, e, hz, srow_turn h1 hc, srow_turn h2 hc⟩) hc
theorem frow_below {w w' : World} {v : Value} {l : List ByteArray} (h : FRow w v l) (hb : Below w.heap.size w w') : FRow w' v l := frow_turn h (below_cell hb)
theorem orow_below {w w' : World} {v : Value} {l : List Mp.On} (h : ORow w v l) (hb : Below w.heap.size w w') : ORow w' v l := orow_turn h (below_cell hb)
theorem crow_below {w w' : World} {v : Value} {l : List Mp.Cond} (h : CRow w v l) (hb : Below w.heap.size w w') : CRow w' v l := crow_turn h (below_cell hb)
theorem srow_below {w w' : World} {v : Value} {l : List Mp.Sent} (h : SRow w v l) (hb : Below w.heap.size w w') : SRow w' v l := srow_turn h (below_cell hb)
theorem irow_below {w w' : World} {v : Value} {l : List Mp.Item} (h : IRow w v l) (hb : Below w.heap.size w w') : IRow w' v l := irow_turn h (below_cell hb)
/-- Each row's elements by their cells. -/
theorem rowR_nil {α : Type} {z : Nat} {R : World → List Value → α → Prop} (w : World) : RowR z R w nilS [] := ⟨0, 0, ⟨none, 0, rfl, Nat.le_refl _, fun h => absurd h (Nat.lt_irrefl 0)⟩, Nat.zero_le _, fun i x hx => by simp at hx⟩
theorem rowR_take {α : Type} {z : Nat} {R : World → List Value → α → Prop} {w : World} {ao : Option Addr} {n cap : Nat} {l : List α} (h : RowR z R w (.slice ao n cap) l) (k cap' : Nat) (hk : k ≤ n) (hk' : k ≤ cap') : RowR z R w (.slice ao k cap') (l.take k) := by
  obtain ⟨b, o, ⟨a1, c1, e, hcp, ha⟩, h2, h3⟩ := h
  cases e
  have hl : (l.take k).length = k := by rw [List.length_take]; omega
  refine ⟨b, o, ⟨ao, cap', by rw [hl], by omega, fun h0 => ha (by omega)⟩, by rw [hl]; omega, fun i x hx => ?_⟩
  rw [List.getElem?_take] at hx
  split at hx
  · exact h3 i x hx
  · cases hx
theorem frow_at {w : World} {ao : Option Addr} {n cap : Nat} {l : List ByteArray} (h : FRow w (.slice ao n cap) l) : n = l.length ∧ n ≤ 10000000000000 ∧ n ≤ cap ∧ ∃ b o, (0 < n → ao = some ⟨b, o, none⟩) ∧ ∀ (i : Nat) s, l[i]? = some s → s.size ≤ 140737488355328 ∧ w.cell? ⟨b, o + i, none⟩ = some (.string s) := by
  obtain ⟨b, o, ⟨a1, c1, e, hcp, ha⟩, h2, h3⟩ := h
  cases e
  refine ⟨rfl, h2, hcp, b, o, ha, fun i s hs => ?_⟩
  obtain ⟨cs, _, ⟨rfl, hz⟩, hc⟩ := h3 i s hs
  have := hc 0 _ rfl
  rw [Nat.mul_one] at this
  exact ⟨hz, this⟩
theorem orow_at {w : World} {ao : Option Addr} {n cap : Nat} {l : List Mp.On} (h : ORow w (.slice ao n cap) l) : n = l.length ∧ n ≤ 10000000000000 ∧ n ≤ cap ∧ ∃ b o, (0 < n → ao = some ⟨b, o, none⟩) ∧ ∀ (i : Nat) x, l[i]? = some x → x.1.size ≤ 140737488355328 ∧ w.cell? ⟨b, o + i * 2, none⟩ = some (.string x.1) ∧ w.cell? ⟨b, o + i * 2 + 1, none⟩ = some (.int .i64 x.2) := by
  obtain ⟨b, o, ⟨a1, c1, e, hcp, ha⟩, h2, h3⟩ := h
  cases e
  refine ⟨rfl, h2, hcp, b, o, ha, fun i s hs => ?_⟩
  obtain ⟨cs, _, ⟨rfl, hz⟩, hc⟩ := h3 i s hs
  exact ⟨hz, hc 0 _ rfl, hc 1 _ rfl⟩
theorem crow_at {w : World} {ao : Option Addr} {n cap : Nat} {l : List Mp.Cond} (h : CRow w (.slice ao n cap) l) : n = l.length ∧ n ≤ 10000000000000 ∧ n ≤ cap ∧ ∃ b o, (0 < n → ao = some ⟨b, o, none⟩) ∧ ∀ (i : Nat) x, l[i]? = some x → (x.1.size ≤ 140737488355328 ∧ x.2.1.size ≤ 140737488355328) ∧ w.cell? ⟨b, o + i * 3, none⟩ = some (.string x.1) ∧ w.cell? ⟨b, o + i * 3 + 1, none⟩ = some (.string x.2.1) ∧ w.cell? ⟨b, o + i * 3 + 2, none⟩ = some (.int .i64 x.2.2) := by
  obtain ⟨b, o, ⟨a1, c1, e, hcp, ha⟩, h2, h3⟩ := h
  cases e
  refine ⟨rfl, h2, hcp, b, o, ha, fun i s hs => ?_⟩
  obtain ⟨cs, _, ⟨rfl, hz⟩, hc⟩ := h3 i s hs
  exact ⟨hz, hc 0 _ rfl, hc 1 _ rfl, hc 2 _ rfl⟩
theorem row_val {α : Type} {z : Nat} {R : World → List Value → α → Prop} {w : World} {v : Value} {l : List α} (h : RowR z R w v l) : ∃ ao cap, v = .slice ao l.length cap := by
  obtain ⟨b, o, ⟨a1, c1, e, hcp, ha⟩, h2, h3⟩ := h
  exact ⟨a1, c1, e⟩
theorem srow_at {w : World} {ao : Option Addr} {n cap : Nat} {l : List Mp.Sent} (h : SRow w (.slice ao n cap) l) : n = l.length ∧ n ≤ 10000000000000 ∧ n ≤ cap ∧ ∃ b o, (0 < n → ao = some ⟨b, o, none⟩) ∧ ∀ (i : Nat) x, l[i]? = some x → ∃ a1 c1 a2 c2, ORow w (.slice a1 x.1.length c1) x.1 ∧ CRow w (.slice a2 x.2.length c2) x.2 ∧ w.cell? ⟨b, o + i * 2, none⟩ = some (.slice a1 x.1.length c1) ∧ w.cell? ⟨b, o + i * 2 + 1, none⟩ = some (.slice a2 x.2.length c2) := by
  obtain ⟨b, o, ⟨a1, c1, e, hcp, ha⟩, h2, h3⟩ := h
  cases e
  refine ⟨rfl, h2, hcp, b, o, ha, fun i s hs => ?_⟩
  obtain ⟨cs, _, ⟨v1, v2, rfl, r1, r2⟩, hc⟩ := h3 i s hs
  obtain ⟨a1, c1, rfl⟩ := row_val r1
  obtain ⟨a2, c2, rfl⟩ := row_val r2
  exact ⟨a1, c1, a2, c2, r1, r2, hc 0 _ rfl, hc 1 _ rfl⟩
/-- An item's cells. -/
structure ItemAt (w : World) (b o : Nat) (x : Mp.Item) (a5 : Option Addr) (c5 : Nat) (a6 : Option Addr) (c6 : Nat) : Prop where
  zid : x.id.size ≤ 140737488355328
  zpa : x.parent.size ≤ 140737488355328
  entry : SRow w (.slice a5 x.entry.length c5) x.entry
  exit : SRow w (.slice a6 x.exit.length c6) x.exit
  c0 : w.cell? ⟨b, o, none⟩ = some (.string x.id)
  c1 : w.cell? ⟨b, o + 1, none⟩ = some (.int .i64 x.kind)
  c2 : w.cell? ⟨b, o + 2, none⟩ = some (.string x.parent)
  c3 : w.cell? ⟨b, o + 3, none⟩ = some (.bool x.req)
  c4 : w.cell? ⟨b, o + 4, none⟩ = some (.int .i64 x.ticks)
  c5 : w.cell? ⟨b, o + 5, none⟩ = some (.slice a5 x.entry.length c5)
  c6 : w.cell? ⟨b, o + 6, none⟩ = some (.slice a6 x.exit.length c6)
theorem ItemAt.turn {w w' : World} {b o : Nat} {x : Mp.Item} {a5 a6 : Option Addr} {c5 c6 : Nat} (h : ItemAt w b o x a5 c5 a6 c6) (hc : ∀ a c, w.cell? a = some c → w'.cell? a = some c) : ItemAt w' b o x a5 c5 a6 c6 :=
  ⟨h.zid, h.zpa, srow_turn h.entry hc, srow_turn h.exit hc, hc _ _ h.c0, hc _ _ h.c1, hc _ _ h.c2, hc _ _ h.c3, hc _ _ h.c4, hc _ _ h.c5, hc _ _ h.c6⟩
theorem irow_at {w : World} {ao : Option Addr} {n cap : Nat} {l : List Mp.Item} (h : IRow w (.slice ao n cap) l) : n = l.length ∧ n ≤ 10000000000000 ∧ n ≤ cap ∧ ∃ b o, (0 < n → ao = some ⟨b, o, none⟩) ∧ ∀ (i : Nat) x, l[i]? = some x → ∃ a5 c5 a6 c6, ItemAt w b (o + i * 7) x a5 c5 a6 c6 := by
  obtain ⟨b, o, ⟨a1, c1, e, hcp, ha⟩, h2, h3⟩ := h
  cases e
  refine ⟨rfl, h2, hcp, b, o, ha, fun i s hs => ?_⟩
  obtain ⟨cs, _, ⟨v5, v6, rfl, hz, r5, r6⟩, hc⟩ := h3 i s hs
  obtain ⟨a5, c5, rfl⟩ := row_val r5
  obtain ⟨a6, c6, rfl⟩ := row_val r6
  exact ⟨a5, c5, a6, c6, hz.1, hz.2, r5, r6, hc 0 _ rfl, hc 1 _ rfl, hc 2 _ rfl, hc 3 _ rfl, hc 4 _ rfl, hc 5 _ rfl, hc 6 _ rfl⟩
/-- A model in memory. -/
structure ModelAt (w : World) (af : Option Addr) (cf : Nat) (ai : Option Addr) (ci : Nat) (m : Mp.Model) : Prop where
  files : FRow w (.slice af m.files.length cf) m.files
  items : IRow w (.slice ai m.items.length ci) m.items
theorem ModelAt.below {w w' : World} {af ai : Option Addr} {cf ci : Nat} {m : Mp.Model} (h : ModelAt w af cf ai ci m) (hb : Below w.heap.size w w') : ModelAt w' af cf ai ci m := ⟨frow_below h.files hb, irow_below h.items hb⟩
end Go.Proofs.Ytkjekohncfhbiaa
/-
  Small parts of package model: kinds, ticks, events, operators, the plan.
-/
set_option linter.unusedSimpArgs false
set_option linter.unusedVariables false
namespace Go.Proofs.Ytkjekohncfhbiaa
open Go.RowKit
theorem ret_b {a v : Bool} (h : a = v) : Ending.returned (.bool a) = .returned (.bool v) := by rw [h]
theorem toList_inj {a b : ByteArray} (h : a.toList = b.toList) : a = b := by
  rw [ByteArray.toList_eq, ByteArray.toList_eq] at h
  obtain ⟨⟨x⟩⟩ := a
  obtain ⟨⟨y⟩⟩ := b
  have : x = y := h
  rw [this]
theorem tl_ne {a : ByteArray} (b : ByteArray) (l : List UInt8) (h : a ≠ b) (hb : b.toList = l) : ¬ a.toList = l := fun e => h (toList_inj (e.trans hb.symm))
theorem tl_beq {a : ByteArray} (b : ByteArray) (l : List UInt8) (h : a ≠ b) (hb : b.toList = l) : (a.toList == l) = false := beq_eq_false_iff_ne.2 (tl_ne b l h hb)
theorem ba_eq (s : ByteArray) (a : Array UInt8) : (s = ⟨a⟩) = (s.toList = a.toList) := propext ⟨fun h => by rw [h, ByteArray.toList_eq], fun h => toList_inj (by rw [h, ByteArray.toList_eq])⟩
theorem len_beq {α : Type} (l : List α) : (((l.length : Nat) : Int) == 0) = decide (l = []) := by
  cases l with
  | nil => rfl
  | cons a l => rw [decide_eq_false (by simp)]; exact beq_eq_false_iff_ne.2 (by simp only [List.length_cons]; omega)
theorem int_beq (a b : Int) : (a == b) = decide (a = b) := by
  by_cases h : a = b
  · rw [decide_eq_true h]; exact beq_iff_eq.2 h
  · rw [decide_eq_false h]; exact beq_eq_false_iff_ne.2 h
end Go.Proofs.Ytkjekohncfhbiaa
/-
  slices.Index and slices.Contains, of texts and of events.
-/
set_option linter.unusedSimpArgs false
set_option linter.unusedVariables false
namespace Go.Proofs.Ytkjekohncfhbiaa
open Go.RowKit
theorem ret_i {k : IntKind} {a v : Int} (h : a = v) : Ending.returned (.int k a) = .returned (.int k v) := by rw [h]
def idxZ {α : Type} [DecidableEq α] (l : List α) (s : α) : Int := match Mp.idx l s with
  | some k => k
  | none => -1
theorem idxZ_some {α : Type} [DecidableEq α] {l : List α} {s : α} {k : Nat} (h : l[k]? = some s) (hb : ∀ (j : Nat) y, j < k → l[j]? = some y → y ≠ s) : idxZ l s = k := by
  unfold idxZ Mp.idx
  rw [Mp.find_some h (decide_eq_true rfl) (fun j y hj hy => decide_eq_false (hb j y hj hy))]
theorem idxZ_none {α : Type} [DecidableEq α] {l : List α} {s : α} (hb : ∀ (j : Nat) y, l[j]? = some y → y ≠ s) : idxZ l s = -1 := by
  unfold idxZ Mp.idx
  rw [Mp.find_none (fun j y hy => decide_eq_false (hb j y hy))]
theorem idxZ_has {α : Type} [DecidableEq α] (l : List α) (s : α) : decide (0 ≤ idxZ l s) = Mp.has l s := by
  unfold idxZ Mp.has
  cases Mp.idx l s with
  | none => rfl
  | some k => exact decide_eq_true (by show (0 : Int) ≤ k; omega)
theorem idxZ_ge {α : Type} [DecidableEq α] (l : List α) (s : α) : -1 ≤ idxZ l s := by
  unfold idxZ
  cases Mp.idx l s with
  | none => exact Int.le_refl _
  | some k => show (-1 : Int) ≤ k; omega
theorem indexS (w : World) (ao : Option Addr) (n cap : Nat) (l : List ByteArray) (s : ByteArray) (h : FRow w (.slice ao n cap) l) :
    Calls Try.prog 40 #[.slice ao n cap, .string s] w fun e w' => e = .returned (.int .i64 (idxZ l s)) ∧ w' = w := by
  obtain ⟨hn, hl, hcap, b, o, ha, hc⟩ := frow_at h
  have HN := hideT hn
  have HC := hideT hc
  have HA := hideT ha
  clear hn hc ha h
  go_enter Try.func40, Try.ntmps40
  go_wp2_with fail
  go_loop [8] (fun i => ∃ k : Nat, k ≤ n ∧ i = .int .i64 k ∧ Hid (∀ (j : Nat) y, j < k → l[j]? = some y → y ≠ s)) (fun i => n - (intOf i).toNat)
  case atStart => exact ⟨0, by omega, rfl, fun j y hj => absurd hj (by omega)⟩
  case round =>
    obtain ⟨k, hk, rfl, HB⟩ := hrel
    by_cases hlt : k < n
    · obtain ⟨t, ht⟩ := Mp.at_lt (l := l) (k := k) (by have := HN.out; omega)
      obtain ⟨hz, c0⟩ := HC.out k t ht
      obtain rfl := HA.out (by omega)
      have HT := hideT ht
      clear ht
      by_cases e : s = t
      · subst e
        have HF := hideT (idxZ_some HT.out HB.out)
        go_wp2_with fail
        go_ret
        exact ⟨ret_i HF.out.symm, rfl⟩
      · have e1 : (s.toList == t.toList) = false := beq_eq_false_iff_ne.2 fun h => e (toList_inj h)
        have HE := hideT e
        clear e
        go_wp2_with fail
        go_round
        case rel =>
          refine ⟨k + 1, by omega, by go_num, fun j y hj hy => ?_⟩
          by_cases hj' : j < k
          · exact HB.out j y hj' hy
          · obtain rfl : j = k := by omega
            rw [HT.out] at hy
            cases hy
            exact fun h => HE.out h.symm
        case measure => simp [intOf]; omega
    · have HF := hideT (idxZ_none (l := l) (s := s) (fun j y hy => HB.out j y (by have := HN.out; have := (List.getElem?_eq_some_iff.1 hy).1; omega) hy))
      go_wp2_with fail
      go_ret
      exact ⟨ret_i HF.out.symm, rfl⟩
theorem containsS (w : World) (ao : Option Addr) (n cap : Nat) (l : List ByteArray) (s : ByteArray) (h : FRow w (.slice ao n cap) l) :
    Calls Try.prog 66 #[.slice ao n cap, .string s] w fun e w' => e = .returned (.bool (Mp.has l s)) ∧ w' = w := by
  have H := hideT h
  clear h
  go_enter Try.func66, Try.ntmps66
  go_wp2_with fail
  refine (indexS w ao n cap l s H.out).mono ?_
  rintro e w1 ⟨rfl, rfl⟩
  go_wp2_with fail
  go_ret
  exact ⟨ret_b (idxZ_has l s), rfl⟩
end Go.Proofs.Ytkjekohncfhbiaa
