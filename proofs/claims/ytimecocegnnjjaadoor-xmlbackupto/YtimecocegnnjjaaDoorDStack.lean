/-
  Rows that the program owns: elements that are open, kids, attributes; trees whose blocks are named.
-/
import Derived.Test.YtimecocegnnjjaaDoorPartC
import Derived.Deep.AppendLies
set_option linter.unusedSimpArgs false
set_option linter.unusedVariables false
namespace Go.Proofs.YtimecocegnnjjaaDoor
open Go.RowKit
/-! ### Rows -/
theorem own_heap {w : World} {H : Nat} {e : TypeId} {z : Nat} {v : Value} {n : Nat} {xs : List Value} {g : Nat} (h : w.ownsRow H e z v n xs) (hv : v.ownBlock = some g) :
    ∃ cap cur, v = .slice (some ⟨g, 0, none⟩) n cap ∧ H ≤ g ∧ w.heap[g]? = some (.cells cur e (0, 0)) ∧ n ≤ cap ∧ cap ≤ maxLen ∧ cur.size = cap * z ∧ cur.toList.take (n * z) = xs := by
  rcases h.2 with ⟨rfl, _⟩ | ⟨g', cap, cur, rfl, h1, h2, h3⟩
  · cases hv
  · obtain rfl : g' = g := Option.some.inj hv
    exact ⟨cap, cur, rfl, h1, h2, h3⟩
theorem own_lt {w : World} {H : Nat} {e : TypeId} {z : Nat} {v : Value} {n : Nat} {xs : List Value} {g : Nat} (h : w.ownsRow H e z v n xs) (hv : v.ownBlock = some g) : g < w.heap.size ∧ H ≤ g := by
  obtain ⟨_, _, _, h1, h2, _⟩ := own_heap h hv
  exact ⟨(Array.getElem?_eq_some_iff.1 h2).1, h1⟩
/-- A row hangs on its block alone. -/
theorem own_keep {w w' : World} {H : Nat} {e : TypeId} {z : Nat} {v : Value} {n : Nat} {xs : List Value} (h : w.ownsRow H e z v n xs) (hk : ∀ g, v.ownBlock = some g → w'.heap[g]? = w.heap[g]?) : w'.ownsRow H e z v n xs := by
  refine ⟨h.1, ?_⟩
  rcases h.2 with h0 | ⟨g', cap, cur, rfl, h1, h2, h3⟩
  · exact .inl h0
  · exact .inr ⟨g', cap, cur, rfl, h1, (hk g' rfl).trans h2, h3⟩
theorem own_cell {w : World} {H : Nat} {e : TypeId} {z : Nat} {n : Nat} {xs : List Value} {g cap : Nat} (h : w.ownsRow H e z (.slice (some ⟨g, 0, none⟩) n cap) n xs) {j : Nat} {u : Value} (hj : xs[j]? = some u) : w.cell? ⟨g, j, none⟩ = some u := by
  obtain ⟨_, cur, _, _, h2, _, _, _, h4⟩ := own_heap h rfl
  rw [Lib.cell_of_heap h2]
  rw [← h4, List.getElem?_take] at hj
  split at hj
  · simpa using hj
  · cases hj
theorem own_free {w : World} {H : Nat} {e : TypeId} {z : Nat} {n : Nat} {xs : List Value} {g cap : Nat} (h : w.ownsRow H e z (.slice (some ⟨g, 0, none⟩) n cap) n xs) (j : Nat) : w.frozen? ⟨g, j, none⟩ = false := by
  obtain ⟨_, cur, _, _, h2, _⟩ := own_heap h rfl
  exact Lies.free (C := cur) (t := e) h2 j
theorem own_set {w : World} {H : Nat} {e : TypeId} {z : Nat} {n : Nat} {xs : List Value} {g cap : Nat} (h : w.ownsRow H e z (.slice (some ⟨g, 0, none⟩) n cap) n xs) (j : Nat) (u : Value) : (w.setCell ⟨g, j, none⟩ u).ownsRow H e z (.slice (some ⟨g, 0, none⟩) n cap) n (xs.set j u) := by
  obtain ⟨cap', cur, hv, h1, h2, h3, h5, h6, h4⟩ := own_heap h rfl
  refine ⟨by rw [List.length_set]; exact h.1, .inr ⟨g, cap', cur.setIfInBounds j u, hv, h1, Lies.set (C := cur) (t := e) h2 j u, h3, h5, by simpa using h6, ?_⟩⟩
  rw [← h4, Array.toList_setIfInBounds, List.take_set]
/-- Blocks of unlike kinds are two. -/
theorem own_ne {w : World} {H : Nat} {e t : TypeId} {z : Nat} {v : Value} {n : Nat} {xs : List Value} {b : Nat} {C : Array Value} (h : w.ownsRow H e z v n xs) (hl : Lies w b t C) (ht : t ≠ e) : v.ownBlock ≠ some b := by
  intro hv
  obtain ⟨_, cur, _, _, h2, _⟩ := own_heap h hv
  unfold Lies at hl
  rw [hl] at h2
  simp only [Option.some.injEq, Obj.cells.injEq] at h2
  exact ht h2.2.1
theorem own_ne2 {w : World} {H H' : Nat} {e t : TypeId} {z z' : Nat} {v u : Value} {n m : Nat} {xs ys : List Value} (h : w.ownsRow H e z v n xs) (h' : w.ownsRow H' t z' u m ys) (ht : t ≠ e) (g : Nat) (hv : v.ownBlock = some g) : u.ownBlock ≠ some g := by
  intro hu
  obtain ⟨_, cur, _, _, h2, _⟩ := own_heap h' hu
  exact own_ne h (C := cur) (t := t) h2 ht hv
/-! ### Trees whose blocks are named -/
def ARowR (w : World) (R : Nat → Prop) (v : Value) (l : List (ByteArray × ByteArray)) : Prop :=
  ∃ b o, Row v l.length b o ∧ (0 < l.length → R b) ∧ (l.length ≤ 1000000000000 ∧ ∀ p ∈ l, p.1.size ≤ 140737488355328 ∧ p.2.size ≤ 140737488355328) ∧ ∀ i p, l[i]? = some p → w.cell? ⟨b, o + 2 * i, none⟩ = some (.string p.1) ∧ w.cell? ⟨b, o + 2 * i + 1, none⟩ = some (.string p.2)
theorem ARowR.toARow {w : World} {R : Nat → Prop} {v : Value} {l : List (ByteArray × ByteArray)} (h : ARowR w R v l) : ARow w v l := by
  obtain ⟨b, o, h1, _, h2, h3⟩ := h
  exact ⟨b, o, h1, h2, h3⟩
theorem ARowR.turn {w w' : World} {R R' : Nat → Prop} {v : Value} {l : List (ByteArray × ByteArray)} (h : ARowR w R v l) (hk : ∀ k, R k → w'.heap[k]? = w.heap[k]?) (hR : ∀ k, R k → R' k) : ARowR w' R' v l := by
  obtain ⟨b, o, h1, hr, h2, h3⟩ := h
  refine ⟨b, o, h1, fun h0 => hR _ (hr h0), h2, fun i p hp => ?_⟩
  have h0 : 0 < l.length := Nat.lt_of_le_of_lt (Nat.zero_le _) (List.getElem?_eq_some_iff.1 hp).1
  have hb := hk b (hr h0)
  rw [World.cell?_of_block (w := w) (w' := w') (a := ⟨b, o + 2 * i, none⟩) hb, World.cell?_of_block (w := w) (w' := w') (a := ⟨b, o + 2 * i + 1, none⟩) hb]
  exact h3 i p hp
def EInR (w : World) (R : Nat → Prop) : Nat → Value → Value → Value → Value → Tr → Prop
  | 0, _, _, _, _, _ => False
  | n + 1, c0, c1, c2, c3, T => ∃ (nm : ByteArray) (p : Int) (l : List (ByteArray × ByteArray)) (ks : List Tr), c0 = .string nm ∧ c3 = .int .i64 p ∧ T = Xp.mkT nm l ks p ∧ nm.size ≤ 140737488355328 ∧ ARowR w R c1 l ∧
      ∃ b o, Row c2 ks.length b o ∧ (0 < ks.length → R b) ∧ ks.length ≤ 1000000000000 ∧ ∀ i K, ks[i]? = some K → ∃ d0 d1 d2 d3, Four w b (o + 4 * i) d0 d1 d2 d3 ∧ EInR w R n d0 d1 d2 d3 K
theorem EInR.toEIn {w : World} {R : Nat → Prop} : ∀ {n : Nat} {c0 c1 c2 c3 : Value} {T : Tr}, EInR w R n c0 c1 c2 c3 T → EIn w n c0 c1 c2 c3 T
  | 0, _, _, _, _, _, h => h
  | n + 1, _, _, _, _, _, ⟨nm, p, l, ks, h0, h3, hT, hs, ha, b, o, hr, _, hl, hk⟩ => by
    refine ⟨nm, p, l, ks, h0, h3, hT, hs, ha.toARow, b, o, hr, hl, fun i K hK => ?_⟩
    obtain ⟨d0, d1, d2, d3, hf, he⟩ := hk i K hK
    exact ⟨d0, d1, d2, d3, hf, he.toEIn⟩
theorem EInR.turn {w w' : World} {R R' : Nat → Prop} (hk' : ∀ k, R k → w'.heap[k]? = w.heap[k]?) (hR : ∀ k, R k → R' k) : ∀ {n : Nat} {c0 c1 c2 c3 : Value} {T : Tr}, EInR w R n c0 c1 c2 c3 T → EInR w' R' n c0 c1 c2 c3 T
  | 0, _, _, _, _, _, h => h
  | n + 1, _, _, _, _, _, ⟨nm, p, l, ks, h0, h3, hT, hs, ha, b, o, hr, hb, hl, hk⟩ => by
    refine ⟨nm, p, l, ks, h0, h3, hT, hs, ha.turn hk' hR, b, o, hr, fun h => hR _ (hb h), hl, fun i K hK => ?_⟩
    obtain ⟨d0, d1, d2, d3, ⟨f0, f1, f2, f3⟩, he⟩ := hk i K hK
    have h0 : 0 < ks.length := Nat.lt_of_le_of_lt (Nat.zero_le _) (List.getElem?_eq_some_iff.1 hK).1
    have hbb := hk' b (hb h0)
    refine ⟨d0, d1, d2, d3, ⟨?_, ?_, ?_, ?_⟩, EInR.turn hk' hR he⟩
    · rw [World.cell?_of_block (w := w) (w' := w') (a := ⟨b, o + 4 * i, none⟩) hbb]; exact f0
    · rw [World.cell?_of_block (w := w) (w' := w') (a := ⟨b, o + 4 * i + 1, none⟩) hbb]; exact f1
    · rw [World.cell?_of_block (w := w) (w' := w') (a := ⟨b, o + 4 * i + 2, none⟩) hbb]; exact f2
    · rw [World.cell?_of_block (w := w) (w' := w') (a := ⟨b, o + 4 * i + 3, none⟩) hbb]; exact f3
theorem EInR.succ {w : World} {R : Nat → Prop} : ∀ {n : Nat} {c0 c1 c2 c3 : Value} {T : Tr}, EInR w R n c0 c1 c2 c3 T → EInR w R (n + 1) c0 c1 c2 c3 T
  | 0, _, _, _, _, _, h => h.elim
  | n + 1, _, _, _, _, _, ⟨nm, p, l, ks, h0, h3, hT, hs, ha, b, o, hr, hb, hl, hk⟩ => by
    refine ⟨nm, p, l, ks, h0, h3, hT, hs, ha, b, o, hr, hb, hl, fun i K hK => ?_⟩
    obtain ⟨d0, d1, d2, d3, hf, he⟩ := hk i K hK
    exact ⟨d0, d1, d2, d3, hf, EInR.succ he⟩
theorem EInR.add {w : World} {R : Nat → Prop} {n : Nat} (m : Nat) {c0 c1 c2 c3 : Value} {T : Tr} (h : EInR w R n c0 c1 c2 c3 T) : EInR w R (n + m) c0 c1 c2 c3 T := by
  induction m with
  | zero => exact h
  | succ m ih => exact ih.succ
/-! ### Flat rows -/
abbrev Quad := Value × Value × Value × Value
def flatE (L : List Quad) : List Value := L.flatMap fun q => [q.1, q.2.1, q.2.2.1, q.2.2.2]
def flatA (l : List (ByteArray × ByteArray)) : List Value := l.flatMap fun p => [.string p.1, .string p.2]
theorem flatE_cons (q : Quad) (L : List Quad) : flatE (q :: L) = q.1 :: q.2.1 :: q.2.2.1 :: q.2.2.2 :: flatE L := rfl
theorem flatA_cons (p : ByteArray × ByteArray) (l : List (ByteArray × ByteArray)) : flatA (p :: l) = .string p.1 :: .string p.2 :: flatA l := rfl
theorem flatE_app (L M : List Quad) : flatE (L ++ M) = flatE L ++ flatE M := by unfold flatE; exact List.flatMap_append
theorem flatA_app (l m : List (ByteArray × ByteArray)) : flatA (l ++ m) = flatA l ++ flatA m := by unfold flatA; exact List.flatMap_append
theorem flatE_len (L : List Quad) : (flatE L).length = L.length * 4 := by
  induction L with
  | nil => rfl
  | cons q L ih => rw [flatE_cons]; simp only [List.length_cons, ih]; omega
theorem flatA_len (l : List (ByteArray × ByteArray)) : (flatA l).length = l.length * 2 := by
  induction l with
  | nil => rfl
  | cons q L ih => rw [flatA_cons]; simp only [List.length_cons, ih]; omega
theorem flatE_get : ∀ {L : List Quad} {i : Nat} {q : Quad}, L[i]? = some q → (flatE L)[4 * i]? = some q.1 ∧ (flatE L)[4 * i + 1]? = some q.2.1 ∧ (flatE L)[4 * i + 2]? = some q.2.2.1 ∧ (flatE L)[4 * i + 3]? = some q.2.2.2
  | [], i, q, h => by simp at h
  | a :: L, 0, q, h => by
    simp only [List.getElem?_cons_zero, Option.some.injEq] at h
    subst h
    exact ⟨rfl, rfl, rfl, rfl⟩
  | a :: L, i + 1, q, h => by
    rw [List.getElem?_cons_succ] at h
    obtain ⟨h0, h1, h2, h3⟩ := flatE_get h
    rw [flatE_cons]
    exact ⟨h0, h1, h2, h3⟩
theorem flatA_get : ∀ {L : List (ByteArray × ByteArray)} {i : Nat} {q : ByteArray × ByteArray}, L[i]? = some q → (flatA L)[2 * i]? = some (.string q.1) ∧ (flatA L)[2 * i + 1]? = some (.string q.2)
  | [], i, q, h => by simp at h
  | a :: L, 0, q, h => by
    simp only [List.getElem?_cons_zero, Option.some.injEq] at h
    subst h
    exact ⟨rfl, rfl⟩
  | a :: L, i + 1, q, h => by
    rw [List.getElem?_cons_succ] at h
    obtain ⟨h0, h1⟩ := flatA_get h
    rw [flatA_cons]
    exact ⟨h0, h1⟩
/-- The last one's field turned. -/
theorem flatE_set (L : List Quad) (a b c d u : Value) : (flatE (L ++ [(a, b, c, d)])).set (L.length * 4) u = flatE (L ++ [(u, b, c, d)]) ∧ (flatE (L ++ [(a, b, c, d)])).set (L.length * 4 + 1) u = flatE (L ++ [(a, u, c, d)]) ∧ (flatE (L ++ [(a, b, c, d)])).set (L.length * 4 + 2) u = flatE (L ++ [(a, b, u, d)]) ∧ (flatE (L ++ [(a, b, c, d)])).set (L.length * 4 + 3) u = flatE (L ++ [(a, b, c, u)]) := by
  simp only [flatE_app]
  rw [← flatE_len L]
  refine ⟨?_, ?_, ?_, ?_⟩
  · rw [List.set_append_right _ _ (by omega), Nat.sub_self]; rfl
  · rw [List.set_append_right _ _ (by omega), Nat.add_sub_cancel_left]; rfl
  · rw [List.set_append_right _ _ (by omega), Nat.add_sub_cancel_left]; rfl
  · rw [List.set_append_right _ _ (by omega), Nat.add_sub_cancel_left]; rfl
theorem flatE_last (L : List Quad) (a b c d : Value) : (flatE (L ++ [(a, b, c, d)]))[L.length * 4]? = some a ∧ (flatE (L ++ [(a, b, c, d)]))[L.length * 4 + 1]? = some b ∧ (flatE (L ++ [(a, b, c, d)]))[L.length * 4 + 2]? = some c ∧ (flatE (L ++ [(a, b, c, d)]))[L.length * 4 + 3]? = some d := by
  have h := flatE_get (L := L ++ [(a, b, c, d)]) (i := L.length) (q := (a, b, c, d)) (by simp)
  rw [Nat.mul_comm] at h
  exact h
/-! ### From rows to trees -/
/-- Kids that lie in a row of the program's own. -/
def KRow (w : World) (H : Nat) (R : Nat → Prop) (n : Nat) (kv : Value) (ks : List Tr) : Prop :=
  ∃ qs : List Quad, w.ownsRow H 25 4 kv qs.length (flatE qs) ∧ qs.length = ks.length ∧ ∀ (i : Nat) (q : Quad) (K : Tr), qs[i]? = some q → ks[i]? = some K → EInR w R n q.1 q.2.1 q.2.2.1 q.2.2.2 K
def AOwn (w : World) (H : Nat) (av : Value) (l : List (ByteArray × ByteArray)) : Prop :=
  w.ownsRow H 36 2 av l.length (flatA l) ∧ l.length ≤ 8 ∧ ∀ p ∈ l, p.1.size ≤ 1000000 ∧ p.2.size ≤ 1000000
theorem AOwn.row {w : World} {H : Nat} {R : Nat → Prop} {av : Value} {l : List (ByteArray × ByteArray)} (h : AOwn w H av l) (hR : ∀ g, av.ownBlock = some g → R g) : ARowR w R av l := by
  obtain ⟨h, h8, hz⟩ := h
  have hb : l.length ≤ 1000000000000 ∧ ∀ p ∈ l, p.1.size ≤ 140737488355328 ∧ p.2.size ≤ 140737488355328 := ⟨by omega, fun p hp => by have := hz p hp; omega⟩
  rcases h.2 with ⟨rfl, h0⟩ | ⟨g, cap, cur, hv, h1, h2, h3⟩
  · have : l = [] := List.eq_nil_of_length_eq_zero h0
    subst this
    exact ⟨0, 0, ⟨none, 0, rfl, fun h => absurd h (by decide)⟩, fun h => absurd h (by decide), hb, fun i p hp => by simp at hp⟩
  · subst hv
    refine ⟨g, 0, ⟨_, _, rfl, fun _ => rfl⟩, fun _ => hR g rfl, hb, fun i p hp => ?_⟩
    obtain ⟨e0, e1⟩ := flatA_get hp
    simp only [Nat.zero_add]
    exact ⟨own_cell h e0, own_cell h e1⟩
/-- An element that has ended: a tree. -/
theorem tree_of {w : World} {H : Nat} {R : Nat → Prop} {n : Nat} {nm : ByteArray} {av kv : Value} {p : Int} {l : List (ByteArray × ByteArray)} {ks : List Tr} (hn : nm.size ≤ 1000000) (ha : AOwn w H av l) (hk : KRow w H R n kv ks) (h1 : ∀ g, av.ownBlock = some g → R g) (h2 : ∀ g, kv.ownBlock = some g → R g) (hl : ks.length ≤ 1000000) : EInR w R (n + 1) (.string nm) av kv (.int .i64 p) (Xp.mkT nm l ks p) := by
  obtain ⟨qs, ho, hq, he⟩ := hk
  refine ⟨nm, p, l, ks, rfl, rfl, rfl, by omega, ha.row h1, ?_⟩
  rcases ho.2 with ⟨rfl, h0⟩ | ⟨g, cap, cur, hv, _⟩
  · have : ks = [] := List.eq_nil_of_length_eq_zero (by omega)
    subst this
    exact ⟨0, 0, ⟨none, 0, rfl, fun h => absurd h (by decide)⟩, fun h => absurd h (by decide), by omega, fun i p hp => by simp at hp⟩
  · subst hv
    refine ⟨g, 0, ⟨_, _, by rw [hq], fun _ => rfl⟩, fun _ => h2 g rfl, by omega, fun i K hK => ?_⟩
    obtain ⟨q, hqi⟩ : ∃ q, qs[i]? = some q := ⟨qs[i]'(by have := (List.getElem?_eq_some_iff.1 hK).1; omega), List.getElem?_eq_getElem _⟩
    obtain ⟨e0, e1, e2, e3⟩ := flatE_get hqi
    simp only [Nat.zero_add]
    exact ⟨q.1, q.2.1, q.2.2.1, q.2.2.2, ⟨own_cell ho e0, own_cell ho e1, own_cell ho e2, own_cell ho e3⟩, he i q K hqi hK⟩
end Go.Proofs.YtimecocegnnjjaaDoor
