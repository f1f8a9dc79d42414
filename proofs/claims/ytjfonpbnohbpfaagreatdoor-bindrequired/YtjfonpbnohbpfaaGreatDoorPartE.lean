/-
  Several texts in one: each opens with its own word.
-/
import Derived.Test.YtjfonpbnohbpfaaGreatDoorPartC
import Derived.Deep.AppendLies
import Derived.Test.YtjfonpbnohbpfaaGreatDoorPartD
import Derived.Deep.QuietTactic
import Derived.BigQuiet
/-
  Rows that the program owns: elements that are open, kids, attributes; trees whose blocks are named.
-/
set_option linter.unusedSimpArgs false
set_option linter.unusedVariables false
namespace Go.Proofs.YtjfonpbnohbpfaaGreatDoor
open Go.RowKit
/-! ### Rows -/
theorem own_heap {w : World} {H : Nat} {e : TypeId} {z : Nat} {v : Value} {n : Nat} {xs : List Value} {g : Nat} (h : w.ownsRow H e z v n xs) (hv : v.ownBlock = some g) :
    ∃ cap cur, v = .slice (some ⟨g, 0, none⟩) n cap ∧ H ≤ g ∧ w.heap[g]? = some (.cells cur e (0, 0)) ∧ n ≤ cap ∧ cap ≤ maxLen ∧ cur.size = cap * z ∧ cur.toList.take (n * z) = xs := by
  rcases h.2 with ⟨rfl, _⟩ | ⟨g', cap, cur, rfl, h1, h2, h3⟩
  · cases hv
  · obtain rfl : g' = g := Option.some.inj hv
    exact ⟨cap, cur, rfl, h1, h2, h3⟩
theorem own_lt {w : World} {H : Nat} {e : TypeId} {z : Nat} {v : Value} {n : Nat} {xs : List Value} {g : Nat} (h : w.ownsRow H e z v n xs) (hv : v.ownBlock = some g) : g < w.heap.size ∧ H ≤ g := by
  obtain ⟨_, _, _, h1, h2, _⟩ := own_heap h hv
  exact ⟨(Array.getElem?_eq_some_iff.1 h2).1, h1⟩
/-- A row hangs on its block alone. -/
theorem own_keep {w w' : World} {H : Nat} {e : TypeId} {z : Nat} {v : Value} {n : Nat} {xs : List Value} (h : w.ownsRow H e z v n xs) (hk : ∀ g, v.ownBlock = some g → w'.heap[g]? = w.heap[g]?) : w'.ownsRow H e z v n xs := by
  refine ⟨h.1, ?_⟩
  rcases h.2 with h0 | ⟨g', cap, cur, rfl, h1, h2, h3⟩
  · exact .inl h0
  · exact .inr ⟨g', cap, cur, rfl, h1, (hk g' rfl).trans h2, h3⟩
theorem own_cell {w : World} {H : Nat} {e : TypeId} {z : Nat} {n : Nat} {xs : List Value} {g cap : Nat} (h : w.ownsRow H e z (.slice (some ⟨g, 0, none⟩) n cap) n xs) {j : Nat} {u : Value} (hj : xs[j]? = some u) : w.cell? ⟨g, j, none⟩ = some u := by
  obtain ⟨_, cur, _, _, h2, _, _, _, h4⟩ := own_heap h rfl
  rw [Lib.cell_of_heap h2]
  rw [← h4, List.getElem?_take] at hj
  split at hj
  · simpa using hj
  · cases hj
theorem own_free {w : World} {H : Nat} {e : TypeId} {z : Nat} {n : Nat} {xs : List Value} {g cap : Nat} (h : w.ownsRow H e z (.slice (some ⟨g, 0, none⟩) n cap) n xs) (j : Nat) : w.frozen? ⟨g, j, none⟩ = false := by
  obtain ⟨_, cur, _, _, h2, _⟩ := own_heap h rfl
  exact Lies.free (C := cur) (t := e) h2 j
theorem own_set {w : World} {H : Nat} {e : TypeId} {z : Nat} {n : Nat} {xs : List Value} {g cap : Nat} (h : w.ownsRow H e z (.slice (some ⟨g, 0, none⟩) n cap) n xs) (j : Nat) (u : Value) : (w.setCell ⟨g, j, none⟩ u).ownsRow H e z (.slice (some ⟨g, 0, none⟩) n cap) n (xs.set j u) := by
  obtain ⟨cap', cur, hv, h1, h2, h3, h5, h6, h4⟩ := own_heap h rfl
  refine ⟨by rw [List.length_set]; exact h.1, .inr ⟨g, cap', cur.setIfInBounds j u, hv, h1, Lies.set (C := cur) (t := e) h2 j u, h3, h5, by simpa using h6, ?_⟩⟩
  rw [← h4, Array.toList_setIfInBounds, List.take_set]
/-- Blocks of unlike kinds are two. -/
theorem own_ne {w : World} {H : Nat} {e t : TypeId} {z : Nat} {v : Value} {n : Nat} {xs : List Value} {b : Nat} {C : Array Value} (h : w.ownsRow H e z v n xs) (hl : Lies w b t C) (ht : t ≠ e) : v.ownBlock ≠ some b := by
  intro hv
  obtain ⟨_, cur, _, _, h2, _⟩ := own_heap h hv
  unfold Lies at hl
  rw [hl] at h2
  simp only [Option.some.injEq, Obj.cells.injEq] at h2
  exact ht h2.2.1
theorem own_ne2 {w : World} {H H' : Nat} {e t : TypeId} {z z' : Nat} {v u : Value} {n m : Nat} {xs ys : List Value} (h : w.ownsRow H e z v n xs) (h' : w.ownsRow H' t z' u m ys) (ht : t ≠ e) (g : Nat) (hv : v.ownBlock = some g) : u.ownBlock ≠ some g := by
  intro hu
  obtain ⟨_, cur, _, _, h2, _⟩ := own_heap h' hu
  exact own_ne h (C := cur) (t := t) h2 ht hv
/-! ### Trees whose blocks are named -/
def ARowR (w : World) (R : Nat → Prop) (v : Value) (l : List (ByteArray × ByteArray)) : Prop :=
  ∃ b o, Row v l.length b o ∧ (0 < l.length → R b) ∧ (l.length ≤ 1000000000000 ∧ ∀ p ∈ l, p.1.size ≤ 140737488355328 ∧ p.2.size ≤ 140737488355328) ∧ ∀ i p, l[i]? = some p → w.cell? ⟨b, o + 2 * i, none⟩ = some (.string p.1) ∧ w.cell? ⟨b, o + 2 * i + 1, none⟩ = some (.string p.2)
theorem ARowR.toARow {w : World} {R : Nat → Prop} {v : Value} {l : List (ByteArray × ByteArray)} (h : ARowR w R v l) : ARow w v l := by
  obtain ⟨b, o, h1, _, h2, h3⟩ := h
  exact ⟨b, o, h1, h2, h3⟩
theorem ARowR.turn {w w' : World} {R R' : Nat → Prop} {v : Value} {l : List (ByteArray × ByteArray)} (h : ARowR w R v l) (hk : ∀ k, R k → w'.heap[k]? = w.heap[k]?) (hR : ∀ k, R k → R' k) : ARowR w' R' v l := by
  obtain ⟨b, o, h1, hr, h2, h3⟩ := h
  refine ⟨b, o, h1, fun h0 => hR _ (hr h0), h2, fun i p hp => ?_⟩
  have h0 : 0 < l.length := Nat.lt_of_le_of_lt (Nat.zero_le _) (List.getElem?_eq_some_iff.1 hp).1
  have hb := hk b (hr h0)
  rw [World.cell?_of_block (w := w) (w' := w') (a := ⟨b, o + 2 * i, none⟩) hb, World.cell?_of_block (w := w) (w' := w') (a := ⟨b, o + 2 * i + 1, none⟩) hb]
  exact h3 i p hp
def EInR (w : World) (R : Nat → Prop) : Nat → Value → Value → Value → Value → Tr → Prop
  | 0, _, _, _, _, _ => False
  | n + 1, c0, c1, c2, c3, T => ∃ (nm : ByteArray) (p : Int) (l : List (ByteArray × ByteArray)) (ks : List Tr), c0 = .string nm ∧ c3 = .int .i64 p ∧ T = Xp.mkT nm l ks p ∧ nm.size ≤ 140737488355328 ∧ ARowR w R c1 l ∧
      ∃ b o, Row c2 ks.length b o ∧ (0 < ks.length → R b) ∧ ks.length ≤ 1000000000000 ∧ ∀ i K, ks[i]? = some K → ∃ d0 d1 d2 d3, Four w b (o + 4 * i) d0 d1 d2 d3 ∧ EInR w R n d0 d1 d2 d3 K
theorem EInR.toEIn {w : World} {R : Nat → Prop} : ∀ {n : Nat} {c0 c1 c2 c3 : Value} {T : Tr}, EInR w R n c0 c1 c2 c3 T → EIn w n c0 c1 c2 c3 T
  | 0, _, _, _, _, _, h => h
  | n + 1, _, _, _, _, _, ⟨nm, p, l, ks, h0, h3, hT, hs, ha, b, o, hr, _, hl, hk⟩ => by
    refine ⟨nm, p, l, ks, h0, h3, hT, hs, ha.toARow, b, o, hr, hl, fun i K hK => ?_⟩
    obtain ⟨d0, d1, d2, d3, hf, he⟩ := hk i K hK
    exact ⟨d0, d1, d2, d3, hf, he.toEIn⟩
theorem EInR.turn {w w' : World} {R R' : Nat → Prop} (hk' : ∀ k, R k → w'.heap[k]? = w.heap[k]?) (hR : ∀ k, R k → R' k) : ∀ {n : Nat} {c0 c1 c2 c3 : Value} {T : Tr}, EInR w R n c0 c1 c2 c3 T → EInR w' R' n c0 c1 c2 c3 T
  | 0, _, _, _, _, _, h => h
  | n + 1, _, _, _, _, _, ⟨nm, p, l, ks, h0, h3, hT, hs, ha, b, o, hr, hb, hl, hk⟩ => by
    refine ⟨nm, p, l, ks, h0, h3, hT, hs, ha.turn hk' hR, b, o, hr, fun h => hR _ (hb h), hl, fun i K hK => ?_⟩
    obtain ⟨d0, d1, d2, d3, ⟨f0, f1, f2, f3⟩, he⟩ := hk i K hK
    have h0 : 0 < ks.length := Nat.lt_of_le_of_lt (Nat.zero_le _) (List.getElem?_eq_some_iff.1 hK).1
    have hbb := hk' b (hb h0)
    refine ⟨d0, d1, d2, d3, ⟨?_, ?_, ?_, ?_⟩, EInR.turn hk' hR he⟩
    · rw [World.cell?_of_block (w := w) (w' := w') (a := ⟨b, o + 4 * i, none⟩) hbb]; exact f0
    · rw [World.cell?_of_block (w := w) (w' := w') (a := ⟨b, o + 4 * i + 1, none⟩) hbb]; exact f1
    · rw [World.cell?_of_block (w := w) (w' := w') (a := ⟨b, o + 4 * i + 2, none⟩) hbb]; exact f2
    · rw [World.cell?_of_block (w := w) (w' := w') (a := ⟨b, o + 4 * i + 3, none⟩) hbb]; exact f3
theorem EInR.succ {w : World} {R : Nat → Prop} : ∀ {n : Nat} {c0 c1 c2 c3 : Value} {T : Tr}, EInR w R n c0 c1 c2 c3 T → EInR w R (n + 1) c0 c1 c2 c3 T
  | 0, _, _, _, _, _, h => h.elim
  | n + 1, _, _, _, _, _, ⟨nm, p, l, ks, h0, h3, hT, hs, ha, b, o, hr, hb, hl, hk⟩ => by
    refine ⟨nm, p, l, ks, h0, h3, hT, hs, ha, b, o, hr, hb, hl, fun i K hK => ?_⟩
    obtain ⟨d0, d1, d2, d3, hf, he⟩ := hk i K hK
    exact ⟨d0, d1, d2, d3, hf, EInR.succ he⟩
theorem EInR.add {w : World} {R : Nat → Prop} {n : Nat} (m : Nat) {c0 c1 c2 c3 : Value} {T : Tr} (h : EInR w R n c0 c1 c2 c3 T) : EInR w R (n + m) c0 c1 c2 c3 T := by
  induction m with
  | zero => exact h
  | succ m ih => exact ih.succ
/-! ### Flat rows -/
abbrev Quad := Value × Value × Value × Value
def flatE (L : List Quad) : List Value := L.flatMap fun q => [q.1, q.2.1, q.2.2.1, q.2.2.2]
def flatA (l : List (ByteArray × ByteArray)) : List Value := l.flatMap fun p => [.string p.1, .string p.2]
theorem flatE_cons (q : Quad) (L : List Quad) : flatE (q :: L) = q.1 :: q.2.1 :: q.2.2.1 :: q.2.2.2 :: flatE L := rfl
theorem flatA_cons (p : ByteArray × ByteArray) (l : List (ByteArray × ByteArray)) : flatA (p :: l) = .string p.1 :: .string p.2 :: flatA l := rfl
theorem flatE_app (L M : List Quad) : flatE (L ++ M) = flatE L ++ flatE M := by unfold flatE; exact List.flatMap_append
theorem flatA_app (l m : List (ByteArray × ByteArray)) : flatA (l ++ m) = flatA l ++ flatA m := by unfold flatA; exact List.flatMap_append
theorem flatE_len (L : List Quad) : (flatE L).length = L.length * 4 := by
  induction L with
  | nil => rfl
  | cons q L ih => rw [flatE_cons]; simp only [List.length_cons, ih]; omega
theorem flatA_len (l : List (ByteArray × ByteArray)) : (flatA l).length = l.length * 2 := by
  induction l with
  | nil => rfl
  | cons q L ih => rw [flatA_cons]; simp only [List.length_cons, ih]; omega
theorem flatE_get : ∀ {L : List Quad} {i : Nat} {q : Quad}, L[i]? = some q → (flatE L)[4 * i]? = some q.1 ∧ (flatE L)[4 * i + 1]? = some q.2.1 ∧ (flatE L)[4 * i + 2]? = some q.2.2.1 ∧ (flatE L)[4 * i + 3]? = some q.2.2.2
  | [], i, q, h => by simp at h
  | a :: L, 0, q, h => by
    simp only [List.getElem?_cons_zero, Option.some.injEq] at h
    subst h
    exact ⟨rfl, rfl, rfl, rfl⟩
  | a :: L, i + 1, q, h => by
    rw [List.getElem?_cons_succ] at h
    obtain ⟨h0, h1, h2, h3⟩ := flatE_get h
    rw [flatE_cons]
    exact ⟨h0, h1, h2, h3⟩
theorem flatA_get : ∀ {L : List (ByteArray × ByteArray)} {i : Nat} {q : ByteArray × ByteArray}, L[i]? = some q → (flatA L)[2 * i]? = some (.string q.1) ∧ (flatA L)[2 * i + 1]? = some (.string q.2)
  | [], i, q, h => by simp at h
  | a :: L, 0, q, h => by
    simp only [List.getElem?_cons_zero, Option.some.injEq] at h
    subst h
    exact ⟨rfl, rfl⟩
  | a :: L, i + 1, q, h => by
    rw [List.getElem?_cons_succ] at h
    obtain ⟨h0, h1⟩ := flatA_get h
    rw [flatA_cons]
    exact ⟨h0, h1⟩
/-- The last one's field turned. -/
theorem flatE_set (L : List Quad) (a b c d u : Value) : (flatE (L ++ [(a, b, c, d)])).set (L.length * 4) u = flatE (L ++ [(u, b, c, d)]) ∧ (flatE (L ++ [(a, b, c, d)])).set (L.length * 4 + 1) u = flatE (L ++ [(a, u, c, d)]) ∧ (flatE (L ++ [(a, b, c, d)])).set (L.length * 4 + 2) u = flatE (L ++ [(a, b, u, d)]) ∧ (flatE (L ++ [(a, b, c, d)])).set (L.length * 4 + 3) u = flatE (L ++ [(a, b, c, u)]) := by
  simp only [flatE_app]
  rw [← flatE_len L]
  refine ⟨?_, ?_, ?_, ?_⟩
  · rw [List.set_append_right _ _ (by omega), Nat.sub_self]; rfl
  · rw [List.set_append_right _ _ (by omega), Nat.add_sub_cancel_left]; rfl
  · rw [List.set_append_right _ _ (by omega), Nat.add_sub_cancel_left]; rfl
  · rw [List.set_append_right _ _ (by omega), Nat.add_sub_cancel_left]; rfl
theorem flatE_last (L : List Quad) (a b c d : Value) : (flatE (L ++ [(a, b, c, d)]))[L.length * 4]? = some a ∧ (flatE (L ++ [(a, b, c, d)]))[L.length * 4 + 1]? = some b ∧ (flatE (L ++ [(a, b, c, d)]))[L.length * 4 + 2]? = some c ∧ (flatE (L ++ [(a, b, c, d)]))[L.length * 4 + 3]? = some d := by
  have h := flatE_get (L := L ++ [(a, b, c, d)]) (i := L.length) (q := (a, b, c, d)) (by simp)
  rw [Nat.mul_comm] at h
  exact h
/-! ### From rows to trees -/
/-- Kids that lie in a row of the program's own. -/
def KRow (w : World) (H : Nat) (R : Nat → Prop) (n : Nat) (kv : Value) (ks : List Tr) : Prop :=
  ∃ qs : List Quad, w.ownsRow H 50 4 kv qs.length (flatE qs) ∧ qs.length = ks.length ∧ ∀ (i : Nat) (q : Quad) (K : Tr), qs[i]? = some q → ks[i]? = some K → EInR w R n q.1 q.2.1 q.2.2.1 q.2.2.2 K
def AOwn (w : World) (H : Nat) (av : Value) (l : List (ByteArray × ByteArray)) : Prop :=
  w.ownsRow H 66 2 av l.length (flatA l) ∧ l.length ≤ 8 ∧ ∀ p ∈ l, p.1.size ≤ 1000000 ∧ p.2.size ≤ 1000000
theorem AOwn.row {w : World} {H : Nat} {R : Nat → Prop} {av : Value} {l : List (ByteArray × ByteArray)} (h : AOwn w H av l) (hR : ∀ g, av.ownBlock = some g → R g) : ARowR w R av l := by
  obtain ⟨h, h8, hz⟩ := h
  have hb : l.length ≤ 1000000000000 ∧ ∀ p ∈ l, p.1.size ≤ 140737488355328 ∧ p.2.size ≤ 140737488355328 := ⟨by omega, fun p hp => by have := hz p hp; omega⟩
  rcases h.2 with ⟨rfl, h0⟩ | ⟨g, cap, cur, hv, h1, h2, h3⟩
  · have : l = [] := List.eq_nil_of_length_eq_zero h0
    subst this
    exact ⟨0, 0, ⟨none, 0, rfl, fun h => absurd h (by decide)⟩, fun h => absurd h (by decide), hb, fun i p hp => by simp at hp⟩
  · subst hv
    refine ⟨g, 0, ⟨_, _, rfl, fun _ => rfl⟩, fun _ => hR g rfl, hb, fun i p hp => ?_⟩
    obtain ⟨e0, e1⟩ := flatA_get hp
    simp only [Nat.zero_add]
    exact ⟨own_cell h e0, own_cell h e1⟩
/-- An element that has ended: a tree. -/
theorem tree_of {w : World} {H : Nat} {R : Nat → Prop} {n : Nat} {nm : ByteArray} {av kv : Value} {p : Int} {l : List (ByteArray × ByteArray)} {ks : List Tr} (hn : nm.size ≤ 1000000) (ha : AOwn w H av l) (hk : KRow w H R n kv ks) (h1 : ∀ g, av.ownBlock = some g → R g) (h2 : ∀ g, kv.ownBlock = some g → R g) (hl : ks.length ≤ 1000000) : EInR w R (n + 1) (.string nm) av kv (.int .i64 p) (Xp.mkT nm l ks p) := by
  obtain ⟨qs, ho, hq, he⟩ := hk
  refine ⟨nm, p, l, ks, rfl, rfl, rfl, by omega, ha.row h1, ?_⟩
  rcases ho.2 with ⟨rfl, h0⟩ | ⟨g, cap, cur, hv, _⟩
  · have : ks = [] := List.eq_nil_of_length_eq_zero (by omega)
    subst this
    exact ⟨0, 0, ⟨none, 0, rfl, fun h => absurd h (by decide)⟩, fun h => absurd h (by decide), by omega, fun i p hp => by simp at hp⟩
  · subst hv
    refine ⟨g, 0, ⟨_, _, by rw [hq], fun _ => rfl⟩, fun _ => h2 g rfl, by omega, fun i K hK => ?_⟩
    obtain ⟨q, hqi⟩ : ∃ q, qs[i]? = some q := ⟨qs[i]'(by have := (List.getElem?_eq_some_iff.1 hK).1; omega), List.getElem?_eq_getElem _⟩
    obtain ⟨e0, e1, e2, e3⟩ := flatE_get hqi
    simp only [Nat.zero_add]
    exact ⟨q.1, q.2.1, q.2.2.1, q.2.2.2, ⟨own_cell ho e0, own_cell ho e1, own_cell ho e2, own_cell ho e3⟩, he i q K hqi hK⟩
end Go.Proofs.YtjfonpbnohbpfaaGreatDoor
/-
  The program's innermost.
-/
set_option linter.unusedSimpArgs false
set_option linter.unusedVariables false
namespace Go.Proofs.YtjfonpbnohbpfaaGreatDoor
open Go.RowKit
/-- The pointer to the last of the open elements. -/
theorem innermostD (w : World) (b : Nat) (s : ByteArray) (p e : Int) (R : PRest) (g d cap : Nat) (hd : d ≤ 1000) (hv : R.vo = .slice (some ⟨g, 0, none⟩) (d + 1) cap) (h : PIn w b s p e R) :
    Calls Tryz.prog 100 #[ptr b] w fun r w' => r = .returned (.pointer (some ⟨g, d * 4, none⟩)) ∧ Below w.heap.size w w' := by
  have x3 : w.cell? ⟨b, 3, none⟩ = some (.slice (some ⟨g, 0, none⟩) (d + 1) cap) := by
    have := h.cell 3
    rw [← hv]
    exact this
  clear h
  obtain ⟨n, hn⟩ : ∃ n, n = d + 1 := ⟨_, rfl⟩
  rw [← hn] at x3
  have HN : Hid (n = d + 1) := hn
  have t0 : n ≤ 1001 := by omega
  have t1 : IntKind.i64.wrap ((n : Int) - 1) = (d : Int) := by rw [IntKind.wrap_i64]; omega
  have t2 : (0 : Int) ≤ (d : Int) := by omega
  have t3 : (d : Int) < (n : Int) := by omega
  clear hn
  go_enter Tryz.func100, Tryz.ntmps100
  go_wp2_with fail
  go_region_held3 (fun w' => w'.cell? ⟨b, 3, none⟩ = some (.slice (some ⟨g, 0, none⟩) n cap)) (go_keep) (fail)
  all_goals go_wp2_with fail
  go_ret
  exact ⟨rfl, (Below.refl _ w).drew⟩
end Go.Proofs.YtjfonpbnohbpfaaGreatDoor
/-
  The program's begin: an element's first byte; it is put behind the open ones.
-/
set_option linter.unusedSimpArgs false
set_option linter.unusedVariables false
namespace Go.Proofs.YtjfonpbnohbpfaaGreatDoor
open Go.RowKit
/-- The row's block is the one that it was, or new since w. -/
def Grew (w : World) (v v' : Value) : Prop := v'.ownBlock = v.ownBlock ∨ ∃ g, v'.ownBlock = some g ∧ w.heap.size ≤ g
theorem Grew.refl (w : World) (v : Value) : Grew w v v := .inl rfl
theorem Grew.trans {w w1 : World} {v v' v'' : Value} (h : Grew w v v') (hs : w.heap.size ≤ w1.heap.size) (k : Grew w1 v' v'') : Grew w v v'' := by
  rcases k with k | ⟨g, k, hg⟩
  · rcases h with h | ⟨g, h, hg⟩
    · exact .inl (k.trans h)
    · exact .inr ⟨g, k.trans h, hg⟩
  · exact .inr ⟨g, k, by omega⟩
theorem infoE : (Tryz.prog.info? 50).map (fun i => (i.zero, i.size, i.bytes)) = some (some (.agg #[.string ⟨#[]⟩, .slice none 0 0, .slice none 0 0, .int .i64 0]), 4, 72) := by kernel_rfl
theorem infoA : (Tryz.prog.info? 66).map (fun i => (i.zero, i.size, i.bytes)) = some (some (.agg #[.string ⟨#[]⟩, .string ⟨#[]⟩]), 2, 32) := by kernel_rfl
abbrev nilS : Value := .slice none 0 0
/-- Blocks that were not there at first do not count. -/
theorem Keep.on {S T : Nat → Prop} {a b c : World} (h : Keep S a b) (k : Keep T b c) (hT : ∀ i, i < a.heap.size → T i → S i) : Keep S a c :=
  ⟨k.os.trans h.os, k.tape.trans h.tape, k.output.trans h.output, Nat.le_trans h.size k.size, fun i hi hs => (k.block i (Nat.lt_of_lt_of_le hi h.size) (fun e => hs (hT i hi e))).trans (h.block i hi hs)⟩
theorem Keep.grown {w w' : World} {row : Option Nat} (h : w.grownBy w' row) : Keep (fun k => row = some k) w w' :=
  ⟨h.os, h.tape, h.output, h.size, fun k hk hs => h.block k hk (fun e => hs e.symm)⟩
/-- An element written into the last place of a row, and a cell of the struct at b: in either order. -/
def put4 (w : World) (g o : Nat) (a b c d : Value) : World := (((w.setCell ⟨g, o, none⟩ a).setCell ⟨g, o + 1, none⟩ b).setCell ⟨g, o + 2, none⟩ c).setCell ⟨g, o + 3, none⟩ d
theorem put4_own {w : World} {H g n cap : Nat} {L : List Quad} {x y z u a b c d : Value} (h : w.ownsRow H 50 4 (.slice (some ⟨g, 0, none⟩) n cap) n (flatE (L ++ [(x, y, z, u)]))) :
    (put4 w g (L.length * 4) a b c d).ownsRow H 50 4 (.slice (some ⟨g, 0, none⟩) n cap) n (flatE (L ++ [(a, b, c, d)])) := by
  have h1 := own_set h (L.length * 4) a
  rw [(flatE_set L x y z u a).1] at h1
  have h2 := own_set h1 (L.length * 4 + 1) b
  rw [(flatE_set L a y z u b).2.1] at h2
  have h3 := own_set h2 (L.length * 4 + 2) c
  rw [(flatE_set L a b z u c).2.2.1] at h3
  have h4 := own_set h3 (L.length * 4 + 3) d
  rw [(flatE_set L a b c u d).2.2.2] at h4
  exact h4
theorem put4_keep (w : World) (g o : Nat) (a b c d : Value) : Keep (· = g) w (put4 w g o a b c d) :=
  (((Keep.set (S := (· = g)) w ⟨g, o, none⟩ a rfl).trans (Keep.set _ ⟨g, o + 1, none⟩ b rfl)).trans (Keep.set _ ⟨g, o + 2, none⟩ c rfl)).trans (Keep.set _ ⟨g, o + 3, none⟩ d rfl)
theorem put4_lies {w : World} {g o : Nat} {a b c d : Value} {k : Nat} {t : TypeId} {C : Array Value} (h : Lies w k t C) (hn : g ≠ k) : Lies (put4 w g o a b c d) k t C := h.keep (put4_keep w g o a b c d) (fun e => hn e.symm)
theorem put4_a {w : World} {H g n cap bk j : Nat} {t : TypeId} {C : Array Value} {L : List Quad} {x y z u a b c d v : Value} (h : w.ownsRow H 50 4 (.slice (some ⟨g, 0, none⟩) n cap) n (flatE (L ++ [(x, y, z, u)]))) (hl : Lies w bk t C) (hn : g ≠ bk) :
    ((put4 w g (L.length * 4) a b c d).setCell ⟨bk, j, none⟩ v).ownsRow H 50 4 (.slice (some ⟨g, 0, none⟩) n cap) n (flatE (L ++ [(a, b, c, d)])) ∧ Lies ((put4 w g (L.length * 4) a b c d).setCell ⟨bk, j, none⟩ v) bk t (C.setIfInBounds j v) ∧ Keep (fun k => k = g ∨ k = bk) w ((put4 w g (L.length * 4) a b c d).setCell ⟨bk, j, none⟩ v) := by
  refine ⟨own_keep (put4_own h) (fun g' hg' => Below.heap_setCell _ _ _ _ ?_), (put4_lies hl hn).set j v, ((put4_keep w g _ a b c d).wide (fun k _ e => .inl e)).trans (Keep.set _ ⟨bk, j, none⟩ v (.inr rfl))⟩
  obtain rfl : g = g' := Option.some.inj hg'
  exact hn
theorem put4_b {w : World} {H g n cap bk j : Nat} {t : TypeId} {C : Array Value} {L : List Quad} {x y z u a b c d v : Value} (h : w.ownsRow H 50 4 (.slice (some ⟨g, 0, none⟩) n cap) n (flatE (L ++ [(x, y, z, u)]))) (hl : Lies w bk t C) (hn : g ≠ bk) :
    (put4 (w.setCell ⟨bk, j, none⟩ v) g (L.length * 4) a b c d).ownsRow H 50 4 (.slice (some ⟨g, 0, none⟩) n cap) n (flatE (L ++ [(a, b, c, d)])) ∧ Lies (put4 (w.setCell ⟨bk, j, none⟩ v) g (L.length * 4) a b c d) bk t (C.setIfInBounds j v) ∧ Keep (fun k => k = g ∨ k = bk) w (put4 (w.setCell ⟨bk, j, none⟩ v) g (L.length * 4) a b c d) := by
  refine ⟨put4_own (own_keep h (fun g' hg' => Below.heap_setCell _ _ _ _ ?_)), put4_lies (hl.set j v) hn, (Keep.set w ⟨bk, j, none⟩ v (.inr rfl)).trans ((put4_keep _ g _ a b c d).wide (fun k _ e => .inl e))⟩
  obtain rfl : g = g' := Option.some.inj hg'
  exact hn
theorem grew_of {w : World} {vo : Value} {g m cap h : Nat} (hat : vo.ownBlock = some g ∨ g = h + 1) (hs : w.heap.size ≤ h) : Grew w vo (.slice (some ⟨g, 0, none⟩) m cap) := by
  rcases hat with h | h
  · exact .inl h.symm
  · exact .inr ⟨g, rfl, by omega⟩
theorem slot_of {w : World} {vo : Value} {g b h : Nat} (hat : vo.ownBlock = some g ∨ g = h + 1) (hs : w.heap.size ≤ h) : ∀ i, i < w.heap.size → i = g ∨ i = b → i = b ∨ vo.ownBlock = some i := by
  intro i hi e
  rcases e with rfl | rfl
  · rcases hat with h | h
    · exact .inr h
    · omega
  · exact .inl rfl
/-- Both worlds by a name. -/
theorem put_named {S : Nat → Prop} {w w3 : World} {H g n cap bk j : Nat} {t : TypeId} {C : Array Value} {L : List Quad} {x y z u : Value} (a b c d v : Value) (h : w3.ownsRow H 50 4 (.slice (some ⟨g, 0, none⟩) n cap) n (flatE (L ++ [(x, y, z, u)]))) (hl : Lies w3 bk t C) (hn : g ≠ bk) (KG : Keep S w w3) (hgi : ∀ i, i < w.heap.size → i = g ∨ i = bk → S i) :
    (∃ X, ((((w3.setCell ⟨g, L.length * 4, none⟩ a).setCell ⟨g, L.length * 4 + 1, none⟩ b).setCell ⟨g, L.length * 4 + 2, none⟩ c).setCell ⟨g, L.length * 4 + 3, none⟩ d).setCell ⟨bk, j, none⟩ v = X ∧ Keep S w X ∧ Lies X bk t (C.setIfInBounds j v) ∧ X.ownsRow H 50 4 (.slice (some ⟨g, 0, none⟩) n cap) n (flatE (L ++ [(a, b, c, d)]))) ∧
    (∃ X, ((((w3.setCell ⟨bk, j, none⟩ v).setCell ⟨g, L.length * 4, none⟩ a).setCell ⟨g, L.length * 4 + 1, none⟩ b).setCell ⟨g, L.length * 4 + 2, none⟩ c).setCell ⟨g, L.length * 4 + 3, none⟩ d = X ∧ Keep S w X ∧ Lies X bk t (C.setIfInBounds j v) ∧ X.ownsRow H 50 4 (.slice (some ⟨g, 0, none⟩) n cap) n (flatE (L ++ [(a, b, c, d)]))) := by
  obtain ⟨a1, a2, a3⟩ := put4_a (j := j) (a := a) (b := b) (c := c) (d := d) (v := v) h hl hn
  obtain ⟨b1, b2, b3⟩ := put4_b (j := j) (a := a) (b := b) (c := c) (d := d) (v := v) h hl hn
  exact ⟨⟨_, rfl, KG.on a3 hgi, a2, a1⟩, ⟨_, rfl, KG.on b3 hgi, b2, b1⟩⟩
/-- Behind the append of an empty element: the cells that are written next. -/
theorem grown_at {W W' w3 : World} {H b g cap2 : Nat} {vo : Value} {L : List Quad} {C : Array Value} {t : TypeId} (hown : w3.ownsRow H 50 4 (.slice (some ⟨g, 0, none⟩) (L.length + 1) cap2) (L.length + 1) (flatE L ++ [.string ⟨#[]⟩, nilS, nilS, .int .i64 0]))
    (hgrow : W'.grownBy w3 vo.ownBlock) (hB : Below W.heap.size W W') (hne : vo.ownBlock ≠ some b) (hl : Lies W b t C) (ht : t ≠ 50) :
    w3.ownsRow H 50 4 (.slice (some ⟨g, 0, none⟩) (L.length + 1) cap2) (L.length + 1) (flatE (L ++ [(.string ⟨#[]⟩, nilS, nilS, .int .i64 0)])) ∧ Lies w3 b t C ∧ g ≠ b ∧
    (w3.cell? ⟨g, L.length * 4, none⟩ = some (.string ⟨#[]⟩) ∧ w3.cell? ⟨g, L.length * 4 + 1, none⟩ = some nilS ∧ w3.cell? ⟨g, L.length * 4 + 2, none⟩ = some nilS ∧ w3.cell? ⟨g, L.length * 4 + 3, none⟩ = some (.int .i64 0)) ∧
    (w3.frozen? ⟨g, L.length * 4, none⟩ = false ∧ w3.frozen? ⟨g, L.length * 4 + 1, none⟩ = false ∧ w3.frozen? ⟨g, L.length * 4 + 2, none⟩ = false ∧ w3.frozen? ⟨g, L.length * 4 + 3, none⟩ = false) := by
  have h2 : w3.ownsRow H 50 4 (.slice (some ⟨g, 0, none⟩) (L.length + 1) cap2) (L.length + 1) (flatE (L ++ [(.string ⟨#[]⟩, nilS, nilS, .int .i64 0)])) := by
    rw [flatE_app]
    exact hown
  have hl' := hl.below hB
  have hl3 : Lies w3 b t C := by
    have := hgrow.block b hl'.lt (fun e => hne e.symm)
    unfold Lies at *
    rw [this, hl']
  obtain ⟨e0, e1, e2, e3⟩ := flatE_last L (.string ⟨#[]⟩) nilS nilS (.int .i64 0)
  refine ⟨h2, hl3, fun e => own_ne h2 hl3 ht (by rw [← e]; rfl), ⟨own_cell h2 e0, own_cell h2 e1, own_cell h2 e2, own_cell h2 e3⟩, own_free h2 _, own_free h2 _, own_free h2 _, own_free h2 _⟩
set_option maxHeartbeats 4000000 in
set_option maxRecDepth 100000 in
theorem begin_ok (w : World) (b H : Nat) (s : ByteArray) (p n : Nat) (vo o0 o1 o2 o3 : Value) (L : List Quad) (hs : s.size ≤ 1000000) (hp : p ≤ s.size) (hL : L.length < 12) (hn : n < 400) (hH : H ≤ w.heap.size)
    (h : PIn w b s p 0 ⟨vo, n, o0, o1, o2, o3⟩) (ho : w.ownsRow H 50 4 vo L.length (flatE L)) (hv : Hid (Xp.hasL s.data.toList p [60] = true)) :
    Calls Tryz.prog 63 #[ptr b] w fun e w' => e = .returned (.bool true) ∧ Keep (fun k => k = b ∨ vo.ownBlock = some k) w w' ∧ ∃ vo', PIn w' b s (p + 1 : Nat) 0 ⟨vo', (n + 1 : Nat), o0, o1, o2, o3⟩ ∧
      w'.ownsRow H 50 4 vo' (L.length + 1) (flatE (L ++ [(.string ⟨#[]⟩, nilS, nilS, .int .i64 p)])) ∧ Grew w vo vo' := by
  obtain ⟨i0, hi0, hz0, hz1, hz2⟩ := info_parts infoE
  have HP : Hid (PIn w b s p 0 ⟨vo, n, o0, o1, o2, o3⟩) := h
  have HO : Hid (w.ownsRow H 50 4 vo L.length (flatE L)) := ho
  have x1 : w.cell? ⟨b, 1, none⟩ = some (.int .i64 p) := h.cell 1
  clear h ho
  obtain ⟨d, hd⟩ : ∃ d, d = L.length := ⟨_, rfl⟩
  have HD : Hid (d = L.length) := hd
  go_enter Tryz.func63, Tryz.ntmps63
  go_wp2_with fail
  refine (mustD w b s ⟨#[60]⟩ p ⟨vo, n, o0, o1, o2, o3⟩ true hs hp (by decide) HP.out hv).mono ?_
  rintro e w1 ⟨rfl, k1, r1, _⟩
  have P1 : Hid (PIn w1 b s (p + 1 : Nat) 0 ⟨vo, n, o0, o1, o2, o3⟩) := r1 rfl
  have K1 : Hid (Keep (· = b) w w1) := k1
  have hb := HP.out.lt
  have hne : vo.ownBlock ≠ some b := own_ne HO.out HP.out (by decide)
  have O1 : Hid (w1.ownsRow H 50 4 vo L.length (flatE L)) := own_keep HO.out (fun g hg => k1.block g (own_lt HO.out hg).1 (fun e => hne (by rw [hg, e])))
  have vform : ∃ ad cap, vo = .slice ad L.length cap := by
    rcases O1.out.2 with ⟨rfl, h0⟩ | ⟨g, cap, cur, rfl, _⟩
    · exact ⟨none, 0, by rw [h0]⟩
    · exact ⟨_, _, rfl⟩
  obtain ⟨ad, cap, hvo⟩ := vform
  subst hvo
  have x3 : w1.cell? ⟨b, 3, none⟩ = some (.slice ad L.length cap) := P1.out.cell 3
  have x4 : w1.cell? ⟨b, 4, none⟩ = some (.int .i64 n) := P1.out.cell 4
  have f3 : w1.frozen? ⟨b, 3, none⟩ = false := P1.out.free 3
  have f4 : w1.frozen? ⟨b, 4, none⟩ = false := P1.out.free 4
  have t1 : (((L.length : Nat) : Int) == 12) = false := beq_eq_false_iff_ne.2 (by omega)
  have t2 : (((n : Nat) : Int) == 400) = false := beq_eq_false_iff_ne.2 (by omega)
  obtain ⟨W, HW⟩ : ∃ W, Hid (w1.setCell ⟨b, 4, none⟩ (.int .i64 ((n : Int) + 1)) = W) := ⟨_, rfl⟩
  have P2 : Hid (PIn W b s (p + 1 : Nat) 0 ⟨.slice ad L.length cap, (n + 1 : Nat), o0, o1, o2, o3⟩) := by
    show PIn W _ _ _ _ _
    rw [← HW.out]
    exact P1.out.set 4 _
  have K2 : Hid (Keep (· = b) w W) := by
    show Keep _ _ W
    rw [← HW.out]
    exact K1.out.trans (Keep.set _ ⟨b, 4, none⟩ _ rfl)
  have O2 : Hid (W.ownsRow H 50 4 (.slice ad L.length cap) L.length (flatE L)) := own_keep HO.out (fun g hg => K2.out.block g (own_lt HO.out hg).1 (fun e => hne (by rw [hg, e])))
  clear r1 k1 x1
  go_wp2_with fail
  rw [HW.out]
  clear x3 x4 f3 f4 t1 t2
  have x3 : W.cell? ⟨b, 3, none⟩ = some (.slice ad L.length cap) := P2.out.cell 3
  have f3 : W.frozen? ⟨b, 3, none⟩ = false := P2.out.free 3
  have lb := P2.out.lt
  have hHW : H ≤ W.heap.size := by have := K2.out.size; omega
  go_region_law
    ((refine step_append_lies _ (by rfl) _ _ _ (by rfl) H 50 i0 _ 4 72 Tryz.underlying48 hi0 hz0 hz1 hz2 rfl (by omega) (.slice ad L.length cap) L.length (flatE L) (by rfl) ((O2.out.alloc _).drew)
        ⟨W.heap.size, 0, none⟩ 1 1 [.string ⟨#[]⟩, nilS, nilS, .int .i64 0] (by rfl) (by rfl) (World.news_of_block (cs := #[.string ⟨#[]⟩, nilS, nilS, .int .i64 0]) (t := 50) (fr := (0, 0)) (heap_alloc_new W _)) (by simp [Value.oneCell'])
        (by omega) (by unfold maxLen; omega) (by omega) (by first | (simp; done) | (simp; omega)) (W.heap.size + 1) (by simp) ?_; intro g cap2 w3 hown1 hgrow hat hlt; obtain ⟨hown2, hl3, hgb, ⟨y0, y1, y2, y3⟩, z0, z1, z2, z3⟩ := grown_at hown1 hgrow ((((Below.refl _ W).alloc (Nat.le_refl _) _)).drew) hne P2.out (by decide); have y4 : w3.cell? ⟨b, 3, none⟩ = some (.slice ad L.length cap) := hl3.cell 3; have z4 : w3.frozen? ⟨b, 3, none⟩ = false := hl3.free 3; have q0 : (0 : Int) ≤ (L.length : Int) := (by omega); have q1 : (L.length : Int) < (L.length : Int) + 1 := (by omega)))
  all_goals have KG : Keep (fun k => k = b ∨ (Value.slice ad L.length cap).ownBlock = some k) w w3 := ((K2.out.wide (fun k _ e => .inl e)).trans (Keep.of_below (((Below.refl _ W).alloc (Nat.le_refl _) _).drew))).on (Keep.grown hgrow) (fun i _ e => .inr e)
  all_goals have GR : Grew w (.slice ad L.length cap) (.slice (some ⟨g, 0, none⟩) (L.length + 1) cap2) := grew_of hat K2.out.size
  all_goals have hgi := slot_of (b := b) hat K2.out.size
  all_goals obtain ⟨⟨XA, eA, fA⟩, ⟨XB, eB, fB⟩⟩ := put_named (j := 3) (.string ⟨#[]⟩) nilS nilS (.int .i64 p) (.slice (some ⟨g, 0, none⟩) (L.length + 1) cap2) hown2 hl3 hgb KG hgi
  all_goals have GR := hideT GR
  all_goals clear y0 y1 y2 y3 y4 z0 z1 z2 z3 z4 hown1 hown2 hgrow hat hgi KG hl3
  all_goals first
    | (rw [eA]; have F := hideT fA; clear fA fB eA eB)
    | (rw [eB]; have F := hideT fB; clear fA fB eA eB)
  all_goals go_wp2_with fail
  all_goals go_ret
  all_goals exact ⟨rfl, F.out.1, _, F.out.2.1, F.out.2.2, GR.out⟩
/-- It does not begin. -/
theorem begin_no (w : World) (b H : Nat) (s : ByteArray) (p n : Nat) (vo o0 o1 o2 o3 : Value) (L : List Quad) (hs : s.size ≤ 1000000) (hp : p ≤ s.size)
    (h : PIn w b s p 0 ⟨vo, n, o0, o1, o2, o3⟩) (hv : Hid (Xp.hasL s.data.toList p [60] = false)) :
    Calls Tryz.prog 63 #[ptr b] w fun e w' => e = .returned (.bool false) ∧ Keep (· = b) w w' ∧ PIn w' b s p 2 ⟨vo, n, o0, o1, o2, o3⟩ := by
  have HP : Hid (PIn w b s p 0 ⟨vo, n, o0, o1, o2, o3⟩) := h
  have x1 : w.cell? ⟨b, 1, none⟩ = some (.int .i64 p) := h.cell 1
  clear h
  go_enter Tryz.func63, Tryz.ntmps63
  go_wp2_with fail
  refine (mustD w b s ⟨#[60]⟩ p ⟨vo, n, o0, o1, o2, o3⟩ false hs hp (by decide) HP.out hv).mono ?_
  rintro e w1 ⟨rfl, k1, _, r1⟩
  have P1 := hideT (r1 rfl)
  have K1 := hideT k1
  clear r1 k1 x1
  go_wp2_with fail
  go_ret
  exact ⟨rfl, K1.out, P1.out⟩
/-- There are too many, or it stands too deep. -/
theorem begin_full (w : World) (b H : Nat) (s : ByteArray) (p n : Nat) (ad : Option Addr) (d cap : Nat) (o0 o1 o2 o3 : Value) (hs : s.size ≤ 1000000) (hp : p ≤ s.size) (hd : d ≤ 12) (hn : n ≤ 400) (hf : d = 12 ∨ n = 400)
    (h : PIn w b s p 0 ⟨.slice ad d cap, n, o0, o1, o2, o3⟩) (hv : Hid (Xp.hasL s.data.toList p [60] = true)) :
    Calls Tryz.prog 63 #[ptr b] w fun e w' => e = .returned (.bool false) ∧ Keep (· = b) w w' ∧ PIn w' b s p 4 ⟨.slice ad d cap, n, o0, o1, o2, o3⟩ := by
  have HP : Hid (PIn w b s p 0 ⟨.slice ad d cap, n, o0, o1, o2, o3⟩) := h
  have x1 : w.cell? ⟨b, 1, none⟩ = some (.int .i64 p) := h.cell 1
  clear h
  by_cases h12 : d = 12
  · subst h12
    go_enter Tryz.func63, Tryz.ntmps63
    go_wp2_with fail
    refine (mustD w b s ⟨#[60]⟩ p _ true hs hp (by decide) HP.out hv).mono ?_
    rintro e w1 ⟨rfl, k1, r1, _⟩
    have P1 := hideT (r1 rfl)
    have K1 := hideT k1
    have x3 : w1.cell? ⟨b, 3, none⟩ = some (.slice ad 12 cap) := P1.out.cell 3
    clear r1 k1 x1
    go_wp2_with fail
    refine (failD w1 b s _ 0 p 4 _ P1.out).mono ?_
    rintro e w2 ⟨rfl, r2, k2⟩
    go_wp2_with fail
    go_ret
    exact ⟨rfl, K1.out.trans k2, r2⟩
  · have t1 : ((d : Int) == 12) = false := beq_eq_false_iff_ne.2 (by omega)
    obtain rfl : n = 400 := by omega
    clear hf
    go_enter Tryz.func63, Tryz.ntmps63
    go_wp2_with fail
    refine (mustD w b s ⟨#[60]⟩ p _ true hs hp (by decide) HP.out hv).mono ?_
    rintro e w1 ⟨rfl, k1, r1, _⟩
    have P1 := hideT (r1 rfl)
    have K1 := hideT k1
    have x3 : w1.cell? ⟨b, 3, none⟩ = some (.slice ad d cap) := P1.out.cell 3
    have x4 : w1.cell? ⟨b, 4, none⟩ = some (.int .i64 400) := P1.out.cell 4
    clear r1 k1 x1
    go_wp2_with fail
    refine (failD w1 b s _ 0 p 4 _ P1.out).mono ?_
    rintro e w2 ⟨rfl, r2, k2⟩
    go_wp2_with fail
    go_ret
    exact ⟨rfl, K1.out.trans k2, r2⟩
end Go.Proofs.YtjfonpbnohbpfaaGreatDoor
/-
  The program's elementName.
-/
set_option linter.unusedSimpArgs false
set_option linter.unusedVariables false
namespace Go.Proofs.YtjfonpbnohbpfaaGreatDoor
open Go.RowKit
set_option maxHeartbeats 1000000 in
theorem elementNameD (w : World) (b H : Nat) (s : ByteArray) (p : Nat) (R : PRest) (L : List Quad) (x y z u : Value) (hs : s.size ≤ 1000000) (hp : p ≤ s.size) (hL : L.length < 12) (hw : Ok w) (hoff : Off b)
    (h : PIn w b s p 0 R) (ho : w.ownsRow H 50 4 R.vo (L.length + 1) (flatE (L ++ [(x, y, z, u)]))) :
    Calls Tryz.prog 64 #[ptr b] w (Told
      (fun w' => ∃ k : Nat, Xp.qual s.data.toList p = some k ∧ p ≤ k ∧ k ≤ s.size ∧ Keep (fun k => k = b ∨ R.vo.ownBlock = some k) w w' ∧ PIn w' b s k 0 R ∧ w'.ownsRow H 50 4 R.vo (L.length + 1) (flatE (L ++ [(.string (s.extract p k), y, z, u)])))
      (fun w' => Xp.qual s.data.toList p = none ∧ Keep (· = b) w w' ∧ PIn w' b s p 2 R)) := by
  obtain ⟨g, cap, hv, _, hg⟩ := ho.form (by omega)
  have HV := hideT hv
  have HP := hideT h
  have HO := hideT ho
  have HWW := hideT hw
  have hne : R.vo.ownBlock ≠ some b := own_ne ho h (by decide)
  have hgb : g ≠ b := fun e => hne (by rw [hv, e]; rfl)
  clear h ho hv hw
  go_enter Tryz.func64, Tryz.ntmps64
  go_wp2_with fail
  refine (qualD w b s p R hs hp HWW.out HP.out).mono ?_
  rintro e w1 ⟨k1, g1, e1⟩
  cases hq : Xp.qual s.data.toList p with
  | none =>
    obtain ⟨rfl, r1⟩ := e1 hq
    have K1 := hideT k1
    have R1 := hideT r1
    have HQ := hideT hq
    clear k1 r1 g1 e1 hq
    go_wp2_with fail
    go_ret
    exact .inr ⟨rfl, HQ.out, K1.out, R1.out⟩
  | some k =>
    obtain ⟨rfl, hk1, hk2, r1⟩ := g1 k hq
    have K1 := hideT k1
    have R1 := hideT r1
    have HQ := hideT hq
    have O1 : Hid (w1.ownsRow H 50 4 (.slice (some ⟨g, 0, none⟩) (L.length + 1) cap) (L.length + 1) (flatE (L ++ [(x, y, z, u)]))) := by
      have := own_keep HO.out (fun g' hg' => k1.block g' (own_lt HO.out hg').1 (fun e => hne (by rw [hg', e])))
      rw [HV.out] at this
      exact this
    clear k1 r1 g1 e1 hq
    go_wp2_with fail
    refine (innermostD w1 b s k 0 R g L.length cap (by omega) HV.out R1.out).mono ?_
    rintro e w2 ⟨rfl, b2⟩
    have R2 := hideT (R1.out.below b2)
    have O2 : Hid (w2.ownsRow H 50 4 (.slice (some ⟨g, 0, none⟩) (L.length + 1) cap) (L.length + 1) (flatE (L ++ [(x, y, z, u)]))) := own_keep O1.out (fun g' hg' => b2.block g' (own_lt O1.out hg').1)
    have K2 : Hid (Keep (· = b) w w2) := K1.out.trans (Keep.of_below b2)
    have c0 : w2.cell? ⟨g, L.length * 4, none⟩ = some x := own_cell O2.out (flatE_last L x y z u).1
    have f0 : w2.frozen? ⟨g, L.length * 4, none⟩ = false := own_free O2.out _
    clear b2
    go_wp2_with fail
    go_ret
    refine .inl ⟨rfl, k, HQ.out, hk1, hk2, ?_, ?_, ?_⟩
    · refine (K2.out.wide (fun k _ e => .inl e)).trans (Keep.set _ ⟨g, L.length * 4, none⟩ _ (.inr ?_))
      rw [HV.out]
      rfl
    · exact R2.out.off _ _ (fun e => hgb e.symm)
    · have := own_set O2.out (L.length * 4) (.string (s.extract p k))
      rw [(flatE_set L x y z u (.string (s.extract p k))).1] at this
      rw [HV.out]
      exact this
end Go.Proofs.YtjfonpbnohbpfaaGreatDoor
/-
  Whether a name stands in a row of attributes already.
-/
set_option linter.unusedSimpArgs false
set_option linter.unusedVariables false
namespace Go.Proofs.YtjfonpbnohbpfaaGreatDoor
open Go.RowKit
theorem attr1D (w : World) (B : Nat) (nm p q : ByteArray) (h : w.cell? ⟨B, 0, none⟩ = some (.string nm)) (v : Bool) (hv : Hid ((p.data.toList == nm.data.toList) = v)) :
    Calls Tryz.prog 172 #[.agg #[.string p, .string q], .pointer (some ⟨B, 0, none⟩)] w fun e w' => e = .returned (.bool v) ∧ Below w.heap.size w w' := by
  have hB := cell_lt h
  have h1 : (w.alloc (.cells #[.string p, .string q] 66)).cell? ⟨B, 0, none⟩ = some (.string nm) := by
    rw [cell_old _ _ _ hB]
    exact h
  clear h
  go_enter Tryz.func172, Tryz.ntmps172
  go_wp2_with fail
  go_ret
  refine ⟨ret_b ?_, (Below.refl _ w).alloc (Nat.le_refl _) _⟩
  rw [← hv.out, Lib.toList_data, Lib.toList_data]
set_option maxHeartbeats 1000000 in
theorem indexAttrD (w : World) (B H : Nat) (nm : ByteArray) (av : Value) (l : List (ByteArray × ByteArray)) (h : w.cell? ⟨B, 0, none⟩ = some (.string nm)) (ha : AOwn w H av l) :
    Calls Tryz.prog 111 #[av, .func (.func 172) #[] #[.pointer (some ⟨B, 0, none⟩)]] w fun e w' => (∃ i : Int, e = .returned (.int .i64 i) ∧ (0 ≤ i ↔ l.any (fun a => a.1.data.toList == nm.data.toList) = true)) ∧ Below w.heap.size w w' := by
  have eg : ∀ args w, (callFunc 172 args).run Tryz.prog w = .ok (.enter 172 args) w := enters_of Tryz.func172 (by kernel_rfl) rfl
  obtain ⟨b, o, ⟨ao, cap, rfl, hao⟩, _, _, hc⟩ := AOwn.row (R := fun _ => True) ha (fun _ _ => trivial)
  have HC := hideT hc
  have HB := hideT h
  have hl : l.length ≤ 8 := ha.2.1
  have HAO := hideT hao
  clear hc h ha hao
  go_enter Tryz.func111, Tryz.ntmps111
  go_wp2_with fail
  go_loopw [8] (fun i wr => ∃ k : Nat, k ≤ l.length ∧ i = .int .i64 k ∧ Hid (Below w.heap.size w wr) ∧ Hid ((l.take k).any (fun a => a.1.data.toList == nm.data.toList) = false)) (fun i _ => l.length - (intOf i).toNat)
  case atStart => exact ⟨0, Nat.zero_le _, rfl, Below.refl _ _, rfl⟩
  case round =>
    obtain ⟨k, hk, rfl, HW, HF⟩ := hrel
    by_cases hlt : k < l.length
    · obtain rfl := HAO.out (by omega)
      obtain ⟨⟨pa, pb⟩, hp⟩ : ∃ p, l[k]? = some p := ⟨l[k]'hlt, List.getElem?_eq_getElem _⟩
      obtain ⟨q1, q2⟩ := HC.out k _ hp
      have p1 : wr.cell? ⟨b, o + k * 2, none⟩ = some (.string pa) := by rw [HW.out.cell (by have := cell_lt q1; exact this), Nat.mul_comm]; exact q1
      have p2 : wr.cell? ⟨b, o + k * 2 + 1, none⟩ = some (.string pb) := by rw [HW.out.cell (by have := cell_lt q2; exact this), Nat.mul_comm]; exact q2
      have cB : wr.cell? ⟨B, 0, none⟩ = some (.string nm) := by rw [HW.out.cell (cell_lt HB.out)]; exact HB.out
      have CB := hideT cB
      obtain ⟨v, V⟩ : ∃ v, Hid ((pa.data.toList == nm.data.toList) = v) := ⟨pa.data.toList == nm.data.toList, rfl⟩
      have HT : Hid (l.take (k + 1) = l.take k ++ [(pa, pb)]) := by
        show _ = _
        rw [List.take_add_one, hp]
        rfl
      have HP := hideT hp
      clear hp q1 q2 cB
      go_wp2_with fail
      refine (attr1D wr B nm pa pb CB.out v V).mono ?_
      rintro e w2 ⟨rfl, b2⟩
      have B2 : Hid (Below w.heap.size w w2) := HW.out.trans (b2.mono HW.out.size)
      clear b2 p1 p2
      cases v
      case true =>
        go_wp2_with fail
        go_ret
        refine ⟨⟨_, rfl, ?_⟩, B2.out⟩
        constructor
        · intro _
          exact List.any_eq_true.2 ⟨(pa, pb), List.mem_of_getElem? HP.out, V.out⟩
        · intro _
          show (0 : Int) ≤ (k : Int)
          omega
      case false =>
        go_wp2_with fail
        go_roundw
        case rel =>
          refine ⟨k + 1, by omega, by go_num, B2, ?_⟩
          show _ = _
          rw [HT.out, List.any_append, HF.out]
          simp only [List.any_cons, List.any_nil, Bool.or_false, Bool.false_or]
          exact V.out
        case measure => simp [intOf]; omega
    · go_wp2_with fail
      go_ret
      refine ⟨⟨_, rfl, ?_⟩, HW.out⟩
      have := HF.out
      rw [List.take_of_length_le (by omega)] at this
      rw [this]
      simp
theorem twiceD (w : World) (B H : Nat) (nm : ByteArray) (av : Value) (l : List (ByteArray × ByteArray)) (h : w.cell? ⟨B, 0, none⟩ = some (.string nm)) (ha : AOwn w H av l) (v : Bool) (hv : Hid (l.any (fun a => a.1.data.toList == nm.data.toList) = v)) :
    Calls Tryz.prog 171 #[av, .func (.func 172) #[] #[.pointer (some ⟨B, 0, none⟩)]] w fun e w' => e = .returned (.bool v) ∧ Below w.heap.size w w' := by
  have H1 := hideT (indexAttrD w B H nm av l h ha)
  clear h ha
  go_enter Tryz.func171, Tryz.ntmps171
  go_wp2_with fail
  refine H1.out.mono ?_
  rintro e w1 ⟨⟨i, rfl, hi⟩, b1⟩
  have HI := hideT hi
  clear hi
  go_wp2_with fail
  go_ret
  refine ⟨ret_b ?_, b1⟩
  rw [← hv.out, Bool.eq_iff_iff, decide_eq_true_eq]
  exact HI.out
end Go.Proofs.YtjfonpbnohbpfaaGreatDoor
/-
  The program's attribute.
-/
set_option linter.unusedSimpArgs false
set_option linter.unusedVariables false
namespace Go.Proofs.YtjfonpbnohbpfaaGreatDoor
open Go.RowKit
/-- What an attribute's call may turn. -/
def SA (b : Nat) (vo av : Value) (k : Nat) : Prop := k = b ∨ vo.ownBlock = some k ∨ av.ownBlock = some k
theorem AOwn.keep {w w' : World} {H : Nat} {av : Value} {l : List (ByteArray × ByteArray)} (h : AOwn w H av l) (hk : ∀ g, av.ownBlock = some g → w'.heap[g]? = w.heap[g]?) : AOwn w' H av l := ⟨own_keep h.1 hk, h.2⟩
/-- A variable that a closure captures, behind a world. -/
theorem boxed (w : World) (nm : ByteArray) : ∃ W, w.alloc (.cells #[.string nm] 9) = W ∧ Below w.heap.size w W ∧ W.cell? ⟨w.heap.size, 0, none⟩ = some (.string nm) ∧ w.heap.size + 1 = W.heap.size :=
  ⟨_, rfl, (Below.refl _ w).alloc (Nat.le_refl _) _, (Lies.new w 9 #[.string nm]).cell 0, by simp⟩
theorem AOwn.snoc {w : World} {H : Nat} {av : Value} {l : List (ByteArray × ByteArray)} {nm t : ByteArray} (h : w.ownsRow H 66 2 av (l.length + 1) (flatA l ++ [.string nm, .string t])) (h8 : l.length ≤ 7) (hz : ∀ p ∈ l, p.1.size ≤ 1000000 ∧ p.2.size ≤ 1000000) (h1 : nm.size ≤ 1000000) (h2 : t.size ≤ 1000000) : AOwn w H av (l ++ [(nm, t)]) := by
  refine ⟨?_, by rw [List.length_append]; simp; omega, fun p hp => ?_⟩
  · rw [flatA_app, List.length_append]
    exact h
  · rcases List.mem_append.1 hp with hp | hp
    · exact hz p hp
    · rw [List.mem_singleton.1 hp]
      exact ⟨h1, h2⟩
/-- Behind the append of an attribute: the rest stands as it was. -/
theorem attr_grown {W W' w3 : World} {H b g d cap : Nat} {vo : Value} {L : List Quad} {x y z u : Value} {C : Array Value} {t : TypeId} (ho : W.ownsRow H 50 4 (.slice (some ⟨g, 0, none⟩) d cap) d (flatE (L ++ [(x, y, z, u)]))) (hl : Lies W b t C)
    (hgrow : W'.grownBy w3 vo.ownBlock) (hB : Below W.heap.size W W') (hg : vo.ownBlock ≠ some g) (hb : vo.ownBlock ≠ some b) :
    w3.ownsRow H 50 4 (.slice (some ⟨g, 0, none⟩) d cap) d (flatE (L ++ [(x, y, z, u)])) ∧ Lies w3 b t C ∧ w3.cell? ⟨g, L.length * 4 + 1, none⟩ = some y ∧ w3.frozen? ⟨g, L.length * 4 + 1, none⟩ = false := by
  have hl' := hl.below hB
  have hl3 : Lies w3 b t C := by
    have := hgrow.block b hl'.lt (fun e => hb e.symm)
    unfold Lies at *
    rw [this, hl']
  have h2 := own_keep (w' := W') ho (fun g' hg' => hB.block g' (own_lt ho hg').1)
  have h3 := own_keep (w' := w3) h2 (fun g' hg' => hgrow.block g' (own_lt h2 hg').1 (fun e => hg (by have h9 : g = g' := Option.some.inj hg'; rw [h9]; exact e.symm)))
  exact ⟨h3, hl3, own_cell h3 (flatE_last L x y z u).2.1, own_free h3 _⟩
theorem set_named {S : Nat → Prop} {w w3 : World} {H g n cap bk : Nat} {t : TypeId} {C : Array Value} {L : List Quad} {x y z u : Value} (v : Value) (h : w3.ownsRow H 50 4 (.slice (some ⟨g, 0, none⟩) n cap) n (flatE (L ++ [(x, y, z, u)]))) (hl : Lies w3 bk t C) (hn : g ≠ bk) (KG : Keep S w w3) (hgi : S g) :
    ∃ X, w3.setCell ⟨g, L.length * 4 + 1, none⟩ v = X ∧ Keep S w X ∧ Lies X bk t C ∧ X.ownsRow H 50 4 (.slice (some ⟨g, 0, none⟩) n cap) n (flatE (L ++ [(x, v, z, u)])) ∧ (∀ k, k ≠ g → X.heap[k]? = w3.heap[k]?) := by
  have h1 := own_set h (L.length * 4 + 1) v
  rw [(flatE_set L x y z u v).2.1] at h1
  exact ⟨_, rfl, KG.trans (Keep.set _ ⟨g, L.length * 4 + 1, none⟩ v hgi), hl.off _ _ (fun e => hn e.symm), h1, fun k hk => Below.heap_setCell _ _ _ _ hk⟩
set_option maxHeartbeats 4000000 in
theorem attributeD (w : World) (b H : Nat) (s : ByteArray) (p : Nat) (R : PRest) (L : List Quad) (x av z u : Value) (l : List (ByteArray × ByteArray)) (hs : s.size ≤ 1000000) (hp : p ≤ s.size) (hL : L.length < 12) (hw : Ok w) (hoff : Off b) (hH : H ≤ w.heap.size)
    (h : PIn w b s p 0 R) (ho : w.ownsRow H 50 4 R.vo (L.length + 1) (flatE (L ++ [(x, av, z, u)]))) (ha : AOwn w H av l) :
    Calls Tryz.prog 152 #[ptr b] w (Told
      (fun w' => ∃ (a : ByteArray × ByteArray) (k : Nat) (av' : Value), Xp.attr s.data.toList p l = .ok (a, k) ∧ k ≤ s.size ∧ Keep (SA b R.vo av) w w' ∧ PIn w' b s k 0 R ∧ w'.ownsRow H 50 4 R.vo (L.length + 1) (flatE (L ++ [(x, av', z, u)])) ∧ AOwn w' H av' (l ++ [a]) ∧ Grew w av av')
      (fun w' => ∃ q e : Nat, Xp.attr s.data.toList p l = .error (q, e) ∧ Keep (SA b R.vo av) w w' ∧ PIn w' b s q e R)) := by
  obtain ⟨g, cap, hv, _, hg⟩ := ho.form (by omega)
  have HV := hideT hv
  have HP := hideT h
  have HO := hideT ho
  have HA := hideT ha
  have HWW := hideT hw
  have hne : R.vo.ownBlock ≠ some b := own_ne ho h (by decide)
  have hgb : g ≠ b := fun e => hne (by rw [hv, e]; rfl)
  have hab : av.ownBlock ≠ some b := own_ne ha.1 h (by decide)
  have hag : av.ownBlock ≠ some g := fun e => own_ne2 ho ha.1 (by decide) g (by rw [hv]; rfl) e
  obtain ⟨aad, acap, hav⟩ : ∃ aad acap, av = .slice aad l.length acap := by
    rcases ha.1.2 with ⟨rfl, h0⟩ | ⟨g, cap, cur, rfl, _⟩
    · exact ⟨none, 0, by rw [h0]⟩
    · exact ⟨_, _, rfl⟩
  have hl8 : l.length ≤ 8 := ha.2.1
  have hmf : ∀ (fn : Fn) (first cap : Array Value) (w : World), (Instr.makeFunc fn first cap).run Tryz.prog w = .ok (.func fn first cap) w := fun _ _ _ _ => rfl
  have x1 : w.cell? ⟨b, 1, none⟩ = some (.int .i64 p) := h.cell 1
  clear h ho hv hw ha
  go_enter Tryz.func152, Tryz.ntmps152
  go_wp2_with fail
  go_region_held3 (fun w' => w'.cell? ⟨b, 1, none⟩ = some (.int .i64 p)) (go_keep) ((go_at_call 100; refine (innermostD _ b s p 0 R g L.length cap (by omega) HV.out (HP.out.below (Below.refl _ w).drew)).mono ?_; rintro e w1 ⟨rfl, b1⟩; have y1 : w1.cell? ⟨b, 1, none⟩ = some (.int .i64 p) := ((HP.out.below (Below.refl _ w).drew).below b1).cell 1))
  have B1 : Hid (Below w.heap.size w w1) := (Below.refl _ w).drew.trans b1
  have P1 := hideT (HP.out.below B1.out)
  have A1 := hideT (HA.out.keep (w' := w1) (fun g' hg' => B1.out.block g' (own_lt HA.out.1 hg').1))
  have O1 : Hid (w1.ownsRow H 50 4 (.slice (some ⟨g, 0, none⟩) (L.length + 1) cap) (L.length + 1) (flatE (L ++ [(x, av, z, u)]))) := by
    have := own_keep (w' := w1) HO.out (fun g' hg' => B1.out.block g' (own_lt HO.out hg').1)
    rw [HV.out] at this
    exact this
  have c1 : w1.cell? ⟨g, L.length * 4 + 1, none⟩ = some (.slice aad l.length acap) := by
    rw [← hav]
    exact own_cell O1.out (flatE_last L x av z u).2.1
  clear b1 x1
  by_cases h8 : l.length = 8
  · have HE : Hid (Xp.attr s.data.toList p l = .error (p, 4)) := by
      show _ = _
      unfold Xp.attr
      rw [if_pos (by omega)]
    have t8 : ((l.length : Int) == 8) = true := by rw [h8]; rfl
    clear h8
    go_wp2_with fail
    refine (failD w1 b s p 0 p 4 R P1.out).mono ?_
    rintro e w2 ⟨rfl, r2, k2⟩
    go_wp2_with fail
    go_ret
    exact .inr ⟨rfl, p, 4, HE.out, ((Keep.of_below B1.out).trans k2).wide (fun k _ e => .inl e), r2⟩
  · have t8 : ((l.length : Int) == 8) = false := beq_eq_false_iff_ne.2 (by omega)
    have H8 : Hid (¬ 8 ≤ l.length) := by show ¬ _; omega
    clear h8
    have hl7 : l.length ≤ 7 := by have := H8.out; omega
    go_wp2_with fail
    refine (qualD w1 b s p R hs hp (HWW.out.below B1.out) P1.out).mono ?_
    rintro e w2 ⟨k2, g2, e2⟩
    cases hq : Xp.qual s.data.toList p with
    | none =>
      obtain ⟨rfl, r2⟩ := e2 hq
      have HE : Hid (Xp.attr s.data.toList p l = .error (p, 2)) := by
        show _ = _
        unfold Xp.attr
        rw [if_neg H8.out, hq]
      have K2 := hideT ((Keep.of_below B1.out).trans k2)
      have R2 := hideT r2
      obtain ⟨W, hW, bW, _⟩ := boxed w2 ⟨#[]⟩
      have HB := hideT bW
      have HWq := hideT hW
      clear k2 r2 g2 e2 hq c1 y1 hW bW
      go_wp2_with fail
      go_ret
      refine .inr ⟨rfl, p, 2, HE.out, ?_, ?_⟩
      · rw [HWq.out]
        exact (K2.out.trans (Keep.of_below HB.out)).wide (fun k _ e => .inl e)
      · rw [HWq.out]
        exact R2.out.below HB.out
    | some k =>
      obtain ⟨rfl, hk1, hk2, r2⟩ := g2 k hq
      have HQ := hideT hq
      have K2 := hideT ((Keep.of_below B1.out).trans k2)
      have R2 := hideT r2
      have A2 := hideT (A1.out.keep (w' := w2) (fun g' hg' => k2.block g' (own_lt A1.out.1 hg').1 (fun e => hab (by rw [hg', e]))))
      have O2 : Hid (w2.ownsRow H 50 4 (.slice (some ⟨g, 0, none⟩) (L.length + 1) cap) (L.length + 1) (flatE (L ++ [(x, av, z, u)]))) := own_keep (w' := w2) O1.out (fun g' hg' => k2.block g' (own_lt O1.out hg').1 (fun e => hgb (by have := Option.some.inj hg'; exact this.trans e)))
      obtain ⟨nm, hnm⟩ : ∃ nm, nm = s.extract p k := ⟨_, rfl⟩
      have HNM := hideT hnm
      have hnl : nm.data.toList = Xp.cut s.data.toList p k := by rw [hnm, Lib.extract_data]; rfl
      have hnz : nm.size ≤ 1000000 := by rw [hnm, ByteArray.size_extract]; omega
      rw [← hnm]
      obtain ⟨W, hW, bW, cW, zW⟩ := boxed w2 nm
      have HB := hideT bW
      have HWq := hideT hW
      have CW := hideT cW
      have P3 := hideT (R2.out.below bW)
      have A3 := hideT (A2.out.keep (w' := W) (fun g' hg' => bW.block g' (own_lt A2.out.1 hg').1))
      have O3 : Hid (W.ownsRow H 50 4 (.slice (some ⟨g, 0, none⟩) (L.length + 1) cap) (L.length + 1) (flatE (L ++ [(x, av, z, u)]))) := own_keep (w' := W) O2.out (fun g' hg' => bW.block g' (own_lt O2.out hg').1)
      have c3 : (w2.alloc (.cells #[.string nm] 9)).cell? ⟨g, L.length * 4 + 1, none⟩ = some (.slice aad l.length acap) := by
        rw [HWq.out, ← hav]
        exact own_cell O3.out (flatE_last L x av z u).2.1
      clear k2 r2 g2 e2 hq c1 y1 hW bW cW hnm
      go_wp2_with fail
      rw [HWq.out]
      obtain ⟨v5, V5⟩ : ∃ v, Hid (l.any (fun a => a.1.data.toList == nm.data.toList) = v) := ⟨_, rfl⟩
      obtain ⟨v6, V6⟩ : ∃ v, Hid (Xp.hasL s.data.toList k (⟨#[61]⟩ : ByteArray).data.toList = v) := ⟨_, rfl⟩
      have HAT : Hid (Xp.attr s.data.toList p l = if v5 = true then .error (p, 2) else if v6 = true then (match Xp.value s.data.toList (k + 1) with | none => .error (k + 1, 2) | some (v, j) => .ok ((nm, Xp.ba v), j)) else .error (k, 2)) := by
        show _ = _
        unfold Xp.attr
        rw [if_neg H8.out, HQ.out]
        have e5 := V5.out
        rw [hnl] at e5
        have e6 : Xp.hasL s.data.toList k [61] = v6 := V6.out
        simp only [e5, e6]
        have e7 : Xp.ba (Xp.cut s.data.toList p k) = nm := by
          rw [← hnl]
          rfl
        rw [e7]
        try (cases Xp.value s.data.toList (k + 1) <;> rfl)
      rw [← hav]
      refine (twiceD W w2.heap.size H nm av l CW.out A3.out v5 V5).mono ?_
      rintro e w4 ⟨rfl, b4⟩
      have B4 : Hid (Below w2.heap.size w2 w4) := HB.out.trans (b4.mono (by omega))
      have P4 := hideT (R2.out.below B4.out)
      have K4 := hideT (K2.out.trans (Keep.of_below B4.out))
      have A4 := hideT (A2.out.keep (w' := w4) (fun g' hg' => B4.out.block g' (own_lt A2.out.1 hg').1))
      have O4 : Hid (w4.ownsRow H 50 4 (.slice (some ⟨g, 0, none⟩) (L.length + 1) cap) (L.length + 1) (flatE (L ++ [(x, av, z, u)]))) := own_keep (w' := w4) O2.out (fun g' hg' => B4.out.block g' (own_lt O2.out hg').1)
      have C4 : Hid (w4.cell? ⟨w2.heap.size, 0, none⟩ = some (.string nm)) := by
        show _ = _
        rw [b4.cell (by show w2.heap.size < W.heap.size; omega)]
        exact CW.out
      have hz4 : w2.heap.size < w4.heap.size := cell_lt C4.out
      clear b4 c3
      cases v5
      case true =>
        have HE : Hid (Xp.attr s.data.toList p l = .error (p, 2)) := by
          show _ = _
          rw [HAT.out, if_pos (by trivial)]
        go_wp2_with fail
        refine (failD w4 b s k 0 p 2 R P4.out).mono ?_
        rintro e w5 ⟨rfl, r5, k5⟩
        go_wp2_with fail
        go_ret
        exact .inr ⟨rfl, p, 2, HE.out, (K4.out.trans k5).wide (fun k _ e => .inl e), r5⟩
      go_wp2_with fail
      refine (mustD w4 b s ⟨#[61]⟩ k R v6 hs hk2 (by decide) P4.out V6).mono ?_
      rintro e w5 ⟨rfl, k5, r5, e5⟩
      cases v6
      case false =>
        have HE : Hid (Xp.attr s.data.toList p l = .error (k, 2)) := by
          show _ = _
          rw [HAT.out, if_neg (by simp), if_neg (by simp)]
        have R5 := hideT (e5 rfl)
        have K5 := hideT (K4.out.trans k5)
        clear e5 r5 k5
        go_wp2_with fail
        go_ret
        exact .inr ⟨rfl, k, 2, HE.out, K5.out.wide (fun k _ e => .inl e), R5.out⟩
      have hk3 : k + 1 ≤ s.size := Xp.has_room V6.out (by decide)
      have R5 := hideT (r5 rfl)
      have K5 := hideT (K4.out.trans k5)
      have A5 := hideT (A4.out.keep (w' := w5) (fun g' hg' => k5.block g' (own_lt A4.out.1 hg').1 (fun e => hab (by rw [hg', e]))))
      have O5 : Hid (w5.ownsRow H 50 4 (.slice (some ⟨g, 0, none⟩) (L.length + 1) cap) (L.length + 1) (flatE (L ++ [(x, av, z, u)]))) := own_keep (w' := w5) O4.out (fun g' hg' => k5.block g' (own_lt O4.out hg').1 (fun e => hgb (by have := Option.some.inj hg'; exact this.trans e)))
      have hbb : b < w2.heap.size := R2.out.lt
      have C5 : Hid (w5.cell? ⟨w2.heap.size, 0, none⟩ = some (.string nm)) := by
        show _ = _
        rw [k5.cell (a := ⟨w2.heap.size, 0, none⟩) hz4 (by show ¬ w2.heap.size = b; omega)]
        exact C4.out
      have hz5 : w2.heap.size < w5.heap.size := cell_lt C5.out
      clear e5 r5 k5
      go_wp2_with fail
      refine (valueD w5 b s (k + 1) R hs hk3 (HWW.out.keep K5.out (fun i hi => by subst hi; exact hoff)) hoff R5.out).mono ?_
      rintro e w6 ⟨k6, g6, e6⟩
      cases hvv : Xp.value s.data.toList (k + 1) with
      | none =>
        obtain ⟨rfl, r6⟩ := e6 hvv
        have HE : Hid (Xp.attr s.data.toList p l = .error (k + 1, 2)) := by
          show _ = _
          rw [HAT.out, if_neg (by simp), if_pos (by trivial), hvv]
        have R6 := hideT r6
        have K6 := hideT (K5.out.trans k6)
        clear e6 r6 k6 g6 hvv
        go_wp2_with fail
        go_ret
        exact .inr ⟨rfl, k + 1, 2, HE.out, K6.out.wide (fun k _ e => .inl e), R6.out⟩
      | some tj =>
        obtain ⟨t, j⟩ := tj
        obtain ⟨rfl, hj, r6⟩ := g6 t j hvv
        have HE : Hid (Xp.attr s.data.toList p l = .ok ((nm, Xp.ba t), j)) := by
          show _ = _
          rw [HAT.out, if_neg (by simp), if_pos (by trivial), hvv]
        have HVV := hideT hvv
        have R6 := hideT r6
        have K6 := hideT (K5.out.trans k6)
        have A6 := hideT (A5.out.keep (w' := w6) (fun g' hg' => k6.block g' (own_lt A5.out.1 hg').1 (fun e => hab (by rw [hg', e]))))
        have O6 : Hid (w6.ownsRow H 50 4 (.slice (some ⟨g, 0, none⟩) (L.length + 1) cap) (L.length + 1) (flatE (L ++ [(x, av, z, u)]))) := own_keep (w' := w6) O5.out (fun g' hg' => k6.block g' (own_lt O5.out hg').1 (fun e => hgb (by have := Option.some.inj hg'; exact this.trans e)))
        have c6 : w6.cell? ⟨w2.heap.size, 0, none⟩ = some (.string nm) := by
          rw [k6.cell (a := ⟨w2.heap.size, 0, none⟩) hz5 (by show ¬ w2.heap.size = b; omega)]
          exact C5.out
        have d6 : w6.cell? ⟨g, L.length * 4 + 1, none⟩ = some (.slice aad l.length acap) := by
          rw [← hav]
          exact own_cell O6.out (flatE_last L x av z u).2.1
        have hg6 := (own_lt O6.out (g := g) rfl).1
        have hz6 : w2.heap.size < w6.heap.size := cell_lt c6
        have hH6 : H ≤ w6.heap.size := by have := (own_lt O6.out (g := g) rfl).2; omega
        have A6' : Hid (w6.ownsRow H 66 2 (.slice aad l.length acap) l.length (flatA l)) := by
          have := A6.out.1
          rw [hav] at this
          exact this
        obtain ⟨i0, hi0, hz0, hz1, hz2⟩ := info_parts infoA
        clear e6 r6 k6 g6 hvv
        have htz : (Xp.ba t).size ≤ 1000000 := by
          have := Xp.value_len HVV.out
          show t.toArray.size ≤ 1000000
          rw [List.size_toArray]
          omega
        have hz := hideT A6.out.2.2
        have hgg : ((.slice aad l.length acap : Value)).ownBlock ≠ some g := by rw [← hav]; exact hag
        have hgb2 : ((.slice aad l.length acap : Value)).ownBlock ≠ some b := by rw [← hav]; exact hab
        have hbW : b < w6.heap.size := by omega
        go_wp2_with fail
        go_region_law
          ((refine step_append_lies _ (by rfl) _ _ _ (by rfl) H 66 i0 _ 2 32 Tryz.underlying42 hi0 hz0 hz1 hz2 rfl (by omega) (.slice aad l.length acap) l.length (flatA l) (by rfl) ((A6'.out.alloc _).drew)
              ⟨w6.heap.size, 0, none⟩ 1 1 [.string nm, .string (Xp.ba t)] (by rfl) (by rfl) (World.news_of_block (cs := #[.string nm, .string (Xp.ba t)]) (t := 66) (fr := (0, 0)) (heap_alloc_new w6 _)) (by simp [Value.oneCell'])
              (by omega) (by unfold maxLen; omega) (by omega) (by first | (simp; done) | (simp; omega)) (w6.heap.size + 1) (by simp) ?_; intro g2 cap2 w7 hown1 hgrow hat hlt; obtain ⟨O7, P7, y7, f7⟩ := attr_grown O6.out R6.out hgrow (((Below.refl _ w6).alloc (Nat.le_refl _) _).drew) hgg hgb2))
        all_goals have KG : Keep (SA b R.vo av) w w7 := ((K6.out.wide (fun k _ e => .inl e)).trans (Keep.of_below (((Below.refl _ w6).alloc (Nat.le_refl _) _).drew))).on (Keep.grown hgrow) (fun i _ e => .inr (.inr (by rw [hav]; exact e)))
        all_goals obtain ⟨X, eX, kX, pX, oX, nX⟩ := set_named (.slice (some ⟨g2, 0, none⟩) (l.length + 1) cap2) O7 P7 hgb KG (.inr (.inl (by rw [HV.out]; rfl)))
        all_goals have hg2 : g2 ≠ g := fun e => own_ne2 O7 hown1 (by decide) g rfl (by rw [e]; rfl)
        all_goals have AX := hideT ((AOwn.snoc hown1 (by omega) hz.out hnz htz).keep (w' := X) (fun g' hg' => nX g' (fun e => hg2 ((Option.some.inj hg').trans e))))
        all_goals have GR : Grew w av (.slice (some ⟨g2, 0, none⟩) (l.length + 1) cap2) := (by rw [hav]; exact grew_of hat K6.out.size)
        all_goals have GR := hideT GR
        all_goals have KX := hideT kX
        all_goals have PX := hideT pX
        all_goals have OX := hideT oX
        all_goals clear kX pX oX nX KG O7 P7 hown1 hgrow hat y7 f7
        all_goals rw [eX]
        all_goals clear eX
        all_goals go_wp2_with fail
        all_goals go_ret
        all_goals refine .inl ⟨rfl, (nm, Xp.ba t), j, _, HE.out, hj, KX.out, PX.out, ?_, AX.out, GR.out⟩
        all_goals rw [HV.out]
        all_goals exact OX.out
end Go.Proofs.YtjfonpbnohbpfaaGreatDoor
/-
  The program's spacedAttribute, nextInTag, attributes.
-/
set_option linter.unusedSimpArgs false
set_option linter.unusedVariables false
namespace Go.Proofs.YtjfonpbnohbpfaaGreatDoor
open Go.RowKit
theorem Xp.run_ge (s : List UInt8) (p : Nat) : p ≤ Xp.run s p := Nat.le_add_right _ _
theorem Xp.attr_gt {s : List UInt8} {p : Nat} {l : List Xp.Att} {a : Xp.Att} {k : Nat} (h : Xp.attr s p l = .ok (a, k)) : p < k := by
  unfold Xp.attr at h
  split at h
  · cases h
  · split at h
    · cases h
    · rename_i j hj
      have hr : p ≤ j := by
        unfold Xp.qual at hj
        split at hj
        · rw [← Option.some.inj hj]
          exact Xp.run_ge s p
        · cases hj
      split at h
      · cases h
      · split at h
        · split at h
          · cases h
          · rename_i v i hv
            have := (Xp.value_len hv).2
            simp only [Except.ok.injEq, Prod.mk.injEq] at h
            omega
        · cases h
theorem SA_on {w : World} {b : Nat} {vo av av' : Value} (h : Grew w av av') : ∀ i, i < w.heap.size → SA b vo av' i → SA b vo av i := by
  intro i hi e
  rcases e with e | e | e
  · exact .inl e
  · exact .inr (.inl e)
  · rcases h with h | ⟨g, h, hg⟩
    · exact .inr (.inr (by rw [← h]; exact e))
    · rw [h] at e
      have := Option.some.inj e
      omega
set_option maxHeartbeats 2000000 in
theorem spacedD (w : World) (b H : Nat) (s : ByteArray) (p : Nat) (R : PRest) (L : List Quad) (x av z u : Value) (l : List (ByteArray × ByteArray)) (hs : s.size ≤ 1000000) (hp : p ≤ s.size) (hL : L.length < 12) (hw : Ok w) (hoff : Off b) (hH : H ≤ w.heap.size)
    (h : PIn w b s p 0 R) (ho : w.ownsRow H 50 4 R.vo (L.length + 1) (flatE (L ++ [(x, av, z, u)]))) (ha : AOwn w H av l) (hbl : p < Xp.skip s.data.toList p) :
    Calls Tryz.prog 129 #[ptr b] w (Told
      (fun w' => ∃ (l' : List (ByteArray × ByteArray)) (k : Nat) (av' : Value), p < k ∧ k ≤ s.size ∧ ((Xp.more s.data.toList p = false ∧ l' = l ∧ k = Xp.skip s.data.toList p) ∨ (Xp.more s.data.toList p = true ∧ ∃ a, Xp.attr s.data.toList (Xp.skip s.data.toList p) l = .ok (a, k) ∧ l' = l ++ [a])) ∧ Keep (SA b R.vo av) w w' ∧ PIn w' b s k 0 R ∧ w'.ownsRow H 50 4 R.vo (L.length + 1) (flatE (L ++ [(x, av', z, u)])) ∧ AOwn w' H av' l' ∧ Grew w av av')
      (fun w' => ∃ q e : Nat, Xp.more s.data.toList p = true ∧ Xp.attr s.data.toList (Xp.skip s.data.toList p) l = .error (q, e) ∧ Keep (SA b R.vo av) w w' ∧ PIn w' b s q e R)) := by
  have HP := hideT h
  have HO := hideT ho
  have HA := hideT ha
  have HWW := hideT hw
  have hne : R.vo.ownBlock ≠ some b := own_ne ho h (by decide)
  have hab : av.ownBlock ≠ some b := own_ne ha.1 h (by decide)
  have hL' : s.data.toList.length = s.size := Array.length_toList
  obtain ⟨j, hj⟩ : ∃ j, Xp.skip s.data.toList p = j := ⟨_, rfl⟩
  have HJ := hideT hj
  have hjs : j ≤ s.size := by rw [← hj, ← hL']; exact Xp.skip_le (by rw [hL']; exact hp)
  rw [hj] at hbl
  rw [hj]
  obtain ⟨v1, V1⟩ : ∃ v, Hid (Xp.hasL s.data.toList j (⟨#[47]⟩ : ByteArray).data.toList = v) := ⟨_, rfl⟩
  obtain ⟨v2, V2⟩ : ∃ v, Hid (Xp.hasL s.data.toList j (⟨#[62]⟩ : ByteArray).data.toList = v) := ⟨_, rfl⟩
  have HM : Hid (Xp.more s.data.toList p = (decide (j < s.size) && !v1 && !v2)) := by
    show _ = _
    unfold Xp.more
    rw [hj, decide_eq_true hbl, hL', Bool.true_and]
    rw [← V1.out, ← V2.out]
  clear h ho ha hw hj hL'
  have stop : ∀ w1 : World, PIn w1 b s j 0 R → Keep (· = b) w w1 → Xp.more s.data.toList p = false → ∃ (l' : List (ByteArray × ByteArray)) (k : Nat) (av' : Value), p < k ∧ k ≤ s.size ∧ ((Xp.more s.data.toList p = false ∧ l' = l ∧ k = j) ∨ (Xp.more s.data.toList p = true ∧ ∃ a, Xp.attr s.data.toList j l = .ok (a, k) ∧ l' = l ++ [a])) ∧ Keep (SA b R.vo av) w w1 ∧ PIn w1 b s k 0 R ∧ w1.ownsRow H 50 4 R.vo (L.length + 1) (flatE (L ++ [(x, av', z, u)])) ∧ AOwn w1 H av' l' ∧ Grew w av av' := by
    intro w1 p1 k1 hm
    refine ⟨l, j, av, hbl, hjs, .inl ⟨hm, rfl, rfl⟩, k1.wide (fun k _ e => .inl e), p1, ?_, ?_, Grew.refl _ _⟩
    · exact own_keep HO.out (fun g hg => k1.block g (own_lt HO.out hg).1 (fun e => hne (by rw [hg, e])))
    · exact HA.out.keep (fun g hg => k1.block g (own_lt HA.out.1 hg).1 (fun e => hab (by rw [hg, e])))
  have HST := hideT stop
  clear stop
  go_enter Tryz.func129, Tryz.ntmps129
  go_wp2_with fail
  refine (blanksD w b s p R hs hp HP.out).mono ?_
  rw [HJ.out]
  rintro e w1 ⟨rfl, r1, k1⟩
  have P1 := hideT r1
  have K1 := hideT k1
  have x0 : w1.cell? ⟨b, 0, none⟩ = some (.string s) := r1.cell 0
  have x1 : w1.cell? ⟨b, 1, none⟩ = some (.int .i64 j) := r1.cell 1
  have O1 := hideT (own_keep (w' := w1) HO.out (fun g hg => k1.block g (own_lt HO.out hg).1 (fun e => hne (by rw [hg, e]))))
  have A1 := hideT (HA.out.keep (w' := w1) (fun g hg => k1.block g (own_lt HA.out.1 hg).1 (fun e => hab (by rw [hg, e]))))
  clear r1 k1
  by_cases hend : j = s.size
  · have te : ((j : Int) == (s.size : Int)) = true := by rw [hend]; simp
    have HN : Hid (Xp.more s.data.toList p = false) := by
      show _ = _
      rw [HM.out, decide_eq_false (by omega)]
      rfl
    clear hend
    go_wp2_with fail
    go_region
    all_goals go_wp2_with fail
    all_goals go_ret
    all_goals exact .inl ⟨rfl, HST.out _ (P1.out.below (Below.refl _ w1).drew) (K1.out.trans (Keep.of_below (Below.refl _ w1).drew)) HN.out⟩
  · have te : ((j : Int) == (s.size : Int)) = false := beq_eq_false_iff_ne.2 (by omega)
    have hjlt : j < s.size := by omega
    clear hend
    cases v1
    case true =>
      have HN : Hid (Xp.more s.data.toList p = false) := by
        show _ = _
        rw [HM.out]
        simp
      go_wp2_with fail
      go_quiet ((go_at_call 96; exact Calls.quiet_of (aheadQ w1 _ b s ⟨#[47]⟩ j 0 R true hs hjs P1.out V1)))
      go_wp2_with fail
      go_ret
      exact .inl ⟨rfl, HST.out _ (P1.out.below (below_drews w1 nq)) (K1.out.trans (Keep.of_below (below_drews w1 nq))) HN.out⟩
    case false =>
      go_wp2_with fail
      go_quiet ((first
          | (go_at_call_of 96 (Value.string ⟨#[47]⟩); exact Calls.quiet_of (aheadQ w1 _ b s ⟨#[47]⟩ j 0 R false hs hjs P1.out V1))
          | (go_at_call_of 96 (Value.string ⟨#[62]⟩); exact Calls.quiet_of (aheadQ w1 _ b s ⟨#[62]⟩ j 0 R v2 hs hjs P1.out V2))))
      obtain ⟨w3, hw3⟩ : ∃ w3, w1.drewN nq = w3 := ⟨_, rfl⟩
      have B3 : Hid (Below w1.heap.size w1 w3) := (by rw [← hw3]; exact below_drews w1 nq)
      have PP := hideT (P1.out.below B3.out)
      rw [hw3]
      clear hw3
      cases v2
      case true =>
        have HN : Hid (Xp.more s.data.toList p = false) := by
          show _ = _
          rw [HM.out]
          simp
        go_wp2_with fail
        go_ret
        exact .inl ⟨rfl, HST.out _ PP.out (K1.out.trans (Keep.of_below B3.out)) HN.out⟩
      case false =>
        have HN : Hid (Xp.more s.data.toList p = true) := by
          show _ = _
          rw [HM.out, decide_eq_true hjlt]
          rfl
        have K3 := hideT (K1.out.trans (Keep.of_below B3.out))
        have O3 := hideT (own_keep (w' := w3) HO.out (fun g hg => K3.out.block g (own_lt HO.out hg).1 (fun e => hne (by rw [hg, e]))))
        have A3 := hideT (HA.out.keep (w' := w3) (fun g hg => K3.out.block g (own_lt HA.out.1 hg).1 (fun e => hab (by rw [hg, e]))))
        go_wp2_with fail
        refine (attributeD w3 b H s j R L x av z u l hs hjs hL (HWW.out.keep K3.out (fun i hi => by subst hi; exact hoff)) hoff (by have := K3.out.size; omega) PP.out O3.out A3.out).mono ?_
        rintro e w4 (⟨rfl, h4⟩ | ⟨rfl, h4⟩)
        · have H4 := hideT h4
          clear h4
          go_wp2_with fail
          go_ret
          obtain ⟨a, k, av', e4, hk, k4, p4, o4, a4, g4⟩ := H4.out
          have := Xp.attr_gt e4
          refine .inl ⟨rfl, l ++ [a], k, av', by omega, hk, .inr ⟨HN.out, a, e4, rfl⟩, (K3.out.wide (fun i _ e => .inl e)).trans k4, p4, o4, a4, ?_⟩
          exact (Grew.refl w av).trans K3.out.size g4
        · have H4 := hideT h4
          clear h4
          go_wp2_with fail
          go_ret
          obtain ⟨q, e, e4, k4, p4⟩ := H4.out
          exact .inr ⟨rfl, q, e, HN.out, e4, (K3.out.wide (fun i _ e => .inl e)).trans k4, p4⟩
end Go.Proofs.YtjfonpbnohbpfaaGreatDoor
/-
  The program's nextInTag, attributes.
-/
set_option linter.unusedSimpArgs false
set_option linter.unusedVariables false
namespace Go.Proofs.YtjfonpbnohbpfaaGreatDoor
open Go.RowKit
theorem nextInTagD (w : World) (b : Nat) (s : ByteArray) (p : Nat) (R : PRest) (hs : s.size ≤ 1000000) (hp : p ≤ s.size) (h : PIn w b s p 0 R) :
    Calls Tryz.prog 101 #[ptr b] w fun e w' => e = .returned (if decide (p < Xp.skip s.data.toList p) = true then meth 129 (ptr b) else .nilFunc) ∧ Below w.heap.size w w' := by
  have H := hideT h
  clear h
  have hmf : ∀ (fn : Fn) (first cap : Array Value) (w : World), (Instr.makeFunc fn first cap).run Tryz.prog w = .ok (.func fn first cap) w := fun _ _ _ _ => rfl
  obtain ⟨v, V⟩ : ∃ v, Hid (decide (p < Xp.skip s.data.toList p) = v) := ⟨decide (p < Xp.skip s.data.toList p), rfl⟩
  rw [V.out]
  cases v
  case true =>
    rw [if_pos rfl]
    go_enter Tryz.func101, Tryz.ntmps101
    go_wp2_with fail
    refine (blankAheadD w b s p 0 R true hs hp H.out V).mono ?_
    rintro d w1 ⟨rfl, b1⟩
    go_wp2_with fail
    go_ret
    exact ⟨rfl, b1⟩
  case false =>
    rw [if_neg (by simp)]
    go_enter Tryz.func101, Tryz.ntmps101
    go_wp2_with fail
    refine (blankAheadD w b s p 0 R false hs hp H.out V).mono ?_
    rintro d w1 ⟨rfl, b1⟩
    go_wp2_with fail
    go_ret
    exact ⟨rfl, b1⟩
theorem enterS : Enters Tryz.prog 129 := enters_of Tryz.func129 (by kernel_rfl) rfl
theorem enterN : Enters Tryz.prog 101 := enters_of Tryz.func101 (by kernel_rfl) rfl
theorem Xp.more_at {s : List UInt8} {p : Nat} (h : Xp.more s p = false) : Xp.more s (Xp.skip s p) = false := by
  unfold Xp.more
  rw [Xp.skip_skip, decide_eq_false (by omega)]
  rfl
theorem Xp.tagF_no {s : List UInt8} {p : Nat} {l : List Xp.Att} (f : Nat) (h : Xp.more s p = false) : Xp.tagF f s p l = .ok (l, Xp.skip s p) := by
  cases f with
  | zero => rfl
  | succ f =>
    unfold Xp.tagF
    rw [if_neg (by rw [h]; simp)]
theorem Xp.tagF_yes {s : List UInt8} {p : Nat} {l : List Xp.Att} (f : Nat) (h : Xp.more s p = true) : Xp.tagF (f + 1) s p l = (match Xp.attr s (Xp.skip s p) l with | .error e => .error e | .ok (a, k) => Xp.tagF f s k (l ++ [a])) := by
  rw [Xp.tagF, if_pos h]
  try (rcases Xp.attr s (Xp.skip s p) l with e | ⟨a, k⟩ <;> rfl)
/-- The attributes of a tag, and the blanks behind them. -/
theorem attributesD (w : World) (b H : Nat) (s : ByteArray) (p : Nat) (R : PRest) (L : List Quad) (x av z u : Value) (hs : s.size ≤ 1000000) (hp : p ≤ s.size) (hL : L.length < 12) (hw : Ok w) (hoff : Off b) (hH : H ≤ w.heap.size)
    (h : PIn w b s p 0 R) (ho : w.ownsRow H 50 4 R.vo (L.length + 1) (flatE (L ++ [(x, av, z, u)]))) (ha : AOwn w H av []) (hO : ∀ k, H ≤ k → Off k) :
    Calls Tryz.prog 65 #[ptr b] w (Told
      (fun w' => ∃ (l : List (ByteArray × ByteArray)) (k : Nat) (av' : Value), Xp.tagF 9 s.data.toList p [] = .ok (l, k) ∧ p ≤ k ∧ k ≤ s.size ∧ Keep (SA b R.vo av) w w' ∧ PIn w' b s k 0 R ∧ w'.ownsRow H 50 4 R.vo (L.length + 1) (flatE (L ++ [(x, av', z, u)])) ∧ AOwn w' H av' l ∧ Grew w av av')
      (fun w' => ∃ q e : Nat, Xp.tagF 9 s.data.toList p [] = .error (q, e) ∧ Keep (SA b R.vo av) w w' ∧ PIn w' b s q e R)) := by
  have hmf : ∀ (fn : Fn) (first cap : Array Value) (w : World), (Instr.makeFunc fn first cap).run Tryz.prog w = .ok (.func fn first cap) w := fun _ _ _ _ => rfl
  have hne : R.vo.ownBlock ≠ some b := own_ne ho h (by decide)
  have hSoff : ∀ i, SA b R.vo av i → Off i := by
    intro i hi
    rcases hi with rfl | hi | hi
    · exact hoff
    · exact hO i (own_lt ho hi).2
    · exact hO i (own_lt ha.1 hi).2
  have C : Hid (Calls Tryz.prog 61 #[ptr b, meth 101 (ptr b)] w (Told
      (fun w' => ∃ (l : List (ByteArray × ByteArray)) (k : Nat) (av' : Value), Xp.tagF 9 s.data.toList p [] = .ok (l, k) ∧ p ≤ k ∧ k ≤ s.size ∧ Keep (SA b R.vo av) w w' ∧ PIn w' b s k 0 R ∧ w'.ownsRow H 50 4 R.vo (L.length + 1) (flatE (L ++ [(x, av', z, u)])) ∧ AOwn w' H av' l ∧ Grew w av av')
      (fun w' => ∃ q e : Nat, Xp.tagF 9 s.data.toList p [] = .error (q, e) ∧ Keep (SA b R.vo av) w w' ∧ PIn w' b s q e R))) := by
    refine repeatD (ptr b) (ptr b) 101 (fun w' => ∃ (l : List (ByteArray × ByteArray)) (k f : Nat) (av' : Value), l.length + f = 9 ∧ Xp.tagF 9 s.data.toList p [] = Xp.tagF f s.data.toList k l ∧ p ≤ k ∧ k ≤ s.size ∧ Keep (SA b R.vo av) w w' ∧ PIn w' b s k 0 R ∧ w'.ownsRow H 50 4 R.vo (L.length + 1) (flatE (L ++ [(x, av', z, u)])) ∧ AOwn w' H av' l ∧ Grew w av av') _ _ (fun w' => s.size - placeP w' b) enterN ?_ w ⟨[], p, 9, av, rfl, rfl, Nat.le_refl _, hp, Keep.refl _ _, h, ho, ha, Grew.refl _ _⟩
    rintro w1 ⟨l, k, f, av', hf, e1, hpk, hk, k1, p1, o1, a1, g1⟩
    refine (nextInTagD w1 b s k R hs hk p1).mono ?_
    rintro d w2 ⟨rfl, b2⟩
    have k2 := k1.trans (Keep.of_below b2)
    have p2 := p1.below b2
    have o2 := own_keep (w' := w2) o1 (fun g hg => b2.block g (own_lt o1 hg).1)
    have a2 := a1.keep (w' := w2) (fun g hg => b2.block g (own_lt a1.1 hg).1)
    by_cases hv : decide (k < Xp.skip s.data.toList k) = true
    · rw [if_pos hv]
      refine .inr ⟨_, rfl, enterS, ?_⟩
      refine (spacedD w2 b H s k R L x av' z u l hs hk hL (hw.keep k2 hSoff) hoff (by have := k2.size; omega) p2 o2 a2 (of_decide_eq_true hv)).mono ?_
      rintro d w3 (⟨rfl, l', k', av'', hlt, hk', hcase, k3, p3, o3, a3, g3⟩ | ⟨rfl, q, e, hm, he, k3, p3⟩)
      · refine .inl ⟨rfl, ?_, ?_⟩
        · have hkk : Keep (SA b R.vo av) w w3 := k2.on k3 (SA_on g1)
          have hgg : Grew w av av'' := g1.trans k2.size g3
          rcases hcase with ⟨hm, rfl, rfl⟩ | ⟨hm, a, he, rfl⟩
          · refine ⟨l', _, f, av'', hf, ?_, by omega, hk', hkk, p3, o3, a3, hgg⟩
            rw [e1, Xp.tagF_no f hm, Xp.tagF_no f (Xp.more_at hm), Xp.skip_skip]
          · have h8 := a1.2.1
            obtain ⟨f', rfl⟩ : ∃ f', f = f' + 1 := ⟨f - 1, by omega⟩
            refine ⟨l ++ [a], k', f', av'', by rw [List.length_append]; simp; omega, ?_, by omega, hk', hkk, p3, o3, a3, hgg⟩
            rw [e1, Xp.tagF_yes f' hm, he]
        · rw [placeP_of (k := k) (p1.cell 1), placeP_of (k := k') (p3.cell 1)]
          omega
      · refine .inr ⟨rfl, q, e, ?_, k2.on k3 (SA_on g1), p3⟩
        have h8 := a1.2.1
        obtain ⟨f', rfl⟩ : ∃ f', f = f' + 1 := ⟨f - 1, by omega⟩
        rw [e1, Xp.tagF_yes f' hm, he]
    · rw [if_neg hv]
      refine .inl ⟨rfl, l, k, av', ?_, hpk, hk, k2, p2, o2, a2, g1⟩
      have hsk : Xp.skip s.data.toList k = k := by
        have := Xp.skip_ge s.data.toList k
        have h1 := of_decide_eq_false (Bool.not_eq_true _ ▸ hv)
        omega
      have hm : Xp.more s.data.toList k = false := by
        unfold Xp.more
        rw [show decide (k < Xp.skip s.data.toList k) = false by simpa using hv]
        rfl
      rw [e1, Xp.tagF_no f hm, hsk]
  go_enter Tryz.func65, Tryz.ntmps65
  go_wp2_with fail
  refine C.out.mono ?_
  rintro d w1 (⟨rfl, h1⟩ | ⟨rfl, h1⟩)
  · have H1 := hideT h1
    clear h1
    go_wp2_with fail
    go_ret
    exact .inl ⟨rfl, H1.out⟩
  · have H1 := hideT h1
    clear h1
    go_wp2_with fail
    go_ret
    exact .inr ⟨rfl, H1.out⟩
end Go.Proofs.YtjfonpbnohbpfaaGreatDoor
/-
  The program's endTag.
-/
set_option linter.unusedSimpArgs false
set_option linter.unusedVariables false
namespace Go.Proofs.YtjfonpbnohbpfaaGreatDoor
open Go.RowKit
theorem Xp.endTag_gt {s : List UInt8} {p k : Nat} {nm : List UInt8} (h : Xp.endTag s p nm = .ok k) : p < k := by
  unfold Xp.endTag at h
  split at h
  · cases h
  · rename_i j hj
    have hr : p + 2 ≤ j := by
      unfold Xp.qual at hj
      split at hj
      · rw [← Option.some.inj hj]
        exact Xp.run_ge s (p + 2)
      · cases hj
    split at h
    · split at h
      · have := Xp.skip_ge s j
        simp only [Except.ok.injEq] at h
        omega
      · cases h
    · cases h
set_option maxHeartbeats 2000000 in
theorem endTagD (w : World) (b H : Nat) (s nm : ByteArray) (p : Nat) (R : PRest) (L : List Quad) (y z u : Value) (hs : s.size ≤ 1000000) (hp : p ≤ s.size) (hL : L.length < 12) (hw : Ok w) (hoff : Off b)
    (h : PIn w b s p 0 R) (ho : w.ownsRow H 50 4 R.vo (L.length + 1) (flatE (L ++ [(.string nm, y, z, u)]))) :
    Calls Tryz.prog 104 #[ptr b] w (Told
      (fun w' => ∃ k : Nat, Xp.hasL s.data.toList p [60, 47] = true ∧ Xp.endTag s.data.toList p nm.data.toList = .ok k ∧ p < k ∧ k ≤ s.size ∧ Keep (· = b) w w' ∧ PIn w' b s k 0 R)
      (fun w' => ∃ q : Nat, ((Xp.hasL s.data.toList p [60, 47] = false ∧ q = p) ∨ (Xp.hasL s.data.toList p [60, 47] = true ∧ Xp.endTag s.data.toList p nm.data.toList = .error q)) ∧ Keep (· = b) w w' ∧ PIn w' b s q 2 R)) := by
  obtain ⟨g, cap, hv, _, hg⟩ := ho.form (by omega)
  have HV := hideT hv
  have HP := hideT h
  have HO := hideT ho
  have HWW := hideT hw
  have HL := hideT (show s.data.toList.length = s.size from Array.length_toList)
  have hne : R.vo.ownBlock ≠ some b := own_ne ho h (by decide)
  have x1 : w.cell? ⟨b, 1, none⟩ = some (.int .i64 p) := h.cell 1
  obtain ⟨v1, V1⟩ : ∃ v, Hid (Xp.hasL s.data.toList p (⟨#[60, 47]⟩ : ByteArray).data.toList = v) := ⟨_, rfl⟩
  have V1' : Hid (Xp.hasL s.data.toList p [60, 47] = v1) := V1.out
  clear h ho hv hw
  go_enter Tryz.func104, Tryz.ntmps104
  go_wp2_with fail
  refine (mustD w b s ⟨#[60, 47]⟩ p R v1 hs hp (by decide) HP.out V1).mono ?_
  rintro e w1 ⟨rfl, k1, r1, e1⟩
  have K1 := hideT k1
  cases v1
  case false =>
    have R1 := hideT (e1 rfl)
    clear k1 r1 e1 x1
    go_wp2_with fail
    go_ret
    exact .inr ⟨rfl, p, .inl ⟨V1'.out, rfl⟩, K1.out, R1.out⟩
  have hp2 : p + 2 ≤ s.size := Xp.has_room V1.out (by decide)
  have R1 : Hid (PIn w1 b s (p + 2 : Nat) 0 R) := r1 rfl
  clear k1 r1 e1 x1
  go_wp2_with fail
  refine (qualD w1 b s (p + 2) R hs hp2 (HWW.out.keep K1.out (fun i hi => by subst hi; exact hoff)) R1.out).mono ?_
  rintro e w2 ⟨k2, g2, e2⟩
  cases hq : Xp.qual s.data.toList (p + 2) with
  | none =>
    obtain ⟨rfl, r2⟩ := e2 hq
    have HE : Hid (Xp.endTag s.data.toList p nm.data.toList = .error (p + 2)) := by
      show _ = _
      unfold Xp.endTag
      rw [hq]
    have K2 := hideT (K1.out.trans k2)
    have R2 := hideT r2
    clear k2 r2 g2 e2 hq
    go_wp2_with fail
    go_ret
    exact .inr ⟨rfl, p + 2, .inr ⟨V1'.out, HE.out⟩, K2.out, R2.out⟩
  | some k =>
    obtain ⟨rfl, hk1, hk2, r2⟩ := g2 k hq
    obtain ⟨fd, hfd⟩ : ∃ fd, fd = s.extract (p + 2) k := ⟨_, rfl⟩
    have hfl : fd.data.toList = (s.data.toList.drop (p + 2)).take (k - (p + 2)) := by rw [hfd, Lib.extract_data]
    obtain ⟨j, hj⟩ : ∃ j, Xp.skip s.data.toList k = j := ⟨_, rfl⟩
    have hjs : j ≤ s.size := by rw [← hj, ← HL.out]; exact Xp.skip_le (by rw [HL.out]; exact hk2)
    have HJ := hideT hj
    obtain ⟨v3, V3⟩ : ∃ v, Hid (Xp.hasL s.data.toList j (⟨#[62]⟩ : ByteArray).data.toList = v) := ⟨_, rfl⟩
    have HE : Hid (Xp.endTag s.data.toList p nm.data.toList = if fd.data.toList = nm.data.toList then (if v3 = true then .ok (j + 1) else .error j) else .error p) := by
      show _ = _
      unfold Xp.endTag
      rw [hq]
      dsimp only
      rw [← hfl]
      simp only [hj]
      rw [show Xp.hasL s.data.toList j [62] = v3 from V3.out]
    have K2 := hideT (K1.out.trans k2)
    have R2 := hideT r2
    have O2 : Hid (w2.ownsRow H 50 4 (.slice (some ⟨g, 0, none⟩) (L.length + 1) cap) (L.length + 1) (flatE (L ++ [(.string nm, y, z, u)]))) := by
      have := own_keep HO.out (fun g' hg' => K2.out.block g' (own_lt HO.out hg').1 (fun e => hne (by rw [hg', e])))
      rw [HV.out] at this
      exact this
    rw [← hfd]
    clear k2 r2 g2 e2 hq hfd hfl hj
    go_wp2_with fail
    refine (innermostD w2 b s k 0 R g L.length cap (by omega) HV.out R2.out).mono ?_
    rintro e w3 ⟨rfl, b3⟩
    have R3 := hideT (R2.out.below b3)
    have K3 := hideT (K2.out.trans (Keep.of_below b3))
    have O3 := hideT (own_keep (w' := w3) O2.out (fun g' hg' => b3.block g' (own_lt O2.out hg').1))
    have c3 : w3.cell? ⟨g, L.length * 4, none⟩ = some (.string nm) := own_cell O3.out (flatE_last L (.string nm) y z u).1
    clear b3
    by_cases heq : fd = nm
    · subst heq
      have HE2 : Hid (Xp.endTag s.data.toList p fd.data.toList = if v3 = true then .ok (j + 1) else .error j) := by
        show _ = _
        rw [HE.out, if_pos rfl]
      go_wp2_with fail
      refine (blanksD w3 b s k R hs hk2 R3.out).mono ?_
      rw [HJ.out]
      rintro e w4 ⟨rfl, r4, k4⟩
      have R4 := hideT r4
      have K4 := hideT (K3.out.trans k4)
      clear r4 k4 c3
      go_wp2_with fail
      refine (mustD w4 b s ⟨#[62]⟩ j R v3 hs hjs (by decide) R4.out V3).mono ?_
      rintro e w5 ⟨rfl, k5, r5, e5⟩
      have K5 := hideT (K4.out.trans k5)
      cases v3
      case true =>
        have R5 : Hid (PIn w5 b s (j + 1 : Nat) 0 R) := r5 rfl
        have hj1 : j + 1 ≤ s.size := Xp.has_room V3.out (by decide)
        have HE3 : Hid (Xp.endTag s.data.toList p fd.data.toList = .ok (j + 1)) := by
          show _ = _
          rw [HE2.out, if_pos (by trivial)]
        clear k5 r5 e5
        go_wp2_with fail
        go_ret
        exact .inl ⟨rfl, j + 1, V1'.out, HE3.out, Xp.endTag_gt HE3.out, hj1, K5.out, R5.out⟩
      case false =>
        have R5 : Hid (PIn w5 b s j 2 R) := e5 rfl
        have HE3 : Hid (Xp.endTag s.data.toList p fd.data.toList = .error j) := by
          show _ = _
          rw [HE2.out, if_neg (by simp)]
        clear k5 r5 e5
        go_wp2_with fail
        go_ret
        exact .inr ⟨rfl, j, .inr ⟨V1'.out, HE3.out⟩, K5.out, R5.out⟩
    · have hne2 : ¬ fd.toList = nm.toList := fun e => heq (by
        rw [Lib.toList_data, Lib.toList_data] at e
        exact Xp.ba_inj e)
      have HE2 : Hid (Xp.endTag s.data.toList p nm.data.toList = .error p) := by
        show _ = _
        rw [HE.out, if_neg (fun e => heq (Xp.ba_inj e))]
      have tne : (fd.toList == nm.toList) = false := beq_eq_false_iff_ne.2 hne2
      clear heq hne2
      go_wp2_with fail
      refine (failD w3 b s k 0 p 2 R R3.out).mono ?_
      rintro e w4 ⟨rfl, r4, k4⟩
      go_wp2_with fail
      go_ret
      exact .inr ⟨rfl, p, .inr ⟨V1'.out, HE2.out⟩, K3.out.trans k4, r4⟩
end Go.Proofs.YtjfonpbnohbpfaaGreatDoor
