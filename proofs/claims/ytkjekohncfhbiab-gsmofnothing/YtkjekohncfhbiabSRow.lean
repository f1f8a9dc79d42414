/-
  Rows that the program owns; attributes whose blocks are named.
-/
import Derived.Test.YtkjekohncfhbiabXFrame
import Derived.Deep.AppendLies
set_option linter.unusedSimpArgs false
set_option linter.unusedVariables false
namespace Go.Proofs.Ytkjekohncfhbiab
open Go.RowKit
theorem hideT {p : Prop} (h : p) : Hid p := h
abbrev nilS : Value := .slice none 0 0
/-! ### Rows -/
theorem own_heap {w : World} {H : Nat} {e : TypeId} {z : Nat} {v : Value} {n : Nat} {xs : List Value} {g : Nat} (h : w.ownsRow H e z v n xs) (hv : v.ownBlock = some g) :
    ∃ cap cur, v = .slice (some ⟨g, 0, none⟩) n cap ∧ H ≤ g ∧ w.heap[g]? = some (.cells cur e (0, 0)) ∧ n ≤ cap ∧ cap ≤ maxLen ∧ cur.size = cap * z ∧ cur.toList.take (n * z) = xs := by
  rcases h.2 with ⟨rfl, _⟩ | ⟨g', cap, cur, rfl, h1, h2, h3⟩
  · cases hv
  · obtain rfl : g' = g := Option.some.inj hv
    exact ⟨cap, cur, rfl, h1, h2, h3⟩
theorem own_lt {w : World} {H : Nat} {e : TypeId} {z : Nat} {v : Value} {n : Nat} {xs : List Value} {g : Nat} (h : w.ownsRow H e z v n xs) (hv : v.ownBlock = some g) : g < w.heap.size ∧ H ≤ g := by
  obtain ⟨_, _, _, h1, h2, _⟩ := own_heap h hv
  exact ⟨(Array.getElem?_eq_some_iff.1 h2).1, h1⟩
/-- A row hangs on its block alone. -/
theorem own_keep {w w' : World} {H : Nat} {e : TypeId} {z : Nat} {v : Value} {n : Nat} {xs : List Value} (h : w.ownsRow H e z v n xs) (hk : ∀ g, v.ownBlock = some g → w'.heap[g]? = w.heap[g]?) : w'.ownsRow H e z v n xs := by
  refine ⟨h.1, ?_⟩
  rcases h.2 with h0 | ⟨g', cap, cur, rfl, h1, h2, h3⟩
  · exact .inl h0
  · exact .inr ⟨g', cap, cur, rfl, h1, (hk g' rfl).trans h2, h3⟩
theorem own_cell {w : World} {H : Nat} {e : TypeId} {z : Nat} {n : Nat} {xs : List Value} {g cap : Nat} (h : w.ownsRow H e z (.slice (some ⟨g, 0, none⟩) n cap) n xs) {j : Nat} {u : Value} (hj : xs[j]? = some u) : w.cell? ⟨g, j, none⟩ = some u := by
  obtain ⟨_, cur, _, _, h2, _, _, _, h4⟩ := own_heap h rfl
  rw [Lib.cell_of_heap h2]
  rw [← h4, List.getElem?_take] at hj
  split at hj
  · simpa using hj
  · cases hj
theorem own_free {w : World} {H : Nat} {e : TypeId} {z : Nat} {n : Nat} {xs : List Value} {g cap : Nat} (h : w.ownsRow H e z (.slice (some ⟨g, 0, none⟩) n cap) n xs) (j : Nat) : w.frozen? ⟨g, j, none⟩ = false := by
  obtain ⟨_, cur, _, _, h2, _⟩ := own_heap h rfl
  exact Lies.free (C := cur) (t := e) h2 j
theorem own_set {w : World} {H : Nat} {e : TypeId} {z : Nat} {n : Nat} {xs : List Value} {g cap : Nat} (h : w.ownsRow H e z (.slice (some ⟨g, 0, none⟩) n cap) n xs) (j : Nat) (u : Value) : (w.setCell ⟨g, j, none⟩ u).ownsRow H e z (.slice (some ⟨g, 0, none⟩) n cap) n (xs.set j u) := by
  obtain ⟨cap', cur, hv, h1, h2, h3, h5, h6, h4⟩ := own_heap h rfl
  refine ⟨by rw [List.length_set]; exact h.1, .inr ⟨g, cap', cur.setIfInBounds j u, hv, h1, Lies.set (C := cur) (t := e) h2 j u, h3, h5, by simpa using h6, ?_⟩⟩
  rw [← h4, Array.toList_setIfInBounds, List.take_set]
/-- Blocks of unlike kinds are two. -/
theorem own_ne {w : World} {H : Nat} {e t : TypeId} {z : Nat} {v : Value} {n : Nat} {xs : List Value} {b : Nat} {C : Array Value} (h : w.ownsRow H e z v n xs) (hl : Lies w b t C) (ht : t ≠ e) : v.ownBlock ≠ some b := by
  intro hv
  obtain ⟨_, cur, _, _, h2, _⟩ := own_heap h hv
  unfold Lies at hl
  rw [hl] at h2
  simp only [Option.some.injEq, Obj.cells.injEq] at h2
  exact ht h2.2.1
theorem own_ne2 {w : World} {H H' : Nat} {e t : TypeId} {z z' : Nat} {v u : Value} {n m : Nat} {xs ys : List Value} (h : w.ownsRow H e z v n xs) (h' : w.ownsRow H' t z' u m ys) (ht : t ≠ e) (g : Nat) (hv : v.ownBlock = some g) : u.ownBlock ≠ some g := by
  intro hu
  obtain ⟨_, cur, _, _, h2, _⟩ := own_heap h' hu
  exact own_ne h (C := cur) (t := t) h2 ht hv
/-! ### Trees whose blocks are named -/
def ARowR (w : World) (R : Nat → Prop) (v : Value) (l : List (ByteArray × ByteArray)) : Prop :=
  ∃ b o, Row v l.length b o ∧ (0 < l.length → R b) ∧ (l.length ≤ 1000000000000 ∧ ∀ p ∈ l, p.1.size ≤ 140737488355328 ∧ p.2.size ≤ 140737488355328) ∧ ∀ i p, l[i]? = some p → w.cell? ⟨b, o + 2 * i, none⟩ = some (.string p.1) ∧ w.cell? ⟨b, o + 2 * i + 1, none⟩ = some (.string p.2)
theorem ARowR.toARow {w : World} {R : Nat → Prop} {v : Value} {l : List (ByteArray × ByteArray)} (h : ARowR w R v l) : ARow w v l := by
  obtain ⟨b, o, h1, _, h2, h3⟩ := h
  exact ⟨b, o, h1, h2, h3⟩
theorem ARowR.turn {w w' : World} {R R' : Nat → Prop} {v : Value} {l : List (ByteArray × ByteArray)} (h : ARowR w R v l) (hk : ∀ k, R k → w'.heap[k]? = w.heap[k]?) (hR : ∀ k, R k → R' k) : ARowR w' R' v l := by
  obtain ⟨b, o, h1, hr, h2, h3⟩ := h
  refine ⟨b, o, h1, fun h0 => hR _ (hr h0), h2, fun i p hp => ?_⟩
  have h0 : 0 < l.length := Nat.lt_of_le_of_lt (Nat.zero_le _) (List.getElem?_eq_some_iff.1 hp).1
  have hb := hk b (hr h0)
  rw [World.cell?_of_block (w := w) (w' := w') (a := ⟨b, o + 2 * i, none⟩) hb, World.cell?_of_block (w := w) (w' := w') (a := ⟨b, o + 2 * i + 1, none⟩) hb]
  exact h3 i p hp
def flatA (l : List (ByteArray × ByteArray)) : List Value := l.flatMap fun p => [.string p.1, .string p.2]
theorem flatA_cons (p : ByteArray × ByteArray) (l : List (ByteArray × ByteArray)) : flatA (p :: l) = .string p.1 :: .string p.2 :: flatA l := rfl
theorem flatA_app (l m : List (ByteArray × ByteArray)) : flatA (l ++ m) = flatA l ++ flatA m := by unfold flatA; exact List.flatMap_append
theorem flatA_len (l : List (ByteArray × ByteArray)) : (flatA l).length = l.length * 2 := by
  induction l with
  | nil => rfl
  | cons q L ih => rw [flatA_cons]; simp only [List.length_cons, ih]; omega
theorem flatA_get : ∀ {L : List (ByteArray × ByteArray)} {i : Nat} {q : ByteArray × ByteArray}, L[i]? = some q → (flatA L)[2 * i]? = some (.string q.1) ∧ (flatA L)[2 * i + 1]? = some (.string q.2)
  | [], i, q, h => by simp at h
  | a :: L, 0, q, h => by
    simp only [List.getElem?_cons_zero, Option.some.injEq] at h
    subst h
    exact ⟨rfl, rfl⟩
  | a :: L, i + 1, q, h => by
    rw [List.getElem?_cons_succ] at h
    obtain ⟨h0, h1⟩ := flatA_get h
    rw [flatA_cons]
    exact ⟨h0, h1⟩
/-- The last one's field turned. -/
def Grew (w : World) (v v' : Value) : Prop := v'.ownBlock = v.ownBlock ∨ ∃ g, v'.ownBlock = some g ∧ w.heap.size ≤ g
theorem Grew.refl (w : World) (v : Value) : Grew w v v := .inl rfl
theorem Grew.trans {w w1 : World} {v v' v'' : Value} (h : Grew w v v') (hs : w.heap.size ≤ w1.heap.size) (k : Grew w1 v' v'') : Grew w v v'' := by
  rcases k with k | ⟨g, k, hg⟩
  · rcases h with h | ⟨g, h, hg⟩
    · exact .inl (k.trans h)
    · exact .inr ⟨g, k.trans h, hg⟩
  · exact .inr ⟨g, k, by omega⟩
theorem Keep.on {S T : Nat → Prop} {a b c : World} (h : Keep S a b) (k : Keep T b c) (hT : ∀ i, i < a.heap.size → T i → S i) : Keep S a c :=
  ⟨k.os.trans h.os, k.tape.trans h.tape, k.output.trans h.output, Nat.le_trans h.size k.size, fun i hi hs => (k.block i (Nat.lt_of_lt_of_le hi h.size) (fun e => hs (hT i hi e))).trans (h.block i hi hs)⟩
theorem Keep.grown {w w' : World} {row : Option Nat} (h : w.grownBy w' row) : Keep (fun k => row = some k) w w' :=
  ⟨h.os, h.tape, h.output, h.size, fun k hk hs => h.block k hk (fun e => hs e.symm)⟩
/-- An element written into the last place of a row, and a cell of the struct at b: in either order. -/
theorem grew_of {w : World} {vo : Value} {g m cap h : Nat} (hat : vo.ownBlock = some g ∨ g = h + 1) (hs : w.heap.size ≤ h) : Grew w vo (.slice (some ⟨g, 0, none⟩) m cap) := by
  rcases hat with h | h
  · exact .inl h.symm
  · exact .inr ⟨g, rfl, by omega⟩
end Go.Proofs.Ytkjekohncfhbiab
