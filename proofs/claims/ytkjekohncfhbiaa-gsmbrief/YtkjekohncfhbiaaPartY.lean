/-
  Several texts in one: each opens with its own word.
-/
import Derived.Test.YtkjekohncfhbiaaChecked
import Derived.Lib.Builder
import Derived.WalkKit
import Derived.WalkSpells
import Derived.WalkLawsBesides
import Derived.Deep.AppendLies
/-
  Cells of memory: where they lie, what an alloc keeps.
-/
namespace Go.Proofs.Ytkjekohncfhbiaa
open Go.RowKit
theorem cell_lt {w : World} {a : Addr} {v : Value} (h : w.cell? a = some v) : a.block < w.heap.size := by
  rcases Nat.lt_or_ge a.block w.heap.size with h' | h'
  · exact h'
  · unfold World.cell? at h
    rw [Array.getElem?_eq_none h'] at h
    cases h
theorem cell_new (w : World) (C : Array Value) (t : TypeId) (k : Nat) : (w.alloc (.cells C t)).cell? ⟨w.heap.size, k, none⟩ = C[k]? := by
  have h : (w.alloc (.cells C t)).heap[w.heap.size]? = some (.cells C t) := by
    show (w.heap.push _)[w.heap.size]? = _
    simp
  exact Lib.cell_of_heap h k
theorem cell_old (w : World) (o : Obj) (a : Addr) (h : a.block < w.heap.size) : (w.alloc o).cell? a = w.cell? a := ((Below.refl w.heap.size w).alloc (Nat.le_refl _) o).cell h
end Go.Proofs.Ytkjekohncfhbiaa
/-
  Elements in memory: trees, and what it means that a row of attributes, an element lies there.
-/
namespace Go.Proofs.Ytkjekohncfhbiaa
open Go.RowKit
/-- A slice value of n elements; where there is one, the first lies at block b from place o on. -/
def Row (v : Value) (n b o : Nat) : Prop := ∃ ao cap, v = .slice ao n cap ∧ (0 < n → ao = some ⟨b, o, none⟩)
/-- A row of attributes. -/
def ARow (w : World) (v : Value) (l : List (ByteArray × ByteArray)) : Prop :=
  ∃ b o, Row v l.length b o ∧ (l.length ≤ 1000000000000 ∧ ∀ p ∈ l, p.1.size ≤ 140737488355328 ∧ p.2.size ≤ 140737488355328) ∧ ∀ i p, l[i]? = some p → w.cell? ⟨b, o + 2 * i, none⟩ = some (.string p.1) ∧ w.cell? ⟨b, o + 2 * i + 1, none⟩ = some (.string p.2)
theorem ARow.below {w w' : World} {v : Value} {l : List (ByteArray × ByteArray)} (h : ARow w v l) (hb : Below w.heap.size w w') : ARow w' v l := by
  obtain ⟨b, o, hr, hl, hc⟩ := h
  refine ⟨b, o, hr, hl, fun i p hp => ?_⟩
  obtain ⟨h1, h2⟩ := hc i p hp
  have hlt : b < w.heap.size := by
    rcases Nat.lt_or_ge b w.heap.size with h' | h'
    · exact h'
    · unfold World.cell? at h1
      rw [Array.getElem?_eq_none h'] at h1
      cases h1
  rw [hb.cell (p := ⟨b, o + 2 * i, none⟩) hlt, hb.cell (p := ⟨b, o + 2 * i + 1, none⟩) hlt]
  exact ⟨h1, h2⟩
end Go.Proofs.Ytkjekohncfhbiaa
/-
  Elements in memory, as trees.
-/
set_option linter.unusedVariables false
namespace Go.Proofs.Ytkjekohncfhbiaa
open Go.RowKit
abbrev Tr := DataW Unit
namespace Xp
def pairD (p : ByteArray × ByteArray) : Tr := .agg [.lit (.string p.1.data.toList), .lit (.string p.2.data.toList)]
def mkT (nm : ByteArray) (l : List (ByteArray × ByteArray)) (ks : List Tr) (p : Int) : Tr := .agg [.lit (.string nm.data.toList), .slice (l.map pairD) [], .slice ks [], .lit (.int .i64 p)]
def nmT : Tr → List UInt8
  | .agg [.lit (.string x), _, _, _] => x
  | _ => []
def asT : Tr → List Tr
  | .agg [_, .slice x _, _, _] => x
  | _ => []
def ksT : Tr → List Tr
  | .agg [_, _, .slice x _, _] => x
  | _ => []
def atT : Tr → Int
  | .agg [_, _, _, .lit (.int _ p)] => p
  | _ => 0
theorem nm_mk (nm : ByteArray) (l : List (ByteArray × ByteArray)) (ks : List Tr) (p : Int) : nmT (mkT nm l ks p) = nm.data.toList := rfl
theorem as_mk (nm : ByteArray) (l : List (ByteArray × ByteArray)) (ks : List Tr) (p : Int) : asT (mkT nm l ks p) = l.map pairD := rfl
theorem ks_mk (nm : ByteArray) (l : List (ByteArray × ByteArray)) (ks : List Tr) (p : Int) : ksT (mkT nm l ks p) = ks := rfl
theorem at_mk (nm : ByteArray) (l : List (ByteArray × ByteArray)) (ks : List Tr) (p : Int) : atT (mkT nm l ks p) = p := rfl
theorem ba_inj {a b : ByteArray} (h : a.data.toList = b.data.toList) : a = b := by
  obtain ⟨⟨x⟩⟩ := a
  obtain ⟨⟨y⟩⟩ := b
  have : x = y := h
  rw [this]
theorem pairD_inj {p q : ByteArray × ByteArray} (h : pairD p = pairD q) : p = q := by
  simp only [pairD, DataW.agg.injEq, List.cons.injEq, DataW.lit.injEq, Lit.string.injEq, and_true] at h
  exact Prod.ext (ba_inj h.1) (ba_inj h.2)
theorem pairs_inj : ∀ {l m : List (ByteArray × ByteArray)}, l.map pairD = m.map pairD → l = m
  | [], [], _ => rfl
  | [], _ :: _, h => by cases h
  | _ :: _, [], h => by cases h
  | a :: l, b :: m, h => by
    simp only [List.map_cons, List.cons.injEq] at h
    rw [pairD_inj h.1, pairs_inj h.2]
/-- 'b' at every place, up to the shorter end; the lengths are asked apart. -/
def all2 (f : Tr → Tr → Bool) : List Tr → List Tr → Bool
  | a :: l, b :: m => f a b && all2 f l m
  | _, _ => true
/-- Are two trees one, but for the places? -/
def sameT : Nat → Tr → Tr → Prop
  | 0, _, _ => True
  | n + 1, a, b => nmT a = nmT b ∧ asT a = asT b ∧ (ksT a).length = (ksT b).length ∧ ∀ (i : Nat) (x y : Tr), (ksT a)[i]? = some x → (ksT b)[i]? = some y → sameT n x y
theorem sameT_succ (n : Nat) (a b : Tr) : sameT (n + 1) a b = (nmT a = nmT b ∧ asT a = asT b ∧ (ksT a).length = (ksT b).length ∧ ∀ (i : Nat) (x y : Tr), (ksT a)[i]? = some x → (ksT b)[i]? = some y → sameT n x y) := rfl
end Xp
/-- Four cells of an element, at block b from place o on. -/
def Four (w : World) (b o : Nat) (c0 c1 c2 c3 : Value) : Prop :=
  w.cell? ⟨b, o, none⟩ = some c0 ∧ w.cell? ⟨b, o + 1, none⟩ = some c1 ∧ w.cell? ⟨b, o + 2, none⟩ = some c2 ∧ w.cell? ⟨b, o + 3, none⟩ = some c3
theorem Four.below {w w' : World} {b o : Nat} {c0 c1 c2 c3 : Value} (h : Four w b o c0 c1 c2 c3) (hb : Below w.heap.size w w') : Four w' b o c0 c1 c2 c3 := by
  obtain ⟨h0, h1, h2, h3⟩ := h
  refine ⟨?_, ?_, ?_, ?_⟩
  · rw [hb.cell (cell_lt h0)]; exact h0
  · rw [hb.cell (cell_lt h1)]; exact h1
  · rw [hb.cell (cell_lt h2)]; exact h2
  · rw [hb.cell (cell_lt h3)]; exact h3
/-- These four values are an element's, of at most so many storeys: T. -/
def EIn (w : World) : Nat → Value → Value → Value → Value → Tr → Prop
  | 0, _, _, _, _, _ => False
  | n + 1, c0, c1, c2, c3, T => ∃ (nm : ByteArray) (p : Int) (l : List (ByteArray × ByteArray)) (ks : List Tr), c0 = .string nm ∧ c3 = .int .i64 p ∧ T = Xp.mkT nm l ks p ∧ nm.size ≤ 140737488355328 ∧ ARow w c1 l ∧
      ∃ b o, Row c2 ks.length b o ∧ ks.length ≤ 1000000000000 ∧ ∀ i K, ks[i]? = some K → ∃ d0 d1 d2 d3, Four w b (o + 4 * i) d0 d1 d2 d3 ∧ EIn w n d0 d1 d2 d3 K
theorem EIn.below {w w' : World} (hb : Below w.heap.size w w') : ∀ {n : Nat} {c0 c1 c2 c3 : Value} {T : Tr}, EIn w n c0 c1 c2 c3 T → EIn w' n c0 c1 c2 c3 T
  | 0, _, _, _, _, _, h => h
  | n + 1, _, _, _, _, _, ⟨nm, p, l, ks, h0, h3, hT, hs, ha, b, o, hr, hl, hk⟩ => by
    refine ⟨nm, p, l, ks, h0, h3, hT, hs, ha.below hb, b, o, hr, hl, fun i K hK => ?_⟩
    obtain ⟨d0, d1, d2, d3, hf, he⟩ := hk i K hK
    exact ⟨d0, d1, d2, d3, hf.below hb, EIn.below hb he⟩
theorem EIn.succ {w : World} : ∀ {n : Nat} {c0 c1 c2 c3 : Value} {T : Tr}, EIn w n c0 c1 c2 c3 T → EIn w (n + 1) c0 c1 c2 c3 T
  | 0, _, _, _, _, _, h => h.elim
  | n + 1, _, _, _, _, _, ⟨nm, p, l, ks, h0, h3, hT, hs, ha, b, o, hr, hl, hk⟩ => by
    refine ⟨nm, p, l, ks, h0, h3, hT, hs, ha, b, o, hr, hl, fun i K hK => ?_⟩
    obtain ⟨d0, d1, d2, d3, hf, he⟩ := hk i K hK
    exact ⟨d0, d1, d2, d3, hf, EIn.succ he⟩
end Go.Proofs.Ytkjekohncfhbiaa
/-
  A struct behind a pointer: what a method that writes to it keeps; the reader's five cells.
-/
set_option linter.unusedVariables false
namespace Go.Proofs.Ytkjekohncfhbiaa
open Go.RowKit
/-- Of what was there nothing has turned, but the blocks that S names. -/
structure Keep (S : Nat → Prop) (w w' : World) : Prop where
  os : w'.os = w.os
  tape : w'.tape = w.tape
  output : w'.output = w.output
  size : w.heap.size ≤ w'.heap.size
  block : ∀ k, k < w.heap.size → ¬ S k → w'.heap[k]? = w.heap[k]?
theorem Keep.refl (S : Nat → Prop) (w : World) : Keep S w w := ⟨rfl, rfl, rfl, Nat.le_refl _, fun _ _ _ => rfl⟩
theorem Keep.trans {S : Nat → Prop} {a b c : World} (h : Keep S a b) (k : Keep S b c) : Keep S a c :=
  ⟨k.os.trans h.os, k.tape.trans h.tape, k.output.trans h.output, Nat.le_trans h.size k.size, fun i hi hs => (k.block i (Nat.lt_of_lt_of_le hi h.size) hs).trans (h.block i hi hs)⟩
theorem Keep.of_below {S : Nat → Prop} {w w' : World} (h : Below w.heap.size w w') : Keep S w w' := ⟨h.os, h.tape, h.output, h.size, fun k hk _ => h.block k hk⟩
theorem Keep.set {S : Nat → Prop} (w : World) (a : Addr) (u : Value) (h : S a.block) : Keep S w (w.setCell a u) :=
  ⟨rfl, rfl, rfl, by simp [World.setCell], fun k hk hs => Below.heap_setCell _ _ _ _ (fun e => hs (e ▸ h))⟩
theorem Keep.wide {S R : Nat → Prop} {w w' : World} (h : Keep S w w') (hs : ∀ k, k < w.heap.size → S k → R k) : Keep R w w' :=
  ⟨h.os, h.tape, h.output, h.size, fun k hk hr => h.block k hk (fun e => hr (hs k hk e))⟩
/-- Blocks that the call itself made do not count. -/
theorem Keep.below {S : Nat → Prop} {w v w' : World} (h : Below w.heap.size w v) (k : Keep S v w') (hs : ∀ i, i < w.heap.size → ¬ S i) : Below w.heap.size w w' :=
  ⟨k.os.trans h.os, k.tape.trans h.tape, k.output.trans h.output, Nat.le_trans h.size k.size, fun i hi => (k.block i (Nat.lt_of_lt_of_le hi h.size) (hs i hi)).trans (h.block i hi)⟩
theorem Keep.cell {S : Nat → Prop} {w w' : World} (h : Keep S w w') {a : Addr} (hl : a.block < w.heap.size) (hs : ¬ S a.block) : w'.cell? a = w.cell? a := World.cell?_of_block (w := w) (h.block a.block hl hs)
/-- At block b lie these cells, and none is frozen. -/
def Lies (w : World) (b : Nat) (t : TypeId) (C : Array Value) : Prop := w.heap[b]? = some (.cells C t (0, 0))
theorem Lies.lt {w : World} {b : Nat} {t : TypeId} {C : Array Value} (h : Lies w b t C) : b < w.heap.size := by
  rcases Nat.lt_or_ge b w.heap.size with h' | h'
  · exact h'
  · unfold Lies at h
    rw [Array.getElem?_eq_none h'] at h
    cases h
theorem Lies.cell {w : World} {b : Nat} {t : TypeId} {C : Array Value} (h : Lies w b t C) (k : Nat) : w.cell? ⟨b, k, none⟩ = C[k]? := Lib.cell_of_heap h k
theorem Lies.free {w : World} {b : Nat} {t : TypeId} {C : Array Value} (h : Lies w b t C) (k : Nat) : w.frozen? ⟨b, k, none⟩ = false := by
  unfold World.frozen?
  rw [show w.heap[(⟨b, k, none⟩ : Addr).block]? = some (.cells C t (0, 0)) from h]
  simp
theorem Lies.set {w : World} {b : Nat} {t : TypeId} {C : Array Value} (h : Lies w b t C) (k : Nat) (u : Value) : Lies (w.setCell ⟨b, k, none⟩ u) b t (C.setIfInBounds k u) := by
  unfold Lies World.setCell at *
  simp only [Array.getElem?_modify, if_true]
  rw [h]
  rfl
theorem Lies.off {w : World} {b : Nat} {t : TypeId} {C : Array Value} (h : Lies w b t C) (a : Addr) (u : Value) (hn : b ≠ a.block) : Lies (w.setCell a u) b t C := by
  unfold Lies at *
  rw [Below.heap_setCell _ _ _ _ hn, h]
theorem Lies.keep {S : Nat → Prop} {w w' : World} {b : Nat} {t : TypeId} {C : Array Value} (h : Lies w b t C) (k : Keep S w w') (hs : ¬ S b) : Lies w' b t C := by
  have hl := h.lt
  unfold Lies at *
  rw [k.block b hl hs, h]
theorem Lies.below {w w' : World} {b : Nat} {t : TypeId} {C : Array Value} (h : Lies w b t C) (k : Below w.heap.size w w') : Lies w' b t C := h.keep (S := fun _ => False) (Keep.of_below k) (fun e => e)
theorem Lies.new (w : World) (t : TypeId) (C : Array Value) : Lies (w.alloc (.cells C t)) w.heap.size t C := by
  show (w.heap.push _)[w.heap.size]? = _
  simp
end Go.Proofs.Ytkjekohncfhbiaa
/-
  Rows that the program owns; attributes whose blocks are named.
-/
set_option linter.unusedSimpArgs false
set_option linter.unusedVariables false
namespace Go.Proofs.Ytkjekohncfhbiaa
open Go.RowKit
theorem hideT {p : Prop} (h : p) : Hid p := h
abbrev nilS : Value := .slice none 0 0
/-! ### Rows -/
theorem own_heap {w : World} {H : Nat} {e : TypeId} {z : Nat} {v : Value} {n : Nat} {xs : List Value} {g : Nat} (h : w.ownsRow H e z v n xs) (hv : v.ownBlock = some g) :
    ∃ cap cur, v = .slice (some ⟨g, 0, none⟩) n cap ∧ H ≤ g ∧ w.heap[g]? = some (.cells cur e (0, 0)) ∧ n ≤ cap ∧ cap ≤ maxLen ∧ cur.size = cap * z ∧ cur.toList.take (n * z) = xs := by
  rcases h.2 with ⟨rfl, _⟩ | ⟨g', cap, cur, rfl, h1, h2, h3⟩
  · cases hv
  · obtain rfl : g' = g := Option.some.inj hv
    exact ⟨cap, cur, rfl, h1, h2, h3⟩
theorem own_lt {w : World} {H : Nat} {e : TypeId} {z : Nat} {v : Value} {n : Nat} {xs : List Value} {g : Nat} (h : w.ownsRow H e z v n xs) (hv : v.ownBlock = some g) : g < w.heap.size ∧ H ≤ g := by
  obtain ⟨_, _, _, h1, h2, _⟩ := own_heap h hv
  exact ⟨(Array.getElem?_eq_some_iff.1 h2).1, h1⟩
/-- A row hangs on its block alone. -/
theorem own_keep {w w' : World} {H : Nat} {e : TypeId} {z : Nat} {v : Value} {n : Nat} {xs : List Value} (h : w.ownsRow H e z v n xs) (hk : ∀ g, v.ownBlock = some g → w'.heap[g]? = w.heap[g]?) : w'.ownsRow H e z v n xs := by
  refine ⟨h.1, ?_⟩
  rcases h.2 with h0 | ⟨g', cap, cur, rfl, h1, h2, h3⟩
  · exact .inl h0
  · exact .inr ⟨g', cap, cur, rfl, h1, (hk g' rfl).trans h2, h3⟩
theorem own_cell {w : World} {H : Nat} {e : TypeId} {z : Nat} {n : Nat} {xs : List Value} {g cap : Nat} (h : w.ownsRow H e z (.slice (some ⟨g, 0, none⟩) n cap) n xs) {j : Nat} {u : Value} (hj : xs[j]? = some u) : w.cell? ⟨g, j, none⟩ = some u := by
  obtain ⟨_, cur, _, _, h2, _, _, _, h4⟩ := own_heap h rfl
  rw [Lib.cell_of_heap h2]
  rw [← h4, List.getElem?_take] at hj
  split at hj
  · simpa using hj
  · cases hj
theorem own_free {w : World} {H : Nat} {e : TypeId} {z : Nat} {n : Nat} {xs : List Value} {g cap : Nat} (h : w.ownsRow H e z (.slice (some ⟨g, 0, none⟩) n cap) n xs) (j : Nat) : w.frozen? ⟨g, j, none⟩ = false := by
  obtain ⟨_, cur, _, _, h2, _⟩ := own_heap h rfl
  exact Lies.free (C := cur) (t := e) h2 j
theorem own_set {w : World} {H : Nat} {e : TypeId} {z : Nat} {n : Nat} {xs : List Value} {g cap : Nat} (h : w.ownsRow H e z (.slice (some ⟨g, 0, none⟩) n cap) n xs) (j : Nat) (u : Value) : (w.setCell ⟨g, j, none⟩ u).ownsRow H e z (.slice (some ⟨g, 0, none⟩) n cap) n (xs.set j u) := by
  obtain ⟨cap', cur, hv, h1, h2, h3, h5, h6, h4⟩ := own_heap h rfl
  refine ⟨by rw [List.length_set]; exact h.1, .inr ⟨g, cap', cur.setIfInBounds j u, hv, h1, Lies.set (C := cur) (t := e) h2 j u, h3, h5, by simpa using h6, ?_⟩⟩
  rw [← h4, Array.toList_setIfInBounds, List.take_set]
/-- Blocks of unlike kinds are two. -/
theorem own_ne {w : World} {H : Nat} {e t : TypeId} {z : Nat} {v : Value} {n : Nat} {xs : List Value} {b : Nat} {C : Array Value} (h : w.ownsRow H e z v n xs) (hl : Lies w b t C) (ht : t ≠ e) : v.ownBlock ≠ some b := by
  intro hv
  obtain ⟨_, cur, _, _, h2, _⟩ := own_heap h hv
  unfold Lies at hl
  rw [hl] at h2
  simp only [Option.some.injEq, Obj.cells.injEq] at h2
  exact ht h2.2.1
theorem own_ne2 {w : World} {H H' : Nat} {e t : TypeId} {z z' : Nat} {v u : Value} {n m : Nat} {xs ys : List Value} (h : w.ownsRow H e z v n xs) (h' : w.ownsRow H' t z' u m ys) (ht : t ≠ e) (g : Nat) (hv : v.ownBlock = some g) : u.ownBlock ≠ some g := by
  intro hu
  obtain ⟨_, cur, _, _, h2, _⟩ := own_heap h' hu
  exact own_ne h (C := cur) (t := t) h2 ht hv
/-! ### Trees whose blocks are named -/
def ARowR (w : World) (R : Nat → Prop) (v : Value) (l : List (ByteArray × ByteArray)) : Prop :=
  ∃ b o, Row v l.length b o ∧ (0 < l.length → R b) ∧ (l.length ≤ 1000000000000 ∧ ∀ p ∈ l, p.1.size ≤ 140737488355328 ∧ p.2.size ≤ 140737488355328) ∧ ∀ i p, l[i]? = some p → w.cell? ⟨b, o + 2 * i, none⟩ = some (.string p.1) ∧ w.cell? ⟨b, o + 2 * i + 1, none⟩ = some (.string p.2)
theorem ARowR.toARow {w : World} {R : Nat → Prop} {v : Value} {l : List (ByteArray × ByteArray)} (h : ARowR w R v l) : ARow w v l := by
  obtain ⟨b, o, h1, _, h2, h3⟩ := h
  exact ⟨b, o, h1, h2, h3⟩
theorem ARowR.turn {w w' : World} {R R' : Nat → Prop} {v : Value} {l : List (ByteArray × ByteArray)} (h : ARowR w R v l) (hk : ∀ k, R k → w'.heap[k]? = w.heap[k]?) (hR : ∀ k, R k → R' k) : ARowR w' R' v l := by
  obtain ⟨b, o, h1, hr, h2, h3⟩ := h
  refine ⟨b, o, h1, fun h0 => hR _ (hr h0), h2, fun i p hp => ?_⟩
  have h0 : 0 < l.length := Nat.lt_of_le_of_lt (Nat.zero_le _) (List.getElem?_eq_some_iff.1 hp).1
  have hb := hk b (hr h0)
  rw [World.cell?_of_block (w := w) (w' := w') (a := ⟨b, o + 2 * i, none⟩) hb, World.cell?_of_block (w := w) (w' := w') (a := ⟨b, o + 2 * i + 1, none⟩) hb]
  exact h3 i p hp
def flatA (l : List (ByteArray × ByteArray)) : List Value := l.flatMap fun p => [.string p.1, .string p.2]
theorem flatA_cons (p : ByteArray × ByteArray) (l : List (ByteArray × ByteArray)) : flatA (p :: l) = .string p.1 :: .string p.2 :: flatA l := rfl
theorem flatA_app (l m : List (ByteArray × ByteArray)) : flatA (l ++ m) = flatA l ++ flatA m := by unfold flatA; exact List.flatMap_append
theorem flatA_len (l : List (ByteArray × ByteArray)) : (flatA l).length = l.length * 2 := by
  induction l with
  | nil => rfl
  | cons q L ih => rw [flatA_cons]; simp only [List.length_cons, ih]; omega
theorem flatA_get : ∀ {L : List (ByteArray × ByteArray)} {i : Nat} {q : ByteArray × ByteArray}, L[i]? = some q → (flatA L)[2 * i]? = some (.string q.1) ∧ (flatA L)[2 * i + 1]? = some (.string q.2)
  | [], i, q, h => by simp at h
  | a :: L, 0, q, h => by
    simp only [List.getElem?_cons_zero, Option.some.injEq] at h
    subst h
    exact ⟨rfl, rfl⟩
  | a :: L, i + 1, q, h => by
    rw [List.getElem?_cons_succ] at h
    obtain ⟨h0, h1⟩ := flatA_get h
    rw [flatA_cons]
    exact ⟨h0, h1⟩
/-- The last one's field turned. -/
def Grew (w : World) (v v' : Value) : Prop := v'.ownBlock = v.ownBlock ∨ ∃ g, v'.ownBlock = some g ∧ w.heap.size ≤ g
theorem Grew.refl (w : World) (v : Value) : Grew w v v := .inl rfl
theorem Grew.trans {w w1 : World} {v v' v'' : Value} (h : Grew w v v') (hs : w.heap.size ≤ w1.heap.size) (k : Grew w1 v' v'') : Grew w v v'' := by
  rcases k with k | ⟨g, k, hg⟩
  · rcases h with h | ⟨g, h, hg⟩
    · exact .inl (k.trans h)
    · exact .inr ⟨g, k.trans h, hg⟩
  · exact .inr ⟨g, k, by omega⟩
theorem Keep.on {S T : Nat → Prop} {a b c : World} (h : Keep S a b) (k : Keep T b c) (hT : ∀ i, i < a.heap.size → T i → S i) : Keep S a c :=
  ⟨k.os.trans h.os, k.tape.trans h.tape, k.output.trans h.output, Nat.le_trans h.size k.size, fun i hi hs => (k.block i (Nat.lt_of_lt_of_le hi h.size) (fun e => hs (hT i hi e))).trans (h.block i hi hs)⟩
theorem Keep.grown {w w' : World} {row : Option Nat} (h : w.grownBy w' row) : Keep (fun k => row = some k) w w' :=
  ⟨h.os, h.tape, h.output, h.size, fun k hk hs => h.block k hk (fun e => hs e.symm)⟩
/-- An element written into the last place of a row, and a cell of the struct at b: in either order. -/
theorem grew_of {w : World} {vo : Value} {g m cap h : Nat} (hat : vo.ownBlock = some g ∨ g = h + 1) (hs : w.heap.size ≤ h) : Grew w vo (.slice (some ⟨g, 0, none⟩) m cap) := by
  rcases hat with h | h
  · exact .inl h.symm
  · exact .inr ⟨g, rfl, by omega⟩
end Go.Proofs.Ytkjekohncfhbiaa
