/-
  A struct behind a pointer: what a method that writes to it keeps; the reader's five cells.
-/
import Derived.Test.YtkjekohncfhbiabXTree2
set_option linter.unusedVariables false
namespace Go.Proofs.Ytkjekohncfhbiab
open Go.RowKit
/-- Of what was there nothing has turned, but the blocks that S names. -/
structure Keep (S : Nat → Prop) (w w' : World) : Prop where
  os : w'.os = w.os
  tape : w'.tape = w.tape
  output : w'.output = w.output
  size : w.heap.size ≤ w'.heap.size
  block : ∀ k, k < w.heap.size → ¬ S k → w'.heap[k]? = w.heap[k]?
theorem Keep.refl (S : Nat → Prop) (w : World) : Keep S w w := ⟨rfl, rfl, rfl, Nat.le_refl _, fun _ _ _ => rfl⟩
theorem Keep.trans {S : Nat → Prop} {a b c : World} (h : Keep S a b) (k : Keep S b c) : Keep S a c :=
  ⟨k.os.trans h.os, k.tape.trans h.tape, k.output.trans h.output, Nat.le_trans h.size k.size, fun i hi hs => (k.block i (Nat.lt_of_lt_of_le hi h.size) hs).trans (h.block i hi hs)⟩
theorem Keep.of_below {S : Nat → Prop} {w w' : World} (h : Below w.heap.size w w') : Keep S w w' := ⟨h.os, h.tape, h.output, h.size, fun k hk _ => h.block k hk⟩
theorem Keep.set {S : Nat → Prop} (w : World) (a : Addr) (u : Value) (h : S a.block) : Keep S w (w.setCell a u) :=
  ⟨rfl, rfl, rfl, by simp [World.setCell], fun k hk hs => Below.heap_setCell _ _ _ _ (fun e => hs (e ▸ h))⟩
theorem Keep.wide {S R : Nat → Prop} {w w' : World} (h : Keep S w w') (hs : ∀ k, k < w.heap.size → S k → R k) : Keep R w w' :=
  ⟨h.os, h.tape, h.output, h.size, fun k hk hr => h.block k hk (fun e => hr (hs k hk e))⟩
/-- Blocks that the call itself made do not count. -/
theorem Keep.below {S : Nat → Prop} {w v w' : World} (h : Below w.heap.size w v) (k : Keep S v w') (hs : ∀ i, i < w.heap.size → ¬ S i) : Below w.heap.size w w' :=
  ⟨k.os.trans h.os, k.tape.trans h.tape, k.output.trans h.output, Nat.le_trans h.size k.size, fun i hi => (k.block i (Nat.lt_of_lt_of_le hi h.size) (hs i hi)).trans (h.block i hi)⟩
theorem Keep.cell {S : Nat → Prop} {w w' : World} (h : Keep S w w') {a : Addr} (hl : a.block < w.heap.size) (hs : ¬ S a.block) : w'.cell? a = w.cell? a := World.cell?_of_block (w := w) (h.block a.block hl hs)
/-- At block b lie these cells, and none is frozen. -/
def Lies (w : World) (b : Nat) (t : TypeId) (C : Array Value) : Prop := w.heap[b]? = some (.cells C t (0, 0))
theorem Lies.lt {w : World} {b : Nat} {t : TypeId} {C : Array Value} (h : Lies w b t C) : b < w.heap.size := by
  rcases Nat.lt_or_ge b w.heap.size with h' | h'
  · exact h'
  · unfold Lies at h
    rw [Array.getElem?_eq_none h'] at h
    cases h
theorem Lies.cell {w : World} {b : Nat} {t : TypeId} {C : Array Value} (h : Lies w b t C) (k : Nat) : w.cell? ⟨b, k, none⟩ = C[k]? := Lib.cell_of_heap h k
theorem Lies.free {w : World} {b : Nat} {t : TypeId} {C : Array Value} (h : Lies w b t C) (k : Nat) : w.frozen? ⟨b, k, none⟩ = false := by
  unfold World.frozen?
  rw [show w.heap[(⟨b, k, none⟩ : Addr).block]? = some (.cells C t (0, 0)) from h]
  simp
theorem Lies.set {w : World} {b : Nat} {t : TypeId} {C : Array Value} (h : Lies w b t C) (k : Nat) (u : Value) : Lies (w.setCell ⟨b, k, none⟩ u) b t (C.setIfInBounds k u) := by
  unfold Lies World.setCell at *
  simp only [Array.getElem?_modify, if_true]
  rw [h]
  rfl
theorem Lies.off {w : World} {b : Nat} {t : TypeId} {C : Array Value} (h : Lies w b t C) (a : Addr) (u : Value) (hn : b ≠ a.block) : Lies (w.setCell a u) b t C := by
  unfold Lies at *
  rw [Below.heap_setCell _ _ _ _ hn, h]
theorem Lies.keep {S : Nat → Prop} {w w' : World} {b : Nat} {t : TypeId} {C : Array Value} (h : Lies w b t C) (k : Keep S w w') (hs : ¬ S b) : Lies w' b t C := by
  have hl := h.lt
  unfold Lies at *
  rw [k.block b hl hs, h]
theorem Lies.below {w w' : World} {b : Nat} {t : TypeId} {C : Array Value} (h : Lies w b t C) (k : Below w.heap.size w w') : Lies w' b t C := h.keep (S := fun _ => False) (Keep.of_below k) (fun e => e)
theorem Lies.new (w : World) (t : TypeId) (C : Array Value) : Lies (w.alloc (.cells C t)) w.heap.size t C := by
  show (w.heap.push _)[w.heap.size]? = _
  simp
end Go.Proofs.Ytkjekohncfhbiab
