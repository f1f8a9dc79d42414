/-
  A condition as it is kept. (Written by GCond.py.)
-/
import Derived.Test.YtkjekohncfhbiabGCopy
import Derived.Test.YtkjekohncfhbiabRFlags
import Derived.Deep.RegionHeld3
set_option linter.unusedSimpArgs false
set_option linter.unusedVariables false
namespace Go.Proofs.Ytkjekohncfhbiab
open Go.RowKit
set_option maxRecDepth 100000
abbrev kcC (c : Gp.KC) : Array Value := #[.int .i64 c.1, .int .i64 c.2.1, .bool c.2.2.1, .bool c.2.2.2.1, .bool c.2.2.2.2]
theorem indexSG (w : World) (ao : Option Addr) (n cap : Nat) (l : List ByteArray) (s : ByteArray) (z : Int) (h : FRow w (.slice ao n cap) l) (hz : Hid (idxZ l s = z)) :
    Calls Try.prog 21 #[.slice ao n cap, .string s] w fun e w' => e = .returned (.int .i64 z) ∧ w' = w := by
  rw [← hz.out]
  exact indexS w ao n cap l s h
/-- Two structs boxed one behind the other. -/
theorem boxesG (w : World) (t1 t2 : TypeId) (C1 C2 : Array Value) : ∃ V, (w.alloc (.cells C1 t1)).alloc (.cells C2 t2) = V ∧ Below w.heap.size w V ∧ Lies V w.heap.size t1 C1 ∧ Lies V (w.heap.size + 1) t2 C2 ∧ V.heap.size = w.heap.size + 2 := by
  refine ⟨_, rfl, ((Below.refl _ w).alloc (Nat.le_refl _) _).alloc (by simp) _, (Lies.new w t1 C1).below ((Below.refl _ _).alloc (Nat.le_refl _) _), ?_, by simp⟩
  have := Lies.new (w.alloc (.cells C1 t1)) t2 C2
  rwa [show (w.alloc (.cells C1 t1)).heap.size = w.heap.size + 1 by simp] at this
end Go.Proofs.Ytkjekohncfhbiab
