/-
  The program's copies of events and conditions.
-/
import Derived.Test.YtkjekohncfhbiaaMSame1
import Derived.Test.YtkjekohncfhbiaaShelfT
import Derived.Deep.RegionHeld3
set_option linter.unusedSimpArgs false
set_option linter.unusedVariables false
namespace Go.Proofs.Ytkjekohncfhbiaa
open Go.RowKit
/-- What hangs on the cells of the blocks from B on. -/
def NewR (B : Nat) (P : World → Prop) (w : World) : Prop := ∀ w', (∀ a c, B ≤ a.block → w.cell? a = some c → w'.cell? a = some c) → P w'
theorem NewR.here {B : Nat} {P : World → Prop} {w : World} (h : NewR B P w) : P w := h w fun _ _ _ h => h
theorem NewR.low {B B' : Nat} {P : World → Prop} {w : World} (h : NewR B P w) (hb : B' ≤ B) : NewR B' P w := fun w' hw => h w' fun a c ha => hw a c (Nat.le_trans hb ha)
theorem NewR.step {B : Nat} {P : World → Prop} {w w' : World} (h : NewR B P w) (hw : ∀ a c, B ≤ a.block → w.cell? a = some c → w'.cell? a = some c) : NewR B P w' := fun w2 h2 => h w2 fun a c ha hc => h2 a c ha (hw a c ha hc)
theorem NewR.below {B : Nat} {P : World → Prop} {w w' : World} (h : NewR B P w) (hb : Below w.heap.size w w') : NewR B P w' := h.step fun a c _ hc => below_cell hb a c hc
def KeepBut (b : Nat) (w w' : World) : Prop := ∀ (a : Addr) c, a.block ≠ b → w.cell? a = some c → w'.cell? a = some c
theorem keep_refl (b : Nat) (w : World) : KeepBut b w w := fun _ _ _ h => h
theorem keep_set {b : Nat} {w w' : World} (h : KeepBut b w w') (j : Nat) (u : Value) : KeepBut b w (w'.setCell ⟨b, j, none⟩ u) := fun a c ha hc => by
  have h1 := h a c ha hc
  have h2 := Below.heap_setCell w' ⟨b, j, none⟩ u a.block ha
  unfold World.cell? at h1 ⊢
  rw [h2]
  exact h1
theorem cloneM (s : ByteArray) (w : World) (hs : s.size ≤ 140737488355328) :
    Calls Try.prog 51 #[.string s] w fun e w' => e = .returned (.string s) ∧ Below w.heap.size w w' := by
  go_enter Try.func51, Try.ntmps51
  go_wp2_with fail
  refine (Try.stringslite_Clone s _ (by omega)).mono ?_
  rintro e w1 ⟨rfl, b1⟩
  go_wp2_with fail
  go_ret
  exact ⟨rfl, b1⟩
theorem two_new (w : World) (t : TypeId) (C D : Array Value) : ∃ V, (w.alloc (.cells C t)).alloc (.cells D t) = V ∧ Below w.heap.size w V ∧ Lies V w.heap.size t C ∧ Lies V (w.heap.size + 1) t D ∧ V.heap.size = w.heap.size + 2 := by
  refine ⟨_, rfl, ((Below.refl _ w).alloc (Nat.le_refl _) _).alloc (by simp) _, (Lies.new w t C).below ((Below.refl _ _).alloc (Nat.le_refl _) _), ?_, by simp⟩
  have := Lies.new (w.alloc (.cells C t)) t D
  rwa [show (w.alloc (.cells C t)).heap.size = w.heap.size + 1 by simp] at this
end Go.Proofs.Ytkjekohncfhbiaa
