/-
  The program's copies of events and conditions.
-/
import Derived.Test.YtlgcaklhceekiaaMSame1
import Derived.Test.YtlgcaklhceekiaaShelfT
import Derived.Deep.RegionHeld3
set_option linter.unusedSimpArgs false
set_option linter.unusedVariables false
namespace Go.Proofs.Ytlgcaklhceekiaa
open Go.RowKit
/-- What hangs on the cells of the blocks from B on. -/
def NewR (B : Nat) (P : World → Prop) (w : World) : Prop := ∀ w', (∀ a c, B ≤ a.block → w.cell? a = some c → w'.cell? a = some c) → P w'
theorem NewR.here {B : Nat} {P : World → Prop} {w : World} (h : NewR B P w) : P w := h w fun _ _ _ h => h
theorem NewR.low {B B' : Nat} {P : World → Prop} {w : World} (h : NewR B P w) (hb : B' ≤ B) : NewR B' P w := fun w' hw => h w' fun a c ha => hw a c (Nat.le_trans hb ha)
theorem NewR.step {B : Nat} {P : World → Prop} {w w' : World} (h : NewR B P w) (hw : ∀ a c, B ≤ a.block → w.cell? a = some c → w'.cell? a = some c) : NewR B P w' := fun w2 h2 => h w2 fun a c ha hc => h2 a c ha (hw a c ha hc)
theorem NewR.below {B : Nat} {P : World → Prop} {w w' : World} (h : NewR B P w) (hb : Below w.heap.size w w') : NewR B P w' := h.step fun a c _ hc => below_cell hb a c hc
def KeepBut (b : Nat) (w w' : World) : Prop := ∀ (a : Addr) c, a.block ≠ b → w.cell? a = some c → w'.cell? a = some c
theorem keep_refl (b : Nat) (w : World) : KeepBut b w w := fun _ _ _ h => h
theorem keep_set {b : Nat} {w w' : World} (h : KeepBut b w w') (j : Nat) (u : Value) : KeepBut b w (w'.setCell ⟨b, j, none⟩ u) := fun a c ha hc => by
  have h1 := h a c ha hc
  have h2 := Below.heap_setCell w' ⟨b, j, none⟩ u a.block ha
  unfold World.cell? at h1 ⊢
  rw [h2]
  exact h1
theorem cloneM (s : ByteArray) (w : World) (hs : s.size ≤ 140737488355328) :
    Calls Try.prog 22 #[.string s] w fun e w' => e = .returned (.string s) ∧ Below w.heap.size w w' := by
  go_enter Try.func22, Try.ntmps22
  go_wp2_with fail
  refine (Try.stringslite_Clone s _ (by omega)).mono ?_
  rintro e w1 ⟨rfl, b1⟩
  go_wp2_with fail
  go_ret
  exact ⟨rfl, b1⟩
theorem two_new (w : World) (t : TypeId) (C D : Array Value) : ∃ V, (w.alloc (.cells C t)).alloc (.cells D t) = V ∧ Below w.heap.size w V ∧ Lies V w.heap.size t C ∧ Lies V (w.heap.size + 1) t D ∧ V.heap.size = w.heap.size + 2 := by
  refine ⟨_, rfl, ((Below.refl _ w).alloc (Nat.le_refl _) _).alloc (by simp) _, (Lies.new w t C).below ((Below.refl _ _).alloc (Nat.le_refl _) _), ?_, by simp⟩
  have := Lies.new (w.alloc (.cells C t)) t D
  rwa [show (w.alloc (.cells C t)).heap.size = w.heap.size + 1 by simp] at this
set_option maxHeartbeats 8000000 in
theorem copyOnD (a : ByteArray) (k : Int) (w : World) (ha : a.size ≤ 140737488355328) :
    Calls Try.prog 40 #[.agg #[.string a, .int .i64 k]] w fun e w' => e = .returned (.agg #[.string a, .int .i64 k]) ∧ Below w.heap.size w w' := by
  go_enter Try.func40, Try.ntmps40
  go_wp2_with fail
  obtain ⟨V, hV, BV, LA, LR, VS⟩ := two_new w 40 #[.string a, .int .i64 k] #[.string ⟨#[]⟩, .int .i64 0]
  rw [hV]
  have HB := hideT BV
  have HL := hideT LA
  have HR := hideT LR
  have HS := hideT VS
  clear BV LA LR hV VS
  have y0 : V.cell? ⟨w.heap.size, 0, none⟩ = some (.string a) := HL.out.cell 0
  have y1 : V.cell? ⟨w.heap.size, 1, none⟩ = some (.int .i64 k) := HL.out.cell 1
  go_region_held3 (fun w' => w'.cell? ⟨w.heap.size, 0, none⟩ = some (.string a) ∧ w'.cell? ⟨w.heap.size, 1, none⟩ = some (.int .i64 k)) (go_keep) (first
    | (go_at_call_of 22 (Value.string a); refine (cloneM a _ ha).mono ?_; rintro e w1 ⟨rfl, b1⟩; have bV1 : Below V.heap.size V w1 := (below_drewN (Below.refl _ V) 1).trans b1; have z1_0 := below_cell bV1 _ _ y0; have z1_1 := below_cell bV1 _ _ y1; have LN := HR.out.below bV1; have m0 : w1.cell? ⟨w.heap.size + 1, 0, none⟩ = some (.string ⟨#[]⟩) := LN.cell 0; have g0 : w1.frozen? ⟨w.heap.size + 1, 0, none⟩ = false := LN.free 0; have m1 : w1.cell? ⟨w.heap.size + 1, 1, none⟩ = some (.int .i64 0) := LN.cell 1; have g1 : w1.frozen? ⟨w.heap.size + 1, 1, none⟩ = false := LN.free 1))
  obtain ⟨X, hX, bX, lX, kX⟩ : ∃ X, ((w1.setCell ⟨w.heap.size + 1, 0, none⟩ (.string a)).setCell ⟨w.heap.size + 1, 1, none⟩ (.int .i64 k)) = X ∧ Below w.heap.size w X ∧ Lies X (w.heap.size + 1) 40 #[.string a, .int .i64 k] ∧ KeepBut (w.heap.size + 1) w1 X := ⟨_, rfl, (((HB.out.trans (bV1.mono HB.out.size)).setCell (Nat.le_succ _) _).setCell (Nat.le_succ _) _), ((LN.set 0 _).set 1 _), (keep_set (keep_set (keep_refl _ _) 0 _) 1 _)⟩
  rw [hX]
  go_wp2_with fail
  have r0 : X.cell? ⟨w.heap.size + 1, 0, none⟩ = some (.string a) := lX.cell 0
  have r1 : X.cell? ⟨w.heap.size + 1, 1, none⟩ = some (.int .i64 k) := lX.cell 1
  refine bodyPost_ret (v := .agg #[.string a, .int .i64 k]) (by simp [results, Try.results40, go_sem, r0, r1]) rfl ⟨rfl, bX⟩
set_option maxHeartbeats 8000000 in
theorem copyCondD (a b : ByteArray) (k : Int) (w : World) (ha : a.size ≤ 140737488355328) (hb : b.size ≤ 140737488355328) :
    Calls Try.prog 42 #[.agg #[.string a, .string b, .int .i64 k]] w fun e w' => e = .returned (.agg #[.string a, .string b, .int .i64 k]) ∧ Below w.heap.size w w' := by
  go_enter Try.func42, Try.ntmps42
  go_wp2_with fail
  obtain ⟨V, hV, BV, LA, LR, VS⟩ := two_new w 42 #[.string a, .string b, .int .i64 k] #[.string ⟨#[]⟩, .string ⟨#[]⟩, .int .i64 0]
  rw [hV]
  have HB := hideT BV
  have HL := hideT LA
  have HR := hideT LR
  have HS := hideT VS
  clear BV LA LR hV VS
  have y0 : V.cell? ⟨w.heap.size, 0, none⟩ = some (.string a) := HL.out.cell 0
  have y1 : V.cell? ⟨w.heap.size, 1, none⟩ = some (.string b) := HL.out.cell 1
  have y2 : V.cell? ⟨w.heap.size, 2, none⟩ = some (.int .i64 k) := HL.out.cell 2
  go_region_held3 (fun w' => w'.cell? ⟨w.heap.size, 0, none⟩ = some (.string a) ∧ w'.cell? ⟨w.heap.size, 1, none⟩ = some (.string b) ∧ w'.cell? ⟨w.heap.size, 2, none⟩ = some (.int .i64 k)) (go_keep) (first
    | (go_at_call_of 22 (Value.string a); refine (cloneM a _ ha).mono ?_; rintro e w1 ⟨rfl, b1⟩; have bV1 : Below V.heap.size V w1 := (below_drewN (Below.refl _ V) 1).trans b1; have z1_0 := below_cell bV1 _ _ y0; have z1_1 := below_cell bV1 _ _ y1; have z1_2 := below_cell bV1 _ _ y2)
    | (go_at_call_of 22 (Value.string b); refine (cloneM b _ hb).mono ?_; rintro e w2 ⟨rfl, b2⟩; have bV2 : Below V.heap.size V w2 := bV1.trans (b2.mono bV1.size); have z2_0 := below_cell bV2 _ _ y0; have z2_1 := below_cell bV2 _ _ y1; have z2_2 := below_cell bV2 _ _ y2; have LN := HR.out.below bV2; have m0 : w2.cell? ⟨w.heap.size + 1, 0, none⟩ = some (.string ⟨#[]⟩) := LN.cell 0; have g0 : w2.frozen? ⟨w.heap.size + 1, 0, none⟩ = false := LN.free 0; have m1 : w2.cell? ⟨w.heap.size + 1, 1, none⟩ = some (.string ⟨#[]⟩) := LN.cell 1; have g1 : w2.frozen? ⟨w.heap.size + 1, 1, none⟩ = false := LN.free 1; have m2 : w2.cell? ⟨w.heap.size + 1, 2, none⟩ = some (.int .i64 0) := LN.cell 2; have g2 : w2.frozen? ⟨w.heap.size + 1, 2, none⟩ = false := LN.free 2))
  obtain ⟨X, hX, bX, lX, kX⟩ : ∃ X, (((w2.setCell ⟨w.heap.size + 1, 0, none⟩ (.string a)).setCell ⟨w.heap.size + 1, 1, none⟩ (.string b)).setCell ⟨w.heap.size + 1, 2, none⟩ (.int .i64 k)) = X ∧ Below w.heap.size w X ∧ Lies X (w.heap.size + 1) 42 #[.string a, .string b, .int .i64 k] ∧ KeepBut (w.heap.size + 1) w2 X := ⟨_, rfl, ((((HB.out.trans (bV2.mono HB.out.size)).setCell (Nat.le_succ _) _).setCell (Nat.le_succ _) _).setCell (Nat.le_succ _) _), (((LN.set 0 _).set 1 _).set 2 _), (keep_set (keep_set (keep_set (keep_refl _ _) 0 _) 1 _) 2 _)⟩
  rw [hX]
  go_wp2_with fail
  have r0 : X.cell? ⟨w.heap.size + 1, 0, none⟩ = some (.string a) := lX.cell 0
  have r1 : X.cell? ⟨w.heap.size + 1, 1, none⟩ = some (.string b) := lX.cell 1
  have r2 : X.cell? ⟨w.heap.size + 1, 2, none⟩ = some (.int .i64 k) := lX.cell 2
  refine bodyPost_ret (v := .agg #[.string a, .string b, .int .i64 k]) (by simp [results, Try.results42, go_sem, r0, r1, r2]) rfl ⟨rfl, bX⟩
end Go.Proofs.Ytlgcaklhceekiaa
