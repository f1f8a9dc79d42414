/-
  Several texts in one: each opens with its own word.
-/
import Derived.Test.YtpipjkbgbhefcaaGreatMSame1
import Derived.Test.YtpipjkbgbhefcaaGreatShelfT
import Derived.Deep.RegionHeld3
import Derived.OwnWalk
import Derived.Test.YtpipjkbgbhefcaaGreatMHeavy
/-
  The program's copies of events and conditions.
-/
set_option linter.unusedSimpArgs false
set_option linter.unusedVariables false
namespace Go.Proofs.YtpipjkbgbhefcaaGreat
open Go.RowKit
/-- What hangs on the cells of the blocks from B on. -/
def NewR (B : Nat) (P : World → Prop) (w : World) : Prop := ∀ w', (∀ a c, B ≤ a.block → w.cell? a = some c → w'.cell? a = some c) → P w'
theorem NewR.here {B : Nat} {P : World → Prop} {w : World} (h : NewR B P w) : P w := h w fun _ _ _ h => h
theorem NewR.low {B B' : Nat} {P : World → Prop} {w : World} (h : NewR B P w) (hb : B' ≤ B) : NewR B' P w := fun w' hw => h w' fun a c ha => hw a c (Nat.le_trans hb ha)
theorem NewR.step {B : Nat} {P : World → Prop} {w w' : World} (h : NewR B P w) (hw : ∀ a c, B ≤ a.block → w.cell? a = some c → w'.cell? a = some c) : NewR B P w' := fun w2 h2 => h w2 fun a c ha hc => h2 a c ha (hw a c ha hc)
theorem NewR.below {B : Nat} {P : World → Prop} {w w' : World} (h : NewR B P w) (hb : Below w.heap.size w w') : NewR B P w' := h.step fun a c _ hc => below_cell hb a c hc
def KeepBut (b : Nat) (w w' : World) : Prop := ∀ (a : Addr) c, a.block ≠ b → w.cell? a = some c → w'.cell? a = some c
theorem keep_refl (b : Nat) (w : World) : KeepBut b w w := fun _ _ _ h => h
theorem keep_set {b : Nat} {w w' : World} (h : KeepBut b w w') (j : Nat) (u : Value) : KeepBut b w (w'.setCell ⟨b, j, none⟩ u) := fun a c ha hc => by
  have h1 := h a c ha hc
  have h2 := Below.heap_setCell w' ⟨b, j, none⟩ u a.block ha
  unfold World.cell? at h1 ⊢
  rw [h2]
  exact h1
theorem cloneM (s : ByteArray) (w : World) (hs : s.size ≤ 140737488355328) :
    Calls Tryz.prog 50 #[.string s] w fun e w' => e = .returned (.string s) ∧ Below w.heap.size w w' := by
  go_enter Tryz.func50, Tryz.ntmps50
  go_wp2_with fail
  refine (Tryz.stringslite_Clone s _ (by omega)).mono ?_
  rintro e w1 ⟨rfl, b1⟩
  go_wp2_with fail
  go_ret
  exact ⟨rfl, b1⟩
theorem two_new (w : World) (t : TypeId) (C D : Array Value) : ∃ V, (w.alloc (.cells C t)).alloc (.cells D t) = V ∧ Below w.heap.size w V ∧ Lies V w.heap.size t C ∧ Lies V (w.heap.size + 1) t D ∧ V.heap.size = w.heap.size + 2 := by
  refine ⟨_, rfl, ((Below.refl _ w).alloc (Nat.le_refl _) _).alloc (by simp) _, (Lies.new w t C).below ((Below.refl _ _).alloc (Nat.le_refl _) _), ?_, by simp⟩
  have := Lies.new (w.alloc (.cells C t)) t D
  rwa [show (w.alloc (.cells C t)).heap.size = w.heap.size + 1 by simp] at this
set_option maxHeartbeats 8000000 in
theorem copyOnD (a : ByteArray) (k : Int) (w : World) (ha : a.size ≤ 140737488355328) :
    Calls Tryz.prog 108 #[.agg #[.string a, .int .i64 k]] w fun e w' => e = .returned (.agg #[.string a, .int .i64 k]) ∧ Below w.heap.size w w' := by
  go_enter Tryz.func108, Tryz.ntmps108
  go_wp2_with fail
  obtain ⟨V, hV, BV, LA, LR, VS⟩ := two_new w 101 #[.string a, .int .i64 k] #[.string ⟨#[]⟩, .int .i64 0]
  rw [hV]
  have HB := hideT BV
  have HL := hideT LA
  have HR := hideT LR
  have HS := hideT VS
  clear BV LA LR hV VS
  have y0 : V.cell? ⟨w.heap.size, 0, none⟩ = some (.string a) := HL.out.cell 0
  have y1 : V.cell? ⟨w.heap.size, 1, none⟩ = some (.int .i64 k) := HL.out.cell 1
  go_region_held3 (fun w' => w'.cell? ⟨w.heap.size, 0, none⟩ = some (.string a) ∧ w'.cell? ⟨w.heap.size, 1, none⟩ = some (.int .i64 k)) (go_keep) (first
    | (go_at_call_of 50 (Value.string a); refine (cloneM a _ ha).mono ?_; rintro e w1 ⟨rfl, b1⟩; have bV1 : Below V.heap.size V w1 := (below_drewN (Below.refl _ V) 1).trans b1; have z1_0 := below_cell bV1 _ _ y0; have z1_1 := below_cell bV1 _ _ y1; have LN := HR.out.below bV1; have m0 : w1.cell? ⟨w.heap.size + 1, 0, none⟩ = some (.string ⟨#[]⟩) := LN.cell 0; have g0 : w1.frozen? ⟨w.heap.size + 1, 0, none⟩ = false := LN.free 0; have m1 : w1.cell? ⟨w.heap.size + 1, 1, none⟩ = some (.int .i64 0) := LN.cell 1; have g1 : w1.frozen? ⟨w.heap.size + 1, 1, none⟩ = false := LN.free 1))
  obtain ⟨X, hX, bX, lX, kX⟩ : ∃ X, ((w1.setCell ⟨w.heap.size + 1, 0, none⟩ (.string a)).setCell ⟨w.heap.size + 1, 1, none⟩ (.int .i64 k)) = X ∧ Below w.heap.size w X ∧ Lies X (w.heap.size + 1) 101 #[.string a, .int .i64 k] ∧ KeepBut (w.heap.size + 1) w1 X := ⟨_, rfl, (((HB.out.trans (bV1.mono HB.out.size)).setCell (Nat.le_succ _) _).setCell (Nat.le_succ _) _), ((LN.set 0 _).set 1 _), (keep_set (keep_set (keep_refl _ _) 0 _) 1 _)⟩
  rw [hX]
  go_wp2_with fail
  have r0 : X.cell? ⟨w.heap.size + 1, 0, none⟩ = some (.string a) := lX.cell 0
  have r1 : X.cell? ⟨w.heap.size + 1, 1, none⟩ = some (.int .i64 k) := lX.cell 1
  refine bodyPost_ret (v := .agg #[.string a, .int .i64 k]) (by simp [results, Tryz.results108, go_sem, r0, r1]) rfl ⟨rfl, bX⟩
set_option maxHeartbeats 8000000 in
theorem copyCondD (a b : ByteArray) (k : Int) (w : World) (ha : a.size ≤ 140737488355328) (hb : b.size ≤ 140737488355328) :
    Calls Tryz.prog 110 #[.agg #[.string a, .string b, .int .i64 k]] w fun e w' => e = .returned (.agg #[.string a, .string b, .int .i64 k]) ∧ Below w.heap.size w w' := by
  go_enter Tryz.func110, Tryz.ntmps110
  go_wp2_with fail
  obtain ⟨V, hV, BV, LA, LR, VS⟩ := two_new w 105 #[.string a, .string b, .int .i64 k] #[.string ⟨#[]⟩, .string ⟨#[]⟩, .int .i64 0]
  rw [hV]
  have HB := hideT BV
  have HL := hideT LA
  have HR := hideT LR
  have HS := hideT VS
  clear BV LA LR hV VS
  have y0 : V.cell? ⟨w.heap.size, 0, none⟩ = some (.string a) := HL.out.cell 0
  have y1 : V.cell? ⟨w.heap.size, 1, none⟩ = some (.string b) := HL.out.cell 1
  have y2 : V.cell? ⟨w.heap.size, 2, none⟩ = some (.int .i64 k) := HL.out.cell 2
  go_region_held3 (fun w' => w'.cell? ⟨w.heap.size, 0, none⟩ = some (.string a) ∧ w'.cell? ⟨w.heap.size, 1, none⟩ = some (.string b) ∧ w'.cell? ⟨w.heap.size, 2, none⟩ = some (.int .i64 k)) (go_keep) (first
    | (go_at_call_of 50 (Value.string a); refine (cloneM a _ ha).mono ?_; rintro e w1 ⟨rfl, b1⟩; have bV1 : Below V.heap.size V w1 := (below_drewN (Below.refl _ V) 1).trans b1; have z1_0 := below_cell bV1 _ _ y0; have z1_1 := below_cell bV1 _ _ y1; have z1_2 := below_cell bV1 _ _ y2)
    | (go_at_call_of 50 (Value.string b); refine (cloneM b _ hb).mono ?_; rintro e w2 ⟨rfl, b2⟩; have bV2 : Below V.heap.size V w2 := bV1.trans (b2.mono bV1.size); have z2_0 := below_cell bV2 _ _ y0; have z2_1 := below_cell bV2 _ _ y1; have z2_2 := below_cell bV2 _ _ y2; have LN := HR.out.below bV2; have m0 : w2.cell? ⟨w.heap.size + 1, 0, none⟩ = some (.string ⟨#[]⟩) := LN.cell 0; have g0 : w2.frozen? ⟨w.heap.size + 1, 0, none⟩ = false := LN.free 0; have m1 : w2.cell? ⟨w.heap.size + 1, 1, none⟩ = some (.string ⟨#[]⟩) := LN.cell 1; have g1 : w2.frozen? ⟨w.heap.size + 1, 1, none⟩ = false := LN.free 1; have m2 : w2.cell? ⟨w.heap.size + 1, 2, none⟩ = some (.int .i64 0) := LN.cell 2; have g2 : w2.frozen? ⟨w.heap.size + 1, 2, none⟩ = false := LN.free 2))
  obtain ⟨X, hX, bX, lX, kX⟩ : ∃ X, (((w2.setCell ⟨w.heap.size + 1, 0, none⟩ (.string a)).setCell ⟨w.heap.size + 1, 1, none⟩ (.string b)).setCell ⟨w.heap.size + 1, 2, none⟩ (.int .i64 k)) = X ∧ Below w.heap.size w X ∧ Lies X (w.heap.size + 1) 105 #[.string a, .string b, .int .i64 k] ∧ KeepBut (w.heap.size + 1) w2 X := ⟨_, rfl, ((((HB.out.trans (bV2.mono HB.out.size)).setCell (Nat.le_succ _) _).setCell (Nat.le_succ _) _).setCell (Nat.le_succ _) _), (((LN.set 0 _).set 1 _).set 2 _), (keep_set (keep_set (keep_set (keep_refl _ _) 0 _) 1 _) 2 _)⟩
  rw [hX]
  go_wp2_with fail
  have r0 : X.cell? ⟨w.heap.size + 1, 0, none⟩ = some (.string a) := lX.cell 0
  have r1 : X.cell? ⟨w.heap.size + 1, 1, none⟩ = some (.string b) := lX.cell 1
  have r2 : X.cell? ⟨w.heap.size + 1, 2, none⟩ = some (.int .i64 k) := lX.cell 2
  refine bodyPost_ret (v := .agg #[.string a, .string b, .int .i64 k]) (by simp [results, Tryz.results110, go_sem, r0, r1, r2]) rfl ⟨rfl, bX⟩
end Go.Proofs.YtpipjkbgbhefcaaGreat
/-
  The program's copyEach.
-/
set_option linter.unusedSimpArgs false
set_option linter.unusedVariables false
namespace Go.Proofs.YtpipjkbgbhefcaaGreat
open Go.RowKit
/-- What copyEach answers: a row of its own. -/
def CPost {α : Type} (z : Nat) (R : World → List Value → α → Prop) (l : List α) (w : World) (e : Ending) (w' : World) : Prop := ∃ ao cap, e = .returned (.slice ao l.length cap) ∧ NewR w.heap.size (fun w => RowR z R w (.slice ao l.length cap) l) w' ∧ Below w.heap.size w w'
def setL (xs : List Value) (off : Nat) : List Value → List Value
  | [] => xs
  | c :: r => setL (xs.set off c) (off + 1) r
def setAll (w : World) (b off : Nat) : List Value → World
  | [] => w
  | c :: r => setAll (w.setCell ⟨b, off, none⟩ c) b (off + 1) r
theorem setL_low : ∀ (cs xs : List Value) (off j : Nat), j < off → (setL xs off cs)[j]? = xs[j]?
  | [], _, _, _, _ => rfl
  | c :: r, xs, off, j, h => by
    rw [setL, setL_low r _ _ _ (by omega), List.getElem?_set_ne (by omega)]
theorem setL_at : ∀ (cs xs : List Value) (off i : Nat) (c : Value), off + cs.length ≤ xs.length → cs[i]? = some c → (setL xs off cs)[off + i]? = some c
  | [], _, _, _, _, _, h => by simp at h
  | d :: r, xs, off, 0, c, hl, h => by
    simp only [List.length_cons] at hl
    rw [setL, setL_low r _ _ _ (by omega), Nat.add_zero, List.getElem?_set_self (by omega)]
    simpa using h
  | d :: r, xs, off, i + 1, c, hl, h => by
    simp only [List.length_cons] at hl
    have := setL_at r (xs.set off d) (off + 1) i c (by rw [List.length_set]; omega) (by simpa using h)
    rw [setL, show off + (i + 1) = off + 1 + i by omega]
    exact this
theorem setAll_own {H : Nat} {e : TypeId} {z n g cap : Nat} : ∀ (cs : List Value) (w : World) (xs : List Value) (off : Nat), w.ownsRow H e z (.slice (some ⟨g, 0, none⟩) n cap) n xs → (setAll w g off cs).ownsRow H e z (.slice (some ⟨g, 0, none⟩) n cap) n (setL xs off cs)
  | [], _, _, _, h => h
  | c :: r, w, xs, off, h => setAll_own r _ _ _ (own_set h off c)
theorem setAll_keep {b : Nat} {w0 : World} : ∀ (cs : List Value) (w : World) (off : Nat), KeepBut b w0 w → KeepBut b w0 (setAll w b off cs)
  | [], _, _, h => h
  | c :: r, w, off, h => setAll_keep r _ _ (keep_set h off c)
theorem setAll_below {b B : Nat} {w0 : World} (hb : B ≤ b) : ∀ (cs : List Value) (w : World) (off : Nat), Below B w0 w → Below B w0 (setAll w b off cs)
  | [], _, _, h => h
  | c :: r, w, off, h => setAll_below hb r _ _ (h.setCell hb c)
/-- A row that is being filled: k elements stand. -/
def Built {α : Type} (B ob z : Nat) (t : TypeId) (R : World → List Value → α → Prop) (l : List α) (n k : Nat) (wr : World) : Prop :=
  ∃ xs, wr.ownsRow B t z (.slice (some ⟨ob, 0, none⟩) n n) n xs ∧ ∀ (j : Nat) x, j < k → l[j]? = some x → ∃ cs : List Value, cs.length = z ∧ (∀ (i : Nat) c, cs[i]? = some c → xs[j * z + i]? = some c) ∧ NewR (ob + 1) (fun w => R w cs x) wr
theorem Built.below {α : Type} {B ob z : Nat} {t : TypeId} {R : World → List Value → α → Prop} {l : List α} {n k : Nat} {w w' : World} (h : Built B ob z t R l n k w) (hb : Below w.heap.size w w') : Built B ob z t R l n k w' := by
  obtain ⟨xs, h1, h2⟩ := h
  refine ⟨xs, own_keep h1 (fun g hg => hb.block g (own_lt h1 hg).1), fun j x hj hx => ?_⟩
  obtain ⟨cs, k1, k2, k3⟩ := h2 j x hj hx
  exact ⟨cs, k1, k2, k3.below hb⟩
theorem Built.put {α : Type} {B ob z : Nat} {t : TypeId} {R : World → List Value → α → Prop} {l : List α} {n k : Nat} {w : World} (h : Built B ob z t R l n k w) (hk : k < n) (cs : List Value) (hcs : cs.length = z) (x : α) (hx : l[k]? = some x) (hr : NewR (ob + 1) (fun w => R w cs x) w) : Built B ob z t R l n (k + 1) (setAll w ob (k * z) cs) := by
  obtain ⟨xs, h1, h2⟩ := h
  have hxl : xs.length = n * z := h1.1
  have hkz : k * z + z ≤ n * z := by
    have := Nat.mul_le_mul_right z (show k + 1 ≤ n by omega)
    rw [Nat.succ_mul] at this
    exact this
  have hst : ∀ (P : World → Prop), NewR (ob + 1) P w → NewR (ob + 1) P (setAll w ob (k * z) cs) := fun P hP => hP.step fun a c ha hc => setAll_keep cs w _ (keep_refl _ _) a c (by omega) hc
  refine ⟨_, setAll_own cs w xs _ h1, fun j y hj hy => ?_⟩
  by_cases hjk : j < k
  · obtain ⟨ds, k1, k2, k3⟩ := h2 j y hjk hy
    refine ⟨ds, k1, fun i c hi => ?_, hst _ k3⟩
    have hil := (List.getElem?_eq_some_iff.1 hi).1
    have hjz : j * z + z ≤ k * z := by
      have := Nat.mul_le_mul_right z (show j + 1 ≤ k by omega)
      rw [Nat.succ_mul] at this
      exact this
    rw [setL_low _ _ _ _ (by omega)]
    exact k2 i c hi
  · obtain rfl : j = k := by omega
    obtain rfl : x = y := Option.some.inj (hx.symm.trans hy)
    exact ⟨cs, hcs, fun i c hi => setL_at cs xs _ i c (by omega) hi, hst _ hr⟩
theorem Built.done {α : Type} {B ob z : Nat} {t : TypeId} {R : World → List Value → α → Prop} {l : List α} {n : Nat} {w : World} (h : Built B ob z t R l n n w) (hn : n = l.length) (hl : n ≤ 10000000000000) (hB : B ≤ ob) : NewR B (fun w => RowR z R w (.slice (some ⟨ob, 0, none⟩) l.length n) l) w := by
  obtain ⟨xs, h1, h2⟩ := h
  intro w' hw
  refine ⟨ob, 0, ⟨_, n, rfl, by omega, fun _ => rfl⟩, by omega, fun j x hx => ?_⟩
  have hjl := (List.getElem?_eq_some_iff.1 hx).1
  obtain ⟨cs, k1, k2, k3⟩ := h2 j x (by omega) hx
  refine ⟨cs, k1, k3 w' fun a c ha hc => hw a c (by omega) hc, fun i c hi => ?_⟩
  refine hw _ _ hB ?_
  rw [Nat.zero_add]
  exact own_cell h1 (k2 i c hi)
theorem Built.cells {α : Type} {B ob z : Nat} {t : TypeId} {R : World → List Value → α → Prop} {l : List α} {n k : Nat} {w : World} (h : Built B ob z t R l n k w) (hk : k < n) (i : Nat) (hi : i < z) : (∃ u, w.cell? ⟨ob, k * z + i, none⟩ = some u) ∧ w.frozen? ⟨ob, k * z + i, none⟩ = false := by
  obtain ⟨xs, h1, h2⟩ := h
  have hxl : xs.length = n * z := h1.1
  have hkz : k * z + z ≤ n * z := by
    have := Nat.mul_le_mul_right z (show k + 1 ≤ n by omega)
    rw [Nat.succ_mul] at this
    exact this
  exact ⟨⟨_, own_cell h1 (List.getElem?_eq_getElem (by omega))⟩, own_free h1 _⟩
theorem infoOn : (Tryz.prog.info? 101).map (fun i => (i.zero, i.size, i.bytes)) = some (some (.agg #[.string ⟨#[]⟩, .int .i64 0]), 2, 24) := by kernel_rfl
set_option maxHeartbeats 4000000 in
theorem copyEachO (w : World) (a1 : Option Addr) (n c1 : Nat) (l : List Mp.On) (h1 : ORow w (.slice a1 n c1) l) (hn : n ≤ 1000) :
    Calls Tryz.prog 107 #[.slice a1 n c1, .func (.func 108) #[] #[]] w (CPost 2 onR l w) := by
  obtain ⟨hn1, hl1, _, b1, o1, ha1, hc1⟩ := orow_at h1
  have HN1 := hideT hn1
  have HC1 := hideT hc1
  have HA1 := hideT ha1
  clear hc1 ha1 h1
  by_cases h0 : n = 0
  · subst h0
    have HL : Hid (l = []) := List.eq_nil_of_length_eq_zero hn1.symm
    clear hn1
    go_enter Tryz.func107, Tryz.ntmps107
    go_wp2_with fail
    go_ret
    rw [HL.out]
    exact ⟨none, 0, rfl, fun w' _ => rowR_nil w', Below.refl _ _⟩
  obtain ⟨i0, hi0, hz0, hz1, hz2⟩ := info_parts infoOn
  have t0 : ((n : Int) == 0) = false := beq_eq_false_iff_ne.2 (by omega)
  obtain ⟨W, hrun, r1, r2⟩ := run_make_full (P := Tryz.prog) w w.heap.size 51 101 i0 _ 2 Tryz.underlying51 hi0 hz0 hz1 .i64 .i64 n (by rw [hz2]; omega) (by unfold maxLen; omega) (Nat.le_refl _)
  have BT0 : Hid (Built w.heap.size w.heap.size 2 101 onR l n 0 W) := ⟨_, r1, fun j x hj => absurd hj (Nat.not_lt_zero _)⟩
  have BW0 : Hid (Below w.heap.size w W) := (Below.refl _ w).grown r2 (Nat.le_refl _) (fun k hk => by cases hk)
  clear hn1 r1 r2 hi0 hz0 hz1 hz2
  go_enter Tryz.func107, Tryz.ntmps107
  go_wp2_with fail
  clear hrun
  go_loopw [16] (fun i wr => ∃ k : Nat, k ≤ n ∧ i = .int .i64 k ∧ Hid (Built w.heap.size w.heap.size 2 101 onR l n k wr) ∧ Hid (Below w.heap.size w wr)) (fun i _ => n - (intOf i).toNat)
  case atStart => exact ⟨0, by omega, rfl, BT0, BW0⟩
  case round =>
    obtain ⟨k, hk, rfl, HB, HW⟩ := hrel
    by_cases hlt : k < n
    rotate_left
    · have HE : Hid (k = n) := by show k = n; omega
      have HB1 : Hid (Built w.heap.size w.heap.size 2 101 onR l n n wr) := by have := HB.out; rw [HE.out] at this; exact this
      go_wp2_with fail
      go_ret
      refine ⟨some ⟨w.heap.size, 0, none⟩, n, ?_, HB1.out.done HN1.out hl1 (Nat.le_refl _), HW.out⟩
      exact congrArg (fun q => Ending.returned (.slice (some ⟨w.heap.size, 0, none⟩) q n)) HN1.out
    obtain ⟨⟨x0, x1⟩, hx⟩ := Mp.at_lt (l := l) (k := k) (by have := HN1.out; omega)
    obtain ⟨hz, d0, d1⟩ := HC1.out k _ hx
    dsimp only at hz d0 d1
    have d0 := below_cell HW.out _ _ d0
    have d1 := below_cell HW.out _ _ d1
    obtain rfl := HA1.out (by omega)
    have HX := hideT hx
    clear hx
    have t1 : (0 : Int) ≤ (k : Int) := by omega
    have t2 : (k : Int) < (n : Int) := by omega
    go_wp2_with fail
    refine (copyOnD x0 x1 _ hz).mono ?_
    rintro e w1 ⟨rfl, p⟩
    have BA := hideT ((Below.refl wr.heap.size wr).alloc (Nat.le_refl _) (.cells #[.string x0, .int .i64 x1] 101))
    have B1 := hideT (BA.out.trans (p.mono BA.out.size))
    have HB1 := hideT (HB.out.below B1.out)
    have HW1 := hideT (HW.out.trans (B1.out.mono HW.out.size))
    obtain ⟨⟨u0, e0⟩, f0⟩ := HB1.out.cells hlt 0 (by omega)
    obtain ⟨⟨u1, e1⟩, f1⟩ := HB1.out.cells hlt 1 (by omega)
    rw [Nat.add_zero] at e0 f0
    have HB2 := hideT (HB1.out.put hlt [.string x0, .int .i64 x1] rfl (x0, x1) HX.out (fun w' _ => ⟨rfl, hz⟩))
    have HW2 := hideT (setAll_below (Nat.le_refl _) [.string x0, .int .i64 x1] _ (k * 2) HW1.out)
    clear p d0 d1
    go_wp2_with fail
    refine ⟨⟨k + 1, by omega, by go_num, HB2, HW2⟩, ?_⟩
    first | omega | (simp [intOf]; omega)
end Go.Proofs.YtpipjkbgbhefcaaGreat
/-
  The program's copyEach of conditions and texts.
-/
set_option linter.unusedSimpArgs false
set_option linter.unusedVariables false
namespace Go.Proofs.YtpipjkbgbhefcaaGreat
open Go.RowKit
set_option maxRecDepth 100000
theorem infoCond : (Tryz.prog.info? 105).map (fun i => (i.zero, i.size, i.bytes)) = some (some (.agg #[.string ⟨#[]⟩, .string ⟨#[]⟩, .int .i64 0]), 3, 40) := by kernel_rfl
set_option maxHeartbeats 4000000 in
theorem copyEachC (w : World) (a1 : Option Addr) (n c1 : Nat) (l : List Mp.Cond) (h1 : CRow w (.slice a1 n c1) l) (hn : n ≤ 1000) :
    Calls Tryz.prog 109 #[.slice a1 n c1, .func (.func 110) #[] #[]] w (CPost 3 condR l w) := by
  obtain ⟨hn1, hl1, _, b1, o1, ha1, hc1⟩ := crow_at h1
  have HN1 := hideT hn1
  have HC1 := hideT hc1
  have HA1 := hideT ha1
  clear hc1 ha1 h1
  by_cases h0 : n = 0
  · subst h0
    have HL : Hid (l = []) := List.eq_nil_of_length_eq_zero hn1.symm
    clear hn1
    go_enter Tryz.func109, Tryz.ntmps109
    go_wp2_with fail
    go_ret
    rw [HL.out]
    exact ⟨none, 0, rfl, fun w' _ => rowR_nil w', Below.refl _ _⟩
  obtain ⟨i0, hi0, hz0, hz1, hz2⟩ := info_parts infoCond
  have t0 : ((n : Int) == 0) = false := beq_eq_false_iff_ne.2 (by omega)
  obtain ⟨W, hrun, r1, r2⟩ := run_make_full (P := Tryz.prog) w w.heap.size 52 105 i0 _ 3 Tryz.underlying52 hi0 hz0 hz1 .i64 .i64 n (by rw [hz2]; omega) (by unfold maxLen; omega) (Nat.le_refl _)
  have BT0 : Hid (Built w.heap.size w.heap.size 3 105 condR l n 0 W) := ⟨_, r1, fun j x hj => absurd hj (Nat.not_lt_zero _)⟩
  have BW0 : Hid (Below w.heap.size w W) := (Below.refl _ w).grown r2 (Nat.le_refl _) (fun k hk => by cases hk)
  clear hn1 r1 r2 hi0 hz0 hz1 hz2
  go_enter Tryz.func109, Tryz.ntmps109
  go_wp2_with fail
  clear hrun
  go_loopw [16] (fun i wr => ∃ k : Nat, k ≤ n ∧ i = .int .i64 k ∧ Hid (Built w.heap.size w.heap.size 3 105 condR l n k wr) ∧ Hid (Below w.heap.size w wr)) (fun i _ => n - (intOf i).toNat)
  case atStart => exact ⟨0, by omega, rfl, BT0, BW0⟩
  case round =>
    obtain ⟨k, hk, rfl, HB, HW⟩ := hrel
    by_cases hlt : k < n
    rotate_left
    · have HE : Hid (k = n) := by show k = n; omega
      have HB1 : Hid (Built w.heap.size w.heap.size 3 105 condR l n n wr) := by have := HB.out; rw [HE.out] at this; exact this
      go_wp2_with fail
      go_ret
      refine ⟨some ⟨w.heap.size, 0, none⟩, n, ?_, HB1.out.done HN1.out hl1 (Nat.le_refl _), HW.out⟩
      exact congrArg (fun q => Ending.returned (.slice (some ⟨w.heap.size, 0, none⟩) q n)) HN1.out
    obtain ⟨⟨x0, x1, x2⟩, hx⟩ := Mp.at_lt (l := l) (k := k) (by have := HN1.out; omega)
    obtain ⟨hz, d0, d1, d2⟩ := HC1.out k _ hx
    dsimp only at hz d0 d1 d2
    have d0 := below_cell HW.out _ _ d0
    have d1 := below_cell HW.out _ _ d1
    have d2 := below_cell HW.out _ _ d2
    obtain rfl := HA1.out (by omega)
    have HX := hideT hx
    clear hx
    have t1 : (0 : Int) ≤ (k : Int) := by omega
    have t2 : (k : Int) < (n : Int) := by omega
    go_wp2_with fail
    refine (copyCondD x0 x1 x2 _ hz.1 hz.2).mono ?_
    rintro e w1 ⟨rfl, p⟩
    have BA := hideT ((Below.refl wr.heap.size wr).alloc (Nat.le_refl _) (.cells #[.string x0, .string x1, .int .i64 x2] 105))
    have B1 := hideT (BA.out.trans (p.mono BA.out.size))
    have HB1 := hideT (HB.out.below B1.out)
    have HW1 := hideT (HW.out.trans (B1.out.mono HW.out.size))
    obtain ⟨⟨u0, e0⟩, f0⟩ := HB1.out.cells hlt 0 (by omega)
    obtain ⟨⟨u1, e1⟩, f1⟩ := HB1.out.cells hlt 1 (by omega)
    obtain ⟨⟨u2, e2⟩, f2⟩ := HB1.out.cells hlt 2 (by omega)
    rw [Nat.add_zero] at e0 f0
    have HB2 := hideT (HB1.out.put hlt [.string x0, .string x1, .int .i64 x2] rfl (x0, x1, x2) HX.out (fun w' _ => ⟨rfl, hz⟩))
    have HW2 := hideT (setAll_below (Nat.le_refl _) [.string x0, .string x1, .int .i64 x2] _ (k * 3) HW1.out)
    clear p d0 d1 d2
    go_wp2_with fail
    refine ⟨⟨k + 1, by omega, by go_num, HB2, HW2⟩, ?_⟩
    first | omega | (simp [intOf]; omega)
end Go.Proofs.YtpipjkbgbhefcaaGreat
/-
  The program's copies of sentries.
-/
set_option linter.unusedSimpArgs false
set_option linter.unusedVariables false
namespace Go.Proofs.YtpipjkbgbhefcaaGreat
open Go.RowKit
set_option maxRecDepth 100000
/-- What copySentry answers. -/
def CSPost (x : Mp.Sent) (w : World) (e : Ending) (w' : World) : Prop := ∃ a1 c1 a2 c2, e = .returned (.agg #[.slice a1 x.1.length c1, .slice a2 x.2.length c2]) ∧ NewR (w.heap.size + 2) (fun w => sentR w [.slice a1 x.1.length c1, .slice a2 x.2.length c2] x) w' ∧ Below w.heap.size w w'
theorem copySent_new {V w w1 w2 X : World} {s1 : List Mp.On} {s2 : List Mp.Cond} {v1 v2 : Value} (n1 : NewR V.heap.size (fun w => RowR 2 onR w v1 s1) w1) (n2 : NewR w1.heap.size (fun w => RowR 3 condR w v2 s2) w2) (b2 : Below w1.heap.size w1 w2) (kX : KeepBut (w.heap.size + 1) w2 X) (hV : V.heap.size = w.heap.size + 2) (bV : Below V.heap.size V w1) : NewR (w.heap.size + 2) (fun w => sentR w [v1, v2] (s1, s2)) X := by
  have hs := bV.size
  have m1 : NewR (w.heap.size + 2) (fun w => RowR 2 onR w v1 s1) X := ((n1.low (by omega)).below b2).step fun a c ha hc => kX a c (by omega) hc
  have m2 : NewR (w.heap.size + 2) (fun w => RowR 3 condR w v2 s2) X := (n2.low (by omega)).step fun a c ha hc => kX a c (by omega) hc
  exact fun w' hw => ⟨v1, v2, rfl, m1 w' hw, m2 w' hw⟩
set_option maxHeartbeats 8000000 in
theorem copySentryD (p1 p2 : Option Addr) (c1 c2 : Nat) (s1 : List Mp.On) (s2 : List Mp.Cond) (w : World) (h1 : ORow w (.slice p1 s1.length c1) s1) (h2 : CRow w (.slice p2 s2.length c2) s2) (k1 : s1.length ≤ 1000) (k2 : s2.length ≤ 1000) :
    Calls Tryz.prog 85 #[.agg #[.slice p1 s1.length c1, .slice p2 s2.length c2]] w (CSPost (s1, s2) w) := by
  go_enter Tryz.func85, Tryz.ntmps85
  go_wp2_with fail
  obtain ⟨V, hV, BV, LA, LR, VS⟩ := two_new w 54 #[.slice p1 s1.length c1, .slice p2 s2.length c2] #[.slice none 0 0, .slice none 0 0]
  rw [hV]
  have HB := hideT BV
  have HL := hideT LA
  have HR := hideT LR
  have HS := hideT VS
  clear BV LA LR hV VS
  have R1 := hideT (orow_below h1 (below_drewN HB.out 1))
  have R2 := hideT (crow_below h2 HB.out)
  clear h1 h2
  have y0 : V.cell? ⟨w.heap.size, 0, none⟩ = some (.slice p1 s1.length c1) := HL.out.cell 0
  have y1 : V.cell? ⟨w.heap.size, 1, none⟩ = some (.slice p2 s2.length c2) := HL.out.cell 1
  go_region_held3 (fun w' => w'.cell? ⟨w.heap.size, 0, none⟩ = some (.slice p1 s1.length c1) ∧ w'.cell? ⟨w.heap.size, 1, none⟩ = some (.slice p2 s2.length c2)) (go_keep) (first
    | (go_at_call_of 107 (Value.slice p1 s1.length c1); refine (copyEachO _ p1 _ c1 s1 R1.out k1).mono ?_; rintro e w1 ⟨q1, d1, rfl, n1, b1⟩; have bV1 : Below V.heap.size V w1 := (below_drewN (Below.refl _ V) 1).trans b1; have z1_0 := below_cell bV1 _ _ y0; have z1_1 := below_cell bV1 _ _ y1; have N1 := hideT n1)
    | (go_at_call_of 109 (Value.slice p2 s2.length c2); refine (copyEachC _ p2 _ c2 s2 (crow_below R2.out bV1) k2).mono ?_; rintro e w2 ⟨q2, d2, rfl, n2, b2⟩; have bV2 : Below V.heap.size V w2 := bV1.trans (b2.mono bV1.size); have z2_0 := below_cell bV2 _ _ y0; have z2_1 := below_cell bV2 _ _ y1; have LN := HR.out.below bV2; have m0 : w2.cell? ⟨w.heap.size + 1, 0, none⟩ = some (.slice none 0 0) := LN.cell 0; have g0 : w2.frozen? ⟨w.heap.size + 1, 0, none⟩ = false := LN.free 0; have m1 : w2.cell? ⟨w.heap.size + 1, 1, none⟩ = some (.slice none 0 0) := LN.cell 1; have g1 : w2.frozen? ⟨w.heap.size + 1, 1, none⟩ = false := LN.free 1; have N2 := hideT n2; have N3 := hideT (n1.below b2)))
  obtain ⟨X, hX, bX, lX, kX⟩ : ∃ X, ((w2.setCell ⟨w.heap.size + 1, 0, none⟩ (.slice q1 s1.length d1)).setCell ⟨w.heap.size + 1, 1, none⟩ (.slice q2 s2.length d2)) = X ∧ Below w.heap.size w X ∧ Lies X (w.heap.size + 1) 54 #[.slice q1 s1.length d1, .slice q2 s2.length d2] ∧ KeepBut (w.heap.size + 1) w2 X := ⟨_, rfl, (((HB.out.trans (bV2.mono HB.out.size)).setCell (Nat.le_succ _) _).setCell (Nat.le_succ _) _), ((LN.set 0 _).set 1 _), (keep_set (keep_set (keep_refl _ _) 0 _) 1 _)⟩
  rw [hX]
  go_wp2_with fail
  have r0 : X.cell? ⟨w.heap.size + 1, 0, none⟩ = some (.slice q1 s1.length d1) := lX.cell 0
  have r1 : X.cell? ⟨w.heap.size + 1, 1, none⟩ = some (.slice q2 s2.length d2) := lX.cell 1
  refine bodyPost_ret (v := .agg #[.slice q1 s1.length d1, .slice q2 s2.length d2]) (by simp [results, Tryz.results85, go_sem, r0, r1]) rfl ⟨q1, d1, q2, d2, rfl, copySent_new (V := V) n1 n2 b2 kX HS.out bV1, bX⟩
end Go.Proofs.YtpipjkbgbhefcaaGreat
/-
  The program's copyEach of sentries.
-/
set_option linter.unusedSimpArgs false
set_option linter.unusedVariables false
namespace Go.Proofs.YtpipjkbgbhefcaaGreat
open Go.RowKit
set_option maxRecDepth 100000
theorem infoSnt : (Tryz.prog.info? 54).map (fun i => (i.zero, i.size, i.bytes)) = some (some (.agg #[.slice none 0 0, .slice none 0 0]), 2, 48) := by kernel_rfl
set_option maxHeartbeats 4000000 in
theorem copyEachS (w : World) (a1 : Option Addr) (n c1 : Nat) (l : List Mp.Sent) (h1 : SRow w (.slice a1 n c1) l) (hn : n ≤ 1000) (hL : ∀ s ∈ l, lightS s) :
    Calls Tryz.prog 84 #[.slice a1 n c1, .func (.func 85) #[] #[]] w (CPost 2 sentR l w) := by
  obtain ⟨hn1, hl1, _, b1, o1, ha1, hc1⟩ := srow_at h1
  have HN1 := hideT hn1
  have HC1 := hideT hc1
  have HA1 := hideT ha1
  have HLt := hideT hL
  clear hc1 ha1 h1 hL
  by_cases h0 : n = 0
  · subst h0
    have HL : Hid (l = []) := List.eq_nil_of_length_eq_zero hn1.symm
    clear hn1
    go_enter Tryz.func84, Tryz.ntmps84
    go_wp2_with fail
    go_ret
    rw [HL.out]
    exact ⟨none, 0, rfl, fun w' _ => rowR_nil w', Below.refl _ _⟩
  obtain ⟨i0, hi0, hz0, hz1, hz2⟩ := info_parts infoSnt
  have t0 : ((n : Int) == 0) = false := beq_eq_false_iff_ne.2 (by omega)
  obtain ⟨W, hrun, r1, r2⟩ := run_make_full (P := Tryz.prog) w w.heap.size 46 54 i0 _ 2 Tryz.underlying46 hi0 hz0 hz1 .i64 .i64 n (by rw [hz2]; omega) (by unfold maxLen; omega) (Nat.le_refl _)
  have BT0 : Hid (Built w.heap.size w.heap.size 2 54 sentR l n 0 W) := ⟨_, r1, fun j x hj => absurd hj (Nat.not_lt_zero _)⟩
  have BW0 : Hid (Below w.heap.size w W) := (Below.refl _ w).grown r2 (Nat.le_refl _) (fun k hk => by cases hk)
  clear hn1 r1 r2 hi0 hz0 hz1 hz2
  go_enter Tryz.func84, Tryz.ntmps84
  go_wp2_with fail
  clear hrun
  go_loopw [16] (fun i wr => ∃ k : Nat, k ≤ n ∧ i = .int .i64 k ∧ Hid (Built w.heap.size w.heap.size 2 54 sentR l n k wr) ∧ Hid (Below w.heap.size w wr)) (fun i _ => n - (intOf i).toNat)
  case atStart => exact ⟨0, by omega, rfl, BT0, BW0⟩
  case round =>
    obtain ⟨k, hk, rfl, HB, HW⟩ := hrel
    by_cases hlt : k < n
    rotate_left
    · have HE : Hid (k = n) := by show k = n; omega
      have HB1 : Hid (Built w.heap.size w.heap.size 2 54 sentR l n n wr) := by have := HB.out; rw [HE.out] at this; exact this
      go_wp2_with fail
      go_ret
      refine ⟨some ⟨w.heap.size, 0, none⟩, n, ?_, HB1.out.done HN1.out hl1 (Nat.le_refl _), HW.out⟩
      exact congrArg (fun q => Ending.returned (.slice (some ⟨w.heap.size, 0, none⟩) q n)) HN1.out
    obtain ⟨⟨s1, s2⟩, hx⟩ := Mp.at_lt (l := l) (k := k) (by have := HN1.out; omega)
    obtain ⟨p1, c3, p2, c4, r1, r2, d0, d1⟩ := HC1.out k _ hx
    have hlt2 := HLt.out _ (List.mem_of_getElem? hx)
    dsimp only [lightS] at r1 r2 d0 d1 hlt2
    have d0 := below_cell HW.out _ _ d0
    have d1 := below_cell HW.out _ _ d1
    obtain rfl := HA1.out (by omega)
    have HX := hideT hx
    have BA := hideT ((Below.refl wr.heap.size wr).alloc (Nat.le_refl _) (.cells #[.slice p1 s1.length c3, .slice p2 s2.length c4] 54))
    have BW := hideT (HW.out.trans (BA.out.mono HW.out.size))
    have R1 := hideT (orow_below r1 BW.out)
    have R2 := hideT (crow_below r2 BW.out)
    have l1 := hlt2.1
    have l2 := hlt2.2
    clear hx r1 r2 hlt2
    have t1 : (0 : Int) ≤ (k : Int) := by omega
    have t2 : (k : Int) < (n : Int) := by omega
    go_wp2_with fail
    refine (copySentryD p1 p2 c3 c4 s1 s2 _ R1.out R2.out (by omega) (by omega)).mono ?_
    rintro e w1 ⟨q1, d3, q2, d4, rfl, nw, p⟩
    have B1 := hideT (BA.out.trans (p.mono BA.out.size))
    have HB1 := hideT (HB.out.below B1.out)
    have HW1 := hideT (HW.out.trans (B1.out.mono HW.out.size))
    have hge : w.heap.size + 1 ≤ (wr.alloc (.cells #[.slice p1 s1.length c3, .slice p2 s2.length c4] 54)).heap.size + 2 := by have := BW.out.size; omega
    have NW := hideT (nw.low hge)
    clear nw hge
    dsimp only at NW
    obtain ⟨⟨u0, e0⟩, f0⟩ := HB1.out.cells hlt 0 (by omega)
    obtain ⟨⟨u1, e1⟩, f1⟩ := HB1.out.cells hlt 1 (by omega)
    rw [Nat.add_zero] at e0 f0
    have HB2 := hideT (HB1.out.put hlt [.slice q1 s1.length d3, .slice q2 s2.length d4] rfl (s1, s2) HX.out NW.out)
    have HW2 := hideT (setAll_below (Nat.le_refl _) [.slice q1 s1.length d3, .slice q2 s2.length d4] _ (k * 2) HW1.out)
    clear p d0 d1
    dsimp only
    go_wp2_with fail
    refine ⟨⟨k + 1, by omega, by go_num, HB2, HW2⟩, ?_⟩
    first | omega | (simp [intOf]; omega)
end Go.Proofs.YtpipjkbgbhefcaaGreat
/-
  The program's copies of items.
-/
set_option linter.unusedSimpArgs false
set_option linter.unusedVariables false
namespace Go.Proofs.YtpipjkbgbhefcaaGreat
open Go.RowKit
set_option maxRecDepth 100000
/-- What copyItem answers. -/
def CIPost (x : Mp.Item) (w : World) (e : Ending) (w' : World) : Prop := ∃ q5 d5 q6 d6, e = .returned (.agg #[.string x.id, .int .i64 x.kind, .string x.parent, .bool x.req, .int .i64 x.ticks, .slice q5 x.entry.length d5, .slice q6 x.exit.length d6]) ∧ NewR (w.heap.size + 2) (fun w => itemR w [.string x.id, .int .i64 x.kind, .string x.parent, .bool x.req, .int .i64 x.ticks, .slice q5 x.entry.length d5, .slice q6 x.exit.length d6] x) w' ∧ Below w.heap.size w w'
theorem copyItem_new {V w w2 w3 w4 X : World} {x : Mp.Item} {v5 v6 : Value} (n3 : NewR w2.heap.size (fun w => RowR 2 sentR w v5 x.entry) w3) (n4 : NewR w3.heap.size (fun w => RowR 2 sentR w v6 x.exit) w4) (b3 : Below w2.heap.size w2 w3) (b4 : Below w3.heap.size w3 w4) (kX : KeepBut (w.heap.size + 1) w4 X) (hV : V.heap.size = w.heap.size + 2) (bV : Below V.heap.size V w2) (hz : x.id.size ≤ 140737488355328 ∧ x.parent.size ≤ 140737488355328) : NewR (w.heap.size + 2) (fun w => itemR w [.string x.id, .int .i64 x.kind, .string x.parent, .bool x.req, .int .i64 x.ticks, v5, v6] x) X := by
  have hs := bV.size
  have hs3 := b3.size
  have m1 : NewR (w.heap.size + 2) (fun w => RowR 2 sentR w v5 x.entry) X := ((n3.low (by omega)).below b4).step fun a c ha hc => kX a c (by omega) hc
  have m2 : NewR (w.heap.size + 2) (fun w => RowR 2 sentR w v6 x.exit) X := (n4.low (by omega)).step fun a c ha hc => kX a c (by omega) hc
  exact fun w' hw => ⟨v5, v6, rfl, hz, m1 w' hw, m2 w' hw⟩
set_option maxHeartbeats 8000000 in
theorem copyItemD (x0 : ByteArray) (x1 : Int) (x2 : ByteArray) (x3 : Bool) (x4 : Int) (x5 x6 : List Mp.Sent) (p5 p6 : Option Addr) (c5 c6 : Nat) (w : World) (hz0 : x0.size ≤ 140737488355328) (hz2 : x2.size ≤ 140737488355328) (h5 : SRow w (.slice p5 x5.length c5) x5) (h6 : SRow w (.slice p6 x6.length c6) x6) (hl : lightI ⟨x0, x1, x2, x3, x4, x5, x6⟩) :
    Calls Tryz.prog 52 #[.agg #[.string x0, .int .i64 x1, .string x2, .bool x3, .int .i64 x4, .slice p5 x5.length c5, .slice p6 x6.length c6]] w (CIPost ⟨x0, x1, x2, x3, x4, x5, x6⟩ w) := by
  go_enter Tryz.func52, Tryz.ntmps52
  go_wp2_with fail
  obtain ⟨V, hV, BV, LA, LR, VS⟩ := two_new w 48 #[.string x0, .int .i64 x1, .string x2, .bool x3, .int .i64 x4, .slice p5 x5.length c5, .slice p6 x6.length c6] #[.string ⟨#[]⟩, .int .i64 0, .string ⟨#[]⟩, .bool false, .int .i64 0, .slice none 0 0, .slice none 0 0]
  rw [hV]
  have HB := hideT BV
  have HL := hideT LA
  have HR := hideT LR
  have HS := hideT VS
  clear BV LA LR hV VS
  have R5 := hideT (srow_below h5 HB.out)
  have R6 := hideT (srow_below h6 HB.out)
  have HI := hideT hl
  clear h5 h6 hl
  have y0 : V.cell? ⟨w.heap.size, 0, none⟩ = some (.string x0) := HL.out.cell 0
  have y1 : V.cell? ⟨w.heap.size, 1, none⟩ = some (.int .i64 x1) := HL.out.cell 1
  have y2 : V.cell? ⟨w.heap.size, 2, none⟩ = some (.string x2) := HL.out.cell 2
  have y3 : V.cell? ⟨w.heap.size, 3, none⟩ = some (.bool x3) := HL.out.cell 3
  have y4 : V.cell? ⟨w.heap.size, 4, none⟩ = some (.int .i64 x4) := HL.out.cell 4
  have y5 : V.cell? ⟨w.heap.size, 5, none⟩ = some (.slice p5 x5.length c5) := HL.out.cell 5
  have y6 : V.cell? ⟨w.heap.size, 6, none⟩ = some (.slice p6 x6.length c6) := HL.out.cell 6
  go_region_held3 (fun w' => w'.cell? ⟨w.heap.size, 0, none⟩ = some (.string x0) ∧ w'.cell? ⟨w.heap.size, 1, none⟩ = some (.int .i64 x1) ∧ w'.cell? ⟨w.heap.size, 2, none⟩ = some (.string x2) ∧ w'.cell? ⟨w.heap.size, 3, none⟩ = some (.bool x3) ∧ w'.cell? ⟨w.heap.size, 4, none⟩ = some (.int .i64 x4) ∧ w'.cell? ⟨w.heap.size, 5, none⟩ = some (.slice p5 x5.length c5) ∧ w'.cell? ⟨w.heap.size, 6, none⟩ = some (.slice p6 x6.length c6)) (go_keep) (first
    | (go_at_call_of 50 (Value.string x0); refine (cloneM x0 _ hz0).mono ?_; rintro e w1 ⟨rfl, b1⟩; have bV1 : Below V.heap.size V w1 := (below_drewN (Below.refl _ V) 1).trans b1; have z1_0 := below_cell bV1 _ _ y0; have z1_1 := below_cell bV1 _ _ y1; have z1_2 := below_cell bV1 _ _ y2; have z1_3 := below_cell bV1 _ _ y3; have z1_4 := below_cell bV1 _ _ y4; have z1_5 := below_cell bV1 _ _ y5; have z1_6 := below_cell bV1 _ _ y6)
    | (go_at_call_of 50 (Value.string x2); refine (cloneM x2 _ hz2).mono ?_; rintro e w2 ⟨rfl, b2⟩; have bV2 : Below V.heap.size V w2 := bV1.trans (b2.mono bV1.size); have z2_0 := below_cell bV2 _ _ y0; have z2_1 := below_cell bV2 _ _ y1; have z2_2 := below_cell bV2 _ _ y2; have z2_3 := below_cell bV2 _ _ y3; have z2_4 := below_cell bV2 _ _ y4; have z2_5 := below_cell bV2 _ _ y5; have z2_6 := below_cell bV2 _ _ y6)
    | (go_at_call_of 84 (Value.slice p5 x5.length c5); refine (copyEachS _ p5 _ c5 x5 (srow_below R5.out bV2) (Nat.le_of_lt (Nat.lt_trans HI.out.1 (by decide))) HI.out.2.2.1).mono ?_; rintro e w3 ⟨q5, d5, rfl, n3, b3⟩; have bV3 : Below V.heap.size V w3 := bV2.trans (b3.mono bV2.size); have z3_0 := below_cell bV3 _ _ y0; have z3_1 := below_cell bV3 _ _ y1; have z3_2 := below_cell bV3 _ _ y2; have z3_3 := below_cell bV3 _ _ y3; have z3_4 := below_cell bV3 _ _ y4; have z3_5 := below_cell bV3 _ _ y5; have z3_6 := below_cell bV3 _ _ y6; have N3 := hideT n3)
    | (go_at_call_of 84 (Value.slice p6 x6.length c6); refine (copyEachS _ p6 _ c6 x6 (srow_below R6.out bV3) (Nat.le_of_lt (Nat.lt_trans HI.out.2.1 (by decide))) HI.out.2.2.2).mono ?_; rintro e w4 ⟨q6, d6, rfl, n4, b4⟩; have bV4 : Below V.heap.size V w4 := bV3.trans (b4.mono bV3.size); have z4_0 := below_cell bV4 _ _ y0; have z4_1 := below_cell bV4 _ _ y1; have z4_2 := below_cell bV4 _ _ y2; have z4_3 := below_cell bV4 _ _ y3; have z4_4 := below_cell bV4 _ _ y4; have z4_5 := below_cell bV4 _ _ y5; have z4_6 := below_cell bV4 _ _ y6; have LN := HR.out.below bV4; have m0 : w4.cell? ⟨w.heap.size + 1, 0, none⟩ = some (.string ⟨#[]⟩) := LN.cell 0; have g0 : w4.frozen? ⟨w.heap.size + 1, 0, none⟩ = false := LN.free 0; have m1 : w4.cell? ⟨w.heap.size + 1, 1, none⟩ = some (.int .i64 0) := LN.cell 1; have g1 : w4.frozen? ⟨w.heap.size + 1, 1, none⟩ = false := LN.free 1; have m2 : w4.cell? ⟨w.heap.size + 1, 2, none⟩ = some (.string ⟨#[]⟩) := LN.cell 2; have g2 : w4.frozen? ⟨w.heap.size + 1, 2, none⟩ = false := LN.free 2; have m3 : w4.cell? ⟨w.heap.size + 1, 3, none⟩ = some (.bool false) := LN.cell 3; have g3 : w4.frozen? ⟨w.heap.size + 1, 3, none⟩ = false := LN.free 3; have m4 : w4.cell? ⟨w.heap.size + 1, 4, none⟩ = some (.int .i64 0) := LN.cell 4; have g4 : w4.frozen? ⟨w.heap.size + 1, 4, none⟩ = false := LN.free 4; have m5 : w4.cell? ⟨w.heap.size + 1, 5, none⟩ = some (.slice none 0 0) := LN.cell 5; have g5 : w4.frozen? ⟨w.heap.size + 1, 5, none⟩ = false := LN.free 5; have m6 : w4.cell? ⟨w.heap.size + 1, 6, none⟩ = some (.slice none 0 0) := LN.cell 6; have g6 : w4.frozen? ⟨w.heap.size + 1, 6, none⟩ = false := LN.free 6; have N4 := hideT n4))
  obtain ⟨X, hX, bX, lX, kX⟩ : ∃ X, (((((((w4.setCell ⟨w.heap.size + 1, 0, none⟩ (.string x0)).setCell ⟨w.heap.size + 1, 1, none⟩ (.int .i64 x1)).setCell ⟨w.heap.size + 1, 2, none⟩ (.string x2)).setCell ⟨w.heap.size + 1, 3, none⟩ (.bool x3)).setCell ⟨w.heap.size + 1, 4, none⟩ (.int .i64 x4)).setCell ⟨w.heap.size + 1, 5, none⟩ (.slice q5 x5.length d5)).setCell ⟨w.heap.size + 1, 6, none⟩ (.slice q6 x6.length d6)) = X ∧ Below w.heap.size w X ∧ Lies X (w.heap.size + 1) 48 #[.string x0, .int .i64 x1, .string x2, .bool x3, .int .i64 x4, .slice q5 x5.length d5, .slice q6 x6.length d6] ∧ KeepBut (w.heap.size + 1) w4 X := ⟨_, rfl, ((((((((HB.out.trans (bV4.mono HB.out.size)).setCell (Nat.le_succ _) _).setCell (Nat.le_succ _) _).setCell (Nat.le_succ _) _).setCell (Nat.le_succ _) _).setCell (Nat.le_succ _) _).setCell (Nat.le_succ _) _).setCell (Nat.le_succ _) _), (((((((LN.set 0 _).set 1 _).set 2 _).set 3 _).set 4 _).set 5 _).set 6 _), (keep_set (keep_set (keep_set (keep_set (keep_set (keep_set (keep_set (keep_refl _ _) 0 _) 1 _) 2 _) 3 _) 4 _) 5 _) 6 _)⟩
  rw [hX]
  go_wp2_with fail
  have r0 : X.cell? ⟨w.heap.size + 1, 0, none⟩ = some (.string x0) := lX.cell 0
  have r1 : X.cell? ⟨w.heap.size + 1, 1, none⟩ = some (.int .i64 x1) := lX.cell 1
  have r2 : X.cell? ⟨w.heap.size + 1, 2, none⟩ = some (.string x2) := lX.cell 2
  have r3 : X.cell? ⟨w.heap.size + 1, 3, none⟩ = some (.bool x3) := lX.cell 3
  have r4 : X.cell? ⟨w.heap.size + 1, 4, none⟩ = some (.int .i64 x4) := lX.cell 4
  have r5 : X.cell? ⟨w.heap.size + 1, 5, none⟩ = some (.slice q5 x5.length d5) := lX.cell 5
  have r6 : X.cell? ⟨w.heap.size + 1, 6, none⟩ = some (.slice q6 x6.length d6) := lX.cell 6
  refine bodyPost_ret (v := .agg #[.string x0, .int .i64 x1, .string x2, .bool x3, .int .i64 x4, .slice q5 x5.length d5, .slice q6 x6.length d6]) (by simp [results, Tryz.results52, go_sem, r0, r1, r2, r3, r4, r5, r6]) rfl ⟨q5, d5, q6, d6, rfl, copyItem_new (V := V) (x := ⟨x0, x1, x2, x3, x4, x5, x6⟩) n3 n4 b3 b4 kX HS.out bV2 ⟨hz0, hz2⟩, bX⟩
end Go.Proofs.YtpipjkbgbhefcaaGreat
/-
  The program's copyEach of conditions and texts.
-/
set_option linter.unusedSimpArgs false
set_option linter.unusedVariables false
namespace Go.Proofs.YtpipjkbgbhefcaaGreat
open Go.RowKit
set_option maxRecDepth 100000
theorem infoStr : (Tryz.prog.info? 9).map (fun i => (i.zero, i.size, i.bytes)) = some (some (.string ⟨#[]⟩), 1, 16) := by kernel_rfl
set_option maxHeartbeats 4000000 in
theorem copyEachF (w : World) (a1 : Option Addr) (n c1 : Nat) (l : List ByteArray) (h1 : FRow w (.slice a1 n c1) l) (hn : n ≤ 1000) :
    Calls Tryz.prog 49 #[.slice a1 n c1, .func (.func 50) #[] #[]] w (CPost 1 strR l w) := by
  obtain ⟨hn1, hl1, _, b1, o1, ha1, hc1⟩ := frow_at h1
  have HN1 := hideT hn1
  have HC1 := hideT hc1
  have HA1 := hideT ha1
  clear hc1 ha1 h1
  by_cases h0 : n = 0
  · subst h0
    have HL : Hid (l = []) := List.eq_nil_of_length_eq_zero hn1.symm
    clear hn1
    go_enter Tryz.func49, Tryz.ntmps49
    go_wp2_with fail
    go_ret
    rw [HL.out]
    exact ⟨none, 0, rfl, fun w' _ => rowR_nil w', Below.refl _ _⟩
  obtain ⟨i0, hi0, hz0, hz1, hz2⟩ := info_parts infoStr
  have t0 : ((n : Int) == 0) = false := beq_eq_false_iff_ne.2 (by omega)
  obtain ⟨W, hrun, r1, r2⟩ := run_make_full (P := Tryz.prog) w w.heap.size 22 9 i0 _ 1 Tryz.underlying22 hi0 hz0 hz1 .i64 .i64 n (by rw [hz2]; omega) (by unfold maxLen; omega) (Nat.le_refl _)
  have BT0 : Hid (Built w.heap.size w.heap.size 1 9 strR l n 0 W) := ⟨_, r1, fun j x hj => absurd hj (Nat.not_lt_zero _)⟩
  have BW0 : Hid (Below w.heap.size w W) := (Below.refl _ w).grown r2 (Nat.le_refl _) (fun k hk => by cases hk)
  clear hn1 r1 r2 hi0 hz0 hz1 hz2
  go_enter Tryz.func49, Tryz.ntmps49
  go_wp2_with fail
  clear hrun
  go_loopw [16] (fun i wr => ∃ k : Nat, k ≤ n ∧ i = .int .i64 k ∧ Hid (Built w.heap.size w.heap.size 1 9 strR l n k wr) ∧ Hid (Below w.heap.size w wr)) (fun i _ => n - (intOf i).toNat)
  case atStart => exact ⟨0, by omega, rfl, BT0, BW0⟩
  case round =>
    obtain ⟨k, hk, rfl, HB, HW⟩ := hrel
    by_cases hlt : k < n
    rotate_left
    · have HE : Hid (k = n) := by show k = n; omega
      have HB1 : Hid (Built w.heap.size w.heap.size 1 9 strR l n n wr) := by have := HB.out; rw [HE.out] at this; exact this
      go_wp2_with fail
      go_ret
      refine ⟨some ⟨w.heap.size, 0, none⟩, n, ?_, HB1.out.done HN1.out hl1 (Nat.le_refl _), HW.out⟩
      exact congrArg (fun q => Ending.returned (.slice (some ⟨w.heap.size, 0, none⟩) q n)) HN1.out
    obtain ⟨x0, hx⟩ := Mp.at_lt (l := l) (k := k) (by have := HN1.out; omega)
    obtain ⟨hz, d0⟩ := HC1.out k _ hx
    try dsimp only at hz d0
    have d0 := below_cell HW.out _ _ d0
    obtain rfl := HA1.out (by omega)
    have HX := hideT hx
    clear hx
    have t1 : (0 : Int) ≤ (k : Int) := by omega
    have t2 : (k : Int) < (n : Int) := by omega
    go_wp2_with fail
    refine (cloneM x0 _ hz).mono ?_
    rintro e w1 ⟨rfl, p⟩
    have B1 := hideT p
    have HB1 := hideT (HB.out.below B1.out)
    have HW1 := hideT (HW.out.trans (B1.out.mono HW.out.size))
    obtain ⟨⟨u0, e0⟩, f0⟩ := HB1.out.cells hlt 0 (by omega)
    rw [Nat.add_zero, Nat.mul_one] at e0 f0
    have HB2 := hideT (HB1.out.put hlt [.string x0] rfl x0 HX.out (fun w' _ => ⟨rfl, hz⟩))
    have HW2 := hideT (setAll_below (Nat.le_refl _) [.string x0] _ (k * 1) HW1.out)
    have HB3 := hideT HB2.out
    rw [show k * 1 = k from Nat.mul_one k] at HB2 HW2
    clear p d0 HB3
    go_wp2_with fail
    refine ⟨⟨k + 1, by omega, by go_num, HB2, HW2⟩, ?_⟩
    first | omega | (simp [intOf]; omega)
end Go.Proofs.YtpipjkbgbhefcaaGreat
/-
  The program's Copy.
-/
set_option linter.unusedSimpArgs false
set_option linter.unusedVariables false
namespace Go.Proofs.YtpipjkbgbhefcaaGreat
open Go.RowKit
set_option maxRecDepth 100000
theorem infoItm : (Tryz.prog.info? 48).map (fun i => (i.zero, i.size, i.bytes)) = some (some (.agg #[.string ⟨#[]⟩, .int .i64 0, .string ⟨#[]⟩, .bool false, .int .i64 0, .slice none 0 0, .slice none 0 0]), 7, 104) := by kernel_rfl
set_option maxHeartbeats 4000000 in
theorem copyEachI (w : World) (a1 : Option Addr) (n c1 : Nat) (l : List Mp.Item) (h1 : IRow w (.slice a1 n c1) l) (hn : n ≤ 1000) (hL : ∀ x ∈ l, lightI x) :
    Calls Tryz.prog 51 #[.slice a1 n c1, .func (.func 52) #[] #[]] w (CPost 7 itemR l w) := by
  obtain ⟨hn1, hl1, _, b1, o1, ha1, hc1⟩ := irow_at h1
  have HN1 := hideT hn1
  have HC1 := hideT hc1
  have HA1 := hideT ha1
  have HLt := hideT hL
  clear hc1 ha1 h1 hL
  by_cases h0 : n = 0
  · subst h0
    have HL : Hid (l = []) := List.eq_nil_of_length_eq_zero hn1.symm
    clear hn1
    go_enter Tryz.func51, Tryz.ntmps51
    go_wp2_with fail
    go_ret
    rw [HL.out]
    exact ⟨none, 0, rfl, fun w' _ => rowR_nil w', Below.refl _ _⟩
  obtain ⟨i0, hi0, hz0, hz1, hz2⟩ := info_parts infoItm
  have t0 : ((n : Int) == 0) = false := beq_eq_false_iff_ne.2 (by omega)
  obtain ⟨W, hrun, r1, r2⟩ := run_make_full (P := Tryz.prog) w w.heap.size 23 48 i0 _ 7 Tryz.underlying23 hi0 hz0 hz1 .i64 .i64 n (by rw [hz2]; omega) (by unfold maxLen; omega) (Nat.le_refl _)
  have BT0 : Hid (Built w.heap.size w.heap.size 7 48 itemR l n 0 W) := ⟨_, r1, fun j x hj => absurd hj (Nat.not_lt_zero _)⟩
  have BW0 : Hid (Below w.heap.size w W) := (Below.refl _ w).grown r2 (Nat.le_refl _) (fun k hk => by cases hk)
  clear hn1 r1 r2 hi0 hz0 hz1 hz2
  go_enter Tryz.func51, Tryz.ntmps51
  go_wp2_with fail
  clear hrun
  go_loopw [16] (fun i wr => ∃ k : Nat, k ≤ n ∧ i = .int .i64 k ∧ Hid (Built w.heap.size w.heap.size 7 48 itemR l n k wr) ∧ Hid (Below w.heap.size w wr)) (fun i _ => n - (intOf i).toNat)
  case atStart => exact ⟨0, by omega, rfl, BT0, BW0⟩
  case round =>
    obtain ⟨k, hk, rfl, HB, HW⟩ := hrel
    by_cases hlt : k < n
    rotate_left
    · have HE : Hid (k = n) := by show k = n; omega
      have HB1 : Hid (Built w.heap.size w.heap.size 7 48 itemR l n n wr) := by have := HB.out; rw [HE.out] at this; exact this
      go_wp2_with fail
      go_ret
      refine ⟨some ⟨w.heap.size, 0, none⟩, n, ?_, HB1.out.done HN1.out hl1 (Nat.le_refl _), HW.out⟩
      exact congrArg (fun q => Ending.returned (.slice (some ⟨w.heap.size, 0, none⟩) q n)) HN1.out
    obtain ⟨⟨x0, x1, x2, x3, x4, x5, x6⟩, hx⟩ := Mp.at_lt (l := l) (k := k) (by have := HN1.out; omega)
    obtain ⟨p5, c5, p6, c6, IX⟩ := HC1.out k _ hx
    have HLI := hideT (HLt.out _ (List.mem_of_getElem? hx))
    obtain ⟨z0, z2, r1, r2, d0, d1, d2, d3, d4, d5', d6'⟩ := IX
    dsimp only at z0 z2 r1 r2 d0 d1 d2 d3 d4 d5' d6'
    have d0 := below_cell HW.out _ _ d0
    have d1 := below_cell HW.out _ _ d1
    have d2 := below_cell HW.out _ _ d2
    have d3 := below_cell HW.out _ _ d3
    have d4 := below_cell HW.out _ _ d4
    have d5' := below_cell HW.out _ _ d5'
    have d6' := below_cell HW.out _ _ d6'
    obtain rfl := HA1.out (by omega)
    have HX := hideT hx
    have BA := hideT ((Below.refl wr.heap.size wr).alloc (Nat.le_refl _) (.cells #[.string x0, .int .i64 x1, .string x2, .bool x3, .int .i64 x4, .slice p5 x5.length c5, .slice p6 x6.length c6] 48))
    have BW := hideT (HW.out.trans (BA.out.mono HW.out.size))
    have R1 := hideT (srow_below r1 BW.out)
    have R2 := hideT (srow_below r2 BW.out)
    clear hx r1 r2
    have t1 : (0 : Int) ≤ (k : Int) := by omega
    have t2 : (k : Int) < (n : Int) := by omega
    go_wp2_with fail
    refine (copyItemD x0 x1 x2 x3 x4 x5 x6 p5 p6 c5 c6 _ z0 z2 R1.out R2.out HLI.out).mono ?_
    rintro e w1 ⟨q5, d5, q6, d6, rfl, nw, p⟩
    have B1 := hideT (BA.out.trans (p.mono BA.out.size))
    have HB1 := hideT (HB.out.below B1.out)
    have HW1 := hideT (HW.out.trans (B1.out.mono HW.out.size))
    have hge : w.heap.size + 1 ≤ (wr.alloc (.cells #[.string x0, .int .i64 x1, .string x2, .bool x3, .int .i64 x4, .slice p5 x5.length c5, .slice p6 x6.length c6] 48)).heap.size + 2 := by have := BW.out.size; omega
    have NW := hideT (nw.low hge)
    clear nw hge
    dsimp only at NW
    obtain ⟨⟨u0, e0⟩, f0⟩ := HB1.out.cells hlt 0 (by omega)
    obtain ⟨⟨u1, e1⟩, f1⟩ := HB1.out.cells hlt 1 (by omega)
    obtain ⟨⟨u2, e2⟩, f2⟩ := HB1.out.cells hlt 2 (by omega)
    obtain ⟨⟨u3, e3⟩, f3⟩ := HB1.out.cells hlt 3 (by omega)
    obtain ⟨⟨u4, e4⟩, f4⟩ := HB1.out.cells hlt 4 (by omega)
    obtain ⟨⟨u5, e5⟩, f5⟩ := HB1.out.cells hlt 5 (by omega)
    obtain ⟨⟨u6, e6⟩, f6⟩ := HB1.out.cells hlt 6 (by omega)
    rw [Nat.add_zero] at e0 f0
    have HB2 := hideT (HB1.out.put hlt [.string x0, .int .i64 x1, .string x2, .bool x3, .int .i64 x4, .slice q5 x5.length d5, .slice q6 x6.length d6] rfl ⟨x0, x1, x2, x3, x4, x5, x6⟩ HX.out NW.out)
    have HW2 := hideT (setAll_below (Nat.le_refl _) [.string x0, .int .i64 x1, .string x2, .bool x3, .int .i64 x4, .slice q5 x5.length d5, .slice q6 x6.length d6] _ (k * 7) HW1.out)
    clear p d0 d1 d2 d3 d4 d5' d6'
    dsimp only
    go_wp2_with fail
    refine ⟨⟨k + 1, by omega, by go_num, HB2, HW2⟩, ?_⟩
    first | omega | (simp [intOf]; omega)
end Go.Proofs.YtpipjkbgbhefcaaGreat
/-
  The program's Copy.
-/
set_option linter.unusedSimpArgs false
set_option linter.unusedVariables false
namespace Go.Proofs.YtpipjkbgbhefcaaGreat
open Go.RowKit
set_option maxRecDepth 100000
/-- What Copy answers. -/
def CMPost (m : Mp.Model) (w : World) (e : Ending) (w' : World) : Prop := ∃ af cf ai ci, e = .returned (.agg #[.slice af m.files.length cf, .slice ai m.items.length ci]) ∧ NewR (w.heap.size + 2) (fun w => ModelAt w af cf ai ci m) w' ∧ Below w.heap.size w w'
theorem copyM_new {V w w1 w2 X : World} {m : Mp.Model} {af ai : Option Addr} {cf ci : Nat} (n1 : NewR V.heap.size (fun w => RowR 1 strR w (.slice af m.files.length cf) m.files) w1) (n2 : NewR w1.heap.size (fun w => RowR 7 itemR w (.slice ai m.items.length ci) m.items) w2) (b2 : Below w1.heap.size w1 w2) (kX : KeepBut (w.heap.size + 1) w2 X) (hV : V.heap.size = w.heap.size + 2) (bV : Below V.heap.size V w1) : NewR (w.heap.size + 2) (fun w => ModelAt w af cf ai ci m) X := by
  have hs := bV.size
  have m1 : NewR (w.heap.size + 2) (fun w => RowR 1 strR w (.slice af m.files.length cf) m.files) X := ((n1.low (by omega)).below b2).step fun a c ha hc => kX a c (by omega) hc
  have m2 : NewR (w.heap.size + 2) (fun w => RowR 7 itemR w (.slice ai m.items.length ci) m.items) X := (n2.low (by omega)).step fun a c ha hc => kX a c (by omega) hc
  exact fun w' hw => ⟨m1 w' hw, m2 w' hw⟩
set_option maxHeartbeats 8000000 in
theorem copyD (p1 p2 : Option Addr) (c1 c2 : Nat) (s1 : List ByteArray) (s2 : List Mp.Item) (w : World) (h1 : FRow w (.slice p1 s1.length c1) s1) (h2 : IRow w (.slice p2 s2.length c2) s2) (hl : light ⟨s1, s2⟩) :
    Calls Tryz.prog 21 #[.agg #[.slice p1 s1.length c1, .slice p2 s2.length c2]] w (CMPost ⟨s1, s2⟩ w) := by
  go_enter Tryz.func21, Tryz.ntmps21
  go_wp2_with fail
  obtain ⟨V, hV, BV, LA, LR, VS⟩ := two_new w 25 #[.slice p1 s1.length c1, .slice p2 s2.length c2] #[.slice none 0 0, .slice none 0 0]
  rw [hV]
  have HB := hideT BV
  have HL := hideT LA
  have HR := hideT LR
  have HS := hideT VS
  clear BV LA LR hV VS
  have R1 := hideT (frow_below h1 (below_drewN HB.out 1))
  have R2 := hideT (irow_below h2 HB.out)
  have HI := hideT hl
  clear h1 h2 hl
  have y0 : V.cell? ⟨w.heap.size, 0, none⟩ = some (.slice p1 s1.length c1) := HL.out.cell 0
  have y1 : V.cell? ⟨w.heap.size, 1, none⟩ = some (.slice p2 s2.length c2) := HL.out.cell 1
  go_region_held3 (fun w' => w'.cell? ⟨w.heap.size, 0, none⟩ = some (.slice p1 s1.length c1) ∧ w'.cell? ⟨w.heap.size, 1, none⟩ = some (.slice p2 s2.length c2)) (go_keep) (first
    | (go_at_call_of 49 (Value.slice p1 s1.length c1); refine (copyEachF _ p1 _ c1 s1 R1.out (Nat.le_of_lt (Nat.lt_trans HI.out.1 (by decide)))).mono ?_; rintro e w1 ⟨q1, d1, rfl, n1, b1⟩; have bV1 : Below V.heap.size V w1 := (below_drewN (Below.refl _ V) 1).trans b1; have z1_0 := below_cell bV1 _ _ y0; have z1_1 := below_cell bV1 _ _ y1; have N1 := hideT n1)
    | (go_at_call_of 51 (Value.slice p2 s2.length c2); refine (copyEachI _ p2 _ c2 s2 (irow_below R2.out bV1) (Nat.le_of_lt (Nat.lt_trans HI.out.2.1 (by decide))) HI.out.2.2).mono ?_; rintro e w2 ⟨q2, d2, rfl, n2, b2⟩; have bV2 : Below V.heap.size V w2 := bV1.trans (b2.mono bV1.size); have z2_0 := below_cell bV2 _ _ y0; have z2_1 := below_cell bV2 _ _ y1; have LN := HR.out.below bV2; have m0 : w2.cell? ⟨w.heap.size + 1, 0, none⟩ = some (.slice none 0 0) := LN.cell 0; have g0 : w2.frozen? ⟨w.heap.size + 1, 0, none⟩ = false := LN.free 0; have m1 : w2.cell? ⟨w.heap.size + 1, 1, none⟩ = some (.slice none 0 0) := LN.cell 1; have g1 : w2.frozen? ⟨w.heap.size + 1, 1, none⟩ = false := LN.free 1; have N2 := hideT n2))
  obtain ⟨X, hX, bX, lX, kX⟩ : ∃ X, ((w2.setCell ⟨w.heap.size + 1, 0, none⟩ (.slice q1 s1.length d1)).setCell ⟨w.heap.size + 1, 1, none⟩ (.slice q2 s2.length d2)) = X ∧ Below w.heap.size w X ∧ Lies X (w.heap.size + 1) 25 #[.slice q1 s1.length d1, .slice q2 s2.length d2] ∧ KeepBut (w.heap.size + 1) w2 X := ⟨_, rfl, (((HB.out.trans (bV2.mono HB.out.size)).setCell (Nat.le_succ _) _).setCell (Nat.le_succ _) _), ((LN.set 0 _).set 1 _), (keep_set (keep_set (keep_refl _ _) 0 _) 1 _)⟩
  rw [hX]
  go_wp2_with fail
  have r0 : X.cell? ⟨w.heap.size + 1, 0, none⟩ = some (.slice q1 s1.length d1) := lX.cell 0
  have r1 : X.cell? ⟨w.heap.size + 1, 1, none⟩ = some (.slice q2 s2.length d2) := lX.cell 1
  refine bodyPost_ret (v := .agg #[.slice q1 s1.length d1, .slice q2 s2.length d2]) (by simp [results, Tryz.results21, go_sem, r0, r1]) rfl ⟨q1, d1, q2, d2, rfl, copyM_new (V := V) (m := ⟨s1, s2⟩) n1 n2 b2 kX HS.out bV1, bX⟩
end Go.Proofs.YtpipjkbgbhefcaaGreat
