/-
  The program's sentryOf and CmpSentry.
-/
import Derived.Test.YtdcahnaempabcabGreatNEach
set_option linter.unusedSimpArgs false
set_option linter.unusedVariables false
namespace Go.Proofs.YtdcahnaempabcabGreat
open Go.RowKit
/-- A box and a result's box, of unlike types. -/
theorem two_newU (w : World) (t t' : TypeId) (C D : Array Value) : ∃ V, (w.alloc (.cells C t)).alloc (.cells D t') = V ∧ Below w.heap.size w V ∧ Lies V w.heap.size t C ∧ Lies V (w.heap.size + 1) t' D ∧ V.heap.size = w.heap.size + 2 := by
  refine ⟨_, rfl, ((Below.refl _ w).alloc (Nat.le_refl _) _).alloc (by simp) _, (Lies.new w t C).below ((Below.refl _ _).alloc (Nat.le_refl _) _), ?_, by simp⟩
  have := Lies.new (w.alloc (.cells C t)) t' D
  rwa [show (w.alloc (.cells C t)).heap.size = w.heap.size + 1 by simp] at this
theorem own_lower {w : World} {H H' : Nat} {e : TypeId} {z : Nat} {v : Value} {n : Nat} {xs : List Value} (h : w.ownsRow H e z v n xs) (hh : H' ≤ H) : w.ownsRow H' e z v n xs := by
  refine ⟨h.1, ?_⟩
  rcases h.2 with h1 | ⟨g, cap, cur, h1, h2, h3⟩
  · exact .inl h1
  · exact .inr ⟨g, cap, cur, h1, Nat.le_trans hh h2, h3⟩
theorem own_keepB {w w' : World} {H : Nat} {e : TypeId} {z : Nat} {v : Value} {n : Nat} {xs : List Value} {b : Nat} (h : w.ownsRow H e z v n xs) (hb : b < H) (hk : ∀ k, k ≠ b → k < w.heap.size → w'.heap[k]? = w.heap[k]?) : w'.ownsRow H e z v n xs :=
  own_keep h (fun g hg => hk g (by have := (own_lt h hg).2; omega) (own_lt h hg).1)
/-- What sentryOf answers: two rows of its own. -/
def SOPost (x : Mp.Sent) (w : World) (e : Ending) (w' : World) : Prop := ∃ a1 c1 a2 c2, e = .returned (.agg #[.slice a1 x.1.length c1, .slice a2 x.2.length c2]) ∧ OwnE (w.heap.size + 2) 2 84 onE (.slice a1 x.1.length c1) x.1 w' ∧ OwnE (w.heap.size + 2) 3 89 condE (.slice a2 x.2.length c2) x.2 w' ∧ Below w.heap.size w w'
theorem set_other (w : World) (b j : Nat) (u : Value) (k : Nat) (hk : k ≠ b) : (w.setCell ⟨b, j, none⟩ u).heap[k]? = w.heap[k]? := Below.heap_setCell w ⟨b, j, none⟩ u k hk
set_option maxHeartbeats 8000000 in
theorem sentryOfD (p1 p2 : Option Addr) (c1 c2 : Nat) (s1 : List Mp.On) (s2 : List Mp.Cond) (w : World) (h1 : ORow w (.slice p1 s1.length c1) s1) (h2 : CRow w (.slice p2 s2.length c2) s2) (k1 : s1.length ≤ 1000) (k2 : s2.length ≤ 1000) :
    Calls Tryz.prog 25 #[.agg #[.slice p1 s1.length c1, .slice p2 s2.length c2]] w (SOPost (s1, s2) w) := by
  go_enter Tryz.func25, Tryz.ntmps25
  go_wp2_with fail
  obtain ⟨V, hV, BV, LA, LR, VS⟩ := two_newU w 25 60 #[.slice p1 s1.length c1, .slice p2 s2.length c2] #[.slice none 0 0, .slice none 0 0]
  rw [hV]
  have HB := hideT BV
  have HL := hideT LA
  have HR := hideT LR
  have HS := hideT VS
  clear BV LA LR hV VS
  have R1 := hideT (orow_below h1 (below_drewN HB.out 1))
  have R2 := hideT (crow_below h2 HB.out)
  clear h1 h2
  have y0 : V.cell? ⟨w.heap.size, 0, none⟩ = some (.slice p1 s1.length c1) := HL.out.cell 0
  have y1 : V.cell? ⟨w.heap.size, 1, none⟩ = some (.slice p2 s2.length c2) := HL.out.cell 1
  go_region_held3 (fun w' => w'.cell? ⟨w.heap.size, 0, none⟩ = some (.slice p1 s1.length c1) ∧ w'.cell? ⟨w.heap.size, 1, none⟩ = some (.slice p2 s2.length c2)) (go_keep) (first
    | (go_at_call_of 51 (Value.slice p1 s1.length c1); refine (eachOn _ p1 _ c1 s1 R1.out k1).mono ?_; rintro e w1 ⟨q1, d1, rfl, n1, b1⟩; have bV1 : Below V.heap.size V w1 := (below_drewN (Below.refl _ V) 1).trans b1; have z1_0 := below_cell bV1 _ _ y0; have z1_1 := below_cell bV1 _ _ y1; have N1 := hideT n1)
    | (go_at_call_of 53 (Value.slice p2 s2.length c2); refine (eachCond _ p2 _ c2 s2 (crow_below R2.out bV1) k2).mono ?_; rintro e w2 ⟨q2, d2, rfl, n2, b2⟩; have bV2 : Below V.heap.size V w2 := bV1.trans (b2.mono bV1.size); have z2_0 := below_cell bV2 _ _ y0; have z2_1 := below_cell bV2 _ _ y1; have LN := HR.out.below bV2; have m0 : w2.cell? ⟨w.heap.size + 1, 0, none⟩ = some (.slice none 0 0) := LN.cell 0; have g0 : w2.frozen? ⟨w.heap.size + 1, 0, none⟩ = false := LN.free 0; have m1 : w2.cell? ⟨w.heap.size + 1, 1, none⟩ = some (.slice none 0 0) := LN.cell 1; have g1 : w2.frozen? ⟨w.heap.size + 1, 1, none⟩ = false := LN.free 1; have N2 := hideT n2; have N3 := hideT (n1.below b2)))
  obtain ⟨X, hX, bX, lX, kX⟩ : ∃ X, ((w2.setCell ⟨w.heap.size + 1, 0, none⟩ (.slice q1 s1.length d1)).setCell ⟨w.heap.size + 1, 1, none⟩ (.slice q2 s2.length d2)) = X ∧ Below w.heap.size w X ∧ Lies X (w.heap.size + 1) 60 #[.slice q1 s1.length d1, .slice q2 s2.length d2] ∧ (∀ k, k ≠ w.heap.size + 1 → k < w2.heap.size → X.heap[k]? = w2.heap[k]?) := ⟨_, rfl, (((HB.out.trans (bV2.mono HB.out.size)).setCell (Nat.le_succ _) _).setCell (Nat.le_succ _) _), ((LN.set 0 _).set 1 _), fun k hk _ => (set_other _ _ _ _ k hk).trans (set_other _ _ _ _ k hk)⟩
  rw [hX]
  go_wp2_with fail
  have r0 : X.cell? ⟨w.heap.size + 1, 0, none⟩ = some (.slice q1 s1.length d1) := lX.cell 0
  have r1 : X.cell? ⟨w.heap.size + 1, 1, none⟩ = some (.slice q2 s2.length d2) := lX.cell 1
  have hd : (V.drewN 1).heap.size = w.heap.size + 2 := HS.out
  have hw1 : w.heap.size + 2 ≤ w1.heap.size := by have := bV1.size; rw [HS.out] at this; exact this
  refine bodyPost_ret (v := .agg #[.slice q1 s1.length d1, .slice q2 s2.length d2]) (by simp [results, Tryz.results25, go_sem, r0, r1]) rfl ⟨q1, d1, q2, d2, rfl, ?_, ?_, bX⟩
  · have h := N3.out
    unfold OwnE at h ⊢
    rw [hd] at h
    exact own_keepB h (Nat.lt_succ_self _) kX
  · have h := N2.out
    unfold OwnE at h ⊢
    exact own_lower (own_keepB h (by omega) kX) hw1
/-- A row that one owns, read. -/
theorem OwnE.orow {H : Nat} {v : Value} {l : List Mp.On} {w : World} {t : TypeId} (h : OwnE H 2 t onE v l w) (hl : l.length ≤ 1000) (hz : ∀ x ∈ l, x.1.size ≤ 140737488355328) : NewR H (fun w => ORow w v l) w := OwnE.newR (R := onR) (enc := onE) (fun _ => rfl) h (Nat.le_trans hl (by omega)) (fun _ x hx => ⟨rfl, hz x hx⟩)
theorem OwnE.crow {H : Nat} {v : Value} {l : List Mp.Cond} {w : World} {t : TypeId} (h : OwnE H 3 t condE v l w) (hl : l.length ≤ 1000) (hz : ∀ x ∈ l, x.1.size ≤ 140737488355328 ∧ x.2.1.size ≤ 140737488355328) : NewR H (fun w => CRow w v l) w := OwnE.newR (R := condR) (enc := condE) (fun _ => rfl) h (Nat.le_trans hl (by omega)) (fun _ x hx => ⟨rfl, hz x hx⟩)
theorem orow_z {w : World} {v : Value} {l : List Mp.On} (h : ORow w v l) : ∀ x ∈ l, x.1.size ≤ 140737488355328 := by
  obtain ⟨b, o, _, _, h3⟩ := h
  intro x hx
  obtain ⟨i, hi⟩ := List.getElem?_of_mem hx
  obtain ⟨cs, _, hR, _⟩ := h3 i x hi
  exact hR.2
theorem crow_z {w : World} {v : Value} {l : List Mp.Cond} (h : CRow w v l) : ∀ x ∈ l, x.1.size ≤ 140737488355328 ∧ x.2.1.size ≤ 140737488355328 := by
  obtain ⟨b, o, _, _, h3⟩ := h
  intro x hx
  obtain ⟨i, hi⟩ := List.getElem?_of_mem hx
  obtain ⟨cs, _, hR, _⟩ := h3 i x hi
  exact hR.2
set_option maxHeartbeats 8000000 in
theorem cmpSentryD (p1 p2 p3 p4 : Option Addr) (c1 c2 c3 c4 : Nat) (s1 t1 : List Mp.On) (s2 t2 : List Mp.Cond) (w : World) (h1 : ORow w (.slice p1 s1.length c1) s1) (h2 : CRow w (.slice p2 s2.length c2) s2) (h3 : ORow w (.slice p3 t1.length c3) t1) (h4 : CRow w (.slice p4 t2.length c4) t2) (k1 : s1.length ≤ 1000) (k2 : s2.length ≤ 1000) (k3 : t1.length ≤ 1000) (k4 : t2.length ≤ 1000) :
    Calls Tryz.prog 7 #[.agg #[.slice p1 s1.length c1, .slice p2 s2.length c2], .agg #[.slice p3 t1.length c3, .slice p4 t2.length c4]] w fun e w' => e = .returned (.int .i64 (Np.sentC (s1, s2) (t1, t2))) ∧ Below w.heap.size w w' := by
  have Z1 := hideT (orow_z h1)
  have Z2 := hideT (crow_z h2)
  have Z3 := hideT (orow_z h3)
  have Z4 := hideT (crow_z h4)
  go_enter Tryz.func7, Tryz.ntmps7
  go_wp2_with fail
  obtain ⟨V, hV, BV, LA, LR, VS⟩ := two_newU w 25 25 #[.slice p1 s1.length c1, .slice p2 s2.length c2] #[.slice p3 t1.length c3, .slice p4 t2.length c4]
  rw [hV]
  have HB := hideT BV
  have H1 := hideT (orow_below h1 BV)
  have H2 := hideT (crow_below h2 BV)
  have H3 := hideT (orow_below h3 BV)
  have H4 := hideT (crow_below h4 BV)
  have y0 : V.cell? ⟨w.heap.size, 0, none⟩ = some (.slice p1 s1.length c1) := LA.cell 0
  have y1 : V.cell? ⟨w.heap.size, 1, none⟩ = some (.slice p2 s2.length c2) := LA.cell 1
  have y2 : V.cell? ⟨w.heap.size + 1, 0, none⟩ = some (.slice p3 t1.length c3) := LR.cell 0
  have y3 : V.cell? ⟨w.heap.size + 1, 1, none⟩ = some (.slice p4 t2.length c4) := LR.cell 1
  clear BV LA LR hV VS h1 h2 h3 h4
  go_region_held3 (fun w' => w'.cell? ⟨w.heap.size, 0, none⟩ = some (.slice p1 s1.length c1) ∧ w'.cell? ⟨w.heap.size, 1, none⟩ = some (.slice p2 s2.length c2) ∧ w'.cell? ⟨w.heap.size + 1, 0, none⟩ = some (.slice p3 t1.length c3) ∧ w'.cell? ⟨w.heap.size + 1, 1, none⟩ = some (.slice p4 t2.length c4)) (go_keep) (first
    | (go_at_call_of 25 (Value.agg #[Value.slice p1 s1.length c1, Value.slice p2 s2.length c2]); refine (sentryOfD p1 p2 c1 c2 s1 s2 _ (orow_below H1.out (below_drewN (Below.refl _ V) 1)) (crow_below H2.out (below_drewN (Below.refl _ V) 1)) k1 k2).mono ?_; rintro e w1 ⟨q1, d1, q2, d2, rfl, n1, n2, b1⟩; have bV1 : Below V.heap.size V w1 := (below_drewN (Below.refl _ V) 1).trans b1; have z1_0 := below_cell bV1 _ _ y0; have z1_1 := below_cell bV1 _ _ y1; have z1_2 := below_cell bV1 _ _ y2; have z1_3 := below_cell bV1 _ _ y3; have N1 := hideT n1; have N2 := hideT n2)
    | (go_at_call_of 25 (Value.agg #[Value.slice p3 t1.length c3, Value.slice p4 t2.length c4]); refine (sentryOfD p3 p4 c3 c4 t1 t2 _ (orow_below H3.out bV1) (crow_below H4.out bV1) k3 k4).mono ?_; rintro e w2 ⟨q3, d3, q4, d4, rfl, n3, n4, b2⟩; have bV2 : Below V.heap.size V w2 := bV1.trans (b2.mono bV1.size); have z2_0 := below_cell bV2 _ _ y0; have z2_1 := below_cell bV2 _ _ y1; have z2_2 := below_cell bV2 _ _ y2; have z2_3 := below_cell bV2 _ _ y3; have N3 := hideT n3; have N4 := hideT n4; have N5 := hideT (N1.out.below b2); have N6 := hideT (N2.out.below b2))
    | (go_at_call 26; refine (sentCmpD _ q1 q2 q3 q4 _ _ _ _ d1 d2 d3 d4 s1 t1 s2 t2 (N5.out.orow k1 Z1.out).here (N6.out.crow k2 Z2.out).here (N3.out.orow k3 Z3.out).here (N4.out.crow k4 Z4.out).here).mono ?_; rintro e w3 ⟨rfl, b3⟩; have bV3 : Below V.heap.size V w3 := bV2.trans (b3.1.mono bV2.size); have z3_0 := below_cell bV3 _ _ y0; have z3_1 := below_cell bV3 _ _ y1; have z3_2 := below_cell bV3 _ _ y2; have z3_3 := below_cell bV3 _ _ y3))
  go_wp2_with fail
  go_ret
  exact ⟨rfl, HB.out.trans (bV3.mono HB.out.size)⟩
end Go.Proofs.YtdcahnaempabcabGreat
