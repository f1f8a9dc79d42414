/-
  The program's inOrder of an item.
-/
import Derived.Test.YtdcahnaempabcabGreatNSio
set_option linter.unusedSimpArgs false
set_option linter.unusedVariables false
namespace Go.Proofs.YtdcahnaempabcabGreat
open Go.RowKit
set_option maxRecDepth 100000
/-- What inOrder answers. -/
def IOPost (x : Mp.Item) (w : World) (e : Ending) (w' : World) : Prop := ∃ a5 c5 a6 c6, e = .returned (.agg #[.string x.id, .int .i64 x.kind, .string x.parent, .bool x.req, .int .i64 x.ticks, .slice a5 x.entry.length c5, .slice a6 x.exit.length c6]) ∧ NewR (w.heap.size + 3) (fun w => itemR w (itemC x (.slice a5 x.entry.length c5) (.slice a6 x.exit.length c6)) x) w' ∧ Below w.heap.size w w'
theorem three_new (w : World) (t t' t2 : TypeId) (C D E : Array Value) : ∃ V, ((w.alloc (.cells C t)).alloc (.cells D t')).alloc (.cells E t2) = V ∧ Below w.heap.size w V ∧ Lies V w.heap.size t C ∧ Lies V (w.heap.size + 1) t' D ∧ Lies V (w.heap.size + 2) t2 E ∧ V.heap.size = w.heap.size + 3 := by
  obtain ⟨V, hV, BV, LA, LR, VS⟩ := two_newU w t t' C D
  refine ⟨_, rfl, ?_, ?_, ?_, ?_, ?_⟩
  · rw [hV]; exact BV.alloc BV.size _
  · rw [hV]; exact LA.below ((Below.refl _ _).alloc (Nat.le_refl _) _)
  · rw [hV]; exact LR.below ((Below.refl _ _).alloc (Nat.le_refl _) _)
  · rw [hV]
    have := Lies.new V t2 E
    rwa [VS] at this
  · rw [hV]; simp [VS]
theorem item_new {V w w1 w2 X : World} {x : Mp.Item} {v5 v6 : Value} (n1 : NewR V.heap.size (fun w => RowR 2 sentR w v5 x.entry) w1) (n2 : NewR w1.heap.size (fun w => RowR 2 sentR w v6 x.exit) w2) (b2 : Below w1.heap.size w1 w2) (kX : ∀ (a : Addr) c, w.heap.size + 3 ≤ a.block → w2.cell? a = some c → X.cell? a = some c) (hV : V.heap.size = w.heap.size + 3) (bV : Below V.heap.size V w1) (hz : x.id.size ≤ 140737488355328 ∧ x.parent.size ≤ 140737488355328) :
    NewR (w.heap.size + 3) (fun w => itemR w (itemC x v5 v6) x) X := by
  have hs := bV.size
  have m1 : NewR (w.heap.size + 3) (fun w => RowR 2 sentR w v5 x.entry) X := ((n1.low (by omega)).below b2).step kX
  have m2 : NewR (w.heap.size + 3) (fun w => RowR 2 sentR w v6 x.exit) X := (n2.low (by omega)).step kX
  exact fun w' hw => ⟨v5, v6, rfl, hz, m1 w' hw, m2 w' hw⟩
theorem cell_set_off {w : World} {b j : Nat} {u : Value} {a : Addr} {c : Value} (h : w.cell? a = some c) (hn : a.block ≠ b) : (w.setCell ⟨b, j, none⟩ u).cell? a = some c := by
  have := set_other w b j u a.block hn
  unfold World.cell? at h ⊢
  rw [this]
  exact h
set_option maxHeartbeats 8000000 in
theorem inOrderD (w : World) (x : Mp.Item) (aw : Option Addr) (nw cw : Nat) (a5 : Option Addr) (c5 : Nat) (a6 : Option Addr) (c6 : Nat) (h5 : SRow w (.slice a5 x.entry.length c5) x.entry) (h6 : SRow w (.slice a6 x.exit.length c6) x.exit) (hL : lightI x) (hz : x.id.size ≤ 140737488355328 ∧ x.parent.size ≤ 140737488355328) :
    Calls Tryz.prog 24 #[.agg #[.slice aw nw cw, .string x.id, .int .i64 x.kind, .string x.parent, .bool x.req, .int .i64 x.ticks, .slice a5 x.entry.length c5, .slice a6 x.exit.length c6]] w (IOPost (Np.itemN x) w) := by
  obtain ⟨xid, xki, xpa, xre, xti, xen, xex⟩ := x
  obtain ⟨k5, k6, k7, k8⟩ := hL
  dsimp only at k5 k6 k7 k8 h5 h6 hz ⊢
  obtain ⟨V, hV, BV, LA, LR, LO, VS⟩ := three_new w 51 29 29 #[.slice aw nw cw, .string xid, .int .i64 xki, .string xpa, .bool xre, .int .i64 xti, .slice a5 xen.length c5, .slice a6 xex.length c6] #[.string ⟨#[]⟩, .int .i64 0, .string ⟨#[]⟩, .bool false, .int .i64 0, .slice none 0 0, .slice none 0 0] #[.string xid, .int .i64 xki, .string xpa, .bool xre, .int .i64 xti, .slice a5 xen.length c5, .slice a6 xex.length c6]
  have R5 := hideT (srow_below h5 BV)
  have R6 := hideT (srow_below h6 BV)
  have HB := hideT BV
  have HLR := hideT LR
  have HLO := hideT LO
  have HVS := hideT VS
  have K7 := hideT k7
  have K8 := hideT k8
  go_enter Tryz.func24, Tryz.ntmps24
  go_wp2_with fail
  have y5 : V.cell? ⟨w.heap.size + 1 + 1, 5, none⟩ = some (.slice a5 xen.length c5) := LO.cell 5
  have y6 : V.cell? ⟨w.heap.size + 1 + 1, 6, none⟩ = some (.slice a6 xex.length c6) := LO.cell 6
  clear BV LA LR LO hV VS h5 h6 k7 k8
  go_region_with (first
    | (go_at_call_of 50 (Value.slice a5 xen.length c5); refine (sioD _ a5 _ c5 xen (srow_below R5.out (by first | exact Below.refl _ _ | exact below_drewN (Below.refl _ V) 1)) (by omega) K7.out).mono ?_; rintro e w1 ⟨q1, d1, rfl, n1, b1⟩; have bV1 : Below V.heap.size V w1 := (by first | exact b1 | exact (below_drewN (Below.refl _ V) 1).trans b1); have z1_5 := below_cell bV1 _ _ y5; have z1_6 := below_cell bV1 _ _ y6)
    | (go_at_call_of 50 (Value.slice a6 xex.length c6); refine (sioD _ a6 _ c6 xex (srow_below R6.out bV1) (by omega) K8.out).mono ?_; rintro e w2 ⟨q2, d2, rfl, n2, b2⟩; have bV2 : Below V.heap.size V w2 := bV1.trans (b2.mono bV1.size); have LN := HLO.out.below bV2; have m5 : w2.cell? ⟨w.heap.size + 1 + 1, 5, none⟩ = some (.slice a5 xen.length c5) := LN.cell 5; have g5 : w2.frozen? ⟨w.heap.size + 1 + 1, 5, none⟩ = false := LN.free 5; have m6 : w2.cell? ⟨w.heap.size + 1 + 1, 6, none⟩ = some (.slice a6 xex.length c6) := LN.cell 6; have g6 : w2.frozen? ⟨w.heap.size + 1 + 1, 6, none⟩ = false := LN.free 6))
  all_goals
    obtain ⟨X, hX, bX, lX, lR, sX, kX⟩ : ∃ X, ((w2.setCell ⟨w.heap.size + 1 + 1, 5, none⟩ (.slice q1 (Np.sentsN xen).length d1)).setCell ⟨w.heap.size + 1 + 1, 6, none⟩ (.slice q2 (Np.sentsN xex).length d2)) = X ∧ Below w.heap.size w X ∧ Lies X (w.heap.size + 1 + 1) 29 #[.string xid, .int .i64 xki, .string xpa, .bool xre, .int .i64 xti, .slice q1 (Np.sentsN xen).length d1, .slice q2 (Np.sentsN xex).length d2] ∧ Lies X (w.heap.size + 1) 29 #[.string ⟨#[]⟩, .int .i64 0, .string ⟨#[]⟩, .bool false, .int .i64 0, .slice none 0 0, .slice none 0 0] ∧ X.heap.size = w2.heap.size ∧ (∀ (a : Addr) c, w.heap.size + 3 ≤ a.block → w2.cell? a = some c → X.cell? a = some c) := ⟨_, rfl, (((HB.out.trans (bV2.mono HB.out.size)).setCell (by show w.heap.size ≤ w.heap.size + 1 + 1; omega) _).setCell (by show w.heap.size ≤ w.heap.size + 1 + 1; omega) _), ((LN.set 5 _).set 6 _), (((HLR.out.below bV2).off ⟨w.heap.size + 1 + 1, 5, none⟩ _ (by show w.heap.size + 1 ≠ w.heap.size + 1 + 1; omega)).off ⟨w.heap.size + 1 + 1, 6, none⟩ _ (by show w.heap.size + 1 ≠ w.heap.size + 1 + 1; omega)), by simp [World.setCell], fun a c ha hc => cell_set_off (cell_set_off hc (by omega)) (by omega)⟩
    rw [hX]
    have BX := hideT bX
    have KX := hideT kX
    have N1 := hideT n1
    have N2 := hideT n2
    have B2 := hideT b2
    have BV1 := hideT bV1
    have LR := hideT lR
    have o0 : X.cell? ⟨w.heap.size + 1 + 1, 0, none⟩ = some (.string xid) := lX.cell 0
    have o1 : X.cell? ⟨w.heap.size + 1 + 1, 1, none⟩ = some (.int .i64 xki) := lX.cell 1
    have o2 : X.cell? ⟨w.heap.size + 1 + 1, 2, none⟩ = some (.string xpa) := lX.cell 2
    have o3 : X.cell? ⟨w.heap.size + 1 + 1, 3, none⟩ = some (.bool xre) := lX.cell 3
    have o4 : X.cell? ⟨w.heap.size + 1 + 1, 4, none⟩ = some (.int .i64 xti) := lX.cell 4
    have o5 : X.cell? ⟨w.heap.size + 1 + 1, 5, none⟩ = some (.slice q1 (Np.sentsN xen).length d1) := lX.cell 5
    have o6 : X.cell? ⟨w.heap.size + 1 + 1, 6, none⟩ = some (.slice q2 (Np.sentsN xex).length d2) := lX.cell 6
    have s0 : X.cell? ⟨w.heap.size + 1, 0, none⟩ = some (.string ⟨#[]⟩) := lR.cell 0
    have s1 : X.cell? ⟨w.heap.size + 1, 1, none⟩ = some (.int .i64 0) := lR.cell 1
    have s2 : X.cell? ⟨w.heap.size + 1, 2, none⟩ = some (.string ⟨#[]⟩) := lR.cell 2
    have s3 : X.cell? ⟨w.heap.size + 1, 3, none⟩ = some (.bool false) := lR.cell 3
    have s4 : X.cell? ⟨w.heap.size + 1, 4, none⟩ = some (.int .i64 0) := lR.cell 4
    have s5 : X.cell? ⟨w.heap.size + 1, 5, none⟩ = some (.slice none 0 0) := lR.cell 5
    have s6 : X.cell? ⟨w.heap.size + 1, 6, none⟩ = some (.slice none 0 0) := lR.cell 6
    have t0 : X.frozen? ⟨w.heap.size + 1, 0, none⟩ = false := lR.free 0
    have t1 : X.frozen? ⟨w.heap.size + 1, 1, none⟩ = false := lR.free 1
    have t2 : X.frozen? ⟨w.heap.size + 1, 2, none⟩ = false := lR.free 2
    have t3 : X.frozen? ⟨w.heap.size + 1, 3, none⟩ = false := lR.free 3
    have t4 : X.frozen? ⟨w.heap.size + 1, 4, none⟩ = false := lR.free 4
    have t5 : X.frozen? ⟨w.heap.size + 1, 5, none⟩ = false := lR.free 5
    have t6 : X.frozen? ⟨w.heap.size + 1, 6, none⟩ = false := lR.free 6
    clear n1 n2 b1 b2 bV1 bV2 LN m5 m6 g5 g6 y5 y6 z1_5 z1_6 bX kX lX lR hX
    go_wp2_with fail
    clear o0 o1 o2 o3 o4 o5 o6 s0 s1 s2 s3 s4 s5 s6 t0 t1 t2 t3 t4 t5 t6
    change bodyPost _ _ _ _ _ (setAll X (w.heap.size + 1) 0 [.string xid, .int .i64 xki, .string xpa, .bool xre, .int .i64 xti, .slice q1 (Np.sentsN xen).length d1, .slice q2 (Np.sentsN xex).length d2])
    obtain ⟨Y, hY⟩ : ∃ Y, setAll X (w.heap.size + 1) 0 [.string xid, .int .i64 xki, .string xpa, .bool xre, .int .i64 xti, .slice q1 (Np.sentsN xen).length d1, .slice q2 (Np.sentsN xex).length d2] = Y := ⟨_, rfl⟩
    have bY : Below w.heap.size w Y := by rw [← hY]; exact setAll_below (Nat.le_succ _) _ _ _ BX.out
    have lY : Lies Y (w.heap.size + 1) 29 #[.string xid, .int .i64 xki, .string xpa, .bool xre, .int .i64 xti, .slice q1 (Np.sentsN xen).length d1, .slice q2 (Np.sentsN xex).length d2] := by rw [← hY]; exact ((((((LR.out.set 0 _).set 1 _).set 2 _).set 3 _).set 4 _).set 5 _).set 6 _
    have kY : ∀ (a : Addr) c, w.heap.size + 3 ≤ a.block → w2.cell? a = some c → Y.cell? a = some c := fun a c ha hc => by rw [← hY]; exact setAll_keep _ X 0 (keep_refl _ _) a c (by omega) (KX.out a c ha hc)
    rw [hY]
    have r0 : Y.cell? ⟨w.heap.size + 1, 0, none⟩ = some (.string xid) := lY.cell 0
    have r1 : Y.cell? ⟨w.heap.size + 1, 1, none⟩ = some (.int .i64 xki) := lY.cell 1
    have r2 : Y.cell? ⟨w.heap.size + 1, 2, none⟩ = some (.string xpa) := lY.cell 2
    have r3 : Y.cell? ⟨w.heap.size + 1, 3, none⟩ = some (.bool xre) := lY.cell 3
    have r4 : Y.cell? ⟨w.heap.size + 1, 4, none⟩ = some (.int .i64 xti) := lY.cell 4
    have r5 : Y.cell? ⟨w.heap.size + 1, 5, none⟩ = some (.slice q1 (Np.sentsN xen).length d1) := lY.cell 5
    have r6 : Y.cell? ⟨w.heap.size + 1, 6, none⟩ = some (.slice q2 (Np.sentsN xex).length d2) := lY.cell 6
    exact bodyPost_ret (v := .agg #[.string xid, .int .i64 xki, .string xpa, .bool xre, .int .i64 xti, .slice q1 (Np.sentsN xen).length d1, .slice q2 (Np.sentsN xex).length d2]) (by simp [results, Tryz.results24, go_sem, r0, r1, r2, r3, r4, r5, r6]) rfl ⟨q1, d1, q2, d2, rfl, item_new (V := V) (x := Np.itemN ⟨xid, xki, xpa, xre, xti, xen, xex⟩) N1.out N2.out B2.out kY HVS.out BV1.out hz, bY⟩
end Go.Proofs.YtdcahnaempabcabGreat
