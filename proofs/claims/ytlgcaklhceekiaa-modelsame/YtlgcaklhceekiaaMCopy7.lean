/-
  The program's copies of items.
-/
import Derived.Test.YtlgcaklhceekiaaMCopy6
set_option linter.unusedSimpArgs false
set_option linter.unusedVariables false
namespace Go.Proofs.Ytlgcaklhceekiaa
open Go.RowKit
set_option maxRecDepth 100000
/-- What copyItem answers. -/
def CIPost (x : Mp.Item) (w : World) (e : Ending) (w' : World) : Prop := ∃ q5 d5 q6 d6, e = .returned (.agg #[.string x.id, .int .i64 x.kind, .string x.parent, .bool x.req, .int .i64 x.ticks, .slice q5 x.entry.length d5, .slice q6 x.exit.length d6]) ∧ NewR (w.heap.size + 2) (fun w => itemR w [.string x.id, .int .i64 x.kind, .string x.parent, .bool x.req, .int .i64 x.ticks, .slice q5 x.entry.length d5, .slice q6 x.exit.length d6] x) w' ∧ Below w.heap.size w w'
theorem copyItem_new {V w w2 w3 w4 X : World} {x : Mp.Item} {v5 v6 : Value} (n3 : NewR w2.heap.size (fun w => RowR 2 sentR w v5 x.entry) w3) (n4 : NewR w3.heap.size (fun w => RowR 2 sentR w v6 x.exit) w4) (b3 : Below w2.heap.size w2 w3) (b4 : Below w3.heap.size w3 w4) (kX : KeepBut (w.heap.size + 1) w4 X) (hV : V.heap.size = w.heap.size + 2) (bV : Below V.heap.size V w2) (hz : x.id.size ≤ 140737488355328 ∧ x.parent.size ≤ 140737488355328) : NewR (w.heap.size + 2) (fun w => itemR w [.string x.id, .int .i64 x.kind, .string x.parent, .bool x.req, .int .i64 x.ticks, v5, v6] x) X := by
  have hs := bV.size
  have hs3 := b3.size
  have m1 : NewR (w.heap.size + 2) (fun w => RowR 2 sentR w v5 x.entry) X := ((n3.low (by omega)).below b4).step fun a c ha hc => kX a c (by omega) hc
  have m2 : NewR (w.heap.size + 2) (fun w => RowR 2 sentR w v6 x.exit) X := (n4.low (by omega)).step fun a c ha hc => kX a c (by omega) hc
  exact fun w' hw => ⟨v5, v6, rfl, hz, m1 w' hw, m2 w' hw⟩
set_option maxHeartbeats 8000000 in
theorem copyItemD (x0 : ByteArray) (x1 : Int) (x2 : ByteArray) (x3 : Bool) (x4 : Int) (x5 x6 : List Mp.Sent) (p5 p6 : Option Addr) (c5 c6 : Nat) (w : World) (hz0 : x0.size ≤ 140737488355328) (hz2 : x2.size ≤ 140737488355328) (h5 : SRow w (.slice p5 x5.length c5) x5) (h6 : SRow w (.slice p6 x6.length c6) x6) (hl : lightI ⟨x0, x1, x2, x3, x4, x5, x6⟩) :
    Calls Try.prog 24 #[.agg #[.string x0, .int .i64 x1, .string x2, .bool x3, .int .i64 x4, .slice p5 x5.length c5, .slice p6 x6.length c6]] w (CIPost ⟨x0, x1, x2, x3, x4, x5, x6⟩ w) := by
  go_enter Try.func24, Try.ntmps24
  go_wp2_with fail
  obtain ⟨V, hV, BV, LA, LR, VS⟩ := two_new w 29 #[.string x0, .int .i64 x1, .string x2, .bool x3, .int .i64 x4, .slice p5 x5.length c5, .slice p6 x6.length c6] #[.string ⟨#[]⟩, .int .i64 0, .string ⟨#[]⟩, .bool false, .int .i64 0, .slice none 0 0, .slice none 0 0]
  rw [hV]
  have HB := hideT BV
  have HL := hideT LA
  have HR := hideT LR
  have HS := hideT VS
  clear BV LA LR hV VS
  have R5 := hideT (srow_below h5 HB.out)
  have R6 := hideT (srow_below h6 HB.out)
  have HI := hideT hl
  clear h5 h6 hl
  have y0 : V.cell? ⟨w.heap.size, 0, none⟩ = some (.string x0) := HL.out.cell 0
  have y1 : V.cell? ⟨w.heap.size, 1, none⟩ = some (.int .i64 x1) := HL.out.cell 1
  have y2 : V.cell? ⟨w.heap.size, 2, none⟩ = some (.string x2) := HL.out.cell 2
  have y3 : V.cell? ⟨w.heap.size, 3, none⟩ = some (.bool x3) := HL.out.cell 3
  have y4 : V.cell? ⟨w.heap.size, 4, none⟩ = some (.int .i64 x4) := HL.out.cell 4
  have y5 : V.cell? ⟨w.heap.size, 5, none⟩ = some (.slice p5 x5.length c5) := HL.out.cell 5
  have y6 : V.cell? ⟨w.heap.size, 6, none⟩ = some (.slice p6 x6.length c6) := HL.out.cell 6
  go_region_held3 (fun w' => w'.cell? ⟨w.heap.size, 0, none⟩ = some (.string x0) ∧ w'.cell? ⟨w.heap.size, 1, none⟩ = some (.int .i64 x1) ∧ w'.cell? ⟨w.heap.size, 2, none⟩ = some (.string x2) ∧ w'.cell? ⟨w.heap.size, 3, none⟩ = some (.bool x3) ∧ w'.cell? ⟨w.heap.size, 4, none⟩ = some (.int .i64 x4) ∧ w'.cell? ⟨w.heap.size, 5, none⟩ = some (.slice p5 x5.length c5) ∧ w'.cell? ⟨w.heap.size, 6, none⟩ = some (.slice p6 x6.length c6)) (go_keep) (first
    | (go_at_call_of 22 (Value.string x0); refine (cloneM x0 _ hz0).mono ?_; rintro e w1 ⟨rfl, b1⟩; have bV1 : Below V.heap.size V w1 := (below_drewN (Below.refl _ V) 1).trans b1; have z1_0 := below_cell bV1 _ _ y0; have z1_1 := below_cell bV1 _ _ y1; have z1_2 := below_cell bV1 _ _ y2; have z1_3 := below_cell bV1 _ _ y3; have z1_4 := below_cell bV1 _ _ y4; have z1_5 := below_cell bV1 _ _ y5; have z1_6 := below_cell bV1 _ _ y6)
    | (go_at_call_of 22 (Value.string x2); refine (cloneM x2 _ hz2).mono ?_; rintro e w2 ⟨rfl, b2⟩; have bV2 : Below V.heap.size V w2 := bV1.trans (b2.mono bV1.size); have z2_0 := below_cell bV2 _ _ y0; have z2_1 := below_cell bV2 _ _ y1; have z2_2 := below_cell bV2 _ _ y2; have z2_3 := below_cell bV2 _ _ y3; have z2_4 := below_cell bV2 _ _ y4; have z2_5 := below_cell bV2 _ _ y5; have z2_6 := below_cell bV2 _ _ y6)
    | (go_at_call_of 31 (Value.slice p5 x5.length c5); refine (copyEachS _ p5 _ c5 x5 (srow_below R5.out bV2) (Nat.le_of_lt (Nat.lt_trans HI.out.1 (by decide))) HI.out.2.2.1).mono ?_; rintro e w3 ⟨q5, d5, rfl, n3, b3⟩; have bV3 : Below V.heap.size V w3 := bV2.trans (b3.mono bV2.size); have z3_0 := below_cell bV3 _ _ y0; have z3_1 := below_cell bV3 _ _ y1; have z3_2 := below_cell bV3 _ _ y2; have z3_3 := below_cell bV3 _ _ y3; have z3_4 := below_cell bV3 _ _ y4; have z3_5 := below_cell bV3 _ _ y5; have z3_6 := below_cell bV3 _ _ y6; have N3 := hideT n3)
    | (go_at_call_of 31 (Value.slice p6 x6.length c6); refine (copyEachS _ p6 _ c6 x6 (srow_below R6.out bV3) (Nat.le_of_lt (Nat.lt_trans HI.out.2.1 (by decide))) HI.out.2.2.2).mono ?_; rintro e w4 ⟨q6, d6, rfl, n4, b4⟩; have bV4 : Below V.heap.size V w4 := bV3.trans (b4.mono bV3.size); have z4_0 := below_cell bV4 _ _ y0; have z4_1 := below_cell bV4 _ _ y1; have z4_2 := below_cell bV4 _ _ y2; have z4_3 := below_cell bV4 _ _ y3; have z4_4 := below_cell bV4 _ _ y4; have z4_5 := below_cell bV4 _ _ y5; have z4_6 := below_cell bV4 _ _ y6; have LN := HR.out.below bV4; have m0 : w4.cell? ⟨w.heap.size + 1, 0, none⟩ = some (.string ⟨#[]⟩) := LN.cell 0; have g0 : w4.frozen? ⟨w.heap.size + 1, 0, none⟩ = false := LN.free 0; have m1 : w4.cell? ⟨w.heap.size + 1, 1, none⟩ = some (.int .i64 0) := LN.cell 1; have g1 : w4.frozen? ⟨w.heap.size + 1, 1, none⟩ = false := LN.free 1; have m2 : w4.cell? ⟨w.heap.size + 1, 2, none⟩ = some (.string ⟨#[]⟩) := LN.cell 2; have g2 : w4.frozen? ⟨w.heap.size + 1, 2, none⟩ = false := LN.free 2; have m3 : w4.cell? ⟨w.heap.size + 1, 3, none⟩ = some (.bool false) := LN.cell 3; have g3 : w4.frozen? ⟨w.heap.size + 1, 3, none⟩ = false := LN.free 3; have m4 : w4.cell? ⟨w.heap.size + 1, 4, none⟩ = some (.int .i64 0) := LN.cell 4; have g4 : w4.frozen? ⟨w.heap.size + 1, 4, none⟩ = false := LN.free 4; have m5 : w4.cell? ⟨w.heap.size + 1, 5, none⟩ = some (.slice none 0 0) := LN.cell 5; have g5 : w4.frozen? ⟨w.heap.size + 1, 5, none⟩ = false := LN.free 5; have m6 : w4.cell? ⟨w.heap.size + 1, 6, none⟩ = some (.slice none 0 0) := LN.cell 6; have g6 : w4.frozen? ⟨w.heap.size + 1, 6, none⟩ = false := LN.free 6; have N4 := hideT n4))
  obtain ⟨X, hX, bX, lX, kX⟩ : ∃ X, (((((((w4.setCell ⟨w.heap.size + 1, 0, none⟩ (.string x0)).setCell ⟨w.heap.size + 1, 1, none⟩ (.int .i64 x1)).setCell ⟨w.heap.size + 1, 2, none⟩ (.string x2)).setCell ⟨w.heap.size + 1, 3, none⟩ (.bool x3)).setCell ⟨w.heap.size + 1, 4, none⟩ (.int .i64 x4)).setCell ⟨w.heap.size + 1, 5, none⟩ (.slice q5 x5.length d5)).setCell ⟨w.heap.size + 1, 6, none⟩ (.slice q6 x6.length d6)) = X ∧ Below w.heap.size w X ∧ Lies X (w.heap.size + 1) 29 #[.string x0, .int .i64 x1, .string x2, .bool x3, .int .i64 x4, .slice q5 x5.length d5, .slice q6 x6.length d6] ∧ KeepBut (w.heap.size + 1) w4 X := ⟨_, rfl, ((((((((HB.out.trans (bV4.mono HB.out.size)).setCell (Nat.le_succ _) _).setCell (Nat.le_succ _) _).setCell (Nat.le_succ _) _).setCell (Nat.le_succ _) _).setCell (Nat.le_succ _) _).setCell (Nat.le_succ _) _).setCell (Nat.le_succ _) _), (((((((LN.set 0 _).set 1 _).set 2 _).set 3 _).set 4 _).set 5 _).set 6 _), (keep_set (keep_set (keep_set (keep_set (keep_set (keep_set (keep_set (keep_refl _ _) 0 _) 1 _) 2 _) 3 _) 4 _) 5 _) 6 _)⟩
  rw [hX]
  go_wp2_with fail
  have r0 : X.cell? ⟨w.heap.size + 1, 0, none⟩ = some (.string x0) := lX.cell 0
  have r1 : X.cell? ⟨w.heap.size + 1, 1, none⟩ = some (.int .i64 x1) := lX.cell 1
  have r2 : X.cell? ⟨w.heap.size + 1, 2, none⟩ = some (.string x2) := lX.cell 2
  have r3 : X.cell? ⟨w.heap.size + 1, 3, none⟩ = some (.bool x3) := lX.cell 3
  have r4 : X.cell? ⟨w.heap.size + 1, 4, none⟩ = some (.int .i64 x4) := lX.cell 4
  have r5 : X.cell? ⟨w.heap.size + 1, 5, none⟩ = some (.slice q5 x5.length d5) := lX.cell 5
  have r6 : X.cell? ⟨w.heap.size + 1, 6, none⟩ = some (.slice q6 x6.length d6) := lX.cell 6
  refine bodyPost_ret (v := .agg #[.string x0, .int .i64 x1, .string x2, .bool x3, .int .i64 x4, .slice q5 x5.length d5, .slice q6 x6.length d6]) (by simp [results, Try.results24, go_sem, r0, r1, r2, r3, r4, r5, r6]) rfl ⟨q5, d5, q6, d6, rfl, copyItem_new (V := V) (x := ⟨x0, x1, x2, x3, x4, x5, x6⟩) n3 n4 b3 b4 kX HS.out bV2 ⟨hz0, hz2⟩, bX⟩
end Go.Proofs.Ytlgcaklhceekiaa
