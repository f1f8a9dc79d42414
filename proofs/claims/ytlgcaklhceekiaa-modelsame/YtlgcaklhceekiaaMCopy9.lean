/-
  The program's Copy.
-/
import Derived.Test.YtlgcaklhceekiaaMCopy8
set_option linter.unusedSimpArgs false
set_option linter.unusedVariables false
namespace Go.Proofs.Ytlgcaklhceekiaa
open Go.RowKit
set_option maxRecDepth 100000
/-- What Copy answers. -/
def CMPost (m : Mp.Model) (w : World) (e : Ending) (w' : World) : Prop := ∃ af cf ai ci, e = .returned (.agg #[.slice af m.files.length cf, .slice ai m.items.length ci]) ∧ NewR (w.heap.size + 2) (fun w => ModelAt w af cf ai ci m) w' ∧ Below w.heap.size w w'
theorem copyM_new {V w w1 w2 X : World} {m : Mp.Model} {af ai : Option Addr} {cf ci : Nat} (n1 : NewR V.heap.size (fun w => RowR 1 strR w (.slice af m.files.length cf) m.files) w1) (n2 : NewR w1.heap.size (fun w => RowR 7 itemR w (.slice ai m.items.length ci) m.items) w2) (b2 : Below w1.heap.size w1 w2) (kX : KeepBut (w.heap.size + 1) w2 X) (hV : V.heap.size = w.heap.size + 2) (bV : Below V.heap.size V w1) : NewR (w.heap.size + 2) (fun w => ModelAt w af cf ai ci m) X := by
  have hs := bV.size
  have m1 : NewR (w.heap.size + 2) (fun w => RowR 1 strR w (.slice af m.files.length cf) m.files) X := ((n1.low (by omega)).below b2).step fun a c ha hc => kX a c (by omega) hc
  have m2 : NewR (w.heap.size + 2) (fun w => RowR 7 itemR w (.slice ai m.items.length ci) m.items) X := (n2.low (by omega)).step fun a c ha hc => kX a c (by omega) hc
  exact fun w' hw => ⟨m1 w' hw, m2 w' hw⟩
set_option maxHeartbeats 8000000 in
theorem copyD (p1 p2 : Option Addr) (c1 c2 : Nat) (s1 : List ByteArray) (s2 : List Mp.Item) (w : World) (h1 : FRow w (.slice p1 s1.length c1) s1) (h2 : IRow w (.slice p2 s2.length c2) s2) (hl : light ⟨s1, s2⟩) :
    Calls Try.prog 12 #[.agg #[.slice p1 s1.length c1, .slice p2 s2.length c2]] w (CMPost ⟨s1, s2⟩ w) := by
  go_enter Try.func12, Try.ntmps12
  go_wp2_with fail
  obtain ⟨V, hV, BV, LA, LR, VS⟩ := two_new w 25 #[.slice p1 s1.length c1, .slice p2 s2.length c2] #[.slice none 0 0, .slice none 0 0]
  rw [hV]
  have HB := hideT BV
  have HL := hideT LA
  have HR := hideT LR
  have HS := hideT VS
  clear BV LA LR hV VS
  have R1 := hideT (frow_below h1 (below_drewN HB.out 1))
  have R2 := hideT (irow_below h2 HB.out)
  have HI := hideT hl
  clear h1 h2 hl
  have y0 : V.cell? ⟨w.heap.size, 0, none⟩ = some (.slice p1 s1.length c1) := HL.out.cell 0
  have y1 : V.cell? ⟨w.heap.size, 1, none⟩ = some (.slice p2 s2.length c2) := HL.out.cell 1
  go_region_held3 (fun w' => w'.cell? ⟨w.heap.size, 0, none⟩ = some (.slice p1 s1.length c1) ∧ w'.cell? ⟨w.heap.size, 1, none⟩ = some (.slice p2 s2.length c2)) (go_keep) (first
    | (go_at_call_of 21 (Value.slice p1 s1.length c1); refine (copyEachF _ p1 _ c1 s1 R1.out (Nat.le_of_lt (Nat.lt_trans HI.out.1 (by decide)))).mono ?_; rintro e w1 ⟨q1, d1, rfl, n1, b1⟩; have bV1 : Below V.heap.size V w1 := (below_drewN (Below.refl _ V) 1).trans b1; have z1_0 := below_cell bV1 _ _ y0; have z1_1 := below_cell bV1 _ _ y1; have N1 := hideT n1)
    | (go_at_call_of 23 (Value.slice p2 s2.length c2); refine (copyEachI _ p2 _ c2 s2 (irow_below R2.out bV1) (Nat.le_of_lt (Nat.lt_trans HI.out.2.1 (by decide))) HI.out.2.2).mono ?_; rintro e w2 ⟨q2, d2, rfl, n2, b2⟩; have bV2 : Below V.heap.size V w2 := bV1.trans (b2.mono bV1.size); have z2_0 := below_cell bV2 _ _ y0; have z2_1 := below_cell bV2 _ _ y1; have LN := HR.out.below bV2; have m0 : w2.cell? ⟨w.heap.size + 1, 0, none⟩ = some (.slice none 0 0) := LN.cell 0; have g0 : w2.frozen? ⟨w.heap.size + 1, 0, none⟩ = false := LN.free 0; have m1 : w2.cell? ⟨w.heap.size + 1, 1, none⟩ = some (.slice none 0 0) := LN.cell 1; have g1 : w2.frozen? ⟨w.heap.size + 1, 1, none⟩ = false := LN.free 1; have N2 := hideT n2))
  obtain ⟨X, hX, bX, lX, kX⟩ : ∃ X, ((w2.setCell ⟨w.heap.size + 1, 0, none⟩ (.slice q1 s1.length d1)).setCell ⟨w.heap.size + 1, 1, none⟩ (.slice q2 s2.length d2)) = X ∧ Below w.heap.size w X ∧ Lies X (w.heap.size + 1) 25 #[.slice q1 s1.length d1, .slice q2 s2.length d2] ∧ KeepBut (w.heap.size + 1) w2 X := ⟨_, rfl, (((HB.out.trans (bV2.mono HB.out.size)).setCell (Nat.le_succ _) _).setCell (Nat.le_succ _) _), ((LN.set 0 _).set 1 _), (keep_set (keep_set (keep_refl _ _) 0 _) 1 _)⟩
  rw [hX]
  go_wp2_with fail
  have r0 : X.cell? ⟨w.heap.size + 1, 0, none⟩ = some (.slice q1 s1.length d1) := lX.cell 0
  have r1 : X.cell? ⟨w.heap.size + 1, 1, none⟩ = some (.slice q2 s2.length d2) := lX.cell 1
  refine bodyPost_ret (v := .agg #[.slice q1 s1.length d1, .slice q2 s2.length d2]) (by simp [results, Try.results12, go_sem, r0, r1]) rfl ⟨q1, d1, q2, d2, rfl, copyM_new (V := V) (m := ⟨s1, s2⟩) n1 n2 b2 kX HS.out bV1, bX⟩
end Go.Proofs.Ytlgcaklhceekiaa
