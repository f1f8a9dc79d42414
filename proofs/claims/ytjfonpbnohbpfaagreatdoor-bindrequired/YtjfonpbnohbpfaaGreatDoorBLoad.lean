/-
  The program's Load, where all goes well.
-/
import Derived.Test.YtjfonpbnohbpfaaGreatDoorBFrom3
import Derived.Test.YtjfonpbnohbpfaaGreatDoorPartF
set_option linter.unusedSimpArgs false
set_option linter.unusedVariables false
namespace Go.Proofs.YtjfonpbnohbpfaaGreatDoor
open Go.RowKit
set_option maxRecDepth 100000
theorem parts_nil {b B d lim : Nat} {E : List Ent} {tbl : Bp.Tab Bp.BS} {T : Tr} (h : Bp.klT T = []) : Parts b B d lim E tbl T := fun i x y K _ _ hK => by rw [h] at hK; cases hK
theorem okS_ok {w : World} (h : Ok w) : OkS w := h.2
/-- Three cells of results. -/
def LPost (n : Nat) (m : Mp.Model) (w : World) (e : Ending) (w' : World) : Prop := ∃ af cf ai ci, e = .returned (.tuple #[.agg #[.slice af m.files.length cf, .slice ai m.items.length ci], .int .i64 n, .int .i64 0]) ∧ ModelAt w' af cf ai ci m ∧ Below w.heap.size w w'
set_option maxHeartbeats 4000000 in
theorem loadOk (s : ByteArray) (w : World) (hs : s.size ≤ 8000) (hw : Ok w) (T N : Tr) (m : Mp.Model) (tbl : Bp.Tab Bp.BS) (hp : Xp.parse s.data.toList = .ok T) (hF : fineT 12 T) (hZ : 2 * attN 12 T ≤ 99999999) (hr : resP 12 G0 T = .ok N) (hc : Bp.cnt 12 N ≤ 1000000) (ha : Alike caseE tbl) (hE : ∀ b B, Parts b B 11 1000000 caseE tbl N) (hfr : fromG tbl N = .ok m) :
    Calls Tryz.prog 5 #[.string s] w (LPost s.size m w) := by
  have HP := hideT hp
  have HFF := hideT hF
  have HZ := hideT hZ
  have HR := hideT hr
  have HC := hideT hc
  have HA := hideT ha
  have HE := hideT hE
  have HFR := hideT hfr
  have HOK := hideT hw
  clear hp hF hZ hr hc ha hE hfr hw
  obtain ⟨W, hW⟩ : ∃ W, w.alloc (.cells #[.slice none 0 0, .slice none 0 0] 25) = W := ⟨_, rfl⟩
  obtain ⟨BW, LW, zW⟩ := of_alloc hW
  have HW := hideT hW
  have HBW := hideT BW
  have HLW := hideT LW
  clear hW BW LW zW
  go_enter Tryz.func5, Tryz.ntmps5
  go_wp2_with fail
  try rw [HW.out]
  refine (parseD s W (by omega) (HOK.out.below HBW.out)).mono ?_
  rintro e w1 ⟨pt, b1⟩
  obtain ⟨c0, c1, c2, c3, rfl, t1⟩ := pt.2 T HP.out
  obtain ⟨nm, a, an, ac, k, kn, kc, p, rfl, rfl, rfl, rfl⟩ := t1.form
  have B1 := hideT (HBW.out.trans (b1.mono HBW.out.size))
  have L1 := hideT (HLW.out.below b1)
  have HT1 := hideT t1
  have q1 : w.heap.size + 1 ≤ w1.heap.size := L1.out.lt
  clear pt b1 t1
  go_wp2_with fail
  generalize hV : w1.alloc _ = V
  obtain ⟨BV, LV, zV⟩ := of_alloc hV
  have BV' := hideT (B1.out.trans (BV.mono B1.out.size))
  have TE := hideT (HT1.out.below BV)
  have L2 := hideT (L1.out.below BV)
  refine (ResolveD V 12 _ _ _ _ T (okS_ok (HOK.out.below BV'.out)) TE.out HFF.out HZ.out).mono ?_
  rintro e w2 ⟨b2, _, eo⟩
  obtain ⟨d0, d1, d2, d3, d4, rfl, t2⟩ := eo N HR.out
  obtain ⟨sp2, lo2, ad2, an2, ac2, kd2, kn2, kc2, p2, rfl, rfl, rfl, rfl, rfl⟩ := t2.form
  have B2 := hideT (BV'.out.trans (b2.mono BV'.out.size))
  have L3 := hideT (L2.out.below b2)
  have HT2 := hideT t2
  clear hV BV LV zV eo b2 t2
  go_wp2_with fail
  generalize hU : w2.alloc _ = U
  obtain ⟨BU, LU, zU⟩ := of_alloc hU
  have BU' := hideT (B2.out.trans (BU.mono B2.out.size))
  have TN := hideT (HT2.out.below BU)
  have L4 := hideT (L3.out.below BU)
  refine (fromD U 11 _ _ _ _ _ N tbl TN.out HC.out HA.out HE.out).mono ?_
  rintro e w3 ⟨b3, _, eo⟩
  obtain ⟨af, cf, ai, ci, rfl, ma⟩ := eo m HFR.out
  have B3 := hideT (BU'.out.trans (b3.mono BU'.out.size))
  have L5 := hideT (L4.out.below b3)
  have HMA := hideT ma
  have q3 := L5.out.lt
  have m0 : w3.cell? ⟨w.heap.size, 0, none⟩ = some (.slice none 0 0) := L5.out.cell 0
  have m1 : w3.cell? ⟨w.heap.size, 1, none⟩ = some (.slice none 0 0) := L5.out.cell 1
  have f0 : w3.frozen? ⟨w.heap.size, 0, none⟩ = false := L5.out.free 0
  have f1 : w3.frozen? ⟨w.heap.size, 1, none⟩ = false := L5.out.free 1
  obtain ⟨nf, hnf⟩ : ∃ n, n = m.files.length := ⟨_, rfl⟩
  obtain ⟨ni, hni⟩ : ∃ n, n = m.items.length := ⟨_, rfl⟩
  rw [← hnf, ← hni]
  have HNF := hideT hnf
  have HNI := hideT hni
  clear hU BU LU zU eo b3 ma hnf hni
  go_wp2_with fail
  obtain ⟨X, hX, bX, lX, kX⟩ : ∃ X, ((w3.setCell ⟨w.heap.size, 0, none⟩ (.slice af nf cf)).setCell ⟨w.heap.size, 1, none⟩ (.slice ai ni ci)).alloc (.cells #[.slice af nf cf, .slice ai ni ci] 25) = X ∧ Below w.heap.size w X ∧ Lies X w.heap.size 25 #[.slice af nf cf, .slice ai ni ci] ∧ ModelAt X af cf ai ci m := by
    refine ⟨_, rfl, ((B3.out.setCell (Nat.le_refl _) _).setCell (Nat.le_refl _) _).alloc (by simpa [World.setCell] using B3.out.size) _, ((L5.out.set 0 _).set 1 _).below ((Below.refl _ _).alloc (Nat.le_refl _) _), HMA.out _ (fun a c hac hc => ?_)⟩
    refine below_cell ((Below.refl _ _).alloc (Nat.le_refl _) _) _ _ ?_
    exact keep_set (keep_set (keep_refl _ _) 0 _) 1 _ a c (by have := BU'.out.size; have := L4.out.lt; omega) hc
  rw [hX]
  have r0 : X.cell? ⟨w.heap.size, 0, none⟩ = some (.slice af nf cf) := lX.cell 0
  have r1 : X.cell? ⟨w.heap.size, 1, none⟩ = some (.slice ai ni ci) := lX.cell 1
  refine bodyPost_ret (v := .tuple #[.agg #[.slice af nf cf, .slice ai ni ci], .int .i64 s.size, .int .i64 0]) (by simp [results, Tryz.results5, go_sem, r0, r1]) rfl ⟨af, cf, ai, ci, by rw [HNF.out, HNI.out], kX, bX⟩
end Go.Proofs.YtjfonpbnohbpfaaGreatDoor
