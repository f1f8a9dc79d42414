/-
  The program's Is: a model that is in its order.
-/
import Derived.Test.YtdcahnaempabcabGreatNNorm
import Derived.Test.YtdcahnaempabcabGreatPartW
set_option linter.unusedSimpArgs false
set_option linter.unusedVariables false
namespace Go.Proofs.YtdcahnaempabcabGreat
open Go.RowKit
set_option maxRecDepth 100000
def isNB (m : Mp.Model) : Bool := Mp.isB m && Mp.eqM m (Np.normB m)
theorem normA_yes {m : Mp.Model} (h : Mp.isB m = true) : normA m = Np.normB m := if_pos h
theorem normalV (w : World) (m : Mp.Model) (af ai : Option Addr) (cf ci nf ni : Nat) (hm : ModelAt w af cf ai ci m) (hf : m.files.length = nf) (hi : m.items.length = ni) (N : Mp.Model) (hN : Hid (normA m = N)) :
    Calls Tryz.prog 6 #[.agg #[.slice af nf cf, .slice ai ni ci]] w (NMPost N w) := by
  rw [← hN.out, ← hf, ← hi]
  exact normalD w m af ai cf ci hm
theorem sameV (w : World) (p1 p2 q1 q2 : Option Addr) (c1 c2 d1 d2 nf ni : Nat) (x y : Mp.Model) (hx : ModelAt w p1 c1 p2 c2 x) (hy : ModelAt w q1 d1 q2 d2 y) (hf : x.files.length = nf) (hi : x.items.length = ni) (b : Bool) (hb : Hid (Mp.eqM x y = b)) :
    Calls Tryz.prog 63 #[.agg #[.slice p1 nf c1, .slice p2 ni c2], .agg #[.slice q1 y.files.length d1, .slice q2 y.items.length d2]] w fun e w' => e = .returned (.bool b) ∧ Below w.heap.size w w' := by
  rw [← hf, ← hi]
  exact sameD w p1 p2 q1 q2 c1 c2 d1 d2 x y hx hy b hb
set_option maxHeartbeats 4000000 in
theorem isND (w : World) (m : Mp.Model) (af ai : Option Addr) (cf ci : Nat) (hm : ModelAt w af cf ai ci m) (b : Bool) (hb : Hid (isNB m = b)) :
    Calls Tryz.prog 29 #[.agg #[.slice af m.files.length cf, .slice ai m.items.length ci]] w fun e w' => e = .returned (.bool b) ∧ Below w.heap.size w w' := by
  obtain ⟨V, hV⟩ : ∃ V, w.alloc (.cells #[.slice af m.files.length cf, .slice ai m.items.length ci] 32) = V := ⟨_, rfl⟩
  have BV : Hid (Below w.heap.size w V) := by rw [← hV]; exact (Below.refl _ w).alloc (Nat.le_refl _) _
  have LV : Hid (Lies V w.heap.size 32 #[.slice af m.files.length cf, .slice ai m.items.length ci]) := by rw [← hV]; exact Lies.new _ _ _
  have HM := hideT (hm.below BV.out)
  have v0 : V.cell? ⟨w.heap.size, 0, none⟩ = some (.slice af m.files.length cf) := LV.out.cell 0
  have v1 : V.cell? ⟨w.heap.size, 1, none⟩ = some (.slice ai m.items.length ci) := LV.out.cell 1
  clear hm
  obtain ⟨bI, hI⟩ : ∃ bI, Hid (Mp.isB m = bI) := ⟨_, rfl⟩
  obtain ⟨nf, hnf⟩ : ∃ nf, m.files.length = nf := ⟨_, rfl⟩
  obtain ⟨ni, hni⟩ : ∃ ni, m.items.length = ni := ⟨_, rfl⟩
  have HNF := hideT hnf
  have HNI := hideT hni
  rw [hnf] at v0 hV LV ⊢
  rw [hni] at v1 hV LV ⊢
  clear hnf hni
  go_enter Tryz.func29, Tryz.ntmps29
  go_wp2_with fail
  cases bI
  · have hbf : b = false := by rw [← hb.out]; unfold isNB; rw [hI.out]; rfl
    subst hbf
    go_region_with (first | (go_at_call 17; refine (isVV _ m af ai cf ci nf ni (HM.out.below (below_drewN (Below.refl _ V) 1)) HNF.out HNI.out false hI).mono ?_; rintro e w1 ⟨rfl, b1⟩; have bV1 : Below V.heap.size V w1 := (below_drewN (Below.refl _ V) 1).trans b1; have z1_0 := below_cell bV1 _ _ v0; have z1_1 := below_cell bV1 _ _ v1))
    all_goals
      have BE := hideT bV1
      clear b1 bV1 z1_0 z1_1 v0 v1
      go_wp2_with fail
      go_ret
      exact ⟨rfl, BV.out.trans (BE.out.mono BV.out.size)⟩
  · have HN : Hid (normA m = Np.normB m) := normA_yes hI.out
    have HQ : Hid (Mp.eqM m (Np.normB m) = b) := by
      show _ = _
      rw [← hb.out]
      unfold isNB
      rw [hI.out]
      rfl
    go_region_held3 (fun w' => w'.cell? ⟨w.heap.size, 0, none⟩ = some (.slice af nf cf) ∧ w'.cell? ⟨w.heap.size, 1, none⟩ = some (.slice ai ni ci)) (go_keep) (first
      | (go_at_call 17; refine (isVV _ m af ai cf ci nf ni (HM.out.below (below_drewN (Below.refl _ V) 1)) HNF.out HNI.out true hI).mono ?_; rintro e w1 ⟨rfl, b1⟩; have bV1 : Below V.heap.size V w1 := (below_drewN (Below.refl _ V) 1).trans b1; have z1_0 := below_cell bV1 _ _ v0; have z1_1 := below_cell bV1 _ _ v1)
      | (go_at_call 6; refine (normalV _ m af ai cf ci nf ni (HM.out.below bV1) HNF.out HNI.out (Np.normB m) HN).mono ?_; rintro e w2 ⟨a1, d1, a2, d2, rfl, n2, b2⟩; have bV2 : Below V.heap.size V w2 := bV1.trans (b2.mono bV1.size); have z2_0 := below_cell bV2 _ _ v0; have z2_1 := below_cell bV2 _ _ v1; have N2 := hideT n2.here)
      | (go_at_call 63; refine (sameV _ af ai a1 a2 cf ci d1 d2 nf ni m (Np.normB m) (HM.out.below bV2) N2.out HNF.out HNI.out b HQ).mono ?_; rintro e w3 ⟨rfl, b3⟩; have bV3 : Below V.heap.size V w3 := bV2.trans (b3.mono bV2.size); have z3_0 := below_cell bV3 _ _ v0; have z3_1 := below_cell bV3 _ _ v1))
    go_wp2_with fail
    go_ret
    exact ⟨rfl, BV.out.trans (bV3.mono BV.out.size)⟩
end Go.Proofs.YtdcahnaempabcabGreat
