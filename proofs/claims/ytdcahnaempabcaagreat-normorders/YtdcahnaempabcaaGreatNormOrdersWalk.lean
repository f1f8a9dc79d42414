/-
  NormOrders: sentries stand in one order.
-/
import Derived.Test.YtdcahnaempabcaaGreatNKnown
import Derived.Deep.RegionWith
set_option linter.unusedSimpArgs false
set_option linter.unusedVariables false
namespace Go.Proofs.YtdcahnaempabcaaGreat
open Go.RowKit
set_option maxRecDepth 100000
set_option maxHeartbeats 8000000 in
theorem normOrders_walk {w : World} (fa : Option Addr) (ua : Nat) (ga : Option Addr) (va : Nat) (a : Mp.Sent) (ha1 : ORow w (.slice fa a.1.length ua) a.1) (ha2 : CRow w (.slice ga a.2.length va) a.2) (fb : Option Addr) (ub : Nat) (gb : Option Addr) (vb : Nat) (b : Mp.Sent) (hb1 : ORow w (.slice fb b.1.length ub) b.1) (hb2 : CRow w (.slice gb b.2.length vb) b.2) (fc : Option Addr) (uc : Nat) (gc : Option Addr) (vc : Nat) (c : Mp.Sent) (hc1 : ORow w (.slice fc c.1.length uc) c.1) (hc2 : CRow w (.slice gc c.2.length vc) c.2) :
    Calls Tryz.prog 5 #[.agg #[.slice fa a.1.length ua, .slice ga a.2.length va], .agg #[.slice fb b.1.length ub, .slice gb b.2.length vb], .agg #[.slice fc c.1.length uc, .slice gc c.2.length vc]] w fun e w' => e = .returned (.bool true) ∧ Below w.heap.size w w' := by
  obtain ⟨a1, a2⟩ := a
  obtain ⟨b1, b2⟩ := b
  obtain ⟨c1, c2⟩ := c
  dsimp only at ha1 ha2 hb1 hb2 hc1 hc2 ⊢
  obtain ⟨V, hV, BV, LA, LB, LC, VS⟩ := three_new w 29 29 29 #[.slice fa a1.length ua, .slice ga a2.length va] #[.slice fb b1.length ub, .slice gb b2.length vb] #[.slice fc c1.length uc, .slice gc c2.length vc]
  have HB := hideT BV
  have Ra1 := hideT (orow_below ha1 BV)
  have Ra2 := hideT (crow_below ha2 BV)
  have Rb1 := hideT (orow_below hb1 BV)
  have Rb2 := hideT (crow_below hb2 BV)
  have Rc1 := hideT (orow_below hc1 BV)
  have Rc2 := hideT (crow_below hc2 BV)
  have ya0 : V.cell? ⟨w.heap.size, 0, none⟩ = some (.slice fa a1.length ua) := LA.cell 0
  have ya1 : V.cell? ⟨w.heap.size, 1, none⟩ = some (.slice ga a2.length va) := LA.cell 1
  have yb0 : V.cell? ⟨w.heap.size + 1, 0, none⟩ = some (.slice fb b1.length ub) := LB.cell 0
  have yb1 : V.cell? ⟨w.heap.size + 1, 1, none⟩ = some (.slice gb b2.length vb) := LB.cell 1
  have yc0 : V.cell? ⟨w.heap.size + 1 + 1, 0, none⟩ = some (.slice fc c1.length uc) := LC.cell 0
  have yc1 : V.cell? ⟨w.heap.size + 1 + 1, 1, none⟩ = some (.slice gc c2.length vc) := LC.cell 1
  have l1 := (orow_at ha1).2.1
  have l2 := (crow_at ha2).2.1
  have l3 := (orow_at hb1).2.1
  have l4 := (crow_at hb2).2.1
  have l5 := (orow_at hc1).2.1
  have l6 := (crow_at hc2).2.1
  have e1 : IntKind.i64.wrap ((a1.length : Int) + (a2.length : Int)) = (a1.length : Int) + (a2.length : Int) := by rw [IntKind.wrap_i64]; omega
  have e2 : IntKind.i64.wrap ((a1.length : Int) + (a2.length : Int) + (b1.length : Int)) = (a1.length : Int) + (a2.length : Int) + (b1.length : Int) := by rw [IntKind.wrap_i64]; omega
  have e3 : IntKind.i64.wrap ((a1.length : Int) + (a2.length : Int) + (b1.length : Int) + (b2.length : Int)) = (a1.length : Int) + (a2.length : Int) + (b1.length : Int) + (b2.length : Int) := by rw [IntKind.wrap_i64]; omega
  have e4 : IntKind.i64.wrap ((a1.length : Int) + (a2.length : Int) + (b1.length : Int) + (b2.length : Int) + (c1.length : Int)) = (a1.length : Int) + (a2.length : Int) + (b1.length : Int) + (b2.length : Int) + (c1.length : Int) := by rw [IntKind.wrap_i64]; omega
  have e5 : IntKind.i64.wrap ((a1.length : Int) + (a2.length : Int) + (b1.length : Int) + (b2.length : Int) + (c1.length : Int) + (c2.length : Int)) = (a1.length : Int) + (a2.length : Int) + (b1.length : Int) + (b2.length : Int) + (c1.length : Int) + (c2.length : Int) := by rw [IntKind.wrap_i64]; omega
  clear BV LA LB LC VS ha1 ha2 hb1 hb2 hc1 hc2
  by_cases hh : (a1.length : Int) + (a2.length : Int) + (b1.length : Int) + (b2.length : Int) + (c1.length : Int) + (c2.length : Int) > 60
  · go_enter Tryz.func5, Tryz.ntmps5
    go_wp2_with fail
    go_ret
    exact ⟨rfl, HB.out⟩
  have ka1 : a1.length ≤ 1000 := by omega
  have ka2 : a2.length ≤ 1000 := by omega
  have kb1 : b1.length ≤ 1000 := by omega
  have kb2 : b2.length ≤ 1000 := by omega
  have kc1 : c1.length ≤ 1000 := by omega
  have kc2 : c2.length ≤ 1000 := by omega
  have hh' : ¬ (60 : Int) < (a1.length : Int) + (a2.length : Int) + (b1.length : Int) + (b2.length : Int) + (c1.length : Int) + (c2.length : Int) := hh
  go_enter Tryz.func5, Tryz.ntmps5
  go_wp2_with fail
  clear e1 e2 e3 e4 e5 hh hh' l1 l2 l3 l4 l5 l6
  go_region_held3 (fun w' => w'.cell? ⟨w.heap.size, 0, none⟩ = some (.slice fa a1.length ua) ∧ w'.cell? ⟨w.heap.size, 1, none⟩ = some (.slice ga a2.length va) ∧ w'.cell? ⟨w.heap.size + 1, 0, none⟩ = some (.slice fb b1.length ub) ∧ w'.cell? ⟨w.heap.size + 1, 1, none⟩ = some (.slice gb b2.length vb) ∧ w'.cell? ⟨w.heap.size + 1 + 1, 0, none⟩ = some (.slice fc c1.length uc) ∧ w'.cell? ⟨w.heap.size + 1 + 1, 1, none⟩ = some (.slice gc c2.length vc)) (go_keep) (first
    | (go_at_call_of 12 (Value.agg #[Value.slice fa a1.length ua, Value.slice ga a2.length va]); refine (cmpSentryD fa ga fb gb ua va ub vb a1 b1 a2 b2 _ (orow_below Ra1.out (below_drewN (Below.refl _ V) 1)) (crow_below Ra2.out (below_drewN (Below.refl _ V) 1)) (orow_below Rb1.out (below_drewN (Below.refl _ V) 1)) (crow_below Rb2.out (below_drewN (Below.refl _ V) 1)) ka1 ka2 kb1 kb2).mono ?_; rintro e w1 ⟨rfl, p1⟩; have bV1 : Below V.heap.size V w1 := ((below_drewN (Below.refl _ V) 1).trans p1); have z1_a0 := below_cell bV1 _ _ ya0; have z1_a1 := below_cell bV1 _ _ ya1; have z1_b0 := below_cell bV1 _ _ yb0; have z1_b1 := below_cell bV1 _ _ yb1; have z1_c0 := below_cell bV1 _ _ yc0; have z1_c1 := below_cell bV1 _ _ yc1)
    | (go_at_call_of 12 (Value.agg #[Value.slice fb b1.length ub, Value.slice gb b2.length vb]); refine (cmpSentryD fb gb fc gc ub vb uc vc b1 c1 b2 c2 _ (orow_below Rb1.out bV1) (crow_below Rb2.out bV1) (orow_below Rc1.out bV1) (crow_below Rc2.out bV1) kb1 kb2 kc1 kc2).mono ?_; rintro e w2 ⟨rfl, p2⟩; have bV2 : Below V.heap.size V w2 := (bV1.trans (p2.mono bV1.size)); have z2_a0 := below_cell bV2 _ _ ya0; have z2_a1 := below_cell bV2 _ _ ya1; have z2_b0 := below_cell bV2 _ _ yb0; have z2_b1 := below_cell bV2 _ _ yb1; have z2_c0 := below_cell bV2 _ _ yc0; have z2_c1 := below_cell bV2 _ _ yc1)
    | (go_at_call_of 12 (Value.agg #[Value.slice fa a1.length ua, Value.slice ga a2.length va]); refine (cmpSentryD fa ga fc gc ua va uc vc a1 c1 a2 c2 _ (orow_below Ra1.out bV2) (crow_below Ra2.out bV2) (orow_below Rc1.out bV2) (crow_below Rc2.out bV2) ka1 ka2 kc1 kc2).mono ?_; rintro e w3 ⟨rfl, p3⟩; have bV3 : Below V.heap.size V w3 := (bV2.trans (p3.mono bV2.size)); have z3_a0 := below_cell bV3 _ _ ya0; have z3_a1 := below_cell bV3 _ _ ya1; have z3_b0 := below_cell bV3 _ _ yb0; have z3_b1 := below_cell bV3 _ _ yb1; have z3_c0 := below_cell bV3 _ _ yc0; have z3_c1 := below_cell bV3 _ _ yc1))
  have hPv := Np.sentC_tot.vals (a1, a2) (b1, b2)
  have hQv := Np.sentC_tot.vals (b1, b2) (c1, c2)
  have hBA := Np.sentC_tot.anti (a1, a2) (b1, b2)
  have hAA := Np.sentC_tot.self (a1, a2)
  have hR : Np.sentC (a1, a2) (b1, b2) ≤ 0 → Np.sentC (b1, b2) (c1, c2) ≤ 0 → Np.sentC (a1, a2) (c1, c2) ≤ 0 := fun h1 h2 => Np.le_trans' Np.sentC_tot h1 h2
  generalize Np.sentC (a1, a2) (b1, b2) = P at hPv hBA hR ⊢
  generalize Np.sentC (b1, b2) (c1, c2) = Q at hQv hR ⊢
  generalize Np.sentC (a1, a2) (c1, c2) = R at hR ⊢
  have HBA := hideT hBA
  have HAA := hideT hAA
  have HBV := hideT bV3
  have Sa1 := hideT (orow_below Ra1.out bV3)
  have Sa2 := hideT (crow_below Ra2.out bV3)
  have Sb1 := hideT (orow_below Rb1.out bV3)
  have Sb2 := hideT (crow_below Rb2.out bV3)
  clear hBA hAA p1 p2 p3 bV1 bV2 bV3 z1_a0 z1_a1 z1_b0 z1_b1 z1_c0 z1_c1 z2_a0 z2_a1 z2_b0 z2_b1 z2_c0 z2_c1 ya0 ya1 yb0 yb1 yc0 yc1 z3_c0 z3_c1
  have hor : 0 < P ∨ 0 < Q ∨ R ≤ 0 := by
    rcases hPv with h | h | h <;> rcases hQv with h' | h' | h' <;> first | (left; omega) | (right; left; omega) | (right; right; exact hR (by omega) (by omega))
  clear hR
  rcases hPv with rfl | rfl | rfl
  all_goals rcases hQv with rfl | rfl | rfl
  all_goals
    (try have hR' : R ≤ 0 := by omega)
    clear hor
    go_wp2_with fail
    refine (cmpSentryD fb gb fa ga ub vb ua va b1 a1 b2 a2 _ Sb1.out Sb2.out Sa1.out Sa2.out kb1 kb2 ka1 ka2).mono ?_
    rintro e w4 ⟨rfl, p4⟩
    rw [HBA.out]
    have BV4 := hideT (HBV.out.trans (p4.mono HBV.out.size))
    have x0 := below_cell p4 _ _ z3_a0
    have x1 := below_cell p4 _ _ z3_a1
    have Ta1 := hideT (orow_below Sa1.out p4)
    have Ta2 := hideT (crow_below Sa2.out p4)
    clear p4 z3_a0 z3_a1 z3_b0 z3_b1
    go_wp2_with fail
    refine (cmpSentryD fa ga fa ga ua va ua va a1 a1 a2 a2 _ Ta1.out Ta2.out Ta1.out Ta2.out ka1 ka2 ka1 ka2).mono ?_
    rintro e w5 ⟨rfl, p5⟩
    rw [HAA.out]
    have BV5 := hideT (BV4.out.trans (p5.mono BV4.out.size))
    clear p5 x0 x1
    go_wp2_with fail
    refine (known7 _).mono ?_
    rintro e w6 ⟨rfl, p6⟩
    have BV6 := hideT (BV5.out.trans (p6.mono BV5.out.size))
    clear p6
    go_wp2_with fail
    go_ret
    exact ⟨rfl, HB.out.trans (BV6.out.mono HB.out.size)⟩
end Go.Proofs.YtdcahnaempabcaaGreat
