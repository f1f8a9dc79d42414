/-
  ModelSame: of two models whether they are one, and a copy is the same.
-/
import Derived.Test.YtlgcaklhceekiaaMSame8
import Derived.Test.YtlgcaklhceekiaaMHeavy
import Derived.Test.YtlgcaklhceekiaaMKnown
import Derived.Test.YtlgcaklhceekiaaMCopy9
import Derived.Deep.RegionHeld3
import Derived.Deep.RegionWith
set_option linter.unusedSimpArgs false
set_option linter.unusedVariables false
namespace Go.Proofs.Ytlgcaklhceekiaa
open Go.RowKit
/-- Two models' boxes are kept. -/
def M2R (w : World) (a b : Mp.Model) (af ai : Option Addr) (cf ci : Nat) (bf bi : Option Addr) (df di : Nat) (wr : World) : Prop :=
  Below w.heap.size w wr ∧ Lies wr w.heap.size 25 #[.slice af a.files.length cf, .slice ai a.items.length ci] ∧ Lies wr (w.heap.size + 1) 25 #[.slice bf b.files.length df, .slice bi b.items.length di]
theorem M2R.below {w : World} {a b : Mp.Model} {af ai : Option Addr} {cf ci : Nat} {bf bi : Option Addr} {df di : Nat} {wr w' : World} (h : M2R w a b af ai cf ci bf bi df di wr) (hb : Below wr.heap.size wr w') : M2R w a b af ai cf ci bf bi df di w' :=
  ⟨h.1.trans (hb.mono h.1.size), h.2.1.below hb, h.2.2.below hb⟩
set_option maxHeartbeats 8000000 in
set_option maxRecDepth 100000 in
theorem modelSame_walk (af : Option Addr) (cf : Nat) (ai : Option Addr) (ci : Nat) (a : Mp.Model) {w : World} (ha : ModelAt w af cf ai ci a) (bf : Option Addr) (df : Nat) (bi : Option Addr) (di : Nat) (b : Mp.Model) (hb : ModelAt w bf df bi di b) :
    Calls Try.prog 3 #[.agg #[.slice af a.files.length cf, .slice ai a.items.length ci], .agg #[.slice bf b.files.length df, .slice bi b.items.length di]] w fun e w' => e = .returned (.bool true) ∧ Below w.heap.size w w' := by
  obtain ⟨_, hil, hicap, b1, o1, ha1, hc1⟩ := irow_at ha.items
  obtain ⟨_, hil2, hicap2, b2, o2, ha2, hc2⟩ := irow_at hb.items
  have HC1 := hideT hc1
  have HA1 := hideT ha1
  have HC2 := hideT hc2
  have HA2 := hideT ha2
  have MA := hideT ha
  have MB := hideT hb
  clear hc1 ha1 hc2 ha2 ha hb
  obtain ⟨V, hV, BV, LA, LB, VS⟩ := two_new w 25 #[.slice af a.files.length cf, .slice ai a.items.length ci] #[.slice bf b.files.length df, .slice bi b.items.length di]
  have M0 : Hid (M2R w a b af ai cf ci bf bi df di V) := ⟨BV, LA, LB⟩
  have HV := hideT hV
  clear BV LA LB VS hV
  go_enter Try.func3, Try.ntmps3
  go_wp2_with fail
  rw [HV.out]
  refine (heavyD _ a af ai cf ci (MA.out.below M0.out.1)).mono ?_
  rintro e w1 ⟨bh, rfl, hla, p1⟩
  have M1 := hideT (M0.out.below p1)
  have x0 : w1.cell? ⟨w.heap.size + 1, 0, none⟩ = some (.slice bf b.files.length df) := M1.out.2.2.cell 0
  have x1 : w1.cell? ⟨w.heap.size + 1, 1, none⟩ = some (.slice bi b.items.length di) := M1.out.2.2.cell 1
  clear p1
  cases bh
  rotate_left
  · go_wp2_with fail
    go_ret
    exact ⟨rfl, M1.out.1⟩
  have HLA := hideT (hla rfl)
  clear hla
  go_wp2_with fail
  refine (heavyD _ b bf bi df di (MB.out.below M1.out.1)).mono ?_
  rintro e w2 ⟨bh, rfl, hlb, p2⟩
  have M2 := hideT (M1.out.below p2)
  clear p2 hlb x0 x1
  cases bh
  rotate_left
  · go_wp2_with fail
    go_ret
    exact ⟨rfl, M2.out.1⟩
  go_wp2_with fail
  go_loopw [5] (fun i wr => ∃ k : Nat, k ≤ a.items.length ∧ i = .int .i64 k ∧ Hid (M2R w a b af ai cf ci bf bi df di wr)) (fun i _ => a.items.length - (intOf i).toNat)
  case atStart => exact ⟨0, by omega, rfl, M2⟩
  case round =>
    obtain ⟨k, hk, rfl, HW⟩ := hrel
    have x0 : wr.cell? ⟨w.heap.size, 0, none⟩ = some (.slice af a.files.length cf) := HW.out.2.1.cell 0
    have x1 : wr.cell? ⟨w.heap.size, 1, none⟩ = some (.slice ai a.items.length ci) := HW.out.2.1.cell 1
    have y0 : wr.cell? ⟨w.heap.size + 1, 0, none⟩ = some (.slice bf b.files.length df) := HW.out.2.2.cell 0
    have y1 : wr.cell? ⟨w.heap.size + 1, 1, none⟩ = some (.slice bi b.items.length di) := HW.out.2.2.cell 1
    by_cases hlt : k < a.items.length
    · by_cases hlt2 : k < b.items.length
      · obtain ⟨⟨e0, e1, e2, e3, e4, e5, e6⟩, hx⟩ := Mp.at_lt (l := a.items) (k := k) hlt
        obtain ⟨⟨g0, g1, g2, g3, g4, g5, g6⟩, hy⟩ := Mp.at_lt (l := b.items) (k := k) hlt2
        obtain ⟨p5, c5, p6, c6, IX⟩ := HC1.out k _ hx
        obtain ⟨q5, d5, q6, d6, IY⟩ := HC2.out k _ hy
        have ix := IX.turn (below_cell HW.out.1)
        have iy := IY.turn (below_cell HW.out.1)
        have R1 := hideT ix.entry
        have R2 := hideT ix.exit
        have R3 := hideT iy.entry
        have R4 := hideT iy.exit
        have u0 := ix.c0
        have u1 := ix.c1
        have u2 := ix.c2
        have u3 := ix.c3
        have u4 := ix.c4
        have u5 := ix.c5
        have u6 := ix.c6
        have v0 := iy.c0
        have v1 := iy.c1
        have v2 := iy.c2
        have v3 := iy.c3
        have v4 := iy.c4
        have v5 := iy.c5
        have v6 := iy.c6
        dsimp only at R1 R2 R3 R4 u0 u1 u2 u3 u4 u5 u6 v0 v1 v2 v3 v4 v5 v6
        obtain rfl := HA1.out (by omega)
        obtain rfl := HA2.out (by omega)
        have z1 : w.heap.size + 1 < wr.heap.size := HW.out.2.2.lt
        have z0 : w.heap.size < wr.heap.size := HW.out.2.1.lt
        have z2 : b1 < wr.heap.size := cell_lt u0
        have z3 : b2 < wr.heap.size := cell_lt v0
        clear hx hy IX IY ix iy
        have t0 : (0 : Int) ≤ (k : Int) := by omega
        have t1 : (k : Int) < (a.items.length : Int) := by omega
        have t2 : (k : Int) < (b.items.length : Int) := by omega
        go_wp2_with fail
        go_region
        · skip
          obtain ⟨V1, hV1⟩ : ∃ V1, wr.alloc (.cells #[.string e0, .int .i64 e1, .string e2, .bool e3, .int .i64 e4, .slice p5 e5.length c5, .slice p6 e6.length c6] 29) = V1 := ⟨_, rfl⟩
          obtain ⟨B1, L1, zz1⟩ := of_alloc hV1
          obtain ⟨V2, hV2⟩ : ∃ V2, V1.alloc (.cells #[.string g0, .int .i64 g1, .string g2, .bool g3, .int .i64 g4, .slice q5 g5.length d5, .slice q6 g6.length d6] 29) = V2 := ⟨_, rfl⟩
          obtain ⟨B2, L2, zz2⟩ := of_alloc hV2
          rw [zz1] at L2
          have BV0 := (B1.trans (B2.mono B1.size)).drew
          have BV2 : Below V2.heap.size V2 V2.drew := (Below.refl _ V2).drew
          have LF := (L1.below B2).below BV2
          have LS := L2.below BV2
          obtain ⟨V, hV⟩ : ∃ V, V2.drew = V := ⟨_, rfl⟩
          rw [hV] at BV0 LF LS
          have LX : Hid (Lies V (wr.heap.size) 29 #[.string e0, .int .i64 e1, .string e2, .bool e3, .int .i64 e4, .slice p5 e5.length c5, .slice p6 e6.length c6]) := LF
          have LY : Hid (Lies V (wr.heap.size + 1) 29 #[.string g0, .int .i64 g1, .string g2, .bool g3, .int .i64 g4, .slice q5 g5.length d5, .slice q6 g6.length d6]) := LS
          have BV := hideT BV0
          have MV := hideT (HW.out.below BV0)
          rw [hV1, hV2, hV]
          have m0 : V.cell? ⟨wr.heap.size, 0, none⟩ = some (.string e0) := LX.out.cell 0
          have m1 : V.cell? ⟨wr.heap.size, 1, none⟩ = some (.int .i64 e1) := LX.out.cell 1
          have m2 : V.cell? ⟨wr.heap.size, 2, none⟩ = some (.string e2) := LX.out.cell 2
          have m3 : V.cell? ⟨wr.heap.size, 3, none⟩ = some (.bool e3) := LX.out.cell 3
          have m4 : V.cell? ⟨wr.heap.size, 4, none⟩ = some (.int .i64 e4) := LX.out.cell 4
          have m5 : V.cell? ⟨wr.heap.size, 5, none⟩ = some (.slice p5 e5.length c5) := LX.out.cell 5
          have m6 : V.cell? ⟨wr.heap.size, 6, none⟩ = some (.slice p6 e6.length c6) := LX.out.cell 6
          have n0 : V.cell? ⟨wr.heap.size + 1, 0, none⟩ = some (.string g0) := LY.out.cell 0
          have n1 : V.cell? ⟨wr.heap.size + 1, 1, none⟩ = some (.int .i64 g1) := LY.out.cell 1
          have n2 : V.cell? ⟨wr.heap.size + 1, 2, none⟩ = some (.string g2) := LY.out.cell 2
          have n3 : V.cell? ⟨wr.heap.size + 1, 3, none⟩ = some (.bool g3) := LY.out.cell 3
          have n4 : V.cell? ⟨wr.heap.size + 1, 4, none⟩ = some (.int .i64 g4) := LY.out.cell 4
          have n5 : V.cell? ⟨wr.heap.size + 1, 5, none⟩ = some (.slice q5 g5.length d5) := LY.out.cell 5
          have n6 : V.cell? ⟨wr.heap.size + 1, 6, none⟩ = some (.slice q6 g6.length d6) := LY.out.cell 6
          obtain ⟨bi, HBI⟩ : ∃ y, Hid (Mp.eqI ⟨e0, e1, e2, e3, e4, e5, e6⟩ ⟨g0, g1, g2, g3, g4, g5, g6⟩ = y) := ⟨_, rfl⟩
          obtain ⟨bs, HBS⟩ : ∃ y, Hid (decide (e5 = g6) = y) := ⟨_, rfl⟩
          have HSX : Hid (Mp.eqI ⟨e0, e1, e2, e3, e4, e5, e6⟩ ⟨e0, e1, e2, e3, e4, e5, e6⟩ = true) := (Mp.eqI_iff _ _).2 rfl
          clear hV1 hV2 hV B1 B2 L1 L2 zz1 zz2 BV0 BV2 LF LS x0 x1 y0 y1 u0 u1 u2 u3 u4 u5 u6 v0 v1 v2 v3 v4 v5 v6
          go_wp2_with fail
          go_region_held3 (fun w' => w'.cell? ⟨wr.heap.size, 0, none⟩ = some (.string e0) ∧ w'.cell? ⟨wr.heap.size, 1, none⟩ = some (.int .i64 e1) ∧ w'.cell? ⟨wr.heap.size, 2, none⟩ = some (.string e2) ∧ w'.cell? ⟨wr.heap.size, 3, none⟩ = some (.bool e3) ∧ w'.cell? ⟨wr.heap.size, 4, none⟩ = some (.int .i64 e4) ∧ w'.cell? ⟨wr.heap.size, 5, none⟩ = some (.slice p5 e5.length c5) ∧ w'.cell? ⟨wr.heap.size, 6, none⟩ = some (.slice p6 e6.length c6) ∧ w'.cell? ⟨wr.heap.size + 1, 0, none⟩ = some (.string g0) ∧ w'.cell? ⟨wr.heap.size + 1, 1, none⟩ = some (.int .i64 g1) ∧ w'.cell? ⟨wr.heap.size + 1, 2, none⟩ = some (.string g2) ∧ w'.cell? ⟨wr.heap.size + 1, 3, none⟩ = some (.bool g3) ∧ w'.cell? ⟨wr.heap.size + 1, 4, none⟩ = some (.int .i64 g4) ∧ w'.cell? ⟨wr.heap.size + 1, 5, none⟩ = some (.slice q5 g5.length d5) ∧ w'.cell? ⟨wr.heap.size + 1, 6, none⟩ = some (.slice q6 g6.length d6)) (go_keep) (first
            | (go_at_call_of 6 (Value.agg #[.string g0, .int .i64 g1, .string g2, .bool g3, .int .i64 g4, .slice q5 g5.length d5, .slice q6 g6.length d6]); refine (sameItemD _ e0 g0 e1 g1 e2 g2 e3 g3 e4 g4 e5 g5 e6 g6 p5 p6 q5 q6 c5 c6 d5 d6 (srow_below R1.out (BV.out.trans (((below_drewN (Below.refl _ V) 1)).mono BV.out.size))) (srow_below R2.out (BV.out.trans (((below_drewN (Below.refl _ V) 1)).mono BV.out.size))) (srow_below R3.out (BV.out.trans (((below_drewN (Below.refl _ V) 1)).mono BV.out.size))) (srow_below R4.out (BV.out.trans (((below_drewN (Below.refl _ V) 1)).mono BV.out.size))) bi HBI).mono ?_; rintro e k1 ⟨rfl, r1⟩; have K1 : Below V.heap.size V k1 := (below_drewN (Below.refl _ V) 1).trans r1; have ax0 := below_cell K1 _ _ m0; have ay0 := below_cell K1 _ _ n0; have ax1 := below_cell K1 _ _ m1; have ay1 := below_cell K1 _ _ n1; have ax2 := below_cell K1 _ _ m2; have ay2 := below_cell K1 _ _ n2; have ax3 := below_cell K1 _ _ m3; have ay3 := below_cell K1 _ _ n3; have ax4 := below_cell K1 _ _ m4; have ay4 := below_cell K1 _ _ n4; have ax5 := below_cell K1 _ _ m5; have ay5 := below_cell K1 _ _ n5; have ax6 := below_cell K1 _ _ m6; have ay6 := below_cell K1 _ _ n6)
            | (go_at_call 7; refine (refItemD _ e0 g0 e1 g1 e2 g2 e3 g3 e4 g4 e5 g5 e6 g6 p5 p6 q5 q6 c5 c6 d5 d6 (srow_below R1.out (BV.out.trans (K1.mono BV.out.size))) (srow_below R2.out (BV.out.trans (K1.mono BV.out.size))) (srow_below R3.out (BV.out.trans (K1.mono BV.out.size))) (srow_below R4.out (BV.out.trans (K1.mono BV.out.size))) bi HBI).mono ?_; rintro e k2 ⟨rfl, r2⟩; have K2 : Below V.heap.size V k2 := K1.trans (r2.mono K1.size); have bx0 := below_cell K2 _ _ m0; have by0 := below_cell K2 _ _ n0; have bx1 := below_cell K2 _ _ m1; have by1 := below_cell K2 _ _ n1; have bx2 := below_cell K2 _ _ m2; have by2 := below_cell K2 _ _ n2; have bx3 := below_cell K2 _ _ m3; have by3 := below_cell K2 _ _ n3; have bx4 := below_cell K2 _ _ m4; have by4 := below_cell K2 _ _ n4; have bx5 := below_cell K2 _ _ m5; have by5 := below_cell K2 _ _ n5; have bx6 := below_cell K2 _ _ m6; have by6 := below_cell K2 _ _ n6)
            | (go_at_call 8; refine (sameSentriesD _ p5 q6 _ _ c5 d6 e5 g6 (srow_below R1.out (BV.out.trans (K2.mono BV.out.size))) (srow_below R4.out (BV.out.trans (K2.mono BV.out.size))) bs HBS).mono ?_; rintro e k3 ⟨rfl, r3⟩; have K3 : Below V.heap.size V k3 := K2.trans (r3.mono K2.size); have cx0 := below_cell K3 _ _ m0; have cy0 := below_cell K3 _ _ n0; have cx1 := below_cell K3 _ _ m1; have cy1 := below_cell K3 _ _ n1; have cx2 := below_cell K3 _ _ m2; have cy2 := below_cell K3 _ _ n2; have cx3 := below_cell K3 _ _ m3; have cy3 := below_cell K3 _ _ n3; have cx4 := below_cell K3 _ _ m4; have cy4 := below_cell K3 _ _ n4; have cx5 := below_cell K3 _ _ m5; have cy5 := below_cell K3 _ _ n5; have cx6 := below_cell K3 _ _ m6; have cy6 := below_cell K3 _ _ n6)
            | (go_at_call 9; refine (refSentriesD _ p5 q6 _ _ c5 d6 e5 g6 (srow_below R1.out (BV.out.trans (K3.mono BV.out.size))) (srow_below R4.out (BV.out.trans (K3.mono BV.out.size))) bs HBS).mono ?_; rintro e k4 ⟨rfl, r4⟩; have K4 : Below V.heap.size V k4 := K3.trans (r4.mono K3.size); have dx0 := below_cell K4 _ _ m0; have dy0 := below_cell K4 _ _ n0; have dx1 := below_cell K4 _ _ m1; have dy1 := below_cell K4 _ _ n1; have dx2 := below_cell K4 _ _ m2; have dy2 := below_cell K4 _ _ n2; have dx3 := below_cell K4 _ _ m3; have dy3 := below_cell K4 _ _ n3; have dx4 := below_cell K4 _ _ m4; have dy4 := below_cell K4 _ _ n4; have dx5 := below_cell K4 _ _ m5; have dy5 := below_cell K4 _ _ n5; have dx6 := below_cell K4 _ _ m6; have dy6 := below_cell K4 _ _ n6)
            | (go_at_call_of 6 (Value.agg #[.string e0, .int .i64 e1, .string e2, .bool e3, .int .i64 e4, .slice p5 e5.length c5, .slice p6 e6.length c6]); refine (sameItemD _ e0 e0 e1 e1 e2 e2 e3 e3 e4 e4 e5 e5 e6 e6 p5 p6 p5 p6 c5 c6 c5 c6 (srow_below R1.out (BV.out.trans (K4.mono BV.out.size))) (srow_below R2.out (BV.out.trans (K4.mono BV.out.size))) (srow_below R1.out (BV.out.trans (K4.mono BV.out.size))) (srow_below R2.out (BV.out.trans (K4.mono BV.out.size))) true HSX).mono ?_; rintro e k5 ⟨rfl, r5⟩; have K5 : Below V.heap.size V k5 := K4.trans (r5.mono K4.size); have fx0 := below_cell K5 _ _ m0; have fy0 := below_cell K5 _ _ n0; have fx1 := below_cell K5 _ _ m1; have fy1 := below_cell K5 _ _ n1; have fx2 := below_cell K5 _ _ m2; have fy2 := below_cell K5 _ _ n2; have fx3 := below_cell K5 _ _ m3; have fy3 := below_cell K5 _ _ n3; have fx4 := below_cell K5 _ _ m4; have fy4 := below_cell K5 _ _ n4; have fx5 := below_cell K5 _ _ m5; have fy5 := below_cell K5 _ _ n5; have fx6 := below_cell K5 _ _ m6; have fy6 := below_cell K5 _ _ n6))
          all_goals
            have M9 := hideT (MV.out.below K5)
            clear K1 K2 K3 K4 K5 r1 r2 r3 r4 r5 m0 n0 m1 n1 m2 n2 m3 n3 m4 n4 m5 n5 m6 n6 ax0 ay0 ax1 ay1 ax2 ay2 ax3 ay3 ax4 ay4 ax5 ay5 ax6 ay6 bx0 by0 bx1 by1 bx2 by2 bx3 by3 bx4 by4 bx5 by5 bx6 by6 cx0 cy0 cx1 cy1 cx2 cy2 cx3 cy3 cx4 cy4 cx5 cy5 cx6 cy6 dx0 dy0 dx1 dy1 dx2 dy2 dx3 dy3 dx4 dy4 dx5 dy5 dx6 dy6 fx0 fy0 fx1 fy1 fx2 fy2 fx3 fy3 fx4 fy4 fx5 fy5 fx6 fy6
            go_wp2_with fail
            go_roundw
            case rel => exact ⟨k + 1, by omega, by go_num, M9⟩
            case measure => simp [intOf]; omega
        · skip
          obtain ⟨V1, hV1⟩ : ∃ V1, wr.alloc (.cells #[.string g0, .int .i64 g1, .string g2, .bool g3, .int .i64 g4, .slice q5 g5.length d5, .slice q6 g6.length d6] 29) = V1 := ⟨_, rfl⟩
          obtain ⟨B1, L1, zz1⟩ := of_alloc hV1
          obtain ⟨V2, hV2⟩ : ∃ V2, V1.alloc (.cells #[.string e0, .int .i64 e1, .string e2, .bool e3, .int .i64 e4, .slice p5 e5.length c5, .slice p6 e6.length c6] 29) = V2 := ⟨_, rfl⟩
          obtain ⟨B2, L2, zz2⟩ := of_alloc hV2
          rw [zz1] at L2
          have BV0 := (B1.trans (B2.mono B1.size)).drew
          have BV2 : Below V2.heap.size V2 V2.drew := (Below.refl _ V2).drew
          have LF := (L1.below B2).below BV2
          have LS := L2.below BV2
          obtain ⟨V, hV⟩ : ∃ V, V2.drew = V := ⟨_, rfl⟩
          rw [hV] at BV0 LF LS
          have LX : Hid (Lies V (wr.heap.size + 1) 29 #[.string e0, .int .i64 e1, .string e2, .bool e3, .int .i64 e4, .slice p5 e5.length c5, .slice p6 e6.length c6]) := LS
          have LY : Hid (Lies V (wr.heap.size) 29 #[.string g0, .int .i64 g1, .string g2, .bool g3, .int .i64 g4, .slice q5 g5.length d5, .slice q6 g6.length d6]) := LF
          have BV := hideT BV0
          have MV := hideT (HW.out.below BV0)
          rw [hV1, hV2, hV]
          have m0 : V.cell? ⟨wr.heap.size + 1, 0, none⟩ = some (.string e0) := LX.out.cell 0
          have m1 : V.cell? ⟨wr.heap.size + 1, 1, none⟩ = some (.int .i64 e1) := LX.out.cell 1
          have m2 : V.cell? ⟨wr.heap.size + 1, 2, none⟩ = some (.string e2) := LX.out.cell 2
          have m3 : V.cell? ⟨wr.heap.size + 1, 3, none⟩ = some (.bool e3) := LX.out.cell 3
          have m4 : V.cell? ⟨wr.heap.size + 1, 4, none⟩ = some (.int .i64 e4) := LX.out.cell 4
          have m5 : V.cell? ⟨wr.heap.size + 1, 5, none⟩ = some (.slice p5 e5.length c5) := LX.out.cell 5
          have m6 : V.cell? ⟨wr.heap.size + 1, 6, none⟩ = some (.slice p6 e6.length c6) := LX.out.cell 6
          have n0 : V.cell? ⟨wr.heap.size, 0, none⟩ = some (.string g0) := LY.out.cell 0
          have n1 : V.cell? ⟨wr.heap.size, 1, none⟩ = some (.int .i64 g1) := LY.out.cell 1
          have n2 : V.cell? ⟨wr.heap.size, 2, none⟩ = some (.string g2) := LY.out.cell 2
          have n3 : V.cell? ⟨wr.heap.size, 3, none⟩ = some (.bool g3) := LY.out.cell 3
          have n4 : V.cell? ⟨wr.heap.size, 4, none⟩ = some (.int .i64 g4) := LY.out.cell 4
          have n5 : V.cell? ⟨wr.heap.size, 5, none⟩ = some (.slice q5 g5.length d5) := LY.out.cell 5
          have n6 : V.cell? ⟨wr.heap.size, 6, none⟩ = some (.slice q6 g6.length d6) := LY.out.cell 6
          obtain ⟨bi, HBI⟩ : ∃ y, Hid (Mp.eqI ⟨e0, e1, e2, e3, e4, e5, e6⟩ ⟨g0, g1, g2, g3, g4, g5, g6⟩ = y) := ⟨_, rfl⟩
          obtain ⟨bs, HBS⟩ : ∃ y, Hid (decide (e5 = g6) = y) := ⟨_, rfl⟩
          have HSX : Hid (Mp.eqI ⟨e0, e1, e2, e3, e4, e5, e6⟩ ⟨e0, e1, e2, e3, e4, e5, e6⟩ = true) := (Mp.eqI_iff _ _).2 rfl
          clear hV1 hV2 hV B1 B2 L1 L2 zz1 zz2 BV0 BV2 LF LS x0 x1 y0 y1 u0 u1 u2 u3 u4 u5 u6 v0 v1 v2 v3 v4 v5 v6
          go_wp2_with fail
          go_region_held3 (fun w' => w'.cell? ⟨wr.heap.size + 1, 0, none⟩ = some (.string e0) ∧ w'.cell? ⟨wr.heap.size + 1, 1, none⟩ = some (.int .i64 e1) ∧ w'.cell? ⟨wr.heap.size + 1, 2, none⟩ = some (.string e2) ∧ w'.cell? ⟨wr.heap.size + 1, 3, none⟩ = some (.bool e3) ∧ w'.cell? ⟨wr.heap.size + 1, 4, none⟩ = some (.int .i64 e4) ∧ w'.cell? ⟨wr.heap.size + 1, 5, none⟩ = some (.slice p5 e5.length c5) ∧ w'.cell? ⟨wr.heap.size + 1, 6, none⟩ = some (.slice p6 e6.length c6) ∧ w'.cell? ⟨wr.heap.size, 0, none⟩ = some (.string g0) ∧ w'.cell? ⟨wr.heap.size, 1, none⟩ = some (.int .i64 g1) ∧ w'.cell? ⟨wr.heap.size, 2, none⟩ = some (.string g2) ∧ w'.cell? ⟨wr.heap.size, 3, none⟩ = some (.bool g3) ∧ w'.cell? ⟨wr.heap.size, 4, none⟩ = some (.int .i64 g4) ∧ w'.cell? ⟨wr.heap.size, 5, none⟩ = some (.slice q5 g5.length d5) ∧ w'.cell? ⟨wr.heap.size, 6, none⟩ = some (.slice q6 g6.length d6)) (go_keep) (first
            | (go_at_call_of 6 (Value.agg #[.string g0, .int .i64 g1, .string g2, .bool g3, .int .i64 g4, .slice q5 g5.length d5, .slice q6 g6.length d6]); refine (sameItemD _ e0 g0 e1 g1 e2 g2 e3 g3 e4 g4 e5 g5 e6 g6 p5 p6 q5 q6 c5 c6 d5 d6 (srow_below R1.out (BV.out.trans (((below_drewN (Below.refl _ V) 1)).mono BV.out.size))) (srow_below R2.out (BV.out.trans (((below_drewN (Below.refl _ V) 1)).mono BV.out.size))) (srow_below R3.out (BV.out.trans (((below_drewN (Below.refl _ V) 1)).mono BV.out.size))) (srow_below R4.out (BV.out.trans (((below_drewN (Below.refl _ V) 1)).mono BV.out.size))) bi HBI).mono ?_; rintro e k1 ⟨rfl, r1⟩; have K1 : Below V.heap.size V k1 := (below_drewN (Below.refl _ V) 1).trans r1; have ax0 := below_cell K1 _ _ m0; have ay0 := below_cell K1 _ _ n0; have ax1 := below_cell K1 _ _ m1; have ay1 := below_cell K1 _ _ n1; have ax2 := below_cell K1 _ _ m2; have ay2 := below_cell K1 _ _ n2; have ax3 := below_cell K1 _ _ m3; have ay3 := below_cell K1 _ _ n3; have ax4 := below_cell K1 _ _ m4; have ay4 := below_cell K1 _ _ n4; have ax5 := below_cell K1 _ _ m5; have ay5 := below_cell K1 _ _ n5; have ax6 := below_cell K1 _ _ m6; have ay6 := below_cell K1 _ _ n6)
            | (go_at_call 7; refine (refItemD _ e0 g0 e1 g1 e2 g2 e3 g3 e4 g4 e5 g5 e6 g6 p5 p6 q5 q6 c5 c6 d5 d6 (srow_below R1.out (BV.out.trans (K1.mono BV.out.size))) (srow_below R2.out (BV.out.trans (K1.mono BV.out.size))) (srow_below R3.out (BV.out.trans (K1.mono BV.out.size))) (srow_below R4.out (BV.out.trans (K1.mono BV.out.size))) bi HBI).mono ?_; rintro e k2 ⟨rfl, r2⟩; have K2 : Below V.heap.size V k2 := K1.trans (r2.mono K1.size); have bx0 := below_cell K2 _ _ m0; have by0 := below_cell K2 _ _ n0; have bx1 := below_cell K2 _ _ m1; have by1 := below_cell K2 _ _ n1; have bx2 := below_cell K2 _ _ m2; have by2 := below_cell K2 _ _ n2; have bx3 := below_cell K2 _ _ m3; have by3 := below_cell K2 _ _ n3; have bx4 := below_cell K2 _ _ m4; have by4 := below_cell K2 _ _ n4; have bx5 := below_cell K2 _ _ m5; have by5 := below_cell K2 _ _ n5; have bx6 := below_cell K2 _ _ m6; have by6 := below_cell K2 _ _ n6)
            | (go_at_call 8; refine (sameSentriesD _ p5 q6 _ _ c5 d6 e5 g6 (srow_below R1.out (BV.out.trans (K2.mono BV.out.size))) (srow_below R4.out (BV.out.trans (K2.mono BV.out.size))) bs HBS).mono ?_; rintro e k3 ⟨rfl, r3⟩; have K3 : Below V.heap.size V k3 := K2.trans (r3.mono K2.size); have cx0 := below_cell K3 _ _ m0; have cy0 := below_cell K3 _ _ n0; have cx1 := below_cell K3 _ _ m1; have cy1 := below_cell K3 _ _ n1; have cx2 := below_cell K3 _ _ m2; have cy2 := below_cell K3 _ _ n2; have cx3 := below_cell K3 _ _ m3; have cy3 := below_cell K3 _ _ n3; have cx4 := below_cell K3 _ _ m4; have cy4 := below_cell K3 _ _ n4; have cx5 := below_cell K3 _ _ m5; have cy5 := below_cell K3 _ _ n5; have cx6 := below_cell K3 _ _ m6; have cy6 := below_cell K3 _ _ n6)
            | (go_at_call 9; refine (refSentriesD _ p5 q6 _ _ c5 d6 e5 g6 (srow_below R1.out (BV.out.trans (K3.mono BV.out.size))) (srow_below R4.out (BV.out.trans (K3.mono BV.out.size))) bs HBS).mono ?_; rintro e k4 ⟨rfl, r4⟩; have K4 : Below V.heap.size V k4 := K3.trans (r4.mono K3.size); have dx0 := below_cell K4 _ _ m0; have dy0 := below_cell K4 _ _ n0; have dx1 := below_cell K4 _ _ m1; have dy1 := below_cell K4 _ _ n1; have dx2 := below_cell K4 _ _ m2; have dy2 := below_cell K4 _ _ n2; have dx3 := below_cell K4 _ _ m3; have dy3 := below_cell K4 _ _ n3; have dx4 := below_cell K4 _ _ m4; have dy4 := below_cell K4 _ _ n4; have dx5 := below_cell K4 _ _ m5; have dy5 := below_cell K4 _ _ n5; have dx6 := below_cell K4 _ _ m6; have dy6 := below_cell K4 _ _ n6)
            | (go_at_call_of 6 (Value.agg #[.string e0, .int .i64 e1, .string e2, .bool e3, .int .i64 e4, .slice p5 e5.length c5, .slice p6 e6.length c6]); refine (sameItemD _ e0 e0 e1 e1 e2 e2 e3 e3 e4 e4 e5 e5 e6 e6 p5 p6 p5 p6 c5 c6 c5 c6 (srow_below R1.out (BV.out.trans (K4.mono BV.out.size))) (srow_below R2.out (BV.out.trans (K4.mono BV.out.size))) (srow_below R1.out (BV.out.trans (K4.mono BV.out.size))) (srow_below R2.out (BV.out.trans (K4.mono BV.out.size))) true HSX).mono ?_; rintro e k5 ⟨rfl, r5⟩; have K5 : Below V.heap.size V k5 := K4.trans (r5.mono K4.size); have fx0 := below_cell K5 _ _ m0; have fy0 := below_cell K5 _ _ n0; have fx1 := below_cell K5 _ _ m1; have fy1 := below_cell K5 _ _ n1; have fx2 := below_cell K5 _ _ m2; have fy2 := below_cell K5 _ _ n2; have fx3 := below_cell K5 _ _ m3; have fy3 := below_cell K5 _ _ n3; have fx4 := below_cell K5 _ _ m4; have fy4 := below_cell K5 _ _ n4; have fx5 := below_cell K5 _ _ m5; have fy5 := below_cell K5 _ _ n5; have fx6 := below_cell K5 _ _ m6; have fy6 := below_cell K5 _ _ n6))
          all_goals
            have M9 := hideT (MV.out.below K5)
            clear K1 K2 K3 K4 K5 r1 r2 r3 r4 r5 m0 n0 m1 n1 m2 n2 m3 n3 m4 n4 m5 n5 m6 n6 ax0 ay0 ax1 ay1 ax2 ay2 ax3 ay3 ax4 ay4 ax5 ay5 ax6 ay6 bx0 by0 bx1 by1 bx2 by2 bx3 by3 bx4 by4 bx5 by5 bx6 by6 cx0 cy0 cx1 cy1 cx2 cy2 cx3 cy3 cx4 cy4 cx5 cy5 cx6 cy6 dx0 dy0 dx1 dy1 dx2 dy2 dx3 dy3 dx4 dy4 dx5 dy5 dx6 dy6 fx0 fy0 fx1 fy1 fx2 fy2 fx3 fy3 fx4 fy4 fx5 fy5 fx6 fy6
            go_wp2_with fail
            go_roundw
            case rel => exact ⟨k + 1, by omega, by go_num, M9⟩
            case measure => simp [intOf]; omega
      · obtain ⟨bb, HI⟩ : ∃ y, Hid (Mp.eqM a b = y) := ⟨_, rfl⟩
        have HS : Hid (Mp.eqM a a = true) := (Mp.eqM_iff a a).2 rfl
        go_wp2_with fail
        go_region_held3 (fun w' => w'.cell? ⟨w.heap.size, 0, none⟩ = some (.slice af a.files.length cf) ∧ w'.cell? ⟨w.heap.size, 1, none⟩ = some (.slice ai a.items.length ci) ∧ w'.cell? ⟨w.heap.size + 1, 0, none⟩ = some (.slice bf b.files.length df) ∧ w'.cell? ⟨w.heap.size + 1, 1, none⟩ = some (.slice bi b.items.length di)) (go_keep) (first
          | (go_at_call_of 10 (Value.agg #[.slice bf b.files.length df, .slice bi b.items.length di]); refine (sameD _ af ai bf bi cf ci df di a b (MA.out.below (below_drewN HW.out.1 1)) (MB.out.below (below_drewN HW.out.1 1)) bb HI).mono ?_; rintro e v1 ⟨rfl, q1⟩; have N1 : M2R w a b af ai cf ci bf bi df di v1 := HW.out.below ((below_drewN (Below.refl _ wr) 1).trans q1); have n0 := N1.2.1.cell 0; have n1 := N1.2.1.cell 1; have n2 := N1.2.2.cell 0; have n3 := N1.2.2.cell 1; simp only [List.getElem?_toArray, List.getElem?_cons_zero, List.getElem?_cons_succ] at n0 n1 n2 n3)
          | (go_at_call_of 11 (Value.agg #[.slice bf b.files.length df, .slice bi b.items.length di]); refine (refSameD _ af ai bf bi cf ci df di a b (MA.out.below N1.1) (MB.out.below N1.1) bb HI).mono ?_; rintro e v2 ⟨rfl, q2⟩; have N2 : M2R w a b af ai cf ci bf bi df di v2 := N1.below q2; have m0 := N2.2.1.cell 0; have m1 := N2.2.1.cell 1; have m2 := N2.2.2.cell 0; have m3 := N2.2.2.cell 1; simp only [List.getElem?_toArray, List.getElem?_cons_zero, List.getElem?_cons_succ] at m0 m1 m2 m3)
          | (go_at_call 12; refine (copyD af ai cf ci a.files a.items _ (MA.out.below N2.1).files (MA.out.below N2.1).items HLA.out).mono ?_; rintro e v3 ⟨gf, hf, gi, hi, rfl, nw, q3⟩; have N3 : M2R w a b af ai cf ci bf bi df di v3 := N2.below q3; have MC : ModelAt v3 gf hf gi hi a := nw.here; have p0 := N3.2.1.cell 0; have p1 := N3.2.1.cell 1; have p2 := N3.2.2.cell 0; have p3 := N3.2.2.cell 1; simp only [List.getElem?_toArray, List.getElem?_cons_zero, List.getElem?_cons_succ] at p0 p1 p2 p3)
          | (go_at_call_of 11 (Value.agg #[.slice gf a.files.length hf, .slice gi a.items.length hi]); refine (refSameD _ gf gi af ai hf hi cf ci a a MC (MA.out.below N3.1) true HS).mono ?_; rintro e v4 ⟨rfl, q4⟩; have N4 : M2R w a b af ai cf ci bf bi df di v4 := N3.below q4; have r0 := N4.2.1.cell 0; have r1 := N4.2.1.cell 1; have r2 := N4.2.2.cell 0; have r3 := N4.2.2.cell 1; simp only [List.getElem?_toArray, List.getElem?_cons_zero, List.getElem?_cons_succ] at r0 r1 r2 r3)
          | (go_at_call_of 10 (Value.agg #[.slice af a.files.length cf, .slice ai a.items.length ci]); refine (sameD _ af ai af ai cf ci cf ci a a (MA.out.below N4.1) (MA.out.below N4.1) true HS).mono ?_; rintro e v5 ⟨rfl, q5⟩; have N5 : M2R w a b af ai cf ci bf bi df di v5 := N4.below q5; have s0 := N5.2.1.cell 0; have s1 := N5.2.1.cell 1; have s2 := N5.2.2.cell 0; have s3 := N5.2.2.cell 1; simp only [List.getElem?_toArray, List.getElem?_cons_zero, List.getElem?_cons_succ] at s0 s1 s2 s3)
          | (go_at_call 13; refine (knownD _).mono ?_; rintro e v6 ⟨rfl, q6⟩; have N6 : M2R w a b af ai cf ci bf bi df di v6 := N5.below q6; have t0 := N6.2.1.cell 0; have t1 := N6.2.1.cell 1; have t2 := N6.2.2.cell 0; have t3 := N6.2.2.cell 1; simp only [List.getElem?_toArray, List.getElem?_cons_zero, List.getElem?_cons_succ] at t0 t1 t2 t3))
        all_goals
          have HW7 := hideT N6.1
          clear N1 N2 N3 N4 N5 N6 q1 q2 q3 q4 q5 q6 nw MC x0 x1 y0 y1
          go_wp2_with fail
          go_ret
          exact ⟨rfl, HW7.out⟩
    · obtain ⟨bb, HI⟩ : ∃ y, Hid (Mp.eqM a b = y) := ⟨_, rfl⟩
      have HS : Hid (Mp.eqM a a = true) := (Mp.eqM_iff a a).2 rfl
      go_wp2_with fail
      go_region_held3 (fun w' => w'.cell? ⟨w.heap.size, 0, none⟩ = some (.slice af a.files.length cf) ∧ w'.cell? ⟨w.heap.size, 1, none⟩ = some (.slice ai a.items.length ci) ∧ w'.cell? ⟨w.heap.size + 1, 0, none⟩ = some (.slice bf b.files.length df) ∧ w'.cell? ⟨w.heap.size + 1, 1, none⟩ = some (.slice bi b.items.length di)) (go_keep) (first
        | (go_at_call_of 10 (Value.agg #[.slice bf b.files.length df, .slice bi b.items.length di]); refine (sameD _ af ai bf bi cf ci df di a b (MA.out.below (below_drewN HW.out.1 1)) (MB.out.below (below_drewN HW.out.1 1)) bb HI).mono ?_; rintro e v1 ⟨rfl, q1⟩; have N1 : M2R w a b af ai cf ci bf bi df di v1 := HW.out.below ((below_drewN (Below.refl _ wr) 1).trans q1); have n0 := N1.2.1.cell 0; have n1 := N1.2.1.cell 1; have n2 := N1.2.2.cell 0; have n3 := N1.2.2.cell 1; simp only [List.getElem?_toArray, List.getElem?_cons_zero, List.getElem?_cons_succ] at n0 n1 n2 n3)
        | (go_at_call_of 11 (Value.agg #[.slice bf b.files.length df, .slice bi b.items.length di]); refine (refSameD _ af ai bf bi cf ci df di a b (MA.out.below N1.1) (MB.out.below N1.1) bb HI).mono ?_; rintro e v2 ⟨rfl, q2⟩; have N2 : M2R w a b af ai cf ci bf bi df di v2 := N1.below q2; have m0 := N2.2.1.cell 0; have m1 := N2.2.1.cell 1; have m2 := N2.2.2.cell 0; have m3 := N2.2.2.cell 1; simp only [List.getElem?_toArray, List.getElem?_cons_zero, List.getElem?_cons_succ] at m0 m1 m2 m3)
        | (go_at_call 12; refine (copyD af ai cf ci a.files a.items _ (MA.out.below N2.1).files (MA.out.below N2.1).items HLA.out).mono ?_; rintro e v3 ⟨gf, hf, gi, hi, rfl, nw, q3⟩; have N3 : M2R w a b af ai cf ci bf bi df di v3 := N2.below q3; have MC : ModelAt v3 gf hf gi hi a := nw.here; have p0 := N3.2.1.cell 0; have p1 := N3.2.1.cell 1; have p2 := N3.2.2.cell 0; have p3 := N3.2.2.cell 1; simp only [List.getElem?_toArray, List.getElem?_cons_zero, List.getElem?_cons_succ] at p0 p1 p2 p3)
        | (go_at_call_of 11 (Value.agg #[.slice gf a.files.length hf, .slice gi a.items.length hi]); refine (refSameD _ gf gi af ai hf hi cf ci a a MC (MA.out.below N3.1) true HS).mono ?_; rintro e v4 ⟨rfl, q4⟩; have N4 : M2R w a b af ai cf ci bf bi df di v4 := N3.below q4; have r0 := N4.2.1.cell 0; have r1 := N4.2.1.cell 1; have r2 := N4.2.2.cell 0; have r3 := N4.2.2.cell 1; simp only [List.getElem?_toArray, List.getElem?_cons_zero, List.getElem?_cons_succ] at r0 r1 r2 r3)
        | (go_at_call_of 10 (Value.agg #[.slice af a.files.length cf, .slice ai a.items.length ci]); refine (sameD _ af ai af ai cf ci cf ci a a (MA.out.below N4.1) (MA.out.below N4.1) true HS).mono ?_; rintro e v5 ⟨rfl, q5⟩; have N5 : M2R w a b af ai cf ci bf bi df di v5 := N4.below q5; have s0 := N5.2.1.cell 0; have s1 := N5.2.1.cell 1; have s2 := N5.2.2.cell 0; have s3 := N5.2.2.cell 1; simp only [List.getElem?_toArray, List.getElem?_cons_zero, List.getElem?_cons_succ] at s0 s1 s2 s3)
        | (go_at_call 13; refine (knownD _).mono ?_; rintro e v6 ⟨rfl, q6⟩; have N6 : M2R w a b af ai cf ci bf bi df di v6 := N5.below q6; have t0 := N6.2.1.cell 0; have t1 := N6.2.1.cell 1; have t2 := N6.2.2.cell 0; have t3 := N6.2.2.cell 1; simp only [List.getElem?_toArray, List.getElem?_cons_zero, List.getElem?_cons_succ] at t0 t1 t2 t3))
      all_goals
        have HW7 := hideT N6.1
        clear N1 N2 N3 N4 N5 N6 q1 q2 q3 q4 q5 q6 nw MC x0 x1 y0 y1
        go_wp2_with fail
        go_ret
        exact ⟨rfl, HW7.out⟩
end Go.Proofs.Ytlgcaklhceekiaa
