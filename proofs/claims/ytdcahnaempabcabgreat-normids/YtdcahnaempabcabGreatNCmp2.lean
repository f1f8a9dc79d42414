/-
  The program's orders: rows of texts, sentries, items; CmpSentry.
-/
import Derived.Test.YtdcahnaempabcabGreatNCmp
set_option linter.unusedSimpArgs false
set_option linter.unusedVariables false
namespace Go.Proofs.YtdcahnaempabcabGreat
open Go.RowKit
set_option maxHeartbeats 4000000 in
theorem compareS (w : World) (a1 a2 : Option Addr) (n1 n2 c1 c2 : Nat) (la lb : List ByteArray) (h1 : FRow w (.slice a1 n1 c1) la) (h2 : FRow w (.slice a2 n2 c2) lb) :
    Calls Tryz.prog 49 #[.slice a1 n1 c1, .slice a2 n2 c2] w fun e w' => e = .returned (.int .i64 (Np.rowC Np.cmpS la lb)) ∧ w' = w := by
  obtain ⟨hn1, hl1, _, b1, o1, ha1, hc1⟩ := frow_at h1
  obtain ⟨hn2, hl2, _, b2, o2, ha2, hc2⟩ := frow_at h2
  have HN1 := hideT hn1
  have HN2 := hideT hn2
  have HC1 := hideT hc1
  have HA1 := hideT ha1
  have HC2 := hideT hc2
  have HA2 := hideT ha2
  clear hc1 ha1 hc2 ha2 h1 h2 hn1 hn2
  go_enter Tryz.func49, Tryz.ntmps49
  go_wp2_with fail
  go_loop [11] (fun i => ∃ k : Nat, k ≤ n1 ∧ i = .int .i64 k ∧ Hid (Np.rowC Np.cmpS la lb = Np.rowC Np.cmpS (la.drop k) (lb.drop k))) (fun i => n1 - (intOf i).toNat)
  case atStart => exact ⟨0, by omega, rfl, rfl⟩
  case round =>
    obtain ⟨k, hk, rfl, HB⟩ := hrel
    by_cases hlt : k < n1
    rotate_left
    · have HF : Hid (Np.rowC Np.cmpS la lb = if k < n2 then -1 else 0) := by
        rw [HN2.out]
        exact HB.out.trans (rowC_end (by have := HN1.out; omega))
      have hkn : k = n1 := by omega
      subst hkn
      by_cases h2 : k < n2
      · have HF' := hideT (HF.out.trans (if_pos h2))
        have t2 : (k : Int) < (n2 : Int) := by omega
        go_wp2_with fail
        go_ret
        exact ⟨ret_i HF'.out.symm, rfl⟩
      · have HF' := hideT (HF.out.trans (if_neg h2))
        have t2 : ¬ (k : Int) < (n2 : Int) := by omega
        go_wp2_with fail
        go_ret
        exact ⟨ret_i HF'.out.symm, rfl⟩
    · obtain ⟨x0, hx⟩ := Mp.at_lt (l := la) (k := k) (by have := HN1.out; omega)
      obtain ⟨_, d0⟩ := HC1.out k _ hx
      obtain rfl := HA1.out (by omega)
      have HX := hideT hx
      clear hx
      have t1 : (k : Int) < (n1 : Int) := by omega
      have t0 : (0 : Int) ≤ (k : Int) := by omega
      by_cases h2 : k < n2
      rotate_left
      · have HF := hideT (HB.out.trans (rowC_more HX.out (by have := HN2.out; omega)))
        have t2 : (n2 : Int) ≤ (k : Int) := by omega
        go_wp2_with fail
        go_ret
        exact ⟨ret_i HF.out.symm, rfl⟩
      · obtain ⟨y0, hy⟩ := Mp.at_lt (l := lb) (k := k) (by have := HN2.out; omega)
        obtain ⟨_, e0⟩ := HC2.out k _ hy
        obtain rfl := HA2.out (by omega)
        have HY := hideT hy
        clear hy
        have t2 : ¬ (n2 : Int) ≤ (k : Int) := by omega
        have t3 : (k : Int) < (n2 : Int) := by omega
        go_wp2_with fail
        refine (cmpStr2 x0 y0 _).mono ?_
        rintro e w1 ⟨rfl, rfl⟩
        have HR := hideT (HB.out.trans (rowC_at HX.out HY.out))
        clear d0 e0
        obtain ⟨z, hz⟩ : ∃ z, Np.cmpS x0 y0 = z := ⟨_, rfl⟩
        rw [hz] at HR ⊢
        by_cases h0 : z = 0
        · have HS := hideT (HR.out.trans (if_pos h0))
          subst h0
          go_wp2_with fail
          go_round
          case rel => exact ⟨k + 1, by omega, by go_num, HS⟩
          case measure => simp [intOf]; omega
        · have HS := hideT (HR.out.trans (if_neg h0))
          have t4 : (z != 0) = true := bne_iff_ne.2 h0
          go_wp2_with fail
          go_ret
          exact ⟨ret_i HS.out.symm, rfl⟩
set_option maxHeartbeats 4000000 in
theorem sentCmpD (w : World) (p1 p2 q1 q2 : Option Addr) (n1 n2 m1 m2 c1 c2 d1 d2 : Nat) (x1 y1 : List Mp.On) (x2 y2 : List Mp.Cond) (h1 : ORow w (.slice p1 n1 c1) x1) (h2 : CRow w (.slice p2 n2 c2) x2) (k1 : ORow w (.slice q1 m1 d1) y1) (k2 : CRow w (.slice q2 m2 d2) y2) :
    Calls Tryz.prog 26 #[.agg #[.slice p1 n1 c1, .slice p2 n2 c2], .agg #[.slice q1 m1 d1, .slice q2 m2 d2]] w fun e w' => e = .returned (.int .i64 (Np.sentC (x1, x2) (y1, y2))) ∧ Gr w w' := by
  go_enter Tryz.func26, Tryz.ntmps26
  go_wp2_with fail
  obtain ⟨V, hV, BV, LA, LR, VS⟩ := two_newG w 60 #[.slice p1 n1 c1, .slice p2 n2 c2] #[.slice q1 m1 d1, .slice q2 m2 d2]
  rw [hV]
  have HB := hideT BV
  have H1 := hideT (orow_below h1 BV.1)
  have H2 := hideT (crow_below h2 BV.1)
  have K1 := hideT (orow_below k1 BV.1)
  have K2 := hideT (crow_below k2 BV.1)
  have s0 : V.cell? ⟨w.heap.size, 0, none⟩ = some (.slice p1 n1 c1) := LA.cell 0
  have s1 : V.cell? ⟨w.heap.size, 1, none⟩ = some (.slice p2 n2 c2) := LA.cell 1
  have r0 : V.cell? ⟨w.heap.size + 1, 0, none⟩ = some (.slice q1 m1 d1) := LR.cell 0
  have r1 : V.cell? ⟨w.heap.size + 1, 1, none⟩ = some (.slice q2 m2 d2) := LR.cell 1
  clear BV LA LR hV VS h1 h2 k1 k2
  go_region_held3 (fun w' => w'.cell? ⟨w.heap.size, 0, none⟩ = some (.slice p1 n1 c1) ∧ w'.cell? ⟨w.heap.size, 1, none⟩ = some (.slice p2 n2 c2) ∧ w'.cell? ⟨w.heap.size + 1, 0, none⟩ = some (.slice q1 m1 d1) ∧ w'.cell? ⟨w.heap.size + 1, 1, none⟩ = some (.slice q2 m2 d2)) (go_keep) (first
    | (go_at_call 56; refine (compareO _ p1 q1 n1 m1 c1 d1 x1 y1 (orow_below H1.out (below_drewN (Below.refl _ V) 1)) (orow_below K1.out (below_drewN (Below.refl _ V) 1))).mono ?_; rintro e w1 ⟨rfl, b1⟩; have bV1 : Gr V w1 := ((Gr.refl V).drewN 1).trans b1; have z1_s0 := below_cell bV1.1 _ _ s0; have z1_s1 := below_cell bV1.1 _ _ s1; have z1_r0 := below_cell bV1.1 _ _ r0; have z1_r1 := below_cell bV1.1 _ _ r1)
    | (go_at_call 58; refine (compareC _ p2 q2 n2 m2 c2 d2 x2 y2 (crow_below H2.out bV1.1) (crow_below K2.out bV1.1)).mono ?_; rintro e w2 ⟨rfl, b2⟩; have bV2 : Gr V w2 := bV1.trans b2; have z2_s0 := below_cell bV2.1 _ _ s0; have z2_s1 := below_cell bV2.1 _ _ s1; have z2_r0 := below_cell bV2.1 _ _ r0; have z2_r1 := below_cell bV2.1 _ _ r1)
    | (go_at_call 55; refine (or2G _ _ _).mono ?_; rintro e w3 ⟨rfl, b3⟩; have bV3 : Gr V w3 := bV2.trans b3; have z3_s0 := below_cell bV3.1 _ _ s0; have z3_s1 := below_cell bV3.1 _ _ s1; have z3_r0 := below_cell bV3.1 _ _ r0; have z3_r1 := below_cell bV3.1 _ _ r1))
  go_wp2_with fail
  go_ret
  exact ⟨rfl, HB.out.trans bV3⟩
set_option maxHeartbeats 1000000 in
theorem itemCmpD (w : World) (a1 a2 : Option Addr) (n1 n2 c1 c2 : Nat) (x y : Mp.Item) (u5 u6 v5 v6 : Value) (la lb : List ByteArray) (h1 : FRow w (.slice a1 n1 c1) la) (h2 : FRow w (.slice a2 n2 c2) lb) :
    Calls Tryz.prog 22 #[.agg #[.slice a1 n1 c1, .string x.id, .int .i64 x.kind, .string x.parent, .bool x.req, .int .i64 x.ticks, u5, u6], .agg #[.slice a2 n2 c2, .string y.id, .int .i64 y.kind, .string y.parent, .bool y.req, .int .i64 y.ticks, v5, v6]] w fun e w' => e = .returned (.int .i64 (Np.rowC Np.cmpS la lb)) ∧ Gr w w' := by
  go_enter Tryz.func22, Tryz.ntmps22
  go_wp2_with fail
  have HB := hideT (((Gr.refl w).alloc (.cells #[.slice a1 n1 c1, .string x.id, .int .i64 x.kind, .string x.parent, .bool x.req, .int .i64 x.ticks, u5, u6] 51)).alloc (.cells #[.slice a2 n2 c2, .string y.id, .int .i64 y.kind, .string y.parent, .bool y.req, .int .i64 y.ticks, v5, v6] 51))
  refine (compareS _ a1 a2 n1 n2 c1 c2 la lb (frow_below h1 HB.out.1) (frow_below h2 HB.out.1)).mono ?_
  rintro e w1 ⟨rfl, rfl⟩
  go_wp2_with fail
  go_ret
  exact ⟨rfl, HB.out⟩
end Go.Proofs.YtdcahnaempabcabGreat
