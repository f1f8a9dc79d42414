/-
  The document's SameSentries.
-/
import Derived.Test.YtlgcaklhceekiaaMSame3
set_option linter.unusedSimpArgs false
set_option linter.unusedVariables false
namespace Go.Proofs.Ytlgcaklhceekiaa
open Go.RowKit
set_option maxRecDepth 100000
set_option maxHeartbeats 8000000 in
set_option maxRecDepth 8000 in
theorem refSentriesD (w : World) (a1 a2 : Option Addr) (n1 n2 c1 c2 : Nat) (la lb : List Mp.Sent) (h1 : SRow w (.slice a1 n1 c1) la) (h2 : SRow w (.slice a2 n2 c2) lb) (b : Bool) (hb : Hid (decide (la = lb) = b)) :
    Calls Try.prog 9 #[.slice a1 n1 c1, .slice a2 n2 c2] w fun e w' => e = .returned (.bool b) ∧ Below w.heap.size w w' := by
  obtain ⟨hn1, hl1, _, b1, o1, ha1, hc1⟩ := srow_at h1
  obtain ⟨hn2, hl2, _, b2, o2, ha2, hc2⟩ := srow_at h2
  have HN1 := hideT hn1
  have HN2 := hideT hn2
  have HC1 := hideT hc1
  have HA1 := hideT ha1
  have HC2 := hideT hc2
  have HA2 := hideT ha2
  clear hc1 ha1 hc2 ha2 h1 h2
  by_cases hne : n1 = n2
  rotate_left
  · have HF := hideT (dec_len (a := la) (b := lb) (by omega))
    have t2 : ((n1 : Int) != (n2 : Int)) = true := bne_iff_ne.2 (by omega)
    clear hn1 hn2
    go_enter Try.func9, Try.ntmps9
    go_wp2_with fail
    go_ret
    exact ⟨ret_b (HF.out.symm.trans hb.out), Below.refl _ _⟩
  subst hne
  clear hn1 hn2
  go_enter Try.func9, Try.ntmps9
  go_wp2_with fail
  go_loopw [5] (fun i wr => ∃ k : Nat, k ≤ n1 ∧ i = .int .i64 k ∧ Hid (∀ (j : Nat), j < k → la[j]? = lb[j]?) ∧ Hid (Below w.heap.size w wr)) (fun i _ => n1 - (intOf i).toNat)
  case atStart => exact ⟨0, by omega, rfl, (fun j hj => absurd hj (by omega)), Below.refl _ _⟩
  case round =>
    obtain ⟨k, hk, rfl, HB, HW⟩ := hrel
    by_cases hlt : k < n1
    rotate_left
    · have HF := hideT (dec_all HN1.out HN2.out (fun j hj => HB.out j (by omega)))
      go_wp2_with fail
      go_ret
      exact ⟨ret_b (HF.out.symm.trans hb.out), HW.out⟩
    obtain ⟨⟨s1, s2⟩, hx⟩ := Mp.at_lt (l := la) (k := k) (by have := HN1.out; omega)
    obtain ⟨⟨t1, t2⟩, hy⟩ := Mp.at_lt (l := lb) (k := k) (by have := HN2.out; omega)
    obtain ⟨p1, c3, p2, c4, r1, r2, d0, d1⟩ := HC1.out k _ hx
    obtain ⟨q1, c5, q2, c6, r3, r4, e0, e1⟩ := HC2.out k _ hy
    dsimp only at r1 r2 r3 r4 d0 d1 e0 e1
    obtain rfl := HA1.out (by omega)
    obtain rfl := HA2.out (by omega)
    have HX := hideT hx
    have HY := hideT hy
    have D0 := hideT d0
    have D1 := hideT d1
    have E0 := hideT e0
    have E1 := hideT e1
    have d0 := below_cell HW.out _ _ D0.out
    have d1 := below_cell HW.out _ _ D1.out
    have e0 := below_cell HW.out _ _ E0.out
    have e1 := below_cell HW.out _ _ E1.out
    obtain ⟨_, _, _, b3, o3, ha3, hc3⟩ := orow_at r1
    obtain ⟨_, _, _, b4, o4, ha4, hc4⟩ := orow_at r3
    obtain ⟨_, _, _, b5, o5, ha5, hc5⟩ := crow_at r2
    obtain ⟨_, _, _, b6, o6, ha6, hc6⟩ := crow_at r4
    have HA3 := hideT ha3
    have HA4 := hideT ha4
    have HA5 := hideT ha5
    have HA6 := hideT ha6
    have HC3 := hideT hc3
    have HC4 := hideT hc4
    have HC5 := hideT hc5
    have HC6 := hideT hc6
    clear hx hy r1 r2 r3 r4 ha3 ha4 ha5 ha6 hc3 hc4 hc5 hc6
    have t0 : (0 : Int) ≤ (k : Int) := by omega
    have t1' : (k : Int) < (n1 : Int) := by omega
    by_cases g1 : s1.length = t1.length
    rotate_left
    · have HF := hideT (dec_at HX.out HY.out (fun h => g1 (by simp only [Prod.mk.injEq] at h; rw [h.1])))
      have g1' : ((s1.length : Int) != (t1.length : Int)) = true := bne_iff_ne.2 (by omega)
      go_wp2_with fail
      go_quiet (fail)
      go_wp2_with fail
      go_ret
      exact ⟨ret_b (HF.out.symm.trans hb.out), below_drewN HW.out _⟩
    by_cases g2 : s2.length = t2.length
    rotate_left
    · have HF := hideT (dec_at HX.out HY.out (fun h => g2 (by simp only [Prod.mk.injEq] at h; rw [h.2])))
      have g1' : ((s1.length : Int) != (t1.length : Int)) = false := by simp [g1]
      have g2' : ((s2.length : Int) != (t2.length : Int)) = true := bne_iff_ne.2 (by omega)
      go_wp2_with fail
      go_quiet (fail)
      go_wp2_with fail
      go_ret
      exact ⟨ret_b (HF.out.symm.trans hb.out), below_drewN HW.out _⟩
    have g1' : ((s1.length : Int) != (t1.length : Int)) = false := by simp [g1]
    have g2' : ((s2.length : Int) != (t2.length : Int)) = false := by simp [g2]
    have G1 := hideT g1
    have G2 := hideT g2
    clear g1 g2
    go_wp2_with fail
    go_quiet (fail)
    go_wp2_with fail
    have HW2 := hideT (below_drewN HW.out nq)
    clear d0 d1 e0 e1
    obtain ⟨W0, hW0⟩ : ∃ W0, W0 = wr := ⟨wr, rfl⟩
    subst hW0
    go_loopw [6] (fun i wr => ∃ k : Nat, k ≤ s1.length ∧ i = .int .i64 k ∧ Hid (∀ (j : Nat), j < k → s1[j]? = t1[j]?) ∧ Hid (Below w.heap.size w wr)) (fun i _ => s1.length - (intOf i).toNat)
    case atStart => exact ⟨0, by omega, rfl, (fun j hj => absurd hj (by omega)), HW2⟩
    case round =>
      obtain ⟨j, hj, rfl, HD, HV⟩ := hrel
      have d0 := below_cell HV.out _ _ D0.out
      have e0 := below_cell HV.out _ _ E0.out
      by_cases hjl : j < s1.length
      · obtain ⟨⟨x0, x1⟩, hx⟩ := Mp.at_lt (l := s1) (k := j) (by omega)
        obtain ⟨⟨y0, y1⟩, hy⟩ := Mp.at_lt (l := t1) (k := j) (by have := G1.out; omega)
        obtain ⟨_, i0, i1⟩ := HC3.out j _ hx
        obtain ⟨_, j0, j1⟩ := HC4.out j _ hy
        dsimp only at i0 i1 j0 j1
        have i0 := below_cell HV.out _ _ i0
        have i1 := below_cell HV.out _ _ i1
        have j0 := below_cell HV.out _ _ j0
        have j1 := below_cell HV.out _ _ j1
        obtain rfl := HA3.out (by omega)
        obtain rfl := HA4.out (by have := G1.out; omega)
        have IX := hideT hx
        have IY := hideT hy
        clear hx hy
        have t3 : (0 : Int) ≤ (j : Int) := by omega
        have t4 : (j : Int) < (s1.length : Int) := by omega
        have t5 : (j : Int) < (t1.length : Int) := by have := G1.out; omega
        by_cases q0 : x0 = y0
        rotate_left
        · have HF := hideT (dec_at HX.out HY.out (fun h => q0 (by
            simp only [Prod.mk.injEq] at h
            have hh := IX.out
            rw [h.1, IY.out] at hh
            simp only [Option.some.injEq, Prod.mk.injEq] at hh
            exact hh.1.symm)))
          have q1' : ¬ x0.toList = y0.toList := fun h => q0 (toList_inj h)
          have q2' : (x0.toList == y0.toList) = false := beq_eq_false_iff_ne.2 q1'
          have q3' : (x0.toList != y0.toList) = true := bne_iff_ne.2 q1'
          clear q0
          go_wp2_with fail
          go_quiet (fail)
          go_wp2_with fail
          go_ret
          exact ⟨ret_b (HF.out.symm.trans hb.out), below_drewN HV.out _⟩
        subst q0
        by_cases q1 : x1 = y1
        rotate_left
        · have HF := hideT (dec_at HX.out HY.out (fun h => q1 (by
            simp only [Prod.mk.injEq] at h
            have hh := IX.out
            rw [h.1, IY.out] at hh
            simp only [Option.some.injEq, Prod.mk.injEq] at hh
            exact hh.2.symm)))
          go_wp2_with fail
          go_quiet (fail)
          go_wp2_with fail
          go_ret
          exact ⟨ret_b (HF.out.symm.trans hb.out), below_drewN HV.out _⟩
        subst q1
        have HR : Hid (∀ (i : Nat), i < j + 1 → s1[i]? = t1[i]?) := by
          intro i hi
          by_cases hj' : i < j
          · exact HD.out i hj'
          · obtain rfl : i = j := by omega
            rw [IX.out, IY.out]
        go_wp2_with fail
        go_quiet (fail)
        go_wp2_with fail
        refine ⟨⟨j + 1, by omega, by go_num, HR, below_drewN HV.out _⟩, ?_⟩
        first | omega | (simp [intOf]; omega)
      have HE0 := dec_all (a := s1) (b := t1) (n := s1.length) rfl G1.out (fun i hi => HD.out i (by omega))
      have HE00 : s1 = t1 := of_decide_eq_true HE0
      have HE1 := hideT HE00
      clear HE0 HE00
      go_wp2_with fail
      clear d0 e0
      have HV2 := hideT HV.out
      obtain ⟨W1, hW1⟩ : ∃ W1, W1 = wr := ⟨wr, rfl⟩
      subst hW1
      go_loopw [7] (fun i wr => ∃ k : Nat, k ≤ s2.length ∧ i = .int .i64 k ∧ Hid (∀ (j : Nat), j < k → s2[j]? = t2[j]?) ∧ Hid (Below w.heap.size w wr)) (fun i _ => s2.length - (intOf i).toNat)
      case atStart => exact ⟨0, by omega, rfl, (fun j hj => absurd hj (by omega)), HV2⟩
      case round =>
        obtain ⟨i, hi, rfl, HM, HU⟩ := hrel
        have d1 := below_cell HU.out _ _ D1.out
        have e1 := below_cell HU.out _ _ E1.out
        by_cases hil : i < s2.length
        · obtain ⟨⟨x0, x1, x2⟩, hx⟩ := Mp.at_lt (l := s2) (k := i) (by omega)
          obtain ⟨⟨y0, y1, y2⟩, hy⟩ := Mp.at_lt (l := t2) (k := i) (by have := G2.out; omega)
          obtain ⟨_, i0, i1, i2⟩ := HC5.out i _ hx
          obtain ⟨_, j0, j1, j2⟩ := HC6.out i _ hy
          dsimp only at i0 i1 i2 j0 j1 j2
          have i0 := below_cell HU.out _ _ i0
          have i1 := below_cell HU.out _ _ i1
          have i2 := below_cell HU.out _ _ i2
          have j0 := below_cell HU.out _ _ j0
          have j1 := below_cell HU.out _ _ j1
          have j2 := below_cell HU.out _ _ j2
          obtain rfl := HA5.out (by omega)
          obtain rfl := HA6.out (by have := G2.out; omega)
          have IX := hideT hx
          have IY := hideT hy
          clear hx hy
          have t3 : (0 : Int) ≤ (i : Int) := by omega
          have t4 : (i : Int) < (s2.length : Int) := by omega
          have t5 : (i : Int) < (t2.length : Int) := by have := G2.out; omega
          by_cases q0 : x0 = y0
          rotate_left
          · have HF := hideT (dec_at HX.out HY.out (fun h => q0 (by
              simp only [Prod.mk.injEq] at h
              have hh := IX.out
              rw [h.2, IY.out] at hh
              simp only [Option.some.injEq, Prod.mk.injEq] at hh
              exact hh.1.symm)))
            have q1' : ¬ x0.toList = y0.toList := fun h => q0 (toList_inj h)
            have q2' : (x0.toList == y0.toList) = false := beq_eq_false_iff_ne.2 q1'
            have q3' : (x0.toList != y0.toList) = true := bne_iff_ne.2 q1'
            clear q0
            go_wp2_with fail
            go_quiet (fail)
            go_wp2_with fail
            go_ret
            exact ⟨ret_b (HF.out.symm.trans hb.out), below_drewN HU.out _⟩
          subst q0
          by_cases q1 : x1 = y1
          rotate_left
          · have HF := hideT (dec_at HX.out HY.out (fun h => q1 (by
              simp only [Prod.mk.injEq] at h
              have hh := IX.out
              rw [h.2, IY.out] at hh
              simp only [Option.some.injEq, Prod.mk.injEq] at hh
              exact hh.2.1.symm)))
            have q1' : ¬ x1.toList = y1.toList := fun h => q1 (toList_inj h)
            have q2' : (x1.toList == y1.toList) = false := beq_eq_false_iff_ne.2 q1'
            have q3' : (x1.toList != y1.toList) = true := bne_iff_ne.2 q1'
            clear q1
            go_wp2_with fail
            go_quiet (fail)
            go_wp2_with fail
            go_ret
            exact ⟨ret_b (HF.out.symm.trans hb.out), below_drewN HU.out _⟩
          subst q1
          by_cases q2 : x2 = y2
          rotate_left
          · have HF := hideT (dec_at HX.out HY.out (fun h => q2 (by
              simp only [Prod.mk.injEq] at h
              have hh := IX.out
              rw [h.2, IY.out] at hh
              simp only [Option.some.injEq, Prod.mk.injEq] at hh
              exact hh.2.2.symm)))
            go_wp2_with fail
            go_quiet (fail)
            go_wp2_with fail
            go_ret
            exact ⟨ret_b (HF.out.symm.trans hb.out), below_drewN HU.out _⟩
          subst q2
          have HR : Hid (∀ (j : Nat), j < i + 1 → s2[j]? = t2[j]?) := by
            intro j hj
            by_cases hj' : j < i
            · exact HM.out j hj'
            · obtain rfl : j = i := by omega
              rw [IX.out, IY.out]
          go_wp2_with fail
          go_quiet (fail)
          go_wp2_with fail
          refine ⟨⟨i + 1, by omega, by go_num, HR, below_drewN HU.out _⟩, ?_⟩
          first | omega | (simp [intOf]; omega)
        have HE2 := dec_all (a := s2) (b := t2) (n := s2.length) rfl G2.out (fun j hj => HM.out j (by omega))
        have HE22 : s2 = t2 := of_decide_eq_true HE2
        have HE3 := hideT HE22
        clear HE2 HE22
        have HR : Hid (∀ (j : Nat), j < k + 1 → la[j]? = lb[j]?) := by
          intro j hj
          by_cases hj' : j < k
          · exact HB.out j hj'
          · obtain rfl : j = k := by omega
            rw [HX.out, HY.out, HE1.out, HE3.out]
        go_wp2_with fail
        refine ⟨⟨k + 1, by omega, by go_num, HR, HU⟩, ?_⟩
        first | omega | (simp [intOf]; omega)
end Go.Proofs.Ytlgcaklhceekiaa
