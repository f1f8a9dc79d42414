/-
  Several texts in one: each opens with its own word.
-/
import Derived.Test.YtmhiilfjckadkaaMSame1
import Derived.Deep.RegionHeld3
/-
  The program's SameSentries, SameItem.
-/
set_option linter.unusedSimpArgs false
set_option linter.unusedVariables false
namespace Go.Proofs.Ytmhiilfjckadkaa
open Go.RowKit
set_option maxRecDepth 100000
theorem equalOV (w : World) (a1 a2 : Option Addr) (n1 n2 c1 c2 : Nat) (la lb : List Mp.On) (h1 : ORow w (.slice a1 n1 c1) la) (h2 : ORow w (.slice a2 n2 c2) lb) (b : Bool) (hb : Hid (decide (la = lb) = b)) :
    Calls Try.prog 79 #[.slice a1 n1 c1, .slice a2 n2 c2] w fun e w' => e = .returned (.bool b) ∧ Below w.heap.size w w' := by
  rw [← hb.out]
  exact equalO w a1 a2 n1 n2 c1 c2 la lb h1 h2
theorem equalCV (w : World) (a1 a2 : Option Addr) (n1 n2 c1 c2 : Nat) (la lb : List Mp.Cond) (h1 : CRow w (.slice a1 n1 c1) la) (h2 : CRow w (.slice a2 n2 c2) lb) (b : Bool) (hb : Hid (decide (la = lb) = b)) :
    Calls Try.prog 68 #[.slice a1 n1 c1, .slice a2 n2 c2] w fun e w' => e = .returned (.bool b) ∧ Below w.heap.size w w' := by
  rw [← hb.out]
  exact equalC w a1 a2 n1 n2 c1 c2 la lb h1 h2
theorem dec_pair {α β : Type} [DecidableEq α] [DecidableEq β] (a c : α) (b d : β) : decide ((a, b) = (c, d)) = (decide (a = c) && decide (b = d)) := by
  rw [Bool.eq_iff_iff]
  simp only [Bool.and_eq_true, decide_eq_true_eq, Prod.mk.injEq]
end Go.Proofs.Ytmhiilfjckadkaa
/-
  The program's SameItem, Same.
-/
set_option linter.unusedSimpArgs false
set_option linter.unusedVariables false
namespace Go.Proofs.Ytmhiilfjckadkaa
open Go.RowKit
set_option maxRecDepth 100000
namespace Mp
/-- Two items are one; two rows of items; two models. -/
def eqI (x y : Item) : Bool := decide (x.id = y.id) && (decide (x.kind = y.kind) && (decide (x.parent = y.parent) && (decide (x.req = y.req) && (decide (x.ticks = y.ticks) && (decide (x.entry = y.entry) && decide (x.exit = y.exit))))))
def eqIs : List Item → List Item → Bool
  | [], [] => true
  | x :: r, y :: s => eqI x y && eqIs r s
  | _, _ => false
def eqM (x y : Model) : Bool := decide (x.files = y.files) && eqIs x.items y.items
theorem eqI_iff (x y : Item) : eqI x y = true ↔ x = y := by
  obtain ⟨x0, x1, x2, x3, x4, x5, x6⟩ := x
  obtain ⟨y0, y1, y2, y3, y4, y5, y6⟩ := y
  simp only [eqI, Bool.and_eq_true, decide_eq_true_eq, Item.mk.injEq]
theorem eqIs_iff : ∀ (a b : List Item), eqIs a b = true ↔ a = b
  | [], [] => by simp [eqIs]
  | [], y :: s => by simp [eqIs]
  | x :: r, [] => by simp [eqIs]
  | x :: r, y :: s => by simp only [eqIs, Bool.and_eq_true, eqI_iff, eqIs_iff r s, List.cons.injEq]
theorem eqM_iff (x y : Model) : eqM x y = true ↔ x = y := by
  obtain ⟨x0, x1⟩ := x
  obtain ⟨y0, y1⟩ := y
  simp only [eqM, Bool.and_eq_true, decide_eq_true_eq, eqIs_iff, Model.mk.injEq]
theorem eqIs_no {a b : List Item} (h : a ≠ b) : eqIs a b = false := by
  cases e : eqIs a b
  · rfl
  · exact absurd ((eqIs_iff a b).1 e) h
theorem eqIs_len {a b : List Item} (h : a.length ≠ b.length) : eqIs a b = false := eqIs_no fun e => h (by rw [e])
theorem eqIs_at {a b : List Item} {k : Nat} {x y : Item} (h1 : a[k]? = some x) (h2 : b[k]? = some y) (h : eqI x y = false) : eqIs a b = false := eqIs_no fun e => by
  rw [e, h2] at h1
  have := (eqI_iff x y).2 (Option.some.inj h1).symm
  rw [h] at this
  exact absurd this (by decide)
theorem eqIs_all {a b : List Item} {n : Nat} (h1 : n = a.length) (h2 : n = b.length) (h : ∀ (j : Nat), j < n → a[j]? = b[j]?) : eqIs a b = true := by
  refine (eqIs_iff a b).2 (List.ext_getElem? fun j => ?_)
  by_cases hj : j < n
  · exact h j hj
  · rw [List.getElem?_eq_none (by omega), List.getElem?_eq_none (by omega)]
end Mp
end Go.Proofs.Ytmhiilfjckadkaa
/-
  The program's Same.
-/
set_option linter.unusedSimpArgs false
set_option linter.unusedVariables false
namespace Go.Proofs.Ytmhiilfjckadkaa
open Go.RowKit
set_option maxRecDepth 100000
theorem equalSV (w : World) (a1 a2 : Option Addr) (n1 n2 c1 c2 : Nat) (la lb : List ByteArray) (h1 : FRow w (.slice a1 n1 c1) la) (h2 : FRow w (.slice a2 n2 c2) lb) (b : Bool) (hb : Hid (decide (la = lb) = b)) :
    Calls Try.prog 41 #[.slice a1 n1 c1, .slice a2 n2 c2] w fun e w' => e = .returned (.bool b) ∧ Below w.heap.size w w' := by
  rw [← hb.out]
  exact equalS w a1 a2 n1 n2 c1 c2 la lb h1 h2
end Go.Proofs.Ytmhiilfjckadkaa
/-
  The document's SameSentries.
-/
set_option linter.unusedSimpArgs false
set_option linter.unusedVariables false
namespace Go.Proofs.Ytmhiilfjckadkaa
open Go.RowKit
set_option maxRecDepth 100000
set_option maxHeartbeats 8000000 in
set_option maxRecDepth 8000 in
theorem refSentriesD (w : World) (a1 a2 : Option Addr) (n1 n2 c1 c2 : Nat) (la lb : List Mp.Sent) (h1 : SRow w (.slice a1 n1 c1) la) (h2 : SRow w (.slice a2 n2 c2) lb) (b : Bool) (hb : Hid (decide (la = lb) = b)) :
    Calls Try.prog 80 #[.slice a1 n1 c1, .slice a2 n2 c2] w fun e w' => e = .returned (.bool b) ∧ Below w.heap.size w w' := by
  obtain ⟨hn1, hl1, _, b1, o1, ha1, hc1⟩ := srow_at h1
  obtain ⟨hn2, hl2, _, b2, o2, ha2, hc2⟩ := srow_at h2
  have HN1 := hideT hn1
  have HN2 := hideT hn2
  have HC1 := hideT hc1
  have HA1 := hideT ha1
  have HC2 := hideT hc2
  have HA2 := hideT ha2
  clear hc1 ha1 hc2 ha2 h1 h2
  by_cases hne : n1 = n2
  rotate_left
  · have HF := hideT (dec_len (a := la) (b := lb) (by omega))
    have t2 : ((n1 : Int) != (n2 : Int)) = true := bne_iff_ne.2 (by omega)
    clear hn1 hn2
    go_enter Try.func80, Try.ntmps80
    go_wp2_with fail
    go_ret
    exact ⟨ret_b (HF.out.symm.trans hb.out), Below.refl _ _⟩
  subst hne
  clear hn1 hn2
  go_enter Try.func80, Try.ntmps80
  go_wp2_with fail
  go_loopw [5] (fun i wr => ∃ k : Nat, k ≤ n1 ∧ i = .int .i64 k ∧ Hid (∀ (j : Nat), j < k → la[j]? = lb[j]?) ∧ Hid (Below w.heap.size w wr)) (fun i _ => n1 - (intOf i).toNat)
  case atStart => exact ⟨0, by omega, rfl, (fun j hj => absurd hj (by omega)), Below.refl _ _⟩
  case round =>
    obtain ⟨k, hk, rfl, HB, HW⟩ := hrel
    by_cases hlt : k < n1
    rotate_left
    · have HF := hideT (dec_all HN1.out HN2.out (fun j hj => HB.out j (by omega)))
      go_wp2_with fail
      go_ret
      exact ⟨ret_b (HF.out.symm.trans hb.out), HW.out⟩
    obtain ⟨⟨s1, s2⟩, hx⟩ := Mp.at_lt (l := la) (k := k) (by have := HN1.out; omega)
    obtain ⟨⟨t1, t2⟩, hy⟩ := Mp.at_lt (l := lb) (k := k) (by have := HN2.out; omega)
    obtain ⟨p1, c3, p2, c4, r1, r2, d0, d1⟩ := HC1.out k _ hx
    obtain ⟨q1, c5, q2, c6, r3, r4, e0, e1⟩ := HC2.out k _ hy
    dsimp only at r1 r2 r3 r4 d0 d1 e0 e1
    obtain rfl := HA1.out (by omega)
    obtain rfl := HA2.out (by omega)
    have HX := hideT hx
    have HY := hideT hy
    have D0 := hideT d0
    have D1 := hideT d1
    have E0 := hideT e0
    have E1 := hideT e1
    have d0 := below_cell HW.out _ _ D0.out
    have d1 := below_cell HW.out _ _ D1.out
    have e0 := below_cell HW.out _ _ E0.out
    have e1 := below_cell HW.out _ _ E1.out
    obtain ⟨_, _, _, b3, o3, ha3, hc3⟩ := orow_at r1
    obtain ⟨_, _, _, b4, o4, ha4, hc4⟩ := orow_at r3
    obtain ⟨_, _, _, b5, o5, ha5, hc5⟩ := crow_at r2
    obtain ⟨_, _, _, b6, o6, ha6, hc6⟩ := crow_at r4
    have HA3 := hideT ha3
    have HA4 := hideT ha4
    have HA5 := hideT ha5
    have HA6 := hideT ha6
    have HC3 := hideT hc3
    have HC4 := hideT hc4
    have HC5 := hideT hc5
    have HC6 := hideT hc6
    clear hx hy r1 r2 r3 r4 ha3 ha4 ha5 ha6 hc3 hc4 hc5 hc6
    have t0 : (0 : Int) ≤ (k : Int) := by omega
    have t1' : (k : Int) < (n1 : Int) := by omega
    by_cases g1 : s1.length = t1.length
    rotate_left
    · have HF := hideT (dec_at HX.out HY.out (fun h => g1 (by simp only [Prod.mk.injEq] at h; rw [h.1])))
      have g1' : ((s1.length : Int) != (t1.length : Int)) = true := bne_iff_ne.2 (by omega)
      go_wp2_with fail
      go_quiet (fail)
      go_wp2_with fail
      go_ret
      exact ⟨ret_b (HF.out.symm.trans hb.out), below_drewN HW.out _⟩
    by_cases g2 : s2.length = t2.length
    rotate_left
    · have HF := hideT (dec_at HX.out HY.out (fun h => g2 (by simp only [Prod.mk.injEq] at h; rw [h.2])))
      have g1' : ((s1.length : Int) != (t1.length : Int)) = false := by simp [g1]
      have g2' : ((s2.length : Int) != (t2.length : Int)) = true := bne_iff_ne.2 (by omega)
      go_wp2_with fail
      go_quiet (fail)
      go_wp2_with fail
      go_ret
      exact ⟨ret_b (HF.out.symm.trans hb.out), below_drewN HW.out _⟩
    have g1' : ((s1.length : Int) != (t1.length : Int)) = false := by simp [g1]
    have g2' : ((s2.length : Int) != (t2.length : Int)) = false := by simp [g2]
    have G1 := hideT g1
    have G2 := hideT g2
    clear g1 g2
    go_wp2_with fail
    go_quiet (fail)
    go_wp2_with fail
    have HW2 := hideT (below_drewN HW.out nq)
    clear d0 d1 e0 e1
    obtain ⟨W0, hW0⟩ : ∃ W0, W0 = wr := ⟨wr, rfl⟩
    subst hW0
    go_loopw [6] (fun i wr => ∃ k : Nat, k ≤ s1.length ∧ i = .int .i64 k ∧ Hid (∀ (j : Nat), j < k → s1[j]? = t1[j]?) ∧ Hid (Below w.heap.size w wr)) (fun i _ => s1.length - (intOf i).toNat)
    case atStart => exact ⟨0, by omega, rfl, (fun j hj => absurd hj (by omega)), HW2⟩
    case round =>
      obtain ⟨j, hj, rfl, HD, HV⟩ := hrel
      have d0 := below_cell HV.out _ _ D0.out
      have e0 := below_cell HV.out _ _ E0.out
      by_cases hjl : j < s1.length
      · obtain ⟨⟨x0, x1⟩, hx⟩ := Mp.at_lt (l := s1) (k := j) (by omega)
        obtain ⟨⟨y0, y1⟩, hy⟩ := Mp.at_lt (l := t1) (k := j) (by have := G1.out; omega)
        obtain ⟨_, i0, i1⟩ := HC3.out j _ hx
        obtain ⟨_, j0, j1⟩ := HC4.out j _ hy
        dsimp only at i0 i1 j0 j1
        have i0 := below_cell HV.out _ _ i0
        have i1 := below_cell HV.out _ _ i1
        have j0 := below_cell HV.out _ _ j0
        have j1 := below_cell HV.out _ _ j1
        obtain rfl := HA3.out (by omega)
        obtain rfl := HA4.out (by have := G1.out; omega)
        have IX := hideT hx
        have IY := hideT hy
        clear hx hy
        have t3 : (0 : Int) ≤ (j : Int) := by omega
        have t4 : (j : Int) < (s1.length : Int) := by omega
        have t5 : (j : Int) < (t1.length : Int) := by have := G1.out; omega
        by_cases q0 : x0 = y0
        rotate_left
        · have HF := hideT (dec_at HX.out HY.out (fun h => q0 (by
            simp only [Prod.mk.injEq] at h
            have hh := IX.out
            rw [h.1, IY.out] at hh
            simp only [Option.some.injEq, Prod.mk.injEq] at hh
            exact hh.1.symm)))
          have q1' : ¬ x0.toList = y0.toList := fun h => q0 (toList_inj h)
          have q2' : (x0.toList == y0.toList) = false := beq_eq_false_iff_ne.2 q1'
          have q3' : (x0.toList != y0.toList) = true := bne_iff_ne.2 q1'
          clear q0
          go_wp2_with fail
          go_quiet (fail)
          go_wp2_with fail
          go_ret
          exact ⟨ret_b (HF.out.symm.trans hb.out), below_drewN HV.out _⟩
        subst q0
        by_cases q1 : x1 = y1
        rotate_left
        · have HF := hideT (dec_at HX.out HY.out (fun h => q1 (by
            simp only [Prod.mk.injEq] at h
            have hh := IX.out
            rw [h.1, IY.out] at hh
            simp only [Option.some.injEq, Prod.mk.injEq] at hh
            exact hh.2.symm)))
          go_wp2_with fail
          go_quiet (fail)
          go_wp2_with fail
          go_ret
          exact ⟨ret_b (HF.out.symm.trans hb.out), below_drewN HV.out _⟩
        subst q1
        have HR : Hid (∀ (i : Nat), i < j + 1 → s1[i]? = t1[i]?) := by
          intro i hi
          by_cases hj' : i < j
          · exact HD.out i hj'
          · obtain rfl : i = j := by omega
            rw [IX.out, IY.out]
        go_wp2_with fail
        go_quiet (fail)
        go_wp2_with fail
        refine ⟨⟨j + 1, by omega, by go_num, HR, below_drewN HV.out _⟩, ?_⟩
        first | omega | (simp [intOf]; omega)
      have HE0 := dec_all (a := s1) (b := t1) (n := s1.length) rfl G1.out (fun i hi => HD.out i (by omega))
      have HE00 : s1 = t1 := of_decide_eq_true HE0
      have HE1 := hideT HE00
      clear HE0 HE00
      go_wp2_with fail
      clear d0 e0
      have HV2 := hideT HV.out
      obtain ⟨W1, hW1⟩ : ∃ W1, W1 = wr := ⟨wr, rfl⟩
      subst hW1
      go_loopw [7] (fun i wr => ∃ k : Nat, k ≤ s2.length ∧ i = .int .i64 k ∧ Hid (∀ (j : Nat), j < k → s2[j]? = t2[j]?) ∧ Hid (Below w.heap.size w wr)) (fun i _ => s2.length - (intOf i).toNat)
      case atStart => exact ⟨0, by omega, rfl, (fun j hj => absurd hj (by omega)), HV2⟩
      case round =>
        obtain ⟨i, hi, rfl, HM, HU⟩ := hrel
        have d1 := below_cell HU.out _ _ D1.out
        have e1 := below_cell HU.out _ _ E1.out
        by_cases hil : i < s2.length
        · obtain ⟨⟨x0, x1, x2⟩, hx⟩ := Mp.at_lt (l := s2) (k := i) (by omega)
          obtain ⟨⟨y0, y1, y2⟩, hy⟩ := Mp.at_lt (l := t2) (k := i) (by have := G2.out; omega)
          obtain ⟨_, i0, i1, i2⟩ := HC5.out i _ hx
          obtain ⟨_, j0, j1, j2⟩ := HC6.out i _ hy
          dsimp only at i0 i1 i2 j0 j1 j2
          have i0 := below_cell HU.out _ _ i0
          have i1 := below_cell HU.out _ _ i1
          have i2 := below_cell HU.out _ _ i2
          have j0 := below_cell HU.out _ _ j0
          have j1 := below_cell HU.out _ _ j1
          have j2 := below_cell HU.out _ _ j2
          obtain rfl := HA5.out (by omega)
          obtain rfl := HA6.out (by have := G2.out; omega)
          have IX := hideT hx
          have IY := hideT hy
          clear hx hy
          have t3 : (0 : Int) ≤ (i : Int) := by omega
          have t4 : (i : Int) < (s2.length : Int) := by omega
          have t5 : (i : Int) < (t2.length : Int) := by have := G2.out; omega
          by_cases q0 : x0 = y0
          rotate_left
          · have HF := hideT (dec_at HX.out HY.out (fun h => q0 (by
              simp only [Prod.mk.injEq] at h
              have hh := IX.out
              rw [h.2, IY.out] at hh
              simp only [Option.some.injEq, Prod.mk.injEq] at hh
              exact hh.1.symm)))
            have q1' : ¬ x0.toList = y0.toList := fun h => q0 (toList_inj h)
            have q2' : (x0.toList == y0.toList) = false := beq_eq_false_iff_ne.2 q1'
            have q3' : (x0.toList != y0.toList) = true := bne_iff_ne.2 q1'
            clear q0
            go_wp2_with fail
            go_quiet (fail)
            go_wp2_with fail
            go_ret
            exact ⟨ret_b (HF.out.symm.trans hb.out), below_drewN HU.out _⟩
          subst q0
          by_cases q1 : x1 = y1
          rotate_left
          · have HF := hideT (dec_at HX.out HY.out (fun h => q1 (by
              simp only [Prod.mk.injEq] at h
              have hh := IX.out
              rw [h.2, IY.out] at hh
              simp only [Option.some.injEq, Prod.mk.injEq] at hh
              exact hh.2.1.symm)))
            have q1' : ¬ x1.toList = y1.toList := fun h => q1 (toList_inj h)
            have q2' : (x1.toList == y1.toList) = false := beq_eq_false_iff_ne.2 q1'
            have q3' : (x1.toList != y1.toList) = true := bne_iff_ne.2 q1'
            clear q1
            go_wp2_with fail
            go_quiet (fail)
            go_wp2_with fail
            go_ret
            exact ⟨ret_b (HF.out.symm.trans hb.out), below_drewN HU.out _⟩
          subst q1
          by_cases q2 : x2 = y2
          rotate_left
          · have HF := hideT (dec_at HX.out HY.out (fun h => q2 (by
              simp only [Prod.mk.injEq] at h
              have hh := IX.out
              rw [h.2, IY.out] at hh
              simp only [Option.some.injEq, Prod.mk.injEq] at hh
              exact hh.2.2.symm)))
            go_wp2_with fail
            go_quiet (fail)
            go_wp2_with fail
            go_ret
            exact ⟨ret_b (HF.out.symm.trans hb.out), below_drewN HU.out _⟩
          subst q2
          have HR : Hid (∀ (j : Nat), j < i + 1 → s2[j]? = t2[j]?) := by
            intro j hj
            by_cases hj' : j < i
            · exact HM.out j hj'
            · obtain rfl : j = i := by omega
              rw [IX.out, IY.out]
          go_wp2_with fail
          go_quiet (fail)
          go_wp2_with fail
          refine ⟨⟨i + 1, by omega, by go_num, HR, below_drewN HU.out _⟩, ?_⟩
          first | omega | (simp [intOf]; omega)
        have HE2 := dec_all (a := s2) (b := t2) (n := s2.length) rfl G2.out (fun j hj => HM.out j (by omega))
        have HE22 : s2 = t2 := of_decide_eq_true HE2
        have HE3 := hideT HE22
        clear HE2 HE22
        have HR : Hid (∀ (j : Nat), j < k + 1 → la[j]? = lb[j]?) := by
          intro j hj
          by_cases hj' : j < k
          · exact HB.out j hj'
          · obtain rfl : j = k := by omega
            rw [HX.out, HY.out, HE1.out, HE3.out]
        go_wp2_with fail
        refine ⟨⟨k + 1, by omega, by go_num, HR, HU⟩, ?_⟩
        first | omega | (simp [intOf]; omega)
end Go.Proofs.Ytmhiilfjckadkaa
/-
  The document's SameItem, Same.
-/
set_option linter.unusedSimpArgs false
set_option linter.unusedVariables false
namespace Go.Proofs.Ytmhiilfjckadkaa
open Go.RowKit
set_option maxRecDepth 100000
set_option maxHeartbeats 4000000 in
theorem refItemD (w : World) (x0 y0 : ByteArray) (x1 y1 : Int) (x2 y2 : ByteArray) (x3 y3 : Bool) (x4 y4 : Int) (x5 y5 x6 y6 : List Mp.Sent) (p5 p6 q5 q6 : Option Addr) (c5 c6 d5 d6 : Nat)
    (h5 : SRow w (.slice p5 x5.length c5) x5) (h6 : SRow w (.slice p6 x6.length c6) x6) (k5 : SRow w (.slice q5 y5.length d5) y5) (k6 : SRow w (.slice q6 y6.length d6) y6) (b : Bool) (hb : Hid (Mp.eqI ⟨x0, x1, x2, x3, x4, x5, x6⟩ ⟨y0, y1, y2, y3, y4, y5, y6⟩ = b)) :
    Calls Try.prog 72 #[.agg #[.string x0, .int .i64 x1, .string x2, .bool x3, .int .i64 x4, .slice p5 x5.length c5, .slice p6 x6.length c6], .agg #[.string y0, .int .i64 y1, .string y2, .bool y3, .int .i64 y4, .slice q5 y5.length d5, .slice q6 y6.length d6]] w fun e w' => e = .returned (.bool b) ∧ Below w.heap.size w w' := by
  have R5 := hideT h5
  have R6 := hideT h6
  have K5 := hideT k5
  have K6 := hideT k6
  clear h5 h6 k5 k6
  have B0 := hideT (((Below.refl w.heap.size w).alloc (Nat.le_refl _) (.cells #[.string x0, .int .i64 x1, .string x2, .bool x3, .int .i64 x4, .slice p5 x5.length c5, .slice p6 x6.length c6] 56)).alloc (by simp) (.cells #[.string y0, .int .i64 y1, .string y2, .bool y3, .int .i64 y4, .slice q5 y5.length d5, .slice q6 y6.length d6] 56))
  have LA := hideT ((Lies.new w 56 #[.string x0, .int .i64 x1, .string x2, .bool x3, .int .i64 x4, .slice p5 x5.length c5, .slice p6 x6.length c6]).below ((Below.refl _ _).alloc (Nat.le_refl _) (.cells #[.string y0, .int .i64 y1, .string y2, .bool y3, .int .i64 y4, .slice q5 y5.length d5, .slice q6 y6.length d6] 56)))
  have LB : Hid (Lies ((w.alloc (.cells #[.string x0, .int .i64 x1, .string x2, .bool x3, .int .i64 x4, .slice p5 x5.length c5, .slice p6 x6.length c6] 56)).alloc (.cells #[.string y0, .int .i64 y1, .string y2, .bool y3, .int .i64 y4, .slice q5 y5.length d5, .slice q6 y6.length d6] 56)) (w.heap.size + 1) 56 #[.string y0, .int .i64 y1, .string y2, .bool y3, .int .i64 y4, .slice q5 y5.length d5, .slice q6 y6.length d6]) := by
    have := Lies.new (w.alloc (.cells #[.string x0, .int .i64 x1, .string x2, .bool x3, .int .i64 x4, .slice p5 x5.length c5, .slice p6 x6.length c6] 56)) 56 #[.string y0, .int .i64 y1, .string y2, .bool y3, .int .i64 y4, .slice q5 y5.length d5, .slice q6 y6.length d6]
    rwa [show (w.alloc (.cells #[.string x0, .int .i64 x1, .string x2, .bool x3, .int .i64 x4, .slice p5 x5.length c5, .slice p6 x6.length c6] 56)).heap.size = w.heap.size + 1 by simp] at this
  go_enter Try.func72, Try.ntmps72
  by_cases g0 : x0 = y0
  rotate_left
  · have HF : Hid (b = false) := by rw [← hb.out]; simp [Mp.eqI, g0, Hid]
    have q1' : ¬ x0.toList = y0.toList := fun h => g0 (toList_inj h)
    have q2' : (x0.toList == y0.toList) = false := beq_eq_false_iff_ne.2 q1'
    go_wp2_with fail
    go_ret
    exact ⟨ret_b HF.out.symm, B0.out⟩
  subst g0
  by_cases g1 : x1 = y1
  rotate_left
  · have HF : Hid (b = false) := by rw [← hb.out]; simp [Mp.eqI, g1, Hid]
    go_wp2_with fail
    go_ret
    exact ⟨ret_b HF.out.symm, B0.out⟩
  subst g1
  by_cases g2 : x2 = y2
  rotate_left
  · have HF : Hid (b = false) := by rw [← hb.out]; simp [Mp.eqI, g2, Hid]
    have q1' : ¬ x2.toList = y2.toList := fun h => g2 (toList_inj h)
    have q2' : (x2.toList == y2.toList) = false := beq_eq_false_iff_ne.2 q1'
    go_wp2_with fail
    go_ret
    exact ⟨ret_b HF.out.symm, B0.out⟩
  subst g2
  by_cases g3 : x3 = y3
  rotate_left
  · have HF : Hid (b = false) := by rw [← hb.out]; simp [Mp.eqI, g3, Hid]
    have q1' : (x3 == y3) = false := beq_eq_false_iff_ne.2 g3
    go_wp2_with fail
    go_ret
    exact ⟨ret_b HF.out.symm, B0.out⟩
  subst g3
  by_cases g4 : x4 = y4
  rotate_left
  · have HF : Hid (b = false) := by rw [← hb.out]; simp [Mp.eqI, g4, Hid]
    go_wp2_with fail
    go_ret
    exact ⟨ret_b HF.out.symm, B0.out⟩
  subst g4
  obtain ⟨b1, H1⟩ : ∃ y, Hid (decide (x5 = y5) = y) := ⟨_, rfl⟩
  obtain ⟨b2, H2⟩ : ∃ y, Hid (decide (x6 = y6) = y) := ⟨_, rfl⟩
  have HF : Hid (b = (b1 && b2)) := by show _ = _; rw [← hb.out, ← H1.out, ← H2.out]; simp [Mp.eqI]
  go_wp2_with fail
  refine (refSentriesD _ _ _ _ _ _ _ x5 y5 (srow_below R5.out B0.out) (srow_below K5.out B0.out) b1 H1).mono ?_
  rintro e w1 ⟨rfl, p⟩
  have B1 := hideT (B0.out.trans (p.mono B0.out.size))
  cases b1
  · go_wp2_with fail
    go_ret
    exact ⟨ret_b (by rw [HF.out]; rfl), B1.out⟩
  have z1 : w1.cell? ⟨w.heap.size, 6, none⟩ = some (.slice p6 x6.length c6) := (LA.out.below p).cell 6
  have z2 : w1.cell? ⟨w.heap.size + 1, 6, none⟩ = some (.slice q6 y6.length d6) := (LB.out.below p).cell 6
  clear p
  go_wp2_with fail
  refine (refSentriesD _ _ _ _ _ _ _ x6 y6 (srow_below R6.out B1.out) (srow_below K6.out B1.out) b2 H2).mono ?_
  rintro e w2 ⟨rfl, p2'⟩
  go_wp2_with fail
  go_ret
  exact ⟨ret_b (by rw [HF.out]; rfl), B1.out.trans (p2'.mono B1.out.size)⟩
end Go.Proofs.Ytmhiilfjckadkaa
/-
  The document's SameItems, Same.
-/
set_option linter.unusedSimpArgs false
set_option linter.unusedVariables false
namespace Go.Proofs.Ytmhiilfjckadkaa
open Go.RowKit
set_option maxRecDepth 100000
set_option maxHeartbeats 4000000 in
theorem refItems (w : World) (a1 a2 : Option Addr) (n1 n2 c1 c2 : Nat) (la lb : List Mp.Item) (h1 : IRow w (.slice a1 n1 c1) la) (h2 : IRow w (.slice a2 n2 c2) lb) :
    Calls Try.prog 50 #[.slice a1 n1 c1, .slice a2 n2 c2] w fun e w' => e = .returned (.bool (Mp.eqIs la lb)) ∧ Below w.heap.size w w' := by
  obtain ⟨hn1, hl1, _, b1, o1, ha1, hc1⟩ := irow_at h1
  obtain ⟨hn2, hl2, _, b2, o2, ha2, hc2⟩ := irow_at h2
  have HN1 := hideT hn1
  have HN2 := hideT hn2
  have HC1 := hideT hc1
  have HA1 := hideT ha1
  have HC2 := hideT hc2
  have HA2 := hideT ha2
  clear hc1 ha1 hc2 ha2 h1 h2
  by_cases hne : n1 = n2
  rotate_left
  · have HF := hideT (Mp.eqIs_len (a := la) (b := lb) (by omega))
    have t2 : ((n1 : Int) != (n2 : Int)) = true := bne_iff_ne.2 (by omega)
    clear hn1 hn2
    go_enter Try.func50, Try.ntmps50
    go_wp2_with fail
    go_ret
    exact ⟨ret_b HF.out.symm, Below.refl _ _⟩
  subst hne
  clear hn1 hn2
  go_enter Try.func50, Try.ntmps50
  go_wp2_with fail
  go_loopw [5] (fun i wr => ∃ k : Nat, k ≤ n1 ∧ i = .int .i64 k ∧ Hid (∀ (j : Nat), j < k → la[j]? = lb[j]?) ∧ Hid (Below w.heap.size w wr)) (fun i _ => n1 - (intOf i).toNat)
  case atStart => exact ⟨0, by omega, rfl, (fun j hj => absurd hj (by omega)), Below.refl _ _⟩
  case round =>
    obtain ⟨k, hk, rfl, HB, HW⟩ := hrel
    by_cases hlt : k < n1
    · obtain ⟨⟨x0, x1, x2, x3, x4, x5, x6⟩, hx⟩ := Mp.at_lt (l := la) (k := k) (by have := HN1.out; omega)
      obtain ⟨⟨y0, y1, y2, y3, y4, y5, y6⟩, hy⟩ := Mp.at_lt (l := lb) (k := k) (by have := HN2.out; omega)
      obtain ⟨p5, c5, p6, c6, IX⟩ := HC1.out k _ hx
      obtain ⟨q5, d5, q6, d6, IY⟩ := HC2.out k _ hy
      have IX := IX.turn (below_cell HW.out)
      have IY := IY.turn (below_cell HW.out)
      obtain ⟨_, _, r1, r2, u0, u1, u2, u3, u4, u5, u6⟩ := IX
      obtain ⟨_, _, r3, r4, v0, v1, v2, v3, v4, v5, v6⟩ := IY
      dsimp only at r1 r2 r3 r4 u0 u1 u2 u3 u4 u5 u6 v0 v1 v2 v3 v4 v5 v6
      obtain rfl := HA1.out (by omega)
      obtain rfl := HA2.out (by omega)
      have HX := hideT hx
      have HY := hideT hy
      have BA := hideT (below_drewN (Below.refl wr.heap.size wr) 1)
      have BW := hideT (HW.out.trans (BA.out.mono HW.out.size))
      have R1 := hideT (srow_below r1 BA.out)
      have R2 := hideT (srow_below r2 BA.out)
      have R3 := hideT (srow_below r3 BA.out)
      have R4 := hideT (srow_below r4 BA.out)
      clear hx hy r1 r2 r3 r4
      have t0 : (0 : Int) ≤ (k : Int) := by omega
      have t1' : (k : Int) < (n1 : Int) := by omega
      obtain ⟨bb, H1⟩ : ∃ z, Hid (Mp.eqI ⟨x0, x1, x2, x3, x4, x5, x6⟩ ⟨y0, y1, y2, y3, y4, y5, y6⟩ = z) := ⟨_, rfl⟩
      go_wp2_with fail
      go_region_held3 (fun w' => w'.cell? ⟨b1, o1 + k * 7, none⟩ = some (.string x0) ∧ w'.cell? ⟨b1, o1 + k * 7 + 1, none⟩ = some (.int .i64 x1) ∧ w'.cell? ⟨b1, o1 + k * 7 + 2, none⟩ = some (.string x2) ∧ w'.cell? ⟨b1, o1 + k * 7 + 3, none⟩ = some (.bool x3) ∧ w'.cell? ⟨b1, o1 + k * 7 + 4, none⟩ = some (.int .i64 x4) ∧ w'.cell? ⟨b1, o1 + k * 7 + 5, none⟩ = some (.slice p5 x5.length c5) ∧ w'.cell? ⟨b1, o1 + k * 7 + 6, none⟩ = some (.slice p6 x6.length c6) ∧ w'.cell? ⟨b2, o2 + k * 7, none⟩ = some (.string y0) ∧ w'.cell? ⟨b2, o2 + k * 7 + 1, none⟩ = some (.int .i64 y1) ∧ w'.cell? ⟨b2, o2 + k * 7 + 2, none⟩ = some (.string y2) ∧ w'.cell? ⟨b2, o2 + k * 7 + 3, none⟩ = some (.bool y3) ∧ w'.cell? ⟨b2, o2 + k * 7 + 4, none⟩ = some (.int .i64 y4) ∧ w'.cell? ⟨b2, o2 + k * 7 + 5, none⟩ = some (.slice q5 y5.length d5) ∧ w'.cell? ⟨b2, o2 + k * 7 + 6, none⟩ = some (.slice q6 y6.length d6)) (go_keep) ((go_at_call 72; refine (refItemD _ x0 y0 x1 y1 x2 y2 x3 y3 x4 y4 x5 y5 x6 y6 p5 p6 q5 q6 c5 c6 d5 d6 R1.out R2.out R3.out R4.out bb H1).mono ?_; rintro e w1 ⟨rfl, p⟩; have q3 : Below wr.heap.size wr w1 := (below_drewN (Below.refl _ wr) 1).trans p; have zu0 := below_cell q3 _ _ u0; have zu1 := below_cell q3 _ _ u1; have zu2 := below_cell q3 _ _ u2; have zu3 := below_cell q3 _ _ u3; have zu4 := below_cell q3 _ _ u4; have zu5 := below_cell q3 _ _ u5; have zu6 := below_cell q3 _ _ u6; have zv0 := below_cell q3 _ _ v0; have zv1 := below_cell q3 _ _ v1; have zv2 := below_cell q3 _ _ v2; have zv3 := below_cell q3 _ _ v3; have zv4 := below_cell q3 _ _ v4; have zv5 := below_cell q3 _ _ v5; have zv6 := below_cell q3 _ _ v6))
      have BW1 := hideT (HW.out.trans (q3.mono HW.out.size))
      clear p q3 u0 u1 u2 u3 u4 u5 u6 v0 v1 v2 v3 v4 v5 v6 zu0 zu1 zu2 zu3 zu4 zu5 zu6 zv0 zv1 zv2 zv3 zv4 zv5 zv6
      cases bb
      · have HF := hideT (Mp.eqIs_at HX.out HY.out H1.out)
        go_wp2_with fail
        go_ret
        exact ⟨ret_b HF.out.symm, BW1.out⟩
      · have HR : Hid (∀ (j : Nat), j < k + 1 → la[j]? = lb[j]?) := by
          intro j hj
          by_cases hj' : j < k
          · exact HB.out j hj'
          · obtain rfl : j = k := by omega
            rw [HX.out, HY.out, (Mp.eqI_iff _ _).1 H1.out]
        go_wp2_with fail
        refine ⟨⟨k + 1, by omega, by go_num, HR, BW1⟩, ?_⟩
        first | omega | (simp [intOf]; omega)
    · have HF := hideT (Mp.eqIs_all HN1.out HN2.out (fun j hj => HB.out j (by omega)))
      go_wp2_with fail
      go_ret
      exact ⟨ret_b HF.out.symm, HW.out⟩
end Go.Proofs.Ytmhiilfjckadkaa
