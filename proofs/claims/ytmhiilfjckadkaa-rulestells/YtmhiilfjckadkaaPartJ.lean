/-
  Several texts in one: each opens with its own word.
-/
import Derived.Test.YtmhiilfjckadkaaPartS
import Derived.Deep.RegionHeld3
import Derived.Test.YtmhiilfjckadkaaPartM
import Derived.Test.YtmhiilfjckadkaaRBig
import Derived.Test.YtmhiilfjckadkaaRRef5
import Derived.Test.YtmhiilfjckadkaaPartH
import Derived.Test.YtmhiilfjckadkaaPartC
import Derived.Test.YtmhiilfjckadkaaRKnown
/-
  The document's rows of literals, rules: whether two are one. (Written by RRef7.py.)
-/
set_option linter.unusedSimpArgs false
set_option linter.unusedVariables false
namespace Go.Proofs.Ytmhiilfjckadkaa
open Go.RowKit
set_option maxRecDepth 100000
set_option maxHeartbeats 4000000 in
theorem refLits (w : World) (a1 a2 : Option Addr) (n1 n2 c1 c2 : Nat) (la lb : List Rp.Lit) (h1 : LRow w (.slice a1 n1 c1) la) (h2 : LRow w (.slice a2 n2 c2) lb) :
    Calls Try.prog 73 #[.slice a1 n1 c1, .slice a2 n2 c2] w (BPost (la = lb) w) := by
  obtain ⟨hn1, hl1, _, b1, o1, ha1, hc1⟩ := lrow_at h1
  obtain ⟨hn2, hl2, _, b2, o2, ha2, hc2⟩ := lrow_at h2
  subst hn1
  have HC1 := hideT hc1
  have HA1 := hideT ha1
  have HC2 := hideT hc2
  have HA2 := hideT ha2
  clear hc1 ha1 hc2 ha2 h1 h2
  subst hn2
  by_cases hne : la.length = lb.length
  rotate_left
  · have HF : Hid (¬ la = lb) := list_len hne
    have t2 : ((la.length : Int) != (lb.length : Int)) = true := bne_iff_ne.2 (by omega)
    go_enter Try.func73, Try.ntmps73
    go_wp2_with fail
    go_ret
    exact bpost_no HF.out (Below.refl _ _)
  have HLEN := hideT hne
  have t2 : ((la.length : Int) != (lb.length : Int)) = false := by simp [hne]
  clear hne
  go_enter Try.func73, Try.ntmps73
  go_wp2_with fail
  go_loopw [5] (fun i wr => ∃ k : Nat, k ≤ la.length ∧ i = .int .i64 k ∧ Hid (∀ (j : Nat), j < k → la[j]? = lb[j]?) ∧ Hid (Below w.heap.size w wr)) (fun i _ => la.length - (intOf i).toNat)
  case atStart => exact ⟨0, by omega, rfl, (fun j hj => absurd hj (by omega)), Below.refl _ _⟩
  case round =>
    obtain ⟨k, hk, rfl, HB, HW⟩ := hrel
    have BWR := HW
    by_cases hlt : k < la.length
    rotate_left
    · have t1 : ¬ (k : Int) < (la.length : Int) := by omega
      have HF : Hid (la = lb) := list_all rfl HLEN.out (fun j hj => HB.out j (by omega))
      go_wp2_with fail
      go_ret
      exact bpost_yes HF.out BWR.out
    obtain ⟨⟨u0, u1⟩, hx⟩ := Mp.at_lt (l := la) (k := k) (by omega)
    obtain ⟨⟨v0, v1⟩, hy⟩ := Mp.at_lt (l := lb) (k := k) (by have := HLEN.out; omega)
    obtain ⟨d0, d1⟩ := HC1.out k _ hx
    obtain ⟨e0, e1⟩ := HC2.out k _ hy
    dsimp only at d0 d1 e0 e1
    have d0 := below_cell BWR.out _ _ d0
    have d1 := below_cell BWR.out _ _ d1
    have e0 := below_cell BWR.out _ _ e0
    have e1 := below_cell BWR.out _ _ e1
    obtain rfl := HA1.out (by omega)
    obtain rfl := HA2.out (by have := HLEN.out; omega)
    have HX := hideT hx
    have HY := hideT hy
    clear hx hy
    have t0 : (0 : Int) ≤ (k : Int) := by omega
    have t1 : (k : Int) < (la.length : Int) := by omega
    have t1' : (k : Int) < (lb.length : Int) := by have := HLEN.out; omega
    by_cases gg0 : u0 = v0
    rotate_left
    · have HF : Hid (¬ la = lb) := list_at HX.out HY.out (fun h => gg0 (by simp only [Prod.mk.injEq] at h; exact h.1))
      go_wp2_with fail
      go_quiet (fail)
      go_wp2_with fail
      go_ret
      exact bpost_no (HF.out) (below_drewN BWR.out _)
    subst gg0
    by_cases gg1 : u1 = v1
    rotate_left
    · have HF : Hid (¬ la = lb) := list_at HX.out HY.out (fun h => gg1 (by simp only [Prod.mk.injEq] at h; exact h.2))
      have q1' : (u1 == v1) = false := beq_eq_false_iff_ne.2 gg1
      have q2' : (u1 != v1) = true := bne_iff_ne.2 gg1
      go_wp2_with fail
      go_quiet (fail)
      go_wp2_with fail
      go_ret
      exact bpost_no (HF.out) (below_drewN BWR.out _)
    subst gg1
    have HR : Hid (∀ (j : Nat), j < k + 1 → la[j]? = lb[j]?) := by
      intro j hj
      by_cases hj' : j < k
      · exact HB.out j hj'
      · obtain rfl : j = k := by omega
        rw [HX.out, HY.out]
    go_wp2_with fail
    go_quiet (fail)
    go_wp2_with fail
    refine ⟨⟨k + 1, by omega, by go_num, HR, below_drewN HW.out _⟩, ?_⟩
    first | omega | (simp [intOf]; omega)

set_option maxHeartbeats 8000000 in
theorem refRuleSame (w : World) (x0 y0 : Int) (x1 y1 : List Rp.Lit) (p1 q1 : Option Addr) (c1 d1 : Nat) (x2 y2 : List Mp.Cond) (p2 q2 : Option Addr) (c2 d2 : Nat) (x3 y3 : List Rp.Lit) (p3 q3 : Option Addr) (c3 d3 : Nat)
    (h1 : LRow w (.slice p1 x1.length c1) x1) (k1 : LRow w (.slice q1 y1.length d1) y1) (h2 : CRow w (.slice p2 x2.length c2) x2) (k2 : CRow w (.slice q2 y2.length d2) y2) (h3 : LRow w (.slice p3 x3.length c3) x3) (k3 : LRow w (.slice q3 y3.length d3) y3) :
    Calls Try.prog 52 #[.agg #[.int .i64 x0, .slice p1 x1.length c1, .slice p2 x2.length c2, .slice p3 x3.length c3], .agg #[.int .i64 y0, .slice q1 y1.length d1, .slice q2 y2.length d2, .slice q3 y3.length d3]] w (BPost ((x0, x1, x2, x3) = (y0, y1, y2, y3)) w) := by
  have R1 := hideT h1
  have K1 := hideT k1
  obtain ⟨_, hl2, _, b2, o2, ha2, hc2⟩ := crow_at h2
  obtain ⟨_, hm2, _, b5, o5, ha5, hc5⟩ := crow_at k2
  obtain ⟨_, hl3, _, b3, o3, ha3, hc3⟩ := lrow_at h3
  obtain ⟨_, hm3, _, b6, o6, ha6, hc6⟩ := lrow_at k3
  have HC2 := hideT hc2
  have HA2 := hideT ha2
  have HC3 := hideT hc3
  have HA3 := hideT ha3
  have HC5 := hideT hc5
  have HA5 := hideT ha5
  have HC6 := hideT hc6
  have HA6 := hideT ha6
  clear h1 k1 h2 k2 h3 k3 hc2 ha2 hc3 ha3 hc5 ha5 hc6 ha6
  have B0 := hideT (((Below.refl w.heap.size w).alloc (Nat.le_refl _) (.cells #[.int .i64 x0, .slice p1 x1.length c1, .slice p2 x2.length c2, .slice p3 x3.length c3] 42)).alloc (by simp) (.cells #[.int .i64 y0, .slice q1 y1.length d1, .slice q2 y2.length d2, .slice q3 y3.length d3] 42))
  have LA0 := hideT ((Lies.new w 42 #[.int .i64 x0, .slice p1 x1.length c1, .slice p2 x2.length c2, .slice p3 x3.length c3]).below ((Below.refl _ _).alloc (Nat.le_refl _) (.cells #[.int .i64 y0, .slice q1 y1.length d1, .slice q2 y2.length d2, .slice q3 y3.length d3] 42)))
  have LB0 : Hid (Lies ((w.alloc (.cells #[.int .i64 x0, .slice p1 x1.length c1, .slice p2 x2.length c2, .slice p3 x3.length c3] 42)).alloc (.cells #[.int .i64 y0, .slice q1 y1.length d1, .slice q2 y2.length d2, .slice q3 y3.length d3] 42)) (w.heap.size + 1) 42 #[.int .i64 y0, .slice q1 y1.length d1, .slice q2 y2.length d2, .slice q3 y3.length d3]) := by
    have := Lies.new (w.alloc (.cells #[.int .i64 x0, .slice p1 x1.length c1, .slice p2 x2.length c2, .slice p3 x3.length c3] 42)) 42 #[.int .i64 y0, .slice q1 y1.length d1, .slice q2 y2.length d2, .slice q3 y3.length d3]
    rwa [show (w.alloc (.cells #[.int .i64 x0, .slice p1 x1.length c1, .slice p2 x2.length c2, .slice p3 x3.length c3] 42)).heap.size = w.heap.size + 1 by simp] at this
  go_enter Try.func52, Try.ntmps52
  by_cases g0 : x0 = y0
  rotate_left
  · have HF : Hid (¬ (x0, x1, x2, x3) = (y0, y1, y2, y3)) := fun h => g0 (by simp only [Prod.mk.injEq] at h; exact h.1)
    have q1' : (x0 == y0) = false := beq_eq_false_iff_ne.2 g0
    have q2' : (x0 != y0) = true := bne_iff_ne.2 g0
    clear g0
    go_wp2_with fail
    go_ret
    exact bpost_no (by first | exact HF.out | (have := HF.out; simpa using this)) B0.out
  subst g0
  go_wp2_with fail
  refine (refLits _ _ _ _ _ _ _ x1 y1 (lrow_below R1.out B0.out) (lrow_below K1.out B0.out)).mono ?_
  rintro e w1 z1
  by_cases g1 : x1 = y1
  rotate_left
  · have HF : Hid (¬ (x0, x1, x2, x3) = (x0, y1, y2, y3)) := fun h => g1 (by simp only [Prod.mk.injEq] at h; exact h.2.1)
    obtain ⟨rfl, b1⟩ := z1.no g1
    have B1 := hideT (B0.out.trans (b1.mono B0.out.size))
    clear z1 b1 g1
    go_wp2_with fail
    go_ret
    exact bpost_no HF.out B1.out
  obtain ⟨rfl, b1⟩ := z1.yes g1
  have B1 := hideT (B0.out.trans (b1.mono B0.out.size))
  have LA1 := hideT (LA0.out.below b1)
  have LB1 := hideT (LB0.out.below b1)
  have G1 := hideT g1
  clear z1 b1 g1
  have z2 : w1.cell? ⟨w.heap.size, 2, none⟩ = some (.slice p2 x2.length c2) := LA1.out.cell 2
  have z3 : w1.cell? ⟨w.heap.size, 3, none⟩ = some (.slice p3 x3.length c3) := LA1.out.cell 3
  have z5 : w1.cell? ⟨w.heap.size + 1, 2, none⟩ = some (.slice q2 y2.length d2) := LB1.out.cell 2
  have z6 : w1.cell? ⟨w.heap.size + 1, 3, none⟩ = some (.slice q3 y3.length d3) := LB1.out.cell 3
  by_cases g2 : x2.length = y2.length
  rotate_left
  · have HF : Hid (¬ (x0, x1, x2, x3) = (x0, y1, y2, y3)) := fun h => g2 (by simp only [Prod.mk.injEq] at h; rw [h.2.2.1])
    have q1' : ((x2.length : Int) == (y2.length : Int)) = false := beq_eq_false_iff_ne.2 (by omega)
    have q2' : ((x2.length : Int) != (y2.length : Int)) = true := bne_iff_ne.2 (by omega)
    clear g2
    go_wp2_with fail
    go_ret
    exact bpost_no HF.out B1.out
  have q1' : ((x2.length : Int) == (y2.length : Int)) = true := by simp [g2]
  have q2' : ((x2.length : Int) != (y2.length : Int)) = false := by simp [g2]
  have HLEN := hideT g2
  clear g2
  by_cases g3 : x3.length = y3.length
  rotate_left
  · have HF : Hid (¬ (x0, x1, x2, x3) = (x0, y1, y2, y3)) := fun h => g3 (by simp only [Prod.mk.injEq] at h; rw [h.2.2.2])
    have q3' : ((x3.length : Int) == (y3.length : Int)) = false := beq_eq_false_iff_ne.2 (by omega)
    have q4' : ((x3.length : Int) != (y3.length : Int)) = true := bne_iff_ne.2 (by omega)
    clear g3
    go_wp2_with fail
    go_ret
    exact bpost_no HF.out B1.out
  have q3' : ((x3.length : Int) == (y3.length : Int)) = true := by simp [g3]
  have q4' : ((x3.length : Int) != (y3.length : Int)) = false := by simp [g3]
  have HLEN3 := hideT g3
  clear g3
  go_wp2_with fail
  clear z2 z3 z5 z6 q1' q2' q3' q4'
  go_loopw [5] (fun i wr => ∃ k : Nat, k ≤ x2.length ∧ i = .int .i64 k ∧ Hid (∀ (j : Nat), j < k → x2[j]? = y2[j]?) ∧ Hid (Below w1.heap.size w1 wr)) (fun i _ => x2.length - (intOf i).toNat)
  case atStart => exact ⟨0, by omega, rfl, (fun j hj => absurd hj (by omega)), Below.refl _ _⟩
  case round =>
    obtain ⟨k, hk, rfl, HB, HW⟩ := hrel
    have BWR := hideT (B1.out.trans (HW.out.mono B1.out.size))
    have z2 : wr.cell? ⟨w.heap.size, 2, none⟩ = some (.slice p2 x2.length c2) := (LA1.out.below HW.out).cell 2
    have z3 : wr.cell? ⟨w.heap.size, 3, none⟩ = some (.slice p3 x3.length c3) := (LA1.out.below HW.out).cell 3
    have z5 : wr.cell? ⟨w.heap.size + 1, 2, none⟩ = some (.slice q2 y2.length d2) := (LB1.out.below HW.out).cell 2
    have z6 : wr.cell? ⟨w.heap.size + 1, 3, none⟩ = some (.slice q3 y3.length d3) := (LB1.out.below HW.out).cell 3
    by_cases hlt : k < x2.length
    rotate_left
    · have t1 : ¬ (k : Int) < (x2.length : Int) := by omega
      have G2 : Hid (x2 = y2) := list_all rfl HLEN.out (fun j hj => HB.out j (by omega))
      clear HLEN
      have HLEN := HLEN3
      go_wp2_with fail
      clear z2 z3 z5 z6 t1 hlt
      go_loopw [6] (fun i wr => ∃ k : Nat, k ≤ x3.length ∧ i = .int .i64 k ∧ Hid (∀ (j : Nat), j < k → x3[j]? = y3[j]?) ∧ Hid (Below w1.heap.size w1 wr)) (fun i _ => x3.length - (intOf i).toNat)
      case atStart => exact ⟨0, by omega, rfl, (fun j hj => absurd hj (by omega)), HW⟩
      case round =>
        obtain ⟨k, hk, rfl, HB, HW⟩ := hrel
        have BWR := hideT (B1.out.trans (HW.out.mono B1.out.size))
        have z2 : wr.cell? ⟨w.heap.size, 2, none⟩ = some (.slice p2 x2.length c2) := (LA1.out.below HW.out).cell 2
        have z3 : wr.cell? ⟨w.heap.size, 3, none⟩ = some (.slice p3 x3.length c3) := (LA1.out.below HW.out).cell 3
        have z5 : wr.cell? ⟨w.heap.size + 1, 2, none⟩ = some (.slice q2 y2.length d2) := (LB1.out.below HW.out).cell 2
        have z6 : wr.cell? ⟨w.heap.size + 1, 3, none⟩ = some (.slice q3 y3.length d3) := (LB1.out.below HW.out).cell 3
        by_cases hlt : k < x3.length
        rotate_left
        · have t1 : ¬ (k : Int) < (x3.length : Int) := by omega
          have HF : Hid ((x0, x1, x2, x3) = (x0, y1, y2, y3)) := by
            show _ = _
            rw [G1.out, G2.out, show x3 = y3 from list_all rfl HLEN.out (fun j hj => HB.out j (by omega))]
          go_wp2_with fail
          go_ret
          exact bpost_yes (by first | exact HF.out | (have := HF.out; simpa using this)) BWR.out
        obtain ⟨⟨u0, u1⟩, hx⟩ := Mp.at_lt (l := x3) (k := k) (by omega)
        obtain ⟨⟨v0, v1⟩, hy⟩ := Mp.at_lt (l := y3) (k := k) (by have := HLEN.out; omega)
        obtain ⟨d0, d1⟩ := HC3.out k _ hx
        obtain ⟨e0, e1⟩ := HC6.out k _ hy
        dsimp only at d0 d1 e0 e1
        have d0 := below_cell BWR.out _ _ d0
        have d1 := below_cell BWR.out _ _ d1
        have e0 := below_cell BWR.out _ _ e0
        have e1 := below_cell BWR.out _ _ e1
        obtain rfl := HA3.out (by omega)
        obtain rfl := HA6.out (by have := HLEN.out; omega)
        have HX := hideT hx
        have HY := hideT hy
        clear hx hy
        have t0 : (0 : Int) ≤ (k : Int) := by omega
        have t1 : (k : Int) < (x3.length : Int) := by omega
        have t1' : (k : Int) < (y3.length : Int) := by have := HLEN.out; omega
        by_cases gg0 : u0 = v0
        rotate_left
        · have HF : Hid (¬ x3 = y3) := list_at HX.out HY.out (fun h => gg0 (by simp only [Prod.mk.injEq] at h; exact h.1))
          go_wp2_with fail
          go_quiet (fail)
          go_wp2_with fail
          go_ret
          exact bpost_no (fun h => HF.out (by first | (simp only [Prod.mk.injEq] at h; exact h.2.2.2) | exact h.2.2)) (below_drewN BWR.out _)
        subst gg0
        by_cases gg1 : u1 = v1
        rotate_left
        · have HF : Hid (¬ x3 = y3) := list_at HX.out HY.out (fun h => gg1 (by simp only [Prod.mk.injEq] at h; exact h.2))
          have q1' : (u1 == v1) = false := beq_eq_false_iff_ne.2 gg1
          have q2' : (u1 != v1) = true := bne_iff_ne.2 gg1
          go_wp2_with fail
          go_quiet (fail)
          go_wp2_with fail
          go_ret
          exact bpost_no (fun h => HF.out (by first | (simp only [Prod.mk.injEq] at h; exact h.2.2.2) | exact h.2.2)) (below_drewN BWR.out _)
        subst gg1
        have HR : Hid (∀ (j : Nat), j < k + 1 → x3[j]? = y3[j]?) := by
          intro j hj
          by_cases hj' : j < k
          · exact HB.out j hj'
          · obtain rfl : j = k := by omega
            rw [HX.out, HY.out]
        go_wp2_with fail
        go_quiet (fail)
        go_wp2_with fail
        refine ⟨⟨k + 1, by omega, by go_num, HR, below_drewN HW.out _⟩, ?_⟩
        first | omega | (simp [intOf]; omega)

    obtain ⟨⟨u0, u1, u2⟩, hx⟩ := Mp.at_lt (l := x2) (k := k) (by omega)
    obtain ⟨⟨v0, v1, v2⟩, hy⟩ := Mp.at_lt (l := y2) (k := k) (by have := HLEN.out; omega)
    obtain ⟨_, d0, d1, d2⟩ := HC2.out k _ hx
    obtain ⟨_, e0, e1, e2⟩ := HC5.out k _ hy
    dsimp only at d0 d1 d2 e0 e1 e2
    have d0 := below_cell BWR.out _ _ d0
    have d1 := below_cell BWR.out _ _ d1
    have d2 := below_cell BWR.out _ _ d2
    have e0 := below_cell BWR.out _ _ e0
    have e1 := below_cell BWR.out _ _ e1
    have e2 := below_cell BWR.out _ _ e2
    obtain rfl := HA2.out (by omega)
    obtain rfl := HA5.out (by have := HLEN.out; omega)
    have HX := hideT hx
    have HY := hideT hy
    clear hx hy
    have t0 : (0 : Int) ≤ (k : Int) := by omega
    have t1 : (k : Int) < (x2.length : Int) := by omega
    have t1' : (k : Int) < (y2.length : Int) := by have := HLEN.out; omega
    by_cases gg0 : u0 = v0
    rotate_left
    · have HF : Hid (¬ x2 = y2) := list_at HX.out HY.out (fun h => gg0 (by simp only [Prod.mk.injEq] at h; exact h.1))
      have q1' : ¬ u0.toList = v0.toList := fun h => gg0 (toList_inj h)
      have q2' : (u0.toList == v0.toList) = false := beq_eq_false_iff_ne.2 q1'
      have q3' : (u0.toList != v0.toList) = true := bne_iff_ne.2 q1'
      clear gg0
      go_wp2_with fail
      go_quiet (fail)
      go_wp2_with fail
      go_ret
      exact bpost_no (fun h => HF.out (by first | (simp only [Prod.mk.injEq] at h; exact h.2.2.1) | exact h.2.1)) (below_drewN BWR.out _)
    subst gg0
    by_cases gg1 : u1 = v1
    rotate_left
    · have HF : Hid (¬ x2 = y2) := list_at HX.out HY.out (fun h => gg1 (by simp only [Prod.mk.injEq] at h; exact h.2.1))
      have q1' : ¬ u1.toList = v1.toList := fun h => gg1 (toList_inj h)
      have q2' : (u1.toList == v1.toList) = false := beq_eq_false_iff_ne.2 q1'
      have q3' : (u1.toList != v1.toList) = true := bne_iff_ne.2 q1'
      clear gg1
      go_wp2_with fail
      go_quiet (fail)
      go_wp2_with fail
      go_ret
      exact bpost_no (fun h => HF.out (by first | (simp only [Prod.mk.injEq] at h; exact h.2.2.1) | exact h.2.1)) (below_drewN BWR.out _)
    subst gg1
    by_cases gg2 : u2 = v2
    rotate_left
    · have HF : Hid (¬ x2 = y2) := list_at HX.out HY.out (fun h => gg2 (by simp only [Prod.mk.injEq] at h; exact h.2.2))
      go_wp2_with fail
      go_quiet (fail)
      go_wp2_with fail
      go_ret
      exact bpost_no (fun h => HF.out (by first | (simp only [Prod.mk.injEq] at h; exact h.2.2.1) | exact h.2.1)) (below_drewN BWR.out _)
    subst gg2
    have HR : Hid (∀ (j : Nat), j < k + 1 → x2[j]? = y2[j]?) := by
      intro j hj
      by_cases hj' : j < k
      · exact HB.out j hj'
      · obtain rfl : j = k := by omega
        rw [HX.out, HY.out]
    go_wp2_with fail
    go_quiet (fail)
    go_wp2_with fail
    refine ⟨⟨k + 1, by omega, by go_num, HR, below_drewN HW.out _⟩, ?_⟩
    first | omega | (simp [intOf]; omega)

end Go.Proofs.Ytmhiilfjckadkaa
/-
  The document's counters and users: whether two programs' are one. (Written by RRef8.py.)
-/
set_option linter.unusedSimpArgs false
set_option linter.unusedVariables false
namespace Go.Proofs.Ytmhiilfjckadkaa
open Go.RowKit
set_option maxRecDepth 100000
def EndsE (p q : Rp.Prog) : Prop := p.ctrs = q.ctrs ∧ p.users = q.users
set_option maxHeartbeats 8000000 in
theorem refEndsSame (w : World) (A B : PA) (p q : Rp.Prog) (hp : ProgAt w A p) (hq : ProgAt w B q) : Calls Try.prog 51 #[.agg #[.int .i64 p.flags, .int .i64 p.lasting, .slice A.a2 p.first.length A.c2, .slice A.a3 p.over.length A.c3, .int .i64 p.frm, .slice A.a5 p.files.length A.c5, .slice A.a6 p.rules.length A.c6, .slice A.a7 p.ctrs.length A.c7, .slice A.a8 p.users.length A.c8, .slice A.a9 p.notes.length A.c9], .agg #[.int .i64 q.flags, .int .i64 q.lasting, .slice B.a2 q.first.length B.c2, .slice B.a3 q.over.length B.c3, .int .i64 q.frm, .slice B.a5 q.files.length B.c5, .slice B.a6 q.rules.length B.c6, .slice B.a7 q.ctrs.length B.c7, .slice B.a8 q.users.length B.c8, .slice B.a9 q.notes.length B.c9]] w (BPost (EndsE p q) w) := by
  obtain ⟨a2, c2, a3, c3, a5, c5, a6, c6, a7, c7, a8, c8, a9, c9⟩ := A
  obtain ⟨m2, r2, m3, r3, m5, r5, m6, r6, m7, r7, m8, r8, m9, r9⟩ := B
  show Calls _ _ #[.agg #[.int .i64 p.flags, .int .i64 p.lasting, .slice a2 p.first.length c2, .slice a3 p.over.length c3, .int .i64 p.frm, .slice a5 p.files.length c5, .slice a6 p.rules.length c6, .slice a7 p.ctrs.length c7, .slice a8 p.users.length c8, .slice a9 p.notes.length c9], .agg #[.int .i64 q.flags, .int .i64 q.lasting, .slice m2 q.first.length r2, .slice m3 q.over.length r3, .int .i64 q.frm, .slice m5 q.files.length r5, .slice m6 q.rules.length r6, .slice m7 q.ctrs.length r7, .slice m8 q.users.length r8, .slice m9 q.notes.length r9]] w _
  have HPP := hideT hp
  have HQQ := hideT hq
  have B0 : Hid (Below w.heap.size w ((w.alloc (.cells #[.int .i64 p.flags, .int .i64 p.lasting, .slice a2 p.first.length c2, .slice a3 p.over.length c3, .int .i64 p.frm, .slice a5 p.files.length c5, .slice a6 p.rules.length c6, .slice a7 p.ctrs.length c7, .slice a8 p.users.length c8, .slice a9 p.notes.length c9] 29)).alloc (.cells #[.int .i64 q.flags, .int .i64 q.lasting, .slice m2 q.first.length r2, .slice m3 q.over.length r3, .int .i64 q.frm, .slice m5 q.files.length r5, .slice m6 q.rules.length r6, .slice m7 q.ctrs.length r7, .slice m8 q.users.length r8, .slice m9 q.notes.length r9] 29))) := ((Below.refl w.heap.size w).alloc (Nat.le_refl _) (.cells #[.int .i64 p.flags, .int .i64 p.lasting, .slice a2 p.first.length c2, .slice a3 p.over.length c3, .int .i64 p.frm, .slice a5 p.files.length c5, .slice a6 p.rules.length c6, .slice a7 p.ctrs.length c7, .slice a8 p.users.length c8, .slice a9 p.notes.length c9] 29)).alloc (by simp) (.cells #[.int .i64 q.flags, .int .i64 q.lasting, .slice m2 q.first.length r2, .slice m3 q.over.length r3, .int .i64 q.frm, .slice m5 q.files.length r5, .slice m6 q.rules.length r6, .slice m7 q.ctrs.length r7, .slice m8 q.users.length r8, .slice m9 q.notes.length r9] 29)
  have LA0 : Hid (PBox ((w.alloc (.cells #[.int .i64 p.flags, .int .i64 p.lasting, .slice a2 p.first.length c2, .slice a3 p.over.length c3, .int .i64 p.frm, .slice a5 p.files.length c5, .slice a6 p.rules.length c6, .slice a7 p.ctrs.length c7, .slice a8 p.users.length c8, .slice a9 p.notes.length c9] 29)).alloc (.cells #[.int .i64 q.flags, .int .i64 q.lasting, .slice m2 q.first.length r2, .slice m3 q.over.length r3, .int .i64 q.frm, .slice m5 q.files.length r5, .slice m6 q.rules.length r6, .slice m7 q.ctrs.length r7, .slice m8 q.users.length r8, .slice m9 q.notes.length r9] 29)) w.heap.size (⟨a2, c2, a3, c3, a5, c5, a6, c6, a7, c7, a8, c8, a9, c9⟩ : PA) p) := (PBox.newC w a2 a3 a5 a6 a7 a8 a9 c2 c3 c5 c6 c7 c8 c9 p).below ((Below.refl _ _).alloc (Nat.le_refl _) (.cells #[.int .i64 q.flags, .int .i64 q.lasting, .slice m2 q.first.length r2, .slice m3 q.over.length r3, .int .i64 q.frm, .slice m5 q.files.length r5, .slice m6 q.rules.length r6, .slice m7 q.ctrs.length r7, .slice m8 q.users.length r8, .slice m9 q.notes.length r9] 29))
  have LB0 : Hid (PBox ((w.alloc (.cells #[.int .i64 p.flags, .int .i64 p.lasting, .slice a2 p.first.length c2, .slice a3 p.over.length c3, .int .i64 p.frm, .slice a5 p.files.length c5, .slice a6 p.rules.length c6, .slice a7 p.ctrs.length c7, .slice a8 p.users.length c8, .slice a9 p.notes.length c9] 29)).alloc (.cells #[.int .i64 q.flags, .int .i64 q.lasting, .slice m2 q.first.length r2, .slice m3 q.over.length r3, .int .i64 q.frm, .slice m5 q.files.length r5, .slice m6 q.rules.length r6, .slice m7 q.ctrs.length r7, .slice m8 q.users.length r8, .slice m9 q.notes.length r9] 29)) (w.heap.size + 1) (⟨m2, r2, m3, r3, m5, r5, m6, r6, m7, r7, m8, r8, m9, r9⟩ : PA) q) := by
    have := PBox.newC (w.alloc (.cells #[.int .i64 p.flags, .int .i64 p.lasting, .slice a2 p.first.length c2, .slice a3 p.over.length c3, .int .i64 p.frm, .slice a5 p.files.length c5, .slice a6 p.rules.length c6, .slice a7 p.ctrs.length c7, .slice a8 p.users.length c8, .slice a9 p.notes.length c9] 29)) m2 m3 m5 m6 m7 m8 m9 r2 r3 r5 r6 r7 r8 r9 q
    rwa [show (w.alloc (.cells #[.int .i64 p.flags, .int .i64 p.lasting, .slice a2 p.first.length c2, .slice a3 p.over.length c3, .int .i64 p.frm, .slice a5 p.files.length c5, .slice a6 p.rules.length c6, .slice a7 p.ctrs.length c7, .slice a8 p.users.length c8, .slice a9 p.notes.length c9] 29)).heap.size = w.heap.size + 1 by simp] at this
  obtain ⟨_, hl7, _, b7, o7, ha7, hc7⟩ := trow_at (show TRow w (.slice a7 p.ctrs.length c7) p.ctrs from hp.ctrs)
  obtain ⟨_, hm7, _, g7, j7, hb7, hd7⟩ := trow_at (show TRow w (.slice m7 q.ctrs.length r7) q.ctrs from hq.ctrs)
  obtain ⟨_, hl8, _, b8, o8, ha8, hc8⟩ := urow_at (show URow w (.slice a8 p.users.length c8) p.users from hp.users)
  obtain ⟨_, hm8, _, g8, j8, hb8, hd8⟩ := urow_at (show URow w (.slice m8 q.users.length r8) q.users from hq.users)
  have HC7 := hideT hc7
  have HA7 := hideT ha7
  have HD7 := hideT hd7
  have HB7 := hideT hb7
  have HC8 := hideT hc8
  have HA8 := hideT ha8
  have HD8 := hideT hd8
  have HB8 := hideT hb8
  clear hp hq hc7 ha7 hd7 hb7 hc8 ha8 hd8 hb8
  go_enter Try.func51, Try.ntmps51
  by_cases g2 : p.ctrs.length = q.ctrs.length
  rotate_left
  · have HF : Hid (¬ EndsE p q) := fun h => g2 (by rw [h.1])
    have q1' : ((p.ctrs.length : Int) == (q.ctrs.length : Int)) = false := beq_eq_false_iff_ne.2 (by omega)
    have q2' : ((p.ctrs.length : Int) != (q.ctrs.length : Int)) = true := bne_iff_ne.2 (by omega)
    clear g2
    go_wp2_with fail
    go_ret
    exact bpost_no HF.out B0.out
  have q1' : ((p.ctrs.length : Int) == (q.ctrs.length : Int)) = true := by simp [g2]
  have q2' : ((p.ctrs.length : Int) != (q.ctrs.length : Int)) = false := by simp [g2]
  have HLEN := hideT g2
  clear g2
  by_cases g3 : p.users.length = q.users.length
  rotate_left
  · have HF : Hid (¬ EndsE p q) := fun h => g3 (by rw [h.2])
    have q3' : ((p.users.length : Int) == (q.users.length : Int)) = false := beq_eq_false_iff_ne.2 (by omega)
    have q4' : ((p.users.length : Int) != (q.users.length : Int)) = true := bne_iff_ne.2 (by omega)
    clear g3
    go_wp2_with fail
    go_ret
    exact bpost_no HF.out B0.out
  have q3' : ((p.users.length : Int) == (q.users.length : Int)) = true := by simp [g3]
  have q4' : ((p.users.length : Int) != (q.users.length : Int)) = false := by simp [g3]
  have HLEN3 := hideT g3
  clear g3
  go_wp2_with fail
  clear q1' q2' q3' q4'
  go_loopw [5] (fun i wr => ∃ k : Nat, k ≤ p.ctrs.length ∧ i = .int .i64 k ∧ Hid (∀ (j : Nat), j < k → p.ctrs[j]? = q.ctrs[j]?) ∧ Hid (Below ((w.alloc (.cells #[.int .i64 p.flags, .int .i64 p.lasting, .slice a2 p.first.length c2, .slice a3 p.over.length c3, .int .i64 p.frm, .slice a5 p.files.length c5, .slice a6 p.rules.length c6, .slice a7 p.ctrs.length c7, .slice a8 p.users.length c8, .slice a9 p.notes.length c9] 29)).alloc (.cells #[.int .i64 q.flags, .int .i64 q.lasting, .slice m2 q.first.length r2, .slice m3 q.over.length r3, .int .i64 q.frm, .slice m5 q.files.length r5, .slice m6 q.rules.length r6, .slice m7 q.ctrs.length r7, .slice m8 q.users.length r8, .slice m9 q.notes.length r9] 29)).heap.size ((w.alloc (.cells #[.int .i64 p.flags, .int .i64 p.lasting, .slice a2 p.first.length c2, .slice a3 p.over.length c3, .int .i64 p.frm, .slice a5 p.files.length c5, .slice a6 p.rules.length c6, .slice a7 p.ctrs.length c7, .slice a8 p.users.length c8, .slice a9 p.notes.length c9] 29)).alloc (.cells #[.int .i64 q.flags, .int .i64 q.lasting, .slice m2 q.first.length r2, .slice m3 q.over.length r3, .int .i64 q.frm, .slice m5 q.files.length r5, .slice m6 q.rules.length r6, .slice m7 q.ctrs.length r7, .slice m8 q.users.length r8, .slice m9 q.notes.length r9] 29)) wr)) (fun i _ => p.ctrs.length - (intOf i).toNat)
  case atStart => exact ⟨0, by omega, rfl, (fun j hj => absurd hj (by omega)), Below.refl _ _⟩
  case round =>
    obtain ⟨k, hk, rfl, HB, HW⟩ := hrel
    have BWR := hideT (B0.out.trans (HW.out.mono B0.out.size))
    have z7 : wr.cell? ⟨w.heap.size, 7, none⟩ = some (.slice a7 p.ctrs.length c7) := (LA0.out.below HW.out).cell 7
    have z8 : wr.cell? ⟨w.heap.size, 8, none⟩ = some (.slice a8 p.users.length c8) := (LA0.out.below HW.out).cell 8
    have y7 : wr.cell? ⟨w.heap.size + 1, 7, none⟩ = some (.slice m7 q.ctrs.length r7) := (LB0.out.below HW.out).cell 7
    have y8 : wr.cell? ⟨w.heap.size + 1, 8, none⟩ = some (.slice m8 q.users.length r8) := (LB0.out.below HW.out).cell 8
    by_cases hlt : k < p.ctrs.length
    rotate_left
    · have t1 : ¬ (k : Int) < (p.ctrs.length : Int) := by omega
      have G2 : Hid (p.ctrs = q.ctrs) := list_all rfl HLEN.out (fun j hj => HB.out j (by omega))
      clear HLEN
      have HLEN := HLEN3
      go_wp2_with fail
      clear z7 z8 y7 y8 t1 hlt
      go_loopw [6] (fun i wr => ∃ k : Nat, k ≤ p.users.length ∧ i = .int .i64 k ∧ Hid (∀ (j : Nat), j < k → p.users[j]? = q.users[j]?) ∧ Hid (Below ((w.alloc (.cells #[.int .i64 p.flags, .int .i64 p.lasting, .slice a2 p.first.length c2, .slice a3 p.over.length c3, .int .i64 p.frm, .slice a5 p.files.length c5, .slice a6 p.rules.length c6, .slice a7 p.ctrs.length c7, .slice a8 p.users.length c8, .slice a9 p.notes.length c9] 29)).alloc (.cells #[.int .i64 q.flags, .int .i64 q.lasting, .slice m2 q.first.length r2, .slice m3 q.over.length r3, .int .i64 q.frm, .slice m5 q.files.length r5, .slice m6 q.rules.length r6, .slice m7 q.ctrs.length r7, .slice m8 q.users.length r8, .slice m9 q.notes.length r9] 29)).heap.size ((w.alloc (.cells #[.int .i64 p.flags, .int .i64 p.lasting, .slice a2 p.first.length c2, .slice a3 p.over.length c3, .int .i64 p.frm, .slice a5 p.files.length c5, .slice a6 p.rules.length c6, .slice a7 p.ctrs.length c7, .slice a8 p.users.length c8, .slice a9 p.notes.length c9] 29)).alloc (.cells #[.int .i64 q.flags, .int .i64 q.lasting, .slice m2 q.first.length r2, .slice m3 q.over.length r3, .int .i64 q.frm, .slice m5 q.files.length r5, .slice m6 q.rules.length r6, .slice m7 q.ctrs.length r7, .slice m8 q.users.length r8, .slice m9 q.notes.length r9] 29)) wr)) (fun i _ => p.users.length - (intOf i).toNat)
      case atStart => exact ⟨0, by omega, rfl, (fun j hj => absurd hj (by omega)), HW⟩
      case round =>
        obtain ⟨k, hk, rfl, HB, HW⟩ := hrel
        have BWR := hideT (B0.out.trans (HW.out.mono B0.out.size))
        have z7 : wr.cell? ⟨w.heap.size, 7, none⟩ = some (.slice a7 p.ctrs.length c7) := (LA0.out.below HW.out).cell 7
        have z8 : wr.cell? ⟨w.heap.size, 8, none⟩ = some (.slice a8 p.users.length c8) := (LA0.out.below HW.out).cell 8
        have y7 : wr.cell? ⟨w.heap.size + 1, 7, none⟩ = some (.slice m7 q.ctrs.length r7) := (LB0.out.below HW.out).cell 7
        have y8 : wr.cell? ⟨w.heap.size + 1, 8, none⟩ = some (.slice m8 q.users.length r8) := (LB0.out.below HW.out).cell 8
        by_cases hlt : k < p.users.length
        rotate_left
        · have t1 : ¬ (k : Int) < (p.users.length : Int) := by omega
          have HF : Hid (EndsE p q) := ⟨G2.out, list_all rfl HLEN.out (fun j hj => HB.out j (by omega))⟩
          go_wp2_with fail
          go_ret
          exact bpost_yes HF.out BWR.out
        obtain ⟨⟨u0, u1, u2, u3⟩, hx⟩ := Mp.at_lt (l := p.users) (k := k) (by omega)
        obtain ⟨⟨v0, v1, v2, v3⟩, hy⟩ := Mp.at_lt (l := q.users) (k := k) (by have := HLEN.out; omega)
        obtain ⟨s2, t2, IX⟩ := HC8.out k _ hx
        obtain ⟨s5, t5, IY⟩ := HD8.out k _ hy
        obtain ⟨_, n2, d0, d1, d2, d3⟩ := IX.turn (below_cell BWR.out)
        obtain ⟨_, n5, e0, e1, e2, e3⟩ := IY.turn (below_cell BWR.out)
        dsimp only at n2 n5 d0 d1 d2 d3 e0 e1 e2 e3
        have lt1 := cell_lt d0
        have lt2 := cell_lt e0
        have lt3 := cell_lt z8
        have lt4 := cell_lt y8
        dsimp only at lt1 lt2 lt3 lt4
        obtain rfl := HA8.out (by omega)
        obtain rfl := HB8.out (by have := HLEN.out; omega)
        have HX := hideT hx
        have HY := hideT hy
        have N2 := hideT n2
        have N5 := hideT n5
        clear hx hy n2 n5 IX IY
        have t0 : (0 : Int) ≤ (k : Int) := by omega
        have t1 : (k : Int) < (p.users.length : Int) := by omega
        have t1' : (k : Int) < (q.users.length : Int) := by have := HLEN.out; omega
        by_cases gg0 : u0 = v0
        rotate_left
        · have HF : Hid (¬ EndsE p q) := fun h => absurd h.2 (list_at HX.out HY.out (fun h => gg0 (by simp only [Prod.mk.injEq] at h; exact h.1)))
          have q1' : ¬ u0.toList = v0.toList := fun h => gg0 (toList_inj h)
          have q2' : (u0.toList == v0.toList) = false := beq_eq_false_iff_ne.2 q1'
          have q3' : (u0.toList != v0.toList) = true := bne_iff_ne.2 q1'
          clear gg0
          go_wp2_with fail
          go_region_held3 (fun w' => w'.cell? ⟨w.heap.size, 8, none⟩ = some (.slice (some ⟨b8, o8, none⟩) p.users.length c8) ∧ w'.cell? ⟨w.heap.size + 1, 8, none⟩ = some (.slice (some ⟨g8, j8, none⟩) q.users.length r8) ∧ w'.cell? ⟨b8, o8 + k * 4, none⟩ = some (.string u0) ∧ w'.cell? ⟨b8, o8 + k * 4 + 1, none⟩ = some (.int .i64 u1) ∧ w'.cell? ⟨b8, o8 + k * 4 + 2, none⟩ = some (.slice s2 u2.length t2) ∧ w'.cell? ⟨b8, o8 + k * 4 + 3, none⟩ = some (.int .i64 u3) ∧ w'.cell? ⟨g8, j8 + k * 4, none⟩ = some (.string v0) ∧ w'.cell? ⟨g8, j8 + k * 4 + 1, none⟩ = some (.int .i64 v1) ∧ w'.cell? ⟨g8, j8 + k * 4 + 2, none⟩ = some (.slice s5 v2.length t5) ∧ w'.cell? ⟨g8, j8 + k * 4 + 3, none⟩ = some (.int .i64 v3)) (go_keep) (fail)
          all_goals go_wp2_with fail
          all_goals go_ret
          all_goals exact bpost_no HF.out (Below.drew ((BWR.out.alloc BWR.out.size _).alloc (by have := BWR.out.size; simp; omega) _))
        subst gg0
        by_cases gg1 : u1 = v1
        rotate_left
        · have HF : Hid (¬ EndsE p q) := fun h => absurd h.2 (list_at HX.out HY.out (fun h => gg1 (by simp only [Prod.mk.injEq] at h; exact h.2.1)))
          have q2' : (u1 == v1) = false := beq_eq_false_iff_ne.2 gg1
          have q3' : (u1 != v1) = true := bne_iff_ne.2 gg1
          clear gg1
          go_wp2_with fail
          go_region_held3 (fun w' => w'.cell? ⟨w.heap.size, 8, none⟩ = some (.slice (some ⟨b8, o8, none⟩) p.users.length c8) ∧ w'.cell? ⟨w.heap.size + 1, 8, none⟩ = some (.slice (some ⟨g8, j8, none⟩) q.users.length r8) ∧ w'.cell? ⟨b8, o8 + k * 4, none⟩ = some (.string u0) ∧ w'.cell? ⟨b8, o8 + k * 4 + 1, none⟩ = some (.int .i64 u1) ∧ w'.cell? ⟨b8, o8 + k * 4 + 2, none⟩ = some (.slice s2 u2.length t2) ∧ w'.cell? ⟨b8, o8 + k * 4 + 3, none⟩ = some (.int .i64 u3) ∧ w'.cell? ⟨g8, j8 + k * 4, none⟩ = some (.string u0) ∧ w'.cell? ⟨g8, j8 + k * 4 + 1, none⟩ = some (.int .i64 v1) ∧ w'.cell? ⟨g8, j8 + k * 4 + 2, none⟩ = some (.slice s5 v2.length t5) ∧ w'.cell? ⟨g8, j8 + k * 4 + 3, none⟩ = some (.int .i64 v3)) (go_keep) (fail)
          all_goals go_wp2_with fail
          all_goals go_ret
          all_goals exact bpost_no HF.out (Below.drew ((BWR.out.alloc BWR.out.size _).alloc (by have := BWR.out.size; simp; omega) _))
        subst gg1
        by_cases gg3 : u3 = v3
        rotate_left
        · have HF : Hid (¬ EndsE p q) := fun h => absurd h.2 (list_at HX.out HY.out (fun h => gg3 (by simp only [Prod.mk.injEq] at h; exact h.2.2.2)))
          have q2' : (u3 == v3) = false := beq_eq_false_iff_ne.2 gg3
          have q3' : (u3 != v3) = true := bne_iff_ne.2 gg3
          clear gg3
          go_wp2_with fail
          go_region_held3 (fun w' => w'.cell? ⟨w.heap.size, 8, none⟩ = some (.slice (some ⟨b8, o8, none⟩) p.users.length c8) ∧ w'.cell? ⟨w.heap.size + 1, 8, none⟩ = some (.slice (some ⟨g8, j8, none⟩) q.users.length r8) ∧ w'.cell? ⟨b8, o8 + k * 4, none⟩ = some (.string u0) ∧ w'.cell? ⟨b8, o8 + k * 4 + 1, none⟩ = some (.int .i64 u1) ∧ w'.cell? ⟨b8, o8 + k * 4 + 2, none⟩ = some (.slice s2 u2.length t2) ∧ w'.cell? ⟨b8, o8 + k * 4 + 3, none⟩ = some (.int .i64 u3) ∧ w'.cell? ⟨g8, j8 + k * 4, none⟩ = some (.string u0) ∧ w'.cell? ⟨g8, j8 + k * 4 + 1, none⟩ = some (.int .i64 u1) ∧ w'.cell? ⟨g8, j8 + k * 4 + 2, none⟩ = some (.slice s5 v2.length t5) ∧ w'.cell? ⟨g8, j8 + k * 4 + 3, none⟩ = some (.int .i64 v3)) (go_keep) (fail)
          all_goals go_wp2_with fail
          all_goals go_ret
          all_goals exact bpost_no HF.out (Below.drew ((BWR.out.alloc BWR.out.size _).alloc (by have := BWR.out.size; simp; omega) _))
        subst gg3

        have HAL : Hid (∀ o1 o2, Below wr.heap.size wr ((wr.alloc o1).alloc o2).drew) := fun o1 o2 => Below.drew ((((Below.refl _ wr).alloc (Nat.le_refl _) _).alloc (by simp) _))
        have HAM : Hid (∀ o1 o2 w1, Below ((wr.alloc o1).alloc o2).drew.heap.size ((wr.alloc o1).alloc o2).drew w1 → Below wr.heap.size wr w1) := fun o1 o2 w1 b1 => (HAL.out o1 o2).trans (b1.mono (HAL.out o1 o2).size)
        go_wp2_with fail
        go_region_held3 (fun w' => w'.cell? ⟨w.heap.size, 8, none⟩ = some (.slice (some ⟨b8, o8, none⟩) p.users.length c8) ∧ w'.cell? ⟨w.heap.size + 1, 8, none⟩ = some (.slice (some ⟨g8, j8, none⟩) q.users.length r8) ∧ w'.cell? ⟨b8, o8 + k * 4, none⟩ = some (.string u0) ∧ w'.cell? ⟨b8, o8 + k * 4 + 1, none⟩ = some (.int .i64 u1) ∧ w'.cell? ⟨b8, o8 + k * 4 + 2, none⟩ = some (.slice s2 u2.length t2) ∧ w'.cell? ⟨b8, o8 + k * 4 + 3, none⟩ = some (.int .i64 u3) ∧ w'.cell? ⟨g8, j8 + k * 4, none⟩ = some (.string u0) ∧ w'.cell? ⟨g8, j8 + k * 4 + 1, none⟩ = some (.int .i64 u1) ∧ w'.cell? ⟨g8, j8 + k * 4 + 2, none⟩ = some (.slice s5 v2.length t5) ∧ w'.cell? ⟨g8, j8 + k * 4 + 3, none⟩ = some (.int .i64 u3)) (go_keep) (fail)
        all_goals go_wp2_with fail
        all_goals
          refine (refLits _ _ _ _ _ _ _ u2 v2 (lrow_below N2.out (HAL.out _ _)) (lrow_below N5.out (HAL.out _ _))).mono ?_
          rintro e w1 z1
          by_cases g : u2 = v2
          rotate_left
          · have HF : Hid (¬ EndsE p q) := fun h => absurd h.2 (list_at HX.out HY.out (fun h => g (by simp only [Prod.mk.injEq] at h; exact h.2.2.1)))
            obtain ⟨rfl, b1⟩ := z1.no g
            have b2 := HAM.out _ _ _ b1
            have B3 := hideT (BWR.out.trans (b2.mono BWR.out.size))
            clear z1 b1 b2 g d0 d1 d2 d3 e0 e1 e2 e3 z7 z8 y7 y8
            go_wp2_with fail
            go_ret
            exact bpost_no HF.out B3.out
          obtain ⟨rfl, b1⟩ := z1.yes g
          have b2 := HAM.out _ _ _ b1
          have B3 := hideT (HW.out.trans (b2.mono HW.out.size))
          have HR : Hid (∀ (j : Nat), j < k + 1 → p.users[j]? = q.users[j]?) := by
            intro j hj
            by_cases hj' : j < k
            · exact HB.out j hj'
            · obtain rfl : j = k := by omega
              rw [HX.out, HY.out, g]
          clear z1 b1 b2 g d0 d1 d2 d3 e0 e1 e2 e3 z7 z8 y7 y8
          go_wp2_with fail
          refine ⟨⟨k + 1, by omega, by go_num, HR, B3⟩, ?_⟩
          first | omega | (simp [intOf]; omega)

    obtain ⟨⟨u0, u1, u2⟩, hx⟩ := Mp.at_lt (l := p.ctrs) (k := k) (by omega)
    obtain ⟨⟨v0, v1, v2⟩, hy⟩ := Mp.at_lt (l := q.ctrs) (k := k) (by have := HLEN.out; omega)
    obtain ⟨d0, d1, d2⟩ := HC7.out k _ hx
    obtain ⟨e0, e1, e2⟩ := HD7.out k _ hy
    dsimp only at d0 d1 d2 e0 e1 e2
    have d0 := below_cell BWR.out _ _ d0
    have d1 := below_cell BWR.out _ _ d1
    have d2 := below_cell BWR.out _ _ d2
    have e0 := below_cell BWR.out _ _ e0
    have e1 := below_cell BWR.out _ _ e1
    have e2 := below_cell BWR.out _ _ e2
    obtain rfl := HA7.out (by omega)
    obtain rfl := HB7.out (by have := HLEN.out; omega)
    have HX := hideT hx
    have HY := hideT hy
    clear hx hy
    have t0 : (0 : Int) ≤ (k : Int) := by omega
    have t1 : (k : Int) < (p.ctrs.length : Int) := by omega
    have t1' : (k : Int) < (q.ctrs.length : Int) := by have := HLEN.out; omega
    by_cases gg0 : u0 = v0
    rotate_left
    · have HF : Hid (¬ p.ctrs = q.ctrs) := list_at HX.out HY.out (fun h => gg0 (by simp only [Prod.mk.injEq] at h; exact h.1))
      go_wp2_with fail
      go_quiet (fail)
      go_wp2_with fail
      go_ret
      exact bpost_no (fun h => HF.out h.1) (below_drewN BWR.out _)
    subst gg0
    by_cases gg1 : u1 = v1
    rotate_left
    · have HF : Hid (¬ p.ctrs = q.ctrs) := list_at HX.out HY.out (fun h => gg1 (by simp only [Prod.mk.injEq] at h; exact h.2.1))
      go_wp2_with fail
      go_quiet (fail)
      go_wp2_with fail
      go_ret
      exact bpost_no (fun h => HF.out h.1) (below_drewN BWR.out _)
    subst gg1
    by_cases gg2 : u2 = v2
    rotate_left
    · have HF : Hid (¬ p.ctrs = q.ctrs) := list_at HX.out HY.out (fun h => gg2 (by simp only [Prod.mk.injEq] at h; exact h.2.2))
      go_wp2_with fail
      go_quiet (fail)
      go_wp2_with fail
      go_ret
      exact bpost_no (fun h => HF.out h.1) (below_drewN BWR.out _)
    subst gg2
    have HR : Hid (∀ (j : Nat), j < k + 1 → p.ctrs[j]? = q.ctrs[j]?) := by
      intro j hj
      by_cases hj' : j < k
      · exact HB.out j hj'
      · obtain rfl : j = k := by omega
        rw [HX.out, HY.out]
    go_wp2_with fail
    go_quiet (fail)
    go_wp2_with fail
    refine ⟨⟨k + 1, by omega, by go_num, HR, below_drewN HW.out _⟩, ?_⟩
    first | omega | (simp [intOf]; omega)

end Go.Proofs.Ytmhiilfjckadkaa
/-
  The document's Same: whether two programs are one. (Written by RRef9.py.)
-/
set_option linter.unusedSimpArgs false
set_option linter.unusedVariables false
namespace Go.Proofs.Ytmhiilfjckadkaa
open Go.RowKit
set_option maxRecDepth 100000
theorem sameTextsB (w : World) (a1 a2 : Option Addr) (n1 n2 c1 c2 : Nat) (la lb : List ByteArray) (h1 : FRow w (.slice a1 n1 c1) la) (h2 : FRow w (.slice a2 n2 c2) lb) :
    Calls Try.prog 49 #[.slice a1 n1 c1, .slice a2 n2 c2] w (BPost (la = lb) w) := (sameTexts w a1 a2 n1 n2 c1 c2 la lb h1 h2).mono fun e w' k => bpost_dec k
theorem refItemsB (w : World) (a1 a2 : Option Addr) (n1 n2 c1 c2 : Nat) (la lb : List Mp.Item) (h1 : IRow w (.slice a1 n1 c1) la) (h2 : IRow w (.slice a2 n2 c2) lb) :
    Calls Try.prog 50 #[.slice a1 n1 c1, .slice a2 n2 c2] w (BPost (la = lb) w) := (refItems w a1 a2 n1 n2 c1 c2 la lb h1 h2).mono fun e w' k => ⟨_, k.1, Mp.eqIs_iff _ _, k.2⟩
set_option maxHeartbeats 8000000 in
theorem refSameP (w : World) (A B : PA) (p q : Rp.Prog) (hp : ProgAt w A p) (hq : ProgAt w B q) : Calls Try.prog 17 #[.agg #[.int .i64 p.flags, .int .i64 p.lasting, .slice A.a2 p.first.length A.c2, .slice A.a3 p.over.length A.c3, .int .i64 p.frm, .slice A.a5 p.files.length A.c5, .slice A.a6 p.rules.length A.c6, .slice A.a7 p.ctrs.length A.c7, .slice A.a8 p.users.length A.c8, .slice A.a9 p.notes.length A.c9], .agg #[.int .i64 q.flags, .int .i64 q.lasting, .slice B.a2 q.first.length B.c2, .slice B.a3 q.over.length B.c3, .int .i64 q.frm, .slice B.a5 q.files.length B.c5, .slice B.a6 q.rules.length B.c6, .slice B.a7 q.ctrs.length B.c7, .slice B.a8 q.users.length B.c8, .slice B.a9 q.notes.length B.c9]] w (BPost (p = q) w) := by
  obtain ⟨a2, c2, a3, c3, a5, c5, a6, c6, a7, c7, a8, c8, a9, c9⟩ := A
  obtain ⟨m2, r2, m3, r3, m5, r5, m6, r6, m7, r7, m8, r8, m9, r9⟩ := B
  show Calls _ _ #[.agg #[.int .i64 p.flags, .int .i64 p.lasting, .slice a2 p.first.length c2, .slice a3 p.over.length c3, .int .i64 p.frm, .slice a5 p.files.length c5, .slice a6 p.rules.length c6, .slice a7 p.ctrs.length c7, .slice a8 p.users.length c8, .slice a9 p.notes.length c9], .agg #[.int .i64 q.flags, .int .i64 q.lasting, .slice m2 q.first.length r2, .slice m3 q.over.length r3, .int .i64 q.frm, .slice m5 q.files.length r5, .slice m6 q.rules.length r6, .slice m7 q.ctrs.length r7, .slice m8 q.users.length r8, .slice m9 q.notes.length r9]] w _
  have HP := hideT hp
  have HQ := hideT hq
  have B0 : Hid (Below w.heap.size w ((w.alloc (.cells #[.int .i64 p.flags, .int .i64 p.lasting, .slice a2 p.first.length c2, .slice a3 p.over.length c3, .int .i64 p.frm, .slice a5 p.files.length c5, .slice a6 p.rules.length c6, .slice a7 p.ctrs.length c7, .slice a8 p.users.length c8, .slice a9 p.notes.length c9] 29)).alloc (.cells #[.int .i64 q.flags, .int .i64 q.lasting, .slice m2 q.first.length r2, .slice m3 q.over.length r3, .int .i64 q.frm, .slice m5 q.files.length r5, .slice m6 q.rules.length r6, .slice m7 q.ctrs.length r7, .slice m8 q.users.length r8, .slice m9 q.notes.length r9] 29))) := ((Below.refl w.heap.size w).alloc (Nat.le_refl _) (.cells #[.int .i64 p.flags, .int .i64 p.lasting, .slice a2 p.first.length c2, .slice a3 p.over.length c3, .int .i64 p.frm, .slice a5 p.files.length c5, .slice a6 p.rules.length c6, .slice a7 p.ctrs.length c7, .slice a8 p.users.length c8, .slice a9 p.notes.length c9] 29)).alloc (by simp) (.cells #[.int .i64 q.flags, .int .i64 q.lasting, .slice m2 q.first.length r2, .slice m3 q.over.length r3, .int .i64 q.frm, .slice m5 q.files.length r5, .slice m6 q.rules.length r6, .slice m7 q.ctrs.length r7, .slice m8 q.users.length r8, .slice m9 q.notes.length r9] 29)
  have LA0 : Hid (PBox ((w.alloc (.cells #[.int .i64 p.flags, .int .i64 p.lasting, .slice a2 p.first.length c2, .slice a3 p.over.length c3, .int .i64 p.frm, .slice a5 p.files.length c5, .slice a6 p.rules.length c6, .slice a7 p.ctrs.length c7, .slice a8 p.users.length c8, .slice a9 p.notes.length c9] 29)).alloc (.cells #[.int .i64 q.flags, .int .i64 q.lasting, .slice m2 q.first.length r2, .slice m3 q.over.length r3, .int .i64 q.frm, .slice m5 q.files.length r5, .slice m6 q.rules.length r6, .slice m7 q.ctrs.length r7, .slice m8 q.users.length r8, .slice m9 q.notes.length r9] 29)) w.heap.size (⟨a2, c2, a3, c3, a5, c5, a6, c6, a7, c7, a8, c8, a9, c9⟩ : PA) p) := (PBox.newC w a2 a3 a5 a6 a7 a8 a9 c2 c3 c5 c6 c7 c8 c9 p).below ((Below.refl _ _).alloc (Nat.le_refl _) (.cells #[.int .i64 q.flags, .int .i64 q.lasting, .slice m2 q.first.length r2, .slice m3 q.over.length r3, .int .i64 q.frm, .slice m5 q.files.length r5, .slice m6 q.rules.length r6, .slice m7 q.ctrs.length r7, .slice m8 q.users.length r8, .slice m9 q.notes.length r9] 29))
  have LB0 : Hid (PBox ((w.alloc (.cells #[.int .i64 p.flags, .int .i64 p.lasting, .slice a2 p.first.length c2, .slice a3 p.over.length c3, .int .i64 p.frm, .slice a5 p.files.length c5, .slice a6 p.rules.length c6, .slice a7 p.ctrs.length c7, .slice a8 p.users.length c8, .slice a9 p.notes.length c9] 29)).alloc (.cells #[.int .i64 q.flags, .int .i64 q.lasting, .slice m2 q.first.length r2, .slice m3 q.over.length r3, .int .i64 q.frm, .slice m5 q.files.length r5, .slice m6 q.rules.length r6, .slice m7 q.ctrs.length r7, .slice m8 q.users.length r8, .slice m9 q.notes.length r9] 29)) (w.heap.size + 1) (⟨m2, r2, m3, r3, m5, r5, m6, r6, m7, r7, m8, r8, m9, r9⟩ : PA) q) := by
    have := PBox.newC (w.alloc (.cells #[.int .i64 p.flags, .int .i64 p.lasting, .slice a2 p.first.length c2, .slice a3 p.over.length c3, .int .i64 p.frm, .slice a5 p.files.length c5, .slice a6 p.rules.length c6, .slice a7 p.ctrs.length c7, .slice a8 p.users.length c8, .slice a9 p.notes.length c9] 29)) m2 m3 m5 m6 m7 m8 m9 r2 r3 r5 r6 r7 r8 r9 q
    rwa [show (w.alloc (.cells #[.int .i64 p.flags, .int .i64 p.lasting, .slice a2 p.first.length c2, .slice a3 p.over.length c3, .int .i64 p.frm, .slice a5 p.files.length c5, .slice a6 p.rules.length c6, .slice a7 p.ctrs.length c7, .slice a8 p.users.length c8, .slice a9 p.notes.length c9] 29)).heap.size = w.heap.size + 1 by simp] at this
  obtain ⟨_, hl6, _, b6, o6, ha6, hc6⟩ := rrow_at (show RRow w (.slice a6 p.rules.length c6) p.rules from hp.rules)
  obtain ⟨_, hm6, _, g6, j6, hb6, hd6⟩ := rrow_at (show RRow w (.slice m6 q.rules.length r6) q.rules from hq.rules)
  have HC6 := hideT hc6
  have HA6 := hideT ha6
  have HD6 := hideT hd6
  have HB6 := hideT hb6
  clear hp hq hc6 ha6 hd6 hb6
  go_enter Try.func17, Try.ntmps17
  by_cases g_flags : p.flags = q.flags
  rotate_left
  · have HF : Hid (¬ p = q) := fun h => g_flags (by rw [h])
    have g1' : (p.flags == q.flags) = false := beq_eq_false_iff_ne.2 (by omega)
    have g2' : (p.flags != q.flags) = true := bne_iff_ne.2 (by omega)
    clear g_flags
    go_wp2_with fail
    go_ret
    exact bpost_no HF.out B0.out
  have G_flags := hideT g_flags
  have t_flags : (p.flags == q.flags) = true := by simp [g_flags]
  have s_flags : (p.flags != q.flags) = false := by simp [g_flags]
  clear g_flags
  by_cases g_lasting : p.lasting = q.lasting
  rotate_left
  · have HF : Hid (¬ p = q) := fun h => g_lasting (by rw [h])
    have g1' : (p.lasting == q.lasting) = false := beq_eq_false_iff_ne.2 (by omega)
    have g2' : (p.lasting != q.lasting) = true := bne_iff_ne.2 (by omega)
    clear g_lasting
    go_wp2_with fail
    go_ret
    exact bpost_no HF.out B0.out
  have G_lasting := hideT g_lasting
  have t_lasting : (p.lasting == q.lasting) = true := by simp [g_lasting]
  have s_lasting : (p.lasting != q.lasting) = false := by simp [g_lasting]
  clear g_lasting
  by_cases g_frm : p.frm = q.frm
  rotate_left
  · have HF : Hid (¬ p = q) := fun h => g_frm (by rw [h])
    have g1' : (p.frm == q.frm) = false := beq_eq_false_iff_ne.2 (by omega)
    have g2' : (p.frm != q.frm) = true := bne_iff_ne.2 (by omega)
    clear g_frm
    go_wp2_with fail
    go_ret
    exact bpost_no HF.out B0.out
  have G_frm := hideT g_frm
  have t_frm : (p.frm == q.frm) = true := by simp [g_frm]
  have s_frm : (p.frm != q.frm) = false := by simp [g_frm]
  clear g_frm
  go_wp2_with fail
  refine (sameIntsR _ _ _ _ _ _ _ p.first q.first (zrow_below HP.out.first B0.out) (zrow_below HQ.out.first B0.out)).mono ?_
  rintro e w1 z1
  by_cases g : p.first = q.first
  rotate_left
  · have HF : Hid (¬ p = q) := fun h => g (by rw [h])
    obtain ⟨rfl, b1⟩ := z1.no g
    have BN := hideT (B0.out.trans (b1.mono B0.out.size))
    clear z1 b1 g
    go_wp2_with fail
    go_ret
    exact bpost_no HF.out BN.out
  obtain ⟨rfl, b1⟩ := z1.yes g
  have B1 := hideT (B0.out.trans (b1.mono B0.out.size))
  have LA1 := hideT (LA0.out.below b1)
  have LB1 := hideT (LB0.out.below b1)
  have G_first := hideT g
  clear z1 b1 g
  obtain ⟨x0, x1, x2, x3, x4, x5, x6, x7, x8, x9⟩ := LA1.out.cellsC
  obtain ⟨y0, y1, y2, y3, y4, y5, y6, y7, y8, y9⟩ := LB1.out.cellsC
  go_wp2_with fail
  refine (sameIntsR _ _ _ _ _ _ _ p.over q.over (zrow_below HP.out.over B1.out) (zrow_below HQ.out.over B1.out)).mono ?_
  rintro e w2 z1
  by_cases g : p.over = q.over
  rotate_left
  · have HF : Hid (¬ p = q) := fun h => g (by rw [h])
    obtain ⟨rfl, b1⟩ := z1.no g
    have BN := hideT (B1.out.trans (b1.mono B1.out.size))
    clear z1 b1 g x0 x1 x2 x3 x4 x5 x6 x7 x8 x9 y0 y1 y2 y3 y4 y5 y6 y7 y8 y9
    go_wp2_with fail
    go_ret
    exact bpost_no HF.out BN.out
  obtain ⟨rfl, b1⟩ := z1.yes g
  have B2 := hideT (B1.out.trans (b1.mono B1.out.size))
  have LA2 := hideT (LA1.out.below b1)
  have LB2 := hideT (LB1.out.below b1)
  have G_over := hideT g
  clear z1 b1 g x0 x1 x2 x3 x4 x5 x6 x7 x8 x9 y0 y1 y2 y3 y4 y5 y6 y7 y8 y9
  obtain ⟨x0, x1, x2, x3, x4, x5, x6, x7, x8, x9⟩ := LA2.out.cellsC
  obtain ⟨y0, y1, y2, y3, y4, y5, y6, y7, y8, y9⟩ := LB2.out.cellsC
  go_wp2_with fail
  refine (sameTextsB _ _ _ _ _ _ _ p.files q.files (frow_below HP.out.files B2.out) (frow_below HQ.out.files B2.out)).mono ?_
  rintro e w3 z1
  by_cases g : p.files = q.files
  rotate_left
  · have HF : Hid (¬ p = q) := fun h => g (by rw [h])
    obtain ⟨rfl, b1⟩ := z1.no g
    have BN := hideT (B2.out.trans (b1.mono B2.out.size))
    clear z1 b1 g x0 x1 x2 x3 x4 x5 x6 x7 x8 x9 y0 y1 y2 y3 y4 y5 y6 y7 y8 y9
    go_wp2_with fail
    go_ret
    exact bpost_no HF.out BN.out
  obtain ⟨rfl, b1⟩ := z1.yes g
  have B3 := hideT (B2.out.trans (b1.mono B2.out.size))
  have LA3 := hideT (LA2.out.below b1)
  have LB3 := hideT (LB2.out.below b1)
  have G_files := hideT g
  clear z1 b1 g x0 x1 x2 x3 x4 x5 x6 x7 x8 x9 y0 y1 y2 y3 y4 y5 y6 y7 y8 y9
  obtain ⟨x0, x1, x2, x3, x4, x5, x6, x7, x8, x9⟩ := LA3.out.cellsC
  obtain ⟨y0, y1, y2, y3, y4, y5, y6, y7, y8, y9⟩ := LB3.out.cellsC
  go_wp2_with fail
  refine (refItemsB _ _ _ _ _ _ _ p.notes q.notes (irow_below HP.out.notes B3.out) (irow_below HQ.out.notes B3.out)).mono ?_
  rintro e w4 z1
  by_cases g : p.notes = q.notes
  rotate_left
  · have HF : Hid (¬ p = q) := fun h => g (by rw [h])
    obtain ⟨rfl, b1⟩ := z1.no g
    have BN := hideT (B3.out.trans (b1.mono B3.out.size))
    clear z1 b1 g x0 x1 x2 x3 x4 x5 x6 x7 x8 x9 y0 y1 y2 y3 y4 y5 y6 y7 y8 y9
    go_wp2_with fail
    go_ret
    exact bpost_no HF.out BN.out
  obtain ⟨rfl, b1⟩ := z1.yes g
  have B4 := hideT (B3.out.trans (b1.mono B3.out.size))
  have LA4 := hideT (LA3.out.below b1)
  have LB4 := hideT (LB3.out.below b1)
  have G_notes := hideT g
  clear z1 b1 g x0 x1 x2 x3 x4 x5 x6 x7 x8 x9 y0 y1 y2 y3 y4 y5 y6 y7 y8 y9
  obtain ⟨x0, x1, x2, x3, x4, x5, x6, x7, x8, x9⟩ := LA4.out.cellsC
  obtain ⟨y0, y1, y2, y3, y4, y5, y6, y7, y8, y9⟩ := LB4.out.cellsC
  by_cases g_rules : p.rules.length = q.rules.length
  rotate_left
  · have HF : Hid (¬ p = q) := fun h => g_rules (by rw [h])
    have g1' : ((p.rules.length : Int) == (q.rules.length : Int)) = false := beq_eq_false_iff_ne.2 (by omega)
    have g2' : ((p.rules.length : Int) != (q.rules.length : Int)) = true := bne_iff_ne.2 (by omega)
    clear g_rules
    go_wp2_with fail
    go_ret
    exact bpost_no HF.out B4.out
  have G_rules := hideT g_rules
  have t_rules : ((p.rules.length : Int) == (q.rules.length : Int)) = true := by simp [g_rules]
  have s_rules : ((p.rules.length : Int) != (q.rules.length : Int)) = false := by simp [g_rules]
  clear g_rules
  go_wp2_with fail
  refine (refEndsSame _ ⟨a2, c2, a3, c3, a5, c5, a6, c6, a7, c7, a8, c8, a9, c9⟩ ⟨m2, r2, m3, r3, m5, r5, m6, r6, m7, r7, m8, r8, m9, r9⟩ p q (HP.out.below B4.out) (HQ.out.below B4.out)).mono ?_
  rintro e w5 z1
  by_cases g : EndsE p q
  rotate_left
  · have HF : Hid (¬ p = q) := fun h => g (by rw [h]; exact ⟨rfl, rfl⟩)
    obtain ⟨rfl, b1⟩ := z1.no g
    have BN := hideT (B4.out.trans (b1.mono B4.out.size))
    clear z1 b1 g x0 x1 x2 x3 x4 x5 x6 x7 x8 x9 y0 y1 y2 y3 y4 y5 y6 y7 y8 y9
    go_wp2_with fail
    go_ret
    exact bpost_no HF.out BN.out
  obtain ⟨rfl, b1⟩ := z1.yes g
  have B5 := hideT (B4.out.trans (b1.mono B4.out.size))
  have LA5 := hideT (LA4.out.below b1)
  have LB5 := hideT (LB4.out.below b1)
  have G_ends := hideT g
  clear z1 b1 g x0 x1 x2 x3 x4 x5 x6 x7 x8 x9 y0 y1 y2 y3 y4 y5 y6 y7 y8 y9
  obtain ⟨x0, x1, x2, x3, x4, x5, x6, x7, x8, x9⟩ := LA5.out.cellsC
  obtain ⟨y0, y1, y2, y3, y4, y5, y6, y7, y8, y9⟩ := LB5.out.cellsC
  go_wp2_with fail
  clear x0 x1 x2 x3 x4 x5 x6 x7 x8 x9 y0 y1 y2 y3 y4 y5 y6 y7 y8 y9
  clear t_flags s_flags t_lasting s_lasting t_frm s_frm t_rules s_rules
  go_loopw [5] (fun i wr => ∃ k : Nat, k ≤ p.rules.length ∧ i = .int .i64 k ∧ Hid (∀ (j : Nat), j < k → p.rules[j]? = q.rules[j]?) ∧ Hid (Below w5.heap.size w5 wr)) (fun i _ => p.rules.length - (intOf i).toNat)
  case atStart => exact ⟨0, by omega, rfl, (fun j hj => absurd hj (by omega)), Below.refl _ _⟩
  case round =>
    obtain ⟨k, hk, rfl, HB, HW⟩ := hrel
    have BWR := hideT (B5.out.trans (HW.out.mono B5.out.size))
    have z6 : wr.cell? ⟨w.heap.size, 6, none⟩ = some (.slice a6 p.rules.length c6) := (LA5.out.below HW.out).cell 6
    have y6 : wr.cell? ⟨w.heap.size + 1, 6, none⟩ = some (.slice m6 q.rules.length r6) := (LB5.out.below HW.out).cell 6
    by_cases hlt : k < p.rules.length
    rotate_left
    · have t1 : ¬ (k : Int) < (p.rules.length : Int) := by omega
      have HR : Hid (p.rules = q.rules) := list_all rfl G_rules.out (fun j hj => HB.out j (by omega))
      have HF : Hid (p = q) := prog_eq G_flags.out G_lasting.out G_first.out G_over.out G_frm.out G_files.out HR.out G_ends.out.1 G_ends.out.2 G_notes.out
      go_wp2_with fail
      go_ret
      exact bpost_yes HF.out BWR.out
    obtain ⟨⟨x0, x1, x2, x3⟩, hx⟩ := Mp.at_lt (l := p.rules) (k := k) hlt
    obtain ⟨⟨y0, y1, y2, y3⟩, hy⟩ := Mp.at_lt (l := q.rules) (k := k) (by have := G_rules.out; omega)
    obtain ⟨i1, n1, i2, n2, i3, n3, IX⟩ := HC6.out k _ hx
    obtain ⟨h1, t1, h2, t2, h3, t3, IY⟩ := HD6.out k _ hy
    obtain ⟨k1, k2, k3, u0, u1, u2, u3⟩ := IX.turn (below_cell BWR.out)
    obtain ⟨l1, l2, l3, v0, v1, v2, v3⟩ := IY.turn (below_cell BWR.out)
    dsimp only at k1 k2 k3 l1 l2 l3 u0 u1 u2 u3 v0 v1 v2 v3
    obtain rfl := HA6.out (by omega)
    obtain rfl := HB6.out (by have := G_rules.out; omega)
    have HX := hideT hx
    have HY := hideT hy
    have BA := hideT (below_drewN (Below.refl wr.heap.size wr) 1)
    have K1 := hideT (lrow_below k1 BA.out)
    have K2 := hideT (crow_below k2 BA.out)
    have K3 := hideT (lrow_below k3 BA.out)
    have L1 := hideT (lrow_below l1 BA.out)
    have L2 := hideT (crow_below l2 BA.out)
    have L3 := hideT (lrow_below l3 BA.out)
    clear hx hy k1 k2 k3 l1 l2 l3 IX IY
    have q0 : (0 : Int) ≤ (k : Int) := by omega
    have q1 : (k : Int) < (p.rules.length : Int) := by omega
    have q1' : (k : Int) < (q.rules.length : Int) := by have := G_rules.out; omega
    go_wp2_with fail
    go_region_held3 (fun w' => w'.cell? ⟨w.heap.size, 6, none⟩ = some (.slice (some ⟨b6, o6, none⟩) p.rules.length c6) ∧ w'.cell? ⟨w.heap.size + 1, 6, none⟩ = some (.slice (some ⟨g6, j6, none⟩) q.rules.length r6) ∧ w'.cell? ⟨b6, o6 + k * 4, none⟩ = some (.int .i64 x0) ∧ w'.cell? ⟨b6, o6 + k * 4 + 1, none⟩ = some (.slice i1 x1.length n1) ∧ w'.cell? ⟨b6, o6 + k * 4 + 2, none⟩ = some (.slice i2 x2.length n2) ∧ w'.cell? ⟨b6, o6 + k * 4 + 3, none⟩ = some (.slice i3 x3.length n3) ∧ w'.cell? ⟨g6, j6 + k * 4, none⟩ = some (.int .i64 y0) ∧ w'.cell? ⟨g6, j6 + k * 4 + 1, none⟩ = some (.slice h1 y1.length t1) ∧ w'.cell? ⟨g6, j6 + k * 4 + 2, none⟩ = some (.slice h2 y2.length t2) ∧ w'.cell? ⟨g6, j6 + k * 4 + 3, none⟩ = some (.slice h3 y3.length t3)) (go_keep) ((go_at_call 52; refine (refRuleSame _ x0 y0 x1 y1 i1 h1 n1 t1 x2 y2 i2 h2 n2 t2 x3 y3 i3 h3 n3 t3 K1.out L1.out K2.out L2.out K3.out L3.out).mono ?_; rintro e w1 ⟨bb, rfl, hbb, pp⟩; have HBB := hideT hbb; clear hbb; have q3 : Below wr.heap.size wr w1 := (below_drewN (Below.refl _ wr) 1).trans pp; have zz6 := below_cell q3 _ _ z6; have zy6 := below_cell q3 _ _ y6; have zu0 := below_cell q3 _ _ u0; have zu1 := below_cell q3 _ _ u1; have zu2 := below_cell q3 _ _ u2; have zu3 := below_cell q3 _ _ u3; have zv0 := below_cell q3 _ _ v0; have zv1 := below_cell q3 _ _ v1; have zv2 := below_cell q3 _ _ v2; have zv3 := below_cell q3 _ _ v3))
    have BW1 := hideT (HW.out.trans (q3.mono HW.out.size))
    have BW2 := hideT (BWR.out.trans (q3.mono BWR.out.size))
    clear pp q3 z6 y6 u0 u1 u2 u3 v0 v1 v2 v3 zz6 zy6 zu0 zu1 zu2 zu3 zv0 zv1 zv2 zv3
    cases bb
    · have HF : Hid (¬ p = q) := fun e => absurd (congrArg Rp.Prog.rules e) (list_at HX.out HY.out (fun h => by have := HBB.out.2 h; cases this))
      go_wp2_with fail
      go_ret
      exact bpost_no HF.out BW2.out
    · have HR : Hid (∀ (j : Nat), j < k + 1 → p.rules[j]? = q.rules[j]?) := by
        intro j hj
        by_cases hj' : j < k
        · exact HB.out j hj'
        · obtain rfl : j = k := by omega
          rw [HX.out, HY.out, HBB.out.1 rfl]
      go_wp2_with fail
      refine ⟨⟨k + 1, by omega, by go_num, HR, BW1⟩, ?_⟩
      first | omega | (simp [intOf]; omega)
end Go.Proofs.Ytmhiilfjckadkaa
/-
  RulesTells' walk. (Written by RulesTellsWalk.py.)
-/
set_option linter.unusedSimpArgs false
set_option linter.unusedVariables false
namespace Go.Proofs.Ytmhiilfjckadkaa
open Go.RowKit
set_option maxRecDepth 100000
theorem bool_same {P : Prop} {b c : Bool} (h : b = true ↔ P) (k : c = true ↔ P) : b = c := by
  cases b <;> cases c <;> simp_all
set_option maxHeartbeats 16000000 in
theorem rulesTells_walk {w : World} (A : PA) (p : Rp.Prog) (hp : ProgAt w A p) (B : PA) (q : Rp.Prog) (hq : ProgAt w B q) (f : Int) : Calls Try.prog 3 #[.agg #[.int .i64 p.flags, .int .i64 p.lasting, .slice A.a2 p.first.length A.c2, .slice A.a3 p.over.length A.c3, .int .i64 p.frm, .slice A.a5 p.files.length A.c5, .slice A.a6 p.rules.length A.c6, .slice A.a7 p.ctrs.length A.c7, .slice A.a8 p.users.length A.c8, .slice A.a9 p.notes.length A.c9], .agg #[.int .i64 q.flags, .int .i64 q.lasting, .slice B.a2 q.first.length B.c2, .slice B.a3 q.over.length B.c3, .int .i64 q.frm, .slice B.a5 q.files.length B.c5, .slice B.a6 q.rules.length B.c6, .slice B.a7 q.ctrs.length B.c7, .slice B.a8 q.users.length B.c8, .slice B.a9 q.notes.length B.c9], .int .i64 f] w fun e w' => e = .returned (.bool true) ∧ Below w.heap.size w w' := by
  obtain ⟨a2, c2, a3, c3, a5, c5, a6, c6, a7, c7, a8, c8, a9, c9⟩ := A
  obtain ⟨m2, r2, m3, r3, m5, r5, m6, r6, m7, r7, m8, r8, m9, r9⟩ := B
  show Calls _ _ #[.agg #[.int .i64 p.flags, .int .i64 p.lasting, .slice a2 p.first.length c2, .slice a3 p.over.length c3, .int .i64 p.frm, .slice a5 p.files.length c5, .slice a6 p.rules.length c6, .slice a7 p.ctrs.length c7, .slice a8 p.users.length c8, .slice a9 p.notes.length c9], .agg #[.int .i64 q.flags, .int .i64 q.lasting, .slice m2 q.first.length r2, .slice m3 q.over.length r3, .int .i64 q.frm, .slice m5 q.files.length r5, .slice m6 q.rules.length r6, .slice m7 q.ctrs.length r7, .slice m8 q.users.length r8, .slice m9 q.notes.length r9], _] w _
  have HP := hideT hp
  have HQ := hideT hq
  have B0 : Hid (Below w.heap.size w ((w.alloc (.cells #[.int .i64 p.flags, .int .i64 p.lasting, .slice a2 p.first.length c2, .slice a3 p.over.length c3, .int .i64 p.frm, .slice a5 p.files.length c5, .slice a6 p.rules.length c6, .slice a7 p.ctrs.length c7, .slice a8 p.users.length c8, .slice a9 p.notes.length c9] 29)).alloc (.cells #[.int .i64 q.flags, .int .i64 q.lasting, .slice m2 q.first.length r2, .slice m3 q.over.length r3, .int .i64 q.frm, .slice m5 q.files.length r5, .slice m6 q.rules.length r6, .slice m7 q.ctrs.length r7, .slice m8 q.users.length r8, .slice m9 q.notes.length r9] 29))) := ((Below.refl w.heap.size w).alloc (Nat.le_refl _) (.cells #[.int .i64 p.flags, .int .i64 p.lasting, .slice a2 p.first.length c2, .slice a3 p.over.length c3, .int .i64 p.frm, .slice a5 p.files.length c5, .slice a6 p.rules.length c6, .slice a7 p.ctrs.length c7, .slice a8 p.users.length c8, .slice a9 p.notes.length c9] 29)).alloc (by simp) (.cells #[.int .i64 q.flags, .int .i64 q.lasting, .slice m2 q.first.length r2, .slice m3 q.over.length r3, .int .i64 q.frm, .slice m5 q.files.length r5, .slice m6 q.rules.length r6, .slice m7 q.ctrs.length r7, .slice m8 q.users.length r8, .slice m9 q.notes.length r9] 29)
  have LA0 : Hid (PBox ((w.alloc (.cells #[.int .i64 p.flags, .int .i64 p.lasting, .slice a2 p.first.length c2, .slice a3 p.over.length c3, .int .i64 p.frm, .slice a5 p.files.length c5, .slice a6 p.rules.length c6, .slice a7 p.ctrs.length c7, .slice a8 p.users.length c8, .slice a9 p.notes.length c9] 29)).alloc (.cells #[.int .i64 q.flags, .int .i64 q.lasting, .slice m2 q.first.length r2, .slice m3 q.over.length r3, .int .i64 q.frm, .slice m5 q.files.length r5, .slice m6 q.rules.length r6, .slice m7 q.ctrs.length r7, .slice m8 q.users.length r8, .slice m9 q.notes.length r9] 29)) w.heap.size (⟨a2, c2, a3, c3, a5, c5, a6, c6, a7, c7, a8, c8, a9, c9⟩ : PA) p) := (PBox.newC w a2 a3 a5 a6 a7 a8 a9 c2 c3 c5 c6 c7 c8 c9 p).below ((Below.refl _ _).alloc (Nat.le_refl _) (.cells #[.int .i64 q.flags, .int .i64 q.lasting, .slice m2 q.first.length r2, .slice m3 q.over.length r3, .int .i64 q.frm, .slice m5 q.files.length r5, .slice m6 q.rules.length r6, .slice m7 q.ctrs.length r7, .slice m8 q.users.length r8, .slice m9 q.notes.length r9] 29))
  have LB0 : Hid (PBox ((w.alloc (.cells #[.int .i64 p.flags, .int .i64 p.lasting, .slice a2 p.first.length c2, .slice a3 p.over.length c3, .int .i64 p.frm, .slice a5 p.files.length c5, .slice a6 p.rules.length c6, .slice a7 p.ctrs.length c7, .slice a8 p.users.length c8, .slice a9 p.notes.length c9] 29)).alloc (.cells #[.int .i64 q.flags, .int .i64 q.lasting, .slice m2 q.first.length r2, .slice m3 q.over.length r3, .int .i64 q.frm, .slice m5 q.files.length r5, .slice m6 q.rules.length r6, .slice m7 q.ctrs.length r7, .slice m8 q.users.length r8, .slice m9 q.notes.length r9] 29)) (w.heap.size + 1) (⟨m2, r2, m3, r3, m5, r5, m6, r6, m7, r7, m8, r8, m9, r9⟩ : PA) q) := by
    have := PBox.newC (w.alloc (.cells #[.int .i64 p.flags, .int .i64 p.lasting, .slice a2 p.first.length c2, .slice a3 p.over.length c3, .int .i64 p.frm, .slice a5 p.files.length c5, .slice a6 p.rules.length c6, .slice a7 p.ctrs.length c7, .slice a8 p.users.length c8, .slice a9 p.notes.length c9] 29)) m2 m3 m5 m6 m7 m8 m9 r2 r3 r5 r6 r7 r8 r9 q
    rwa [show (w.alloc (.cells #[.int .i64 p.flags, .int .i64 p.lasting, .slice a2 p.first.length c2, .slice a3 p.over.length c3, .int .i64 p.frm, .slice a5 p.files.length c5, .slice a6 p.rules.length c6, .slice a7 p.ctrs.length c7, .slice a8 p.users.length c8, .slice a9 p.notes.length c9] 29)).heap.size = w.heap.size + 1 by simp] at this
  clear hp hq
  go_enter Try.func3, Try.ntmps3
  go_wp2_with fail
  refine (bigD _ ⟨a2, c2, a3, c3, a5, c5, a6, c6, a7, c7, a8, c8, a9, c9⟩ p (HP.out.below B0.out)).mono ?_
  rintro e w1 ⟨bb, rfl, hsm, b1⟩
  have B1 := hideT (B0.out.trans (b1.mono B0.out.size))
  have LA1 := hideT (LA0.out.below b1)
  have LB1 := hideT (LB0.out.below b1)
  cases bb
  rotate_left
  · clear b1 hsm
    go_wp2_with fail
    go_ret
    exact ⟨rfl, B1.out⟩
  have HSM : Hid (p.rules.length ≤ 90000) := by
    have h := hsm rfl
    have := h.2.2.2.1
    show _ ≤ _
    omega
  clear b1 hsm
  obtain ⟨x0, x1, x2, x3, x4, x5, x6, x7, x8, x9⟩ := LB1.out.cellsC
  go_wp2_with fail
  refine (bigD _ ⟨m2, r2, m3, r3, m5, r5, m6, r6, m7, r7, m8, r8, m9, r9⟩ q (HQ.out.below B1.out)).mono ?_
  rintro e w2 ⟨bb, rfl, hsm, b2⟩
  have B2 := hideT (B1.out.trans (b2.mono B1.out.size))
  have LA2 := hideT (LA1.out.below b2)
  have LB2 := hideT (LB1.out.below b2)
  clear b2 hsm x0 x1 x2 x3 x4 x5 x6 x7 x8 x9
  cases bb
  rotate_left
  · go_wp2_with fail
    go_ret
    exact ⟨rfl, B2.out⟩
  obtain ⟨x0, x1, x2, x3, x4, x5, x6, x7, x8, x9⟩ := LA2.out.cellsC
  obtain ⟨y0, y1, y2, y3, y4, y5, y6, y7, y8, y9⟩ := LB2.out.cellsC
  go_wp2_with fail
  have B2 := hideT (Below.drew B2.out)
  have LA2 := hideT (LA2.out.below (Below.drew (Below.refl _ _)))
  have LB2 := hideT (LB2.out.below (Below.drew (Below.refl _ _)))
  refine wp_region_held_drew (S := (fun w' => w'.cell? ⟨w.heap.size, 0, none⟩ = some (.int .i64 p.flags) ∧ w'.cell? ⟨w.heap.size, 1, none⟩ = some (.int .i64 p.lasting) ∧ w'.cell? ⟨w.heap.size, 2, none⟩ = some (.slice a2 p.first.length c2) ∧ w'.cell? ⟨w.heap.size, 3, none⟩ = some (.slice a3 p.over.length c3) ∧ w'.cell? ⟨w.heap.size, 4, none⟩ = some (.int .i64 p.frm) ∧ w'.cell? ⟨w.heap.size, 5, none⟩ = some (.slice a5 p.files.length c5) ∧ w'.cell? ⟨w.heap.size, 6, none⟩ = some (.slice a6 p.rules.length c6) ∧ w'.cell? ⟨w.heap.size, 7, none⟩ = some (.slice a7 p.ctrs.length c7) ∧ w'.cell? ⟨w.heap.size, 8, none⟩ = some (.slice a8 p.users.length c8) ∧ w'.cell? ⟨w.heap.size, 9, none⟩ = some (.slice a9 p.notes.length c9) ∧ w'.cell? ⟨w.heap.size + 1, 0, none⟩ = some (.int .i64 q.flags) ∧ w'.cell? ⟨w.heap.size + 1, 1, none⟩ = some (.int .i64 q.lasting) ∧ w'.cell? ⟨w.heap.size + 1, 2, none⟩ = some (.slice m2 q.first.length r2) ∧ w'.cell? ⟨w.heap.size + 1, 3, none⟩ = some (.slice m3 q.over.length r3) ∧ w'.cell? ⟨w.heap.size + 1, 4, none⟩ = some (.int .i64 q.frm) ∧ w'.cell? ⟨w.heap.size + 1, 5, none⟩ = some (.slice m5 q.files.length r5) ∧ w'.cell? ⟨w.heap.size + 1, 6, none⟩ = some (.slice m6 q.rules.length r6) ∧ w'.cell? ⟨w.heap.size + 1, 7, none⟩ = some (.slice m7 q.ctrs.length r7) ∧ w'.cell? ⟨w.heap.size + 1, 8, none⟩ = some (.slice m8 q.users.length r8) ∧ w'.cell? ⟨w.heap.size + 1, 9, none⟩ = some (.slice m9 q.notes.length r9))) (by kernel_rfl) ?_ (fun hHeld => ?_)
  · try dsimp only
    go_keep
  refine wpAnyH_take (i := 0) (oi := { dst := some 13, op := Go.Op.load 29 (Go.Operand.tmp 3), type := 29, pos := "law.go:34", after := #[], guard := none }) (v := ?v0) rfl (by kernel_rfl) (by kernel_rfl) (by kernel_rfl) (fun _ _ _ h => h) (Or.inl ⟨by rfl, ?hy0⟩) (by assumption) ?rest0
  case hy0 => first | (intro w hSw; (try dsimp only at hSw); go_simp; done) | (intro w hSw; (try dsimp only at hSw); go_simp; with_reducible rfl)
  try simp only [Act.put, List.setIfInBounds_toArray, List.set_cons_zero, List.set_cons_succ]
  refine wpAnyH_take (i := 2) (oi := { dst := some 15, op := Go.Op.load 29 (Go.Operand.tmp 3), type := 29, pos := "law.go:34", after := #[], guard := none }) (v := ?v2) rfl (by kernel_rfl) (by kernel_rfl) (by kernel_rfl) (fun _ _ _ h => h) (Or.inl ⟨by rfl, ?hy2⟩) (by assumption) ?rest2
  case hy2 => first | (intro w hSw; (try dsimp only at hSw); go_simp; done) | (intro w hSw; (try dsimp only at hSw); go_simp; with_reducible rfl)
  try simp only [Act.put, List.setIfInBounds_toArray, List.set_cons_zero, List.set_cons_succ]
  refine wpAnyH_ready (rs := [1]) (by kernel_rfl) (by simp) ?_
  refine AllReadyH.cons (o := { dst := some 14, op := Go.Op.call { callee := Go.Callee.value (Go.Operand.func 9), args := #[Go.Operand.tmp 13], argTypes := #[29] }, type := 4, pos := "law.go:34", after := #[{ on := 0, ground := Go.Ground.data }], guard := none }) rfl (fun Kx hK => ?_) AllReadyH.nil
  rw [if_pos (by rfl)]
  go_simp
  go_at_call 9
  refine (isD _ ⟨a2, c2, a3, c3, a5, c5, a6, c6, a7, c7, a8, c8, a9, c9⟩ p (HP.out.below B2.out)).mono ?_
  rintro e w3 ⟨t1, rfl, ht1, b3⟩
  have HT1 := hideT ht1
  clear ht1
  have B3 := hideT (B2.out.trans (b3.mono B2.out.size))
  have LA3 := hideT (LA2.out.below b3)
  have LB3 := hideT (LB2.out.below b3)
  clear b3 x0 x1 x2 x3 x4 x5 x6 x7 x8 x9 y0 y1 y2 y3 y4 y5 y6 y7 y8 y9
  obtain ⟨x0, x1, x2, x3, x4, x5, x6, x7, x8, x9⟩ := LA3.out.cellsC
  obtain ⟨y0, y1, y2, y3, y4, y5, y6, y7, y8, y9⟩ := LB3.out.cellsC
  refine hK.out _ _ ?_ (fun hHeld1 => ?_)
  · exact ⟨x0, x1, x2, x3, x4, x5, x6, x7, x8, x9, y0, y1, y2, y3, y4, y5, y6, y7, y8, y9⟩
  clear hK Kx
  try simp only [Act.put, List.setIfInBounds_toArray, List.set_cons_zero, List.set_cons_succ]
  refine wpAnyH_ready (rs := [3]) (by kernel_rfl) (by simp) ?_
  refine AllReadyH.cons (o := { dst := some 16, op := Go.Op.call { callee := Go.Callee.value (Go.Operand.func 10), args := #[Go.Operand.tmp 15], argTypes := #[29] }, type := 4, pos := "law.go:34", after := #[{ on := 2, ground := Go.Ground.data }, { on := 1, ground := Go.Ground.chain }], guard := none }) rfl (fun Kx hK => ?_) AllReadyH.nil
  rw [if_pos (by rfl)]
  go_simp
  go_at_call 10
  refine (refIsD _ ⟨a2, c2, a3, c3, a5, c5, a6, c6, a7, c7, a8, c8, a9, c9⟩ p (HP.out.below B3.out)).mono ?_
  rintro e w4 ⟨t2, rfl, ht2, b4⟩
  obtain rfl := bool_same HT1.out ht2
  clear ht2
  have B4 := hideT (B3.out.trans (b4.mono B3.out.size))
  have LA4 := hideT (LA3.out.below b4)
  have LB4 := hideT (LB3.out.below b4)
  clear b4 x0 x1 x2 x3 x4 x5 x6 x7 x8 x9 y0 y1 y2 y3 y4 y5 y6 y7 y8 y9
  obtain ⟨x0, x1, x2, x3, x4, x5, x6, x7, x8, x9⟩ := LA4.out.cellsC
  obtain ⟨y0, y1, y2, y3, y4, y5, y6, y7, y8, y9⟩ := LB4.out.cellsC
  refine hK.out _ _ ?_ (fun hHeld3 => ?_)
  · exact ⟨x0, x1, x2, x3, x4, x5, x6, x7, x8, x9, y0, y1, y2, y3, y4, y5, y6, y7, y8, y9⟩
  clear hK Kx
  try simp only [Act.put, List.setIfInBounds_toArray, List.set_cons_zero, List.set_cons_succ]
  refine wpAnyH_take (i := 4) (oi := { dst := some 17, op := Go.Op.binOp Go.BinOp.eql 4 (Go.Operand.tmp 14) (Go.Operand.tmp 16) 4, type := 4, pos := "law.go:34", after := #[{ on := 1, ground := Go.Ground.data }, { on := 3, ground := Go.Ground.data }], guard := none }) (v := ?v4) rfl (by kernel_rfl) (by kernel_rfl) (by kernel_rfl) (fun _ _ _ h => h) (Or.inl ⟨by rfl, ?hy4⟩) (by assumption) ?rest4
  case hy4 => first | (intro w hSw; (try dsimp only at hSw); go_simp; done) | (intro w hSw; (try dsimp only at hSw); go_simp; with_reducible rfl)
  try simp only [Act.put, List.setIfInBounds_toArray, List.set_cons_zero, List.set_cons_succ]
  refine wpAnyH_take (i := 5) (oi := { dst := some 18, op := Go.Op.move (Go.Operand.tmp 17), type := 4, pos := "law.go:34", after := #[{ on := 4, ground := Go.Ground.data }, { on := 3, ground := Go.Ground.chain }], guard := none }) (v := ?v5) rfl (by kernel_rfl) (by kernel_rfl) (by kernel_rfl) (fun _ _ _ h => h) (Or.inl ⟨by rfl, ?hy5⟩) (by assumption) ?rest5
  case hy5 => first | (intro w hSw; (try dsimp only at hSw); go_simp; done) | (intro w hSw; (try dsimp only at hSw); go_simp; with_reducible rfl)
  try simp only [Act.put, List.setIfInBounds_toArray, List.set_cons_zero, List.set_cons_succ]
  refine wpAnyH_take (i := 6) (oi := { dst := some 19, op := Go.Op.load 29 (Go.Operand.tmp 3), type := 29, pos := "law.go:34", after := #[{ on := 5, ground := Go.Ground.guard }], guard := some (5, true) }) (v := ?v6) rfl (by kernel_rfl) (by kernel_rfl) (by kernel_rfl) (fun _ _ _ h => h) (Or.inl ⟨by rfl, ?hy6⟩) (by assumption) ?rest6
  case hy6 => first | (intro w hSw; (try dsimp only at hSw); go_simp; done) | (intro w hSw; (try dsimp only at hSw); go_simp; with_reducible rfl)
  try simp only [Act.put, List.setIfInBounds_toArray, List.set_cons_zero, List.set_cons_succ]
  refine wpAnyH_take (i := 7) (oi := { dst := some 20, op := Go.Op.move (Go.Operand.tmp 2), type := 3, pos := "law.go:34", after := #[{ on := 5, ground := Go.Ground.guard }], guard := some (5, true) }) (v := ?v7) rfl (by kernel_rfl) (by kernel_rfl) (by kernel_rfl) (fun _ _ _ h => h) (Or.inl ⟨by rfl, ?hy7⟩) (by assumption) ?rest7
  case hy7 => first | (intro w hSw; (try dsimp only at hSw); go_simp; done) | (intro w hSw; (try dsimp only at hSw); go_simp; with_reducible rfl)
  try simp only [Act.put, List.setIfInBounds_toArray, List.set_cons_zero, List.set_cons_succ]
  refine wpAnyH_take (i := 9) (oi := { dst := some 22, op := Go.Op.load 29 (Go.Operand.tmp 3), type := 29, pos := "law.go:34", after := #[{ on := 5, ground := Go.Ground.guard }], guard := some (5, true) }) (v := ?v9) rfl (by kernel_rfl) (by kernel_rfl) (by kernel_rfl) (fun _ _ _ h => h) (Or.inl ⟨by rfl, ?hy9⟩) (by assumption) ?rest9
  case hy9 => first | (intro w hSw; (try dsimp only at hSw); go_simp; done) | (intro w hSw; (try dsimp only at hSw); go_simp; with_reducible rfl)
  try simp only [Act.put, List.setIfInBounds_toArray, List.set_cons_zero, List.set_cons_succ]
  refine wpAnyH_take (i := 10) (oi := { dst := some 23, op := Go.Op.move (Go.Operand.tmp 2), type := 3, pos := "law.go:34", after := #[{ on := 5, ground := Go.Ground.guard }], guard := some (5, true) }) (v := ?v10) rfl (by kernel_rfl) (by kernel_rfl) (by kernel_rfl) (fun _ _ _ h => h) (Or.inl ⟨by rfl, ?hy10⟩) (by assumption) ?rest10
  case hy10 => first | (intro w hSw; (try dsimp only at hSw); go_simp; done) | (intro w hSw; (try dsimp only at hSw); go_simp; with_reducible rfl)
  try simp only [Act.put, List.setIfInBounds_toArray, List.set_cons_zero, List.set_cons_succ]
  refine wpAnyH_ready (rs := [8]) (by kernel_rfl) (by simp) ?_
  refine AllReadyH.cons (o := { dst := some 21, op := Go.Op.call { callee := Go.Callee.value (Go.Operand.func 12), args := #[Go.Operand.tmp 19, Go.Operand.tmp 20], argTypes := #[29, 3] }, type := 22, pos := "law.go:34", after := #[{ on := 6, ground := Go.Ground.data }, { on := 7, ground := Go.Ground.data }, { on := 5, ground := Go.Ground.chain }, { on := 5, ground := Go.Ground.guard }], guard := some (5, true) }) rfl (fun Kx hK => ?_) AllReadyH.nil
  rw [if_pos (by rfl)]
  go_simp
  go_at_call 12
  refine (progReads _ ⟨a2, c2, a3, c3, a5, c5, a6, c6, a7, c7, a8, c8, a9, c9⟩ p (HP.out.below B4.out) f).mono ?_
  rintro e w5 ⟨ra, rl, rfl, hz, hs, b5⟩
  have HZr := hideT hz
  have HSr := hideT hs
  clear hz hs
  have B5 := hideT (B4.out.trans (b5.mono B4.out.size))
  have LA5 := hideT (LA4.out.below b5)
  have LB5 := hideT (LB4.out.below b5)
  clear b5 x0 x1 x2 x3 x4 x5 x6 x7 x8 x9 y0 y1 y2 y3 y4 y5 y6 y7 y8 y9
  obtain ⟨x0, x1, x2, x3, x4, x5, x6, x7, x8, x9⟩ := LA5.out.cellsC
  obtain ⟨y0, y1, y2, y3, y4, y5, y6, y7, y8, y9⟩ := LB5.out.cellsC
  refine hK.out _ _ ?_ (fun hHeld8 => ?_)
  · exact ⟨x0, x1, x2, x3, x4, x5, x6, x7, x8, x9, y0, y1, y2, y3, y4, y5, y6, y7, y8, y9⟩
  clear hK Kx
  try simp only [Act.put, List.setIfInBounds_toArray, List.set_cons_zero, List.set_cons_succ]
  refine wpAnyH_ready (rs := [11]) (by kernel_rfl) (by simp) ?_
  refine AllReadyH.cons (o := { dst := some 24, op := Go.Op.call { callee := Go.Callee.value (Go.Operand.func 13), args := #[Go.Operand.tmp 22, Go.Operand.tmp 23], argTypes := #[29, 3] }, type := 22, pos := "law.go:34", after := #[{ on := 9, ground := Go.Ground.data }, { on := 10, ground := Go.Ground.data }, { on := 8, ground := Go.Ground.chain }, { on := 5, ground := Go.Ground.guard }], guard := some (5, true) }) rfl (fun Kx hK => ?_) AllReadyH.nil
  rw [if_pos (by rfl)]
  go_simp
  go_at_call 13
  refine (refReads _ ⟨a2, c2, a3, c3, a5, c5, a6, c6, a7, c7, a8, c8, a9, c9⟩ p (HP.out.below B5.out) f HSM.out).mono ?_
  rintro e w6 ⟨rv, rm, rfl, hz, hs, b6⟩
  obtain rfl := Rp.sets_one HSr.out hs
  obtain ⟨rb, rc, rfl⟩ := zrow_val hz
  have HZr2 := hideT (zrow_below HZr.out b6)
  have HZr3 := hideT hz
  clear hz hs
  have B6 := hideT (B5.out.trans (b6.mono B5.out.size))
  have LA6 := hideT (LA5.out.below b6)
  have LB6 := hideT (LB5.out.below b6)
  clear b6 x0 x1 x2 x3 x4 x5 x6 x7 x8 x9 y0 y1 y2 y3 y4 y5 y6 y7 y8 y9
  obtain ⟨x0, x1, x2, x3, x4, x5, x6, x7, x8, x9⟩ := LA6.out.cellsC
  obtain ⟨y0, y1, y2, y3, y4, y5, y6, y7, y8, y9⟩ := LB6.out.cellsC
  refine hK.out _ _ ?_ (fun hHeld11 => ?_)
  · exact ⟨x0, x1, x2, x3, x4, x5, x6, x7, x8, x9, y0, y1, y2, y3, y4, y5, y6, y7, y8, y9⟩
  clear hK Kx
  try simp only [Act.put, List.setIfInBounds_toArray, List.set_cons_zero, List.set_cons_succ]
  refine wpAnyH_ready (rs := [12]) (by kernel_rfl) (by simp) ?_
  refine AllReadyH.cons (o := { dst := some 25, op := Go.Op.call { callee := Go.Callee.value (Go.Operand.func 11), args := #[Go.Operand.tmp 21, Go.Operand.tmp 24], argTypes := #[22, 22] }, type := 4, pos := "law.go:34", after := #[{ on := 8, ground := Go.Ground.data }, { on := 11, ground := Go.Ground.data }, { on := 11, ground := Go.Ground.chain }, { on := 5, ground := Go.Ground.guard }], guard := some (5, true) }) rfl (fun Kx hK => ?_) AllReadyH.nil
  rw [if_pos (by rfl)]
  go_simp
  go_at_call 11
  refine (sameIntsR _ _ _ _ _ _ _ rl rl HZr2.out HZr3.out).mono ?_
  rintro e w7 z1
  obtain ⟨rfl, b7⟩ := z1.yes rfl
  have B7 := hideT (B6.out.trans (b7.mono B6.out.size))
  have LA7 := hideT (LA6.out.below b7)
  have LB7 := hideT (LB6.out.below b7)
  clear z1
  clear b7 x0 x1 x2 x3 x4 x5 x6 x7 x8 x9 y0 y1 y2 y3 y4 y5 y6 y7 y8 y9
  obtain ⟨x0, x1, x2, x3, x4, x5, x6, x7, x8, x9⟩ := LA7.out.cellsC
  obtain ⟨y0, y1, y2, y3, y4, y5, y6, y7, y8, y9⟩ := LB7.out.cellsC
  refine hK.out _ _ ?_ (fun hHeld12 => ?_)
  · exact ⟨x0, x1, x2, x3, x4, x5, x6, x7, x8, x9, y0, y1, y2, y3, y4, y5, y6, y7, y8, y9⟩
  clear hK Kx
  try simp only [Act.put, List.setIfInBounds_toArray, List.set_cons_zero, List.set_cons_succ]
  refine wpAnyH_take (i := 13) (oi := { dst := some 26, op := Go.Op.pick (Go.Operand.tmp 18) (Go.Operand.tmp 25) (Go.Operand.const (Go.Value.bool false)), type := 4, pos := "law.go:34", after := #[{ on := 5, ground := Go.Ground.data }, { on := 12, ground := Go.Ground.data }], guard := none }) (v := ?v13) rfl (by kernel_rfl) (by kernel_rfl) (by kernel_rfl) (fun _ _ _ h => h) (Or.inl ⟨by rfl, ?hy13⟩) (by assumption) ?rest13
  case hy13 => first | (intro w hSw; (try dsimp only at hSw); go_simp; done) | (intro w hSw; (try dsimp only at hSw); go_simp; with_reducible rfl)
  try simp only [Act.put, List.setIfInBounds_toArray, List.set_cons_zero, List.set_cons_succ]
  refine wpAnyH_take (i := 14) (oi := { dst := some 27, op := Go.Op.move (Go.Operand.tmp 26), type := 4, pos := "law.go:34", after := #[{ on := 13, ground := Go.Ground.data }, { on := 12, ground := Go.Ground.chain }], guard := none }) (v := ?v14) rfl (by kernel_rfl) (by kernel_rfl) (by kernel_rfl) (fun _ _ _ h => h) (Or.inl ⟨by rfl, ?hy14⟩) (by assumption) ?rest14
  case hy14 => first | (intro w hSw; (try dsimp only at hSw); go_simp; done) | (intro w hSw; (try dsimp only at hSw); go_simp; with_reducible rfl)
  try simp only [Act.put, List.setIfInBounds_toArray, List.set_cons_zero, List.set_cons_succ]
  refine wpAnyH_take (i := 15) (oi := { dst := some 28, op := Go.Op.load 29 (Go.Operand.tmp 3), type := 29, pos := "law.go:34", after := #[{ on := 14, ground := Go.Ground.guard }], guard := some (14, true) }) (v := ?v15) rfl (by kernel_rfl) (by kernel_rfl) (by kernel_rfl) (fun _ _ _ h => h) (Or.inl ⟨by rfl, ?hy15⟩) (by assumption) ?rest15
  case hy15 => first | (intro w hSw; (try dsimp only at hSw); go_simp; done) | (intro w hSw; (try dsimp only at hSw); go_simp; with_reducible rfl)
  try simp only [Act.put, List.setIfInBounds_toArray, List.set_cons_zero, List.set_cons_succ]
  refine wpAnyH_take (i := 16) (oi := { dst := some 29, op := Go.Op.move (Go.Operand.tmp 2), type := 3, pos := "law.go:34", after := #[{ on := 14, ground := Go.Ground.guard }], guard := some (14, true) }) (v := ?v16) rfl (by kernel_rfl) (by kernel_rfl) (by kernel_rfl) (fun _ _ _ h => h) (Or.inl ⟨by rfl, ?hy16⟩) (by assumption) ?rest16
  case hy16 => first | (intro w hSw; (try dsimp only at hSw); go_simp; done) | (intro w hSw; (try dsimp only at hSw); go_simp; with_reducible rfl)
  try simp only [Act.put, List.setIfInBounds_toArray, List.set_cons_zero, List.set_cons_succ]
  refine wpAnyH_take (i := 18) (oi := { dst := some 31, op := Go.Op.load 29 (Go.Operand.tmp 3), type := 29, pos := "law.go:34", after := #[{ on := 14, ground := Go.Ground.guard }], guard := some (14, true) }) (v := ?v18) rfl (by kernel_rfl) (by kernel_rfl) (by kernel_rfl) (fun _ _ _ h => h) (Or.inl ⟨by rfl, ?hy18⟩) (by assumption) ?rest18
  case hy18 => first | (intro w hSw; (try dsimp only at hSw); go_simp; done) | (intro w hSw; (try dsimp only at hSw); go_simp; with_reducible rfl)
  try simp only [Act.put, List.setIfInBounds_toArray, List.set_cons_zero, List.set_cons_succ]
  refine wpAnyH_take (i := 19) (oi := { dst := some 32, op := Go.Op.move (Go.Operand.tmp 2), type := 3, pos := "law.go:34", after := #[{ on := 14, ground := Go.Ground.guard }], guard := some (14, true) }) (v := ?v19) rfl (by kernel_rfl) (by kernel_rfl) (by kernel_rfl) (fun _ _ _ h => h) (Or.inl ⟨by rfl, ?hy19⟩) (by assumption) ?rest19
  case hy19 => first | (intro w hSw; (try dsimp only at hSw); go_simp; done) | (intro w hSw; (try dsimp only at hSw); go_simp; with_reducible rfl)
  try simp only [Act.put, List.setIfInBounds_toArray, List.set_cons_zero, List.set_cons_succ]
  refine wpAnyH_ready (rs := [17]) (by kernel_rfl) (by simp) ?_
  refine AllReadyH.cons (o := { dst := some 30, op := Go.Op.call { callee := Go.Callee.value (Go.Operand.func 14), args := #[Go.Operand.tmp 28, Go.Operand.tmp 29], argTypes := #[29, 3] }, type := 22, pos := "law.go:34", after := #[{ on := 15, ground := Go.Ground.data }, { on := 16, ground := Go.Ground.data }, { on := 14, ground := Go.Ground.chain }, { on := 14, ground := Go.Ground.guard }], guard := some (14, true) }) rfl (fun Kx hK => ?_) AllReadyH.nil
  rw [if_pos (by rfl)]
  go_simp
  go_at_call 14
  refine (progWrites _ ⟨a2, c2, a3, c3, a5, c5, a6, c6, a7, c7, a8, c8, a9, c9⟩ p (HP.out.below B7.out) f).mono ?_
  rintro e w8 ⟨sa, sl, rfl, hz, hs, b8⟩
  have HZs := hideT hz
  have HSs := hideT hs
  clear hz hs
  have B8 := hideT (B7.out.trans (b8.mono B7.out.size))
  have LA8 := hideT (LA7.out.below b8)
  have LB8 := hideT (LB7.out.below b8)
  clear b8 x0 x1 x2 x3 x4 x5 x6 x7 x8 x9 y0 y1 y2 y3 y4 y5 y6 y7 y8 y9
  obtain ⟨x0, x1, x2, x3, x4, x5, x6, x7, x8, x9⟩ := LA8.out.cellsC
  obtain ⟨y0, y1, y2, y3, y4, y5, y6, y7, y8, y9⟩ := LB8.out.cellsC
  refine hK.out _ _ ?_ (fun hHeld17 => ?_)
  · exact ⟨x0, x1, x2, x3, x4, x5, x6, x7, x8, x9, y0, y1, y2, y3, y4, y5, y6, y7, y8, y9⟩
  clear hK Kx
  try simp only [Act.put, List.setIfInBounds_toArray, List.set_cons_zero, List.set_cons_succ]
  refine wpAnyH_ready (rs := [20]) (by kernel_rfl) (by simp) ?_
  refine AllReadyH.cons (o := { dst := some 33, op := Go.Op.call { callee := Go.Callee.value (Go.Operand.func 15), args := #[Go.Operand.tmp 31, Go.Operand.tmp 32], argTypes := #[29, 3] }, type := 22, pos := "law.go:34", after := #[{ on := 18, ground := Go.Ground.data }, { on := 19, ground := Go.Ground.data }, { on := 17, ground := Go.Ground.chain }, { on := 14, ground := Go.Ground.guard }], guard := some (14, true) }) rfl (fun Kx hK => ?_) AllReadyH.nil
  rw [if_pos (by rfl)]
  go_simp
  go_at_call 15
  refine (refWrites _ ⟨a2, c2, a3, c3, a5, c5, a6, c6, a7, c7, a8, c8, a9, c9⟩ p (HP.out.below B8.out) f HSM.out).mono ?_
  rintro e w9 ⟨sv, sm, rfl, hz, hs, b9⟩
  obtain rfl := Rp.sets_one HSs.out hs
  obtain ⟨sb, sc, rfl⟩ := zrow_val hz
  have HZs2 := hideT (zrow_below HZs.out b9)
  have HZs3 := hideT hz
  clear hz hs
  have B9 := hideT (B8.out.trans (b9.mono B8.out.size))
  have LA9 := hideT (LA8.out.below b9)
  have LB9 := hideT (LB8.out.below b9)
  clear b9 x0 x1 x2 x3 x4 x5 x6 x7 x8 x9 y0 y1 y2 y3 y4 y5 y6 y7 y8 y9
  obtain ⟨x0, x1, x2, x3, x4, x5, x6, x7, x8, x9⟩ := LA9.out.cellsC
  obtain ⟨y0, y1, y2, y3, y4, y5, y6, y7, y8, y9⟩ := LB9.out.cellsC
  refine hK.out _ _ ?_ (fun hHeld20 => ?_)
  · exact ⟨x0, x1, x2, x3, x4, x5, x6, x7, x8, x9, y0, y1, y2, y3, y4, y5, y6, y7, y8, y9⟩
  clear hK Kx
  try simp only [Act.put, List.setIfInBounds_toArray, List.set_cons_zero, List.set_cons_succ]
  refine wpAnyH_ready (rs := [21]) (by kernel_rfl) (by simp) ?_
  refine AllReadyH.cons (o := { dst := some 34, op := Go.Op.call { callee := Go.Callee.value (Go.Operand.func 11), args := #[Go.Operand.tmp 30, Go.Operand.tmp 33], argTypes := #[22, 22] }, type := 4, pos := "law.go:34", after := #[{ on := 17, ground := Go.Ground.data }, { on := 20, ground := Go.Ground.data }, { on := 20, ground := Go.Ground.chain }, { on := 14, ground := Go.Ground.guard }], guard := some (14, true) }) rfl (fun Kx hK => ?_) AllReadyH.nil
  rw [if_pos (by rfl)]
  go_simp
  go_at_call 11
  refine (sameIntsR _ _ _ _ _ _ _ sl sl HZs2.out HZs3.out).mono ?_
  rintro e w10 z1
  obtain ⟨rfl, b10⟩ := z1.yes rfl
  have B10 := hideT (B9.out.trans (b10.mono B9.out.size))
  have LA10 := hideT (LA9.out.below b10)
  have LB10 := hideT (LB9.out.below b10)
  clear z1
  clear b10 x0 x1 x2 x3 x4 x5 x6 x7 x8 x9 y0 y1 y2 y3 y4 y5 y6 y7 y8 y9
  obtain ⟨x0, x1, x2, x3, x4, x5, x6, x7, x8, x9⟩ := LA10.out.cellsC
  obtain ⟨y0, y1, y2, y3, y4, y5, y6, y7, y8, y9⟩ := LB10.out.cellsC
  refine hK.out _ _ ?_ (fun hHeld21 => ?_)
  · exact ⟨x0, x1, x2, x3, x4, x5, x6, x7, x8, x9, y0, y1, y2, y3, y4, y5, y6, y7, y8, y9⟩
  clear hK Kx
  try simp only [Act.put, List.setIfInBounds_toArray, List.set_cons_zero, List.set_cons_succ]
  refine wpAnyH_take (i := 22) (oi := { dst := some 35, op := Go.Op.pick (Go.Operand.tmp 27) (Go.Operand.tmp 34) (Go.Operand.const (Go.Value.bool false)), type := 4, pos := "law.go:34", after := #[{ on := 14, ground := Go.Ground.data }, { on := 21, ground := Go.Ground.data }], guard := none }) (v := ?v22) rfl (by kernel_rfl) (by kernel_rfl) (by kernel_rfl) (fun _ _ _ h => h) (Or.inl ⟨by rfl, ?hy22⟩) (by assumption) ?rest22
  case hy22 => first | (intro w hSw; (try dsimp only at hSw); go_simp; done) | (intro w hSw; (try dsimp only at hSw); go_simp; with_reducible rfl)
  try simp only [Act.put, List.setIfInBounds_toArray, List.set_cons_zero, List.set_cons_succ]
  refine wpAnyH_take (i := 23) (oi := { dst := some 36, op := Go.Op.move (Go.Operand.tmp 35), type := 4, pos := "law.go:34", after := #[{ on := 22, ground := Go.Ground.data }, { on := 21, ground := Go.Ground.chain }], guard := none }) (v := ?v23) rfl (by kernel_rfl) (by kernel_rfl) (by kernel_rfl) (fun _ _ _ h => h) (Or.inl ⟨by rfl, ?hy23⟩) (by assumption) ?rest23
  case hy23 => first | (intro w hSw; (try dsimp only at hSw); go_simp; done) | (intro w hSw; (try dsimp only at hSw); go_simp; with_reducible rfl)
  try simp only [Act.put, List.setIfInBounds_toArray, List.set_cons_zero, List.set_cons_succ]
  refine wpAnyH_take (i := 24) (oi := { dst := some 37, op := Go.Op.load 29 (Go.Operand.tmp 3), type := 29, pos := "law.go:34", after := #[{ on := 23, ground := Go.Ground.guard }], guard := some (23, true) }) (v := ?v24) rfl (by kernel_rfl) (by kernel_rfl) (by kernel_rfl) (fun _ _ _ h => h) (Or.inl ⟨by rfl, ?hy24⟩) (by assumption) ?rest24
  case hy24 => first | (intro w hSw; (try dsimp only at hSw); go_simp; done) | (intro w hSw; (try dsimp only at hSw); go_simp; with_reducible rfl)
  try simp only [Act.put, List.setIfInBounds_toArray, List.set_cons_zero, List.set_cons_succ]
  refine wpAnyH_take (i := 25) (oi := { dst := some 38, op := Go.Op.load 29 (Go.Operand.tmp 4), type := 29, pos := "law.go:34", after := #[{ on := 23, ground := Go.Ground.guard }], guard := some (23, true) }) (v := ?v25) rfl (by kernel_rfl) (by kernel_rfl) (by kernel_rfl) (fun _ _ _ h => h) (Or.inl ⟨by rfl, ?hy25⟩) (by assumption) ?rest25
  case hy25 => first | (intro w hSw; (try dsimp only at hSw); go_simp; done) | (intro w hSw; (try dsimp only at hSw); go_simp; with_reducible rfl)
  try simp only [Act.put, List.setIfInBounds_toArray, List.set_cons_zero, List.set_cons_succ]
  refine wpAnyH_take (i := 27) (oi := { dst := some 40, op := Go.Op.load 29 (Go.Operand.tmp 3), type := 29, pos := "law.go:34", after := #[{ on := 23, ground := Go.Ground.guard }], guard := some (23, true) }) (v := ?v27) rfl (by kernel_rfl) (by kernel_rfl) (by kernel_rfl) (fun _ _ _ h => h) (Or.inl ⟨by rfl, ?hy27⟩) (by assumption) ?rest27
  case hy27 => first | (intro w hSw; (try dsimp only at hSw); go_simp; done) | (intro w hSw; (try dsimp only at hSw); go_simp; with_reducible rfl)
  try simp only [Act.put, List.setIfInBounds_toArray, List.set_cons_zero, List.set_cons_succ]
  refine wpAnyH_take (i := 28) (oi := { dst := some 41, op := Go.Op.load 29 (Go.Operand.tmp 4), type := 29, pos := "law.go:34", after := #[{ on := 23, ground := Go.Ground.guard }], guard := some (23, true) }) (v := ?v28) rfl (by kernel_rfl) (by kernel_rfl) (by kernel_rfl) (fun _ _ _ h => h) (Or.inl ⟨by rfl, ?hy28⟩) (by assumption) ?rest28
  case hy28 => first | (intro w hSw; (try dsimp only at hSw); go_simp; done) | (intro w hSw; (try dsimp only at hSw); go_simp; with_reducible rfl)
  try simp only [Act.put, List.setIfInBounds_toArray, List.set_cons_zero, List.set_cons_succ]
  refine wpAnyH_ready (rs := [26]) (by kernel_rfl) (by simp) ?_
  refine AllReadyH.cons (o := { dst := some 39, op := Go.Op.call { callee := Go.Callee.value (Go.Operand.func 16), args := #[Go.Operand.tmp 37, Go.Operand.tmp 38], argTypes := #[29, 29] }, type := 4, pos := "law.go:34", after := #[{ on := 24, ground := Go.Ground.data }, { on := 25, ground := Go.Ground.data }, { on := 23, ground := Go.Ground.chain }, { on := 23, ground := Go.Ground.guard }], guard := some (23, true) }) rfl (fun Kx hK => ?_) AllReadyH.nil
  rw [if_pos (by rfl)]
  go_simp
  go_at_call 16
  refine (sameP _ ⟨a2, c2, a3, c3, a5, c5, a6, c6, a7, c7, a8, c8, a9, c9⟩ ⟨m2, r2, m3, r3, m5, r5, m6, r6, m7, r7, m8, r8, m9, r9⟩ p q (HP.out.below B10.out) (HQ.out.below B10.out)).mono ?_
  rintro e w11 ⟨t3, rfl, ht3, b11⟩
  have HT3 := hideT ht3
  clear ht3
  have B11 := hideT (B10.out.trans (b11.mono B10.out.size))
  have LA11 := hideT (LA10.out.below b11)
  have LB11 := hideT (LB10.out.below b11)
  clear b11 x0 x1 x2 x3 x4 x5 x6 x7 x8 x9 y0 y1 y2 y3 y4 y5 y6 y7 y8 y9
  obtain ⟨x0, x1, x2, x3, x4, x5, x6, x7, x8, x9⟩ := LA11.out.cellsC
  obtain ⟨y0, y1, y2, y3, y4, y5, y6, y7, y8, y9⟩ := LB11.out.cellsC
  refine hK.out _ _ ?_ (fun hHeld26 => ?_)
  · exact ⟨x0, x1, x2, x3, x4, x5, x6, x7, x8, x9, y0, y1, y2, y3, y4, y5, y6, y7, y8, y9⟩
  clear hK Kx
  try simp only [Act.put, List.setIfInBounds_toArray, List.set_cons_zero, List.set_cons_succ]
  refine wpAnyH_ready (rs := [29]) (by kernel_rfl) (by simp) ?_
  refine AllReadyH.cons (o := { dst := some 42, op := Go.Op.call { callee := Go.Callee.value (Go.Operand.func 17), args := #[Go.Operand.tmp 40, Go.Operand.tmp 41], argTypes := #[29, 29] }, type := 4, pos := "law.go:34", after := #[{ on := 27, ground := Go.Ground.data }, { on := 28, ground := Go.Ground.data }, { on := 26, ground := Go.Ground.chain }, { on := 23, ground := Go.Ground.guard }], guard := some (23, true) }) rfl (fun Kx hK => ?_) AllReadyH.nil
  rw [if_pos (by rfl)]
  go_simp
  go_at_call 17
  refine (refSameP _ ⟨a2, c2, a3, c3, a5, c5, a6, c6, a7, c7, a8, c8, a9, c9⟩ ⟨m2, r2, m3, r3, m5, r5, m6, r6, m7, r7, m8, r8, m9, r9⟩ p q (HP.out.below B11.out) (HQ.out.below B11.out)).mono ?_
  rintro e w12 ⟨t4, rfl, ht4, b12⟩
  obtain rfl := bool_same HT3.out ht4
  clear ht4
  have B12 := hideT (B11.out.trans (b12.mono B11.out.size))
  have LA12 := hideT (LA11.out.below b12)
  have LB12 := hideT (LB11.out.below b12)
  clear b12 x0 x1 x2 x3 x4 x5 x6 x7 x8 x9 y0 y1 y2 y3 y4 y5 y6 y7 y8 y9
  obtain ⟨x0, x1, x2, x3, x4, x5, x6, x7, x8, x9⟩ := LA12.out.cellsC
  obtain ⟨y0, y1, y2, y3, y4, y5, y6, y7, y8, y9⟩ := LB12.out.cellsC
  refine hK.out _ _ ?_ (fun hHeld29 => ?_)
  · exact ⟨x0, x1, x2, x3, x4, x5, x6, x7, x8, x9, y0, y1, y2, y3, y4, y5, y6, y7, y8, y9⟩
  clear hK Kx
  try simp only [Act.put, List.setIfInBounds_toArray, List.set_cons_zero, List.set_cons_succ]
  refine wpAnyH_take (i := 30) (oi := { dst := some 43, op := Go.Op.binOp Go.BinOp.eql 4 (Go.Operand.tmp 39) (Go.Operand.tmp 42) 4, type := 4, pos := "law.go:34", after := #[{ on := 26, ground := Go.Ground.data }, { on := 29, ground := Go.Ground.data }, { on := 23, ground := Go.Ground.guard }], guard := some (23, true) }) (v := ?v30) rfl (by kernel_rfl) (by kernel_rfl) (by kernel_rfl) (fun _ _ _ h => h) (Or.inl ⟨by rfl, ?hy30⟩) (by assumption) ?rest30
  case hy30 => first | (intro w hSw; (try dsimp only at hSw); go_simp; done) | (intro w hSw; (try dsimp only at hSw); go_simp; with_reducible rfl)
  try simp only [Act.put, List.setIfInBounds_toArray, List.set_cons_zero, List.set_cons_succ]
  refine wpAnyH_take (i := 31) (oi := { dst := some 44, op := Go.Op.pick (Go.Operand.tmp 36) (Go.Operand.tmp 43) (Go.Operand.const (Go.Value.bool false)), type := 4, pos := "law.go:34", after := #[{ on := 23, ground := Go.Ground.data }, { on := 30, ground := Go.Ground.data }], guard := none }) (v := ?v31) rfl (by kernel_rfl) (by kernel_rfl) (by kernel_rfl) (fun _ _ _ h => h) (Or.inl ⟨by rfl, ?hy31⟩) (by assumption) ?rest31
  case hy31 => first | (intro w hSw; (try dsimp only at hSw); go_simp; done) | (intro w hSw; (try dsimp only at hSw); go_simp; with_reducible rfl)
  try simp only [Act.put, List.setIfInBounds_toArray, List.set_cons_zero, List.set_cons_succ]
  refine wpAnyH_take (i := 32) (oi := { dst := some 45, op := Go.Op.move (Go.Operand.tmp 44), type := 4, pos := "law.go:34", after := #[{ on := 31, ground := Go.Ground.data }, { on := 29, ground := Go.Ground.chain }], guard := none }) (v := ?v32) rfl (by kernel_rfl) (by kernel_rfl) (by kernel_rfl) (fun _ _ _ h => h) (Or.inl ⟨by rfl, ?hy32⟩) (by assumption) ?rest32
  case hy32 => first | (intro w hSw; (try dsimp only at hSw); go_simp; done) | (intro w hSw; (try dsimp only at hSw); go_simp; with_reducible rfl)
  try simp only [Act.put, List.setIfInBounds_toArray, List.set_cons_zero, List.set_cons_succ]
  refine wpAnyH_take (i := 33) (oi := { dst := some 46, op := Go.Op.load 29 (Go.Operand.tmp 3), type := 29, pos := "law.go:34", after := #[{ on := 32, ground := Go.Ground.guard }], guard := some (32, true) }) (v := ?v33) rfl (by kernel_rfl) (by kernel_rfl) (by kernel_rfl) (fun _ _ _ h => h) (Or.inl ⟨by rfl, ?hy33⟩) (by assumption) ?rest33
  case hy33 => first | (intro w hSw; (try dsimp only at hSw); go_simp; done) | (intro w hSw; (try dsimp only at hSw); go_simp; with_reducible rfl)
  try simp only [Act.put, List.setIfInBounds_toArray, List.set_cons_zero, List.set_cons_succ]
  refine wpAnyH_take (i := 34) (oi := { dst := some 47, op := Go.Op.load 29 (Go.Operand.tmp 3), type := 29, pos := "law.go:34", after := #[{ on := 32, ground := Go.Ground.guard }], guard := some (32, true) }) (v := ?v34) rfl (by kernel_rfl) (by kernel_rfl) (by kernel_rfl) (fun _ _ _ h => h) (Or.inl ⟨by rfl, ?hy34⟩) (by assumption) ?rest34
  case hy34 => first | (intro w hSw; (try dsimp only at hSw); go_simp; done) | (intro w hSw; (try dsimp only at hSw); go_simp; with_reducible rfl)
  try simp only [Act.put, List.setIfInBounds_toArray, List.set_cons_zero, List.set_cons_succ]
  refine wpAnyH_ready (rs := [35]) (by kernel_rfl) (by simp) ?_
  refine AllReadyH.cons (o := { dst := some 48, op := Go.Op.call { callee := Go.Callee.value (Go.Operand.func 16), args := #[Go.Operand.tmp 46, Go.Operand.tmp 47], argTypes := #[29, 29] }, type := 4, pos := "law.go:34", after := #[{ on := 33, ground := Go.Ground.data }, { on := 34, ground := Go.Ground.data }, { on := 32, ground := Go.Ground.chain }, { on := 32, ground := Go.Ground.guard }], guard := some (32, true) }) rfl (fun Kx hK => ?_) AllReadyH.nil
  rw [if_pos (by rfl)]
  go_simp
  go_at_call 16
  refine (sameP _ ⟨a2, c2, a3, c3, a5, c5, a6, c6, a7, c7, a8, c8, a9, c9⟩ ⟨a2, c2, a3, c3, a5, c5, a6, c6, a7, c7, a8, c8, a9, c9⟩ p p (HP.out.below B12.out) (HP.out.below B12.out)).mono ?_
  rintro e w13 z1
  obtain ⟨rfl, b13⟩ := z1.yes rfl
  have B13 := hideT (B12.out.trans (b13.mono B12.out.size))
  have LA13 := hideT (LA12.out.below b13)
  have LB13 := hideT (LB12.out.below b13)
  clear z1
  clear b13 x0 x1 x2 x3 x4 x5 x6 x7 x8 x9 y0 y1 y2 y3 y4 y5 y6 y7 y8 y9
  obtain ⟨x0, x1, x2, x3, x4, x5, x6, x7, x8, x9⟩ := LA13.out.cellsC
  obtain ⟨y0, y1, y2, y3, y4, y5, y6, y7, y8, y9⟩ := LB13.out.cellsC
  refine hK.out _ _ ?_ (fun hHeld35 => ?_)
  · exact ⟨x0, x1, x2, x3, x4, x5, x6, x7, x8, x9, y0, y1, y2, y3, y4, y5, y6, y7, y8, y9⟩
  clear hK Kx
  try simp only [Act.put, List.setIfInBounds_toArray, List.set_cons_zero, List.set_cons_succ]
  refine wpAnyH_take (i := 36) (oi := { dst := some 49, op := Go.Op.pick (Go.Operand.tmp 45) (Go.Operand.tmp 48) (Go.Operand.const (Go.Value.bool false)), type := 4, pos := "law.go:34", after := #[{ on := 32, ground := Go.Ground.data }, { on := 35, ground := Go.Ground.data }], guard := none }) (v := ?v36) rfl (by kernel_rfl) (by kernel_rfl) (by kernel_rfl) (fun _ _ _ h => h) (Or.inl ⟨by rfl, ?hy36⟩) (by assumption) ?rest36
  case hy36 => first | (intro w hSw; (try dsimp only at hSw); go_simp; done) | (intro w hSw; (try dsimp only at hSw); go_simp; with_reducible rfl)
  try simp only [Act.put, List.setIfInBounds_toArray, List.set_cons_zero, List.set_cons_succ]
  refine wpAnyH_take (i := 37) (oi := { dst := some 50, op := Go.Op.move (Go.Operand.tmp 49), type := 4, pos := "law.go:34", after := #[{ on := 36, ground := Go.Ground.data }, { on := 35, ground := Go.Ground.chain }], guard := none }) (v := ?v37) rfl (by kernel_rfl) (by kernel_rfl) (by kernel_rfl) (fun _ _ _ h => h) (Or.inl ⟨by rfl, ?hy37⟩) (by assumption) ?rest37
  case hy37 => first | (intro w hSw; (try dsimp only at hSw); go_simp; done) | (intro w hSw; (try dsimp only at hSw); go_simp; with_reducible rfl)
  try simp only [Act.put, List.setIfInBounds_toArray, List.set_cons_zero, List.set_cons_succ]
  refine wpAnyH_ready (rs := [38]) (by kernel_rfl) (by simp) ?_
  refine AllReadyH.cons (o := { dst := some 51, op := Go.Op.call { callee := Go.Callee.value (Go.Operand.func 18), args := #[], argTypes := #[] }, type := 4, pos := "law.go:34", after := #[{ on := 37, ground := Go.Ground.chain }, { on := 37, ground := Go.Ground.guard }], guard := some (37, true) }) rfl (fun Kx hK => ?_) AllReadyH.nil
  rw [if_pos (by rfl)]
  go_simp
  go_at_call 18
  refine (known10 _).mono ?_
  rintro e w14 ⟨rfl, b14⟩
  have B14 := hideT (B13.out.trans (b14.mono B13.out.size))
  have LA14 := hideT (LA13.out.below b14)
  have LB14 := hideT (LB13.out.below b14)
  clear b14 x0 x1 x2 x3 x4 x5 x6 x7 x8 x9 y0 y1 y2 y3 y4 y5 y6 y7 y8 y9
  obtain ⟨x0, x1, x2, x3, x4, x5, x6, x7, x8, x9⟩ := LA14.out.cellsC
  obtain ⟨y0, y1, y2, y3, y4, y5, y6, y7, y8, y9⟩ := LB14.out.cellsC
  refine hK.out _ _ ?_ (fun hHeld38 => ?_)
  · exact ⟨x0, x1, x2, x3, x4, x5, x6, x7, x8, x9, y0, y1, y2, y3, y4, y5, y6, y7, y8, y9⟩
  clear hK Kx
  try simp only [Act.put, List.setIfInBounds_toArray, List.set_cons_zero, List.set_cons_succ]
  refine wpAnyH_take (i := 39) (oi := { dst := some 52, op := Go.Op.pick (Go.Operand.tmp 50) (Go.Operand.tmp 51) (Go.Operand.const (Go.Value.bool false)), type := 4, pos := "law.go:34", after := #[{ on := 37, ground := Go.Ground.data }, { on := 38, ground := Go.Ground.data }], guard := none }) (v := ?v39) rfl (by kernel_rfl) (by kernel_rfl) (by kernel_rfl) (fun _ _ _ h => h) (Or.inl ⟨by rfl, ?hy39⟩) (by assumption) ?rest39
  case hy39 => first | (intro w hSw; (try dsimp only at hSw); go_simp; done) | (intro w hSw; (try dsimp only at hSw); go_simp; with_reducible rfl)
  try simp only [Act.put, List.setIfInBounds_toArray, List.set_cons_zero, List.set_cons_succ]
  refine wpAnyH_take (i := 40) (oi := { dst := some 6, op := Go.Op.assign (Go.Operand.tmp 52), type := 4, pos := "law.go:34", after := #[{ on := 39, ground := Go.Ground.data }, { on := 38, ground := Go.Ground.chain }, { on := 0, ground := Go.Ground.phase }, { on := 1, ground := Go.Ground.phase }, { on := 2, ground := Go.Ground.phase }, { on := 3, ground := Go.Ground.phase }, { on := 4, ground := Go.Ground.phase }, { on := 5, ground := Go.Ground.phase }, { on := 6, ground := Go.Ground.phase }, { on := 7, ground := Go.Ground.phase }, { on := 8, ground := Go.Ground.phase }, { on := 9, ground := Go.Ground.phase }, { on := 10, ground := Go.Ground.phase }, { on := 11, ground := Go.Ground.phase }, { on := 12, ground := Go.Ground.phase }, { on := 13, ground := Go.Ground.phase }, { on := 14, ground := Go.Ground.phase }, { on := 15, ground := Go.Ground.phase }, { on := 16, ground := Go.Ground.phase }, { on := 17, ground := Go.Ground.phase }, { on := 18, ground := Go.Ground.phase }, { on := 19, ground := Go.Ground.phase }, { on := 20, ground := Go.Ground.phase }, { on := 21, ground := Go.Ground.phase }, { on := 22, ground := Go.Ground.phase }, { on := 23, ground := Go.Ground.phase }, { on := 24, ground := Go.Ground.phase }, { on := 25, ground := Go.Ground.phase }, { on := 26, ground := Go.Ground.phase }, { on := 27, ground := Go.Ground.phase }, { on := 28, ground := Go.Ground.phase }, { on := 29, ground := Go.Ground.phase }, { on := 30, ground := Go.Ground.phase }, { on := 31, ground := Go.Ground.phase }, { on := 32, ground := Go.Ground.phase }, { on := 33, ground := Go.Ground.phase }, { on := 34, ground := Go.Ground.phase }, { on := 35, ground := Go.Ground.phase }, { on := 36, ground := Go.Ground.phase }, { on := 37, ground := Go.Ground.phase }, { on := 38, ground := Go.Ground.phase }, { on := 39, ground := Go.Ground.phase }], guard := none }) (v := ?v40) rfl (by kernel_rfl) (by kernel_rfl) (by kernel_rfl) (fun _ _ _ h => h) (Or.inl ⟨by rfl, ?hy40⟩) (by assumption) ?rest40
  case hy40 => first | (intro w hSw; (try dsimp only at hSw); go_simp; done) | (intro w hSw; (try dsimp only at hSw); go_simp; with_reducible rfl)
  try simp only [Act.put, List.setIfInBounds_toArray, List.set_cons_zero, List.set_cons_succ]
  refine wpAnyH_done (by kernel_rfl) ?_ _
  go_wp2_with fail
  go_ret
  exact ⟨rfl, B14.out⟩
end Go.Proofs.Ytmhiilfjckadkaa
