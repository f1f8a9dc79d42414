/-
  Several texts in one: each opens with its own word.
-/
import Derived.Test.YtmhiilfjckadkaaRInts
/-
  slices.Equal at literals, sets, counters. (Written by RSame.py.)
-/
set_option linter.unusedSimpArgs false
set_option linter.unusedVariables false
namespace Go.Proofs.Ytmhiilfjckadkaa
open Go.RowKit
set_option maxRecDepth 100000
set_option maxHeartbeats 4000000 in
theorem equalL (w : World) (a1 a2 : Option Addr) (n1 n2 c1 c2 : Nat) (la lb : List Rp.Lit) (h1 : LRow w (.slice a1 n1 c1) la) (h2 : LRow w (.slice a2 n2 c2) lb) :
    Calls Try.prog 67 #[.slice a1 n1 c1, .slice a2 n2 c2] w (BPost (la = lb) w) := by
  obtain ⟨hn1, hl1, _, b1, o1, ha1, hc1⟩ := lrow_at h1
  obtain ⟨hn2, hl2, _, b2, o2, ha2, hc2⟩ := lrow_at h2
  have HN1 := hideT hn1
  have HN2 := hideT hn2
  have HC1 := hideT hc1
  have HA1 := hideT ha1
  have HC2 := hideT hc2
  have HA2 := hideT ha2
  clear hc1 ha1 hc2 ha2 h1 h2
  by_cases hne : n1 = n2
  rotate_left
  · have HF : Hid (¬ la = lb) := list_len (by omega)
    have t2 : ((n1 : Int) != (n2 : Int)) = true := bne_iff_ne.2 (by omega)
    clear hn1 hn2
    go_enter Try.func67, Try.ntmps67
    go_wp2_with fail
    go_ret
    exact bpost_no HF.out (Below.refl _ _)
  subst hne
  clear hn1 hn2
  go_enter Try.func67, Try.ntmps67
  go_wp2_with fail
  go_loopw [13] (fun i wr => ∃ k : Nat, k ≤ n1 ∧ i = .int .i64 k ∧ Hid (∀ (j : Nat), j < k → la[j]? = lb[j]?) ∧ Hid (Below w.heap.size w wr)) (fun i _ => n1 - (intOf i).toNat)
  case atStart => exact ⟨0, by omega, rfl, (fun j hj => absurd hj (by omega)), Below.refl _ _⟩
  case round =>
    obtain ⟨k, hk, rfl, HB, HW⟩ := hrel
    by_cases hlt : k < n1
    rotate_left
    · have HF : Hid (la = lb) := list_all HN1.out HN2.out (fun j hj => HB.out j (by omega))
      go_wp2_with fail
      go_ret
      exact bpost_yes HF.out HW.out
    obtain ⟨⟨x0, x1⟩, hx⟩ := Mp.at_lt (l := la) (k := k) (by have := HN1.out; omega)
    obtain ⟨⟨y0, y1⟩, hy⟩ := Mp.at_lt (l := lb) (k := k) (by have := HN2.out; omega)
    obtain ⟨d0, d1⟩ := HC1.out k _ hx
    obtain ⟨e0, e1⟩ := HC2.out k _ hy
    dsimp only at d0 d1 e0 e1
    have d0 := below_cell HW.out _ _ d0
    have d1 := below_cell HW.out _ _ d1
    have e0 := below_cell HW.out _ _ e0
    have e1 := below_cell HW.out _ _ e1
    obtain rfl := HA1.out (by omega)
    obtain rfl := HA2.out (by omega)
    have HX := hideT hx
    have HY := hideT hy
    clear hx hy
    have t0 : (0 : Int) ≤ (k : Int) := by omega
    have t1 : (k : Int) < (n1 : Int) := by omega
    by_cases q0 : x0 = y0
    rotate_left
    · have HF : Hid (¬ la = lb) := list_at HX.out HY.out (fun h => q0 (by simp only [Prod.mk.injEq] at h; exact h.1))
      go_wp2_with fail
      go_quiet (fail)
      go_wp2_with fail
      go_ret
      exact bpost_no HF.out (below_drewN HW.out _)
    subst q0
    by_cases q1 : x1 = y1
    rotate_left
    · have HF : Hid (¬ la = lb) := list_at HX.out HY.out (fun h => q1 (by simp only [Prod.mk.injEq] at h; exact h.2))
      have q1' : (x1 == y1) = false := beq_eq_false_iff_ne.2 q1
      have q2' : (x1 != y1) = true := bne_iff_ne.2 q1
      go_wp2_with fail
      go_quiet (fail)
      go_wp2_with fail
      go_ret
      exact bpost_no HF.out (below_drewN HW.out _)
    subst q1
    have HR : Hid (∀ (j : Nat), j < k + 1 → la[j]? = lb[j]?) := by
      intro j hj
      by_cases hj' : j < k
      · exact HB.out j hj'
      · obtain rfl : j = k := by omega
        rw [HX.out, HY.out]
    go_wp2_with fail
    go_quiet (fail)
    go_wp2_with fail
    refine ⟨⟨k + 1, by omega, by go_num, HR, below_drewN HW.out _⟩, ?_⟩
    first | omega | (simp [intOf]; omega)
set_option maxHeartbeats 4000000 in
theorem equalT (w : World) (a1 a2 : Option Addr) (n1 n2 c1 c2 : Nat) (la lb : List Rp.Lit) (h1 : LRow w (.slice a1 n1 c1) la) (h2 : LRow w (.slice a2 n2 c2) lb) :
    Calls Try.prog 69 #[.slice a1 n1 c1, .slice a2 n2 c2] w (BPost (la = lb) w) := by
  obtain ⟨hn1, hl1, _, b1, o1, ha1, hc1⟩ := lrow_at h1
  obtain ⟨hn2, hl2, _, b2, o2, ha2, hc2⟩ := lrow_at h2
  have HN1 := hideT hn1
  have HN2 := hideT hn2
  have HC1 := hideT hc1
  have HA1 := hideT ha1
  have HC2 := hideT hc2
  have HA2 := hideT ha2
  clear hc1 ha1 hc2 ha2 h1 h2
  by_cases hne : n1 = n2
  rotate_left
  · have HF : Hid (¬ la = lb) := list_len (by omega)
    have t2 : ((n1 : Int) != (n2 : Int)) = true := bne_iff_ne.2 (by omega)
    clear hn1 hn2
    go_enter Try.func69, Try.ntmps69
    go_wp2_with fail
    go_ret
    exact bpost_no HF.out (Below.refl _ _)
  subst hne
  clear hn1 hn2
  go_enter Try.func69, Try.ntmps69
  go_wp2_with fail
  go_loopw [13] (fun i wr => ∃ k : Nat, k ≤ n1 ∧ i = .int .i64 k ∧ Hid (∀ (j : Nat), j < k → la[j]? = lb[j]?) ∧ Hid (Below w.heap.size w wr)) (fun i _ => n1 - (intOf i).toNat)
  case atStart => exact ⟨0, by omega, rfl, (fun j hj => absurd hj (by omega)), Below.refl _ _⟩
  case round =>
    obtain ⟨k, hk, rfl, HB, HW⟩ := hrel
    by_cases hlt : k < n1
    rotate_left
    · have HF : Hid (la = lb) := list_all HN1.out HN2.out (fun j hj => HB.out j (by omega))
      go_wp2_with fail
      go_ret
      exact bpost_yes HF.out HW.out
    obtain ⟨⟨x0, x1⟩, hx⟩ := Mp.at_lt (l := la) (k := k) (by have := HN1.out; omega)
    obtain ⟨⟨y0, y1⟩, hy⟩ := Mp.at_lt (l := lb) (k := k) (by have := HN2.out; omega)
    obtain ⟨d0, d1⟩ := HC1.out k _ hx
    obtain ⟨e0, e1⟩ := HC2.out k _ hy
    dsimp only at d0 d1 e0 e1
    have d0 := below_cell HW.out _ _ d0
    have d1 := below_cell HW.out _ _ d1
    have e0 := below_cell HW.out _ _ e0
    have e1 := below_cell HW.out _ _ e1
    obtain rfl := HA1.out (by omega)
    obtain rfl := HA2.out (by omega)
    have HX := hideT hx
    have HY := hideT hy
    clear hx hy
    have t0 : (0 : Int) ≤ (k : Int) := by omega
    have t1 : (k : Int) < (n1 : Int) := by omega
    by_cases q0 : x0 = y0
    rotate_left
    · have HF : Hid (¬ la = lb) := list_at HX.out HY.out (fun h => q0 (by simp only [Prod.mk.injEq] at h; exact h.1))
      go_wp2_with fail
      go_quiet (fail)
      go_wp2_with fail
      go_ret
      exact bpost_no HF.out (below_drewN HW.out _)
    subst q0
    by_cases q1 : x1 = y1
    rotate_left
    · have HF : Hid (¬ la = lb) := list_at HX.out HY.out (fun h => q1 (by simp only [Prod.mk.injEq] at h; exact h.2))
      have q1' : (x1 == y1) = false := beq_eq_false_iff_ne.2 q1
      have q2' : (x1 != y1) = true := bne_iff_ne.2 q1
      go_wp2_with fail
      go_quiet (fail)
      go_wp2_with fail
      go_ret
      exact bpost_no HF.out (below_drewN HW.out _)
    subst q1
    have HR : Hid (∀ (j : Nat), j < k + 1 → la[j]? = lb[j]?) := by
      intro j hj
      by_cases hj' : j < k
      · exact HB.out j hj'
      · obtain rfl : j = k := by omega
        rw [HX.out, HY.out]
    go_wp2_with fail
    go_quiet (fail)
    go_wp2_with fail
    refine ⟨⟨k + 1, by omega, by go_num, HR, below_drewN HW.out _⟩, ?_⟩
    first | omega | (simp [intOf]; omega)
set_option maxHeartbeats 4000000 in
theorem equalK (w : World) (a1 a2 : Option Addr) (n1 n2 c1 c2 : Nat) (la lb : List Rp.Ctr) (h1 : TRow w (.slice a1 n1 c1) la) (h2 : TRow w (.slice a2 n2 c2) lb) :
    Calls Try.prog 44 #[.slice a1 n1 c1, .slice a2 n2 c2] w (BPost (la = lb) w) := by
  obtain ⟨hn1, hl1, _, b1, o1, ha1, hc1⟩ := trow_at h1
  obtain ⟨hn2, hl2, _, b2, o2, ha2, hc2⟩ := trow_at h2
  have HN1 := hideT hn1
  have HN2 := hideT hn2
  have HC1 := hideT hc1
  have HA1 := hideT ha1
  have HC2 := hideT hc2
  have HA2 := hideT ha2
  clear hc1 ha1 hc2 ha2 h1 h2
  by_cases hne : n1 = n2
  rotate_left
  · have HF : Hid (¬ la = lb) := list_len (by omega)
    have t2 : ((n1 : Int) != (n2 : Int)) = true := bne_iff_ne.2 (by omega)
    clear hn1 hn2
    go_enter Try.func44, Try.ntmps44
    go_wp2_with fail
    go_ret
    exact bpost_no HF.out (Below.refl _ _)
  subst hne
  clear hn1 hn2
  go_enter Try.func44, Try.ntmps44
  go_wp2_with fail
  go_loopw [13] (fun i wr => ∃ k : Nat, k ≤ n1 ∧ i = .int .i64 k ∧ Hid (∀ (j : Nat), j < k → la[j]? = lb[j]?) ∧ Hid (Below w.heap.size w wr)) (fun i _ => n1 - (intOf i).toNat)
  case atStart => exact ⟨0, by omega, rfl, (fun j hj => absurd hj (by omega)), Below.refl _ _⟩
  case round =>
    obtain ⟨k, hk, rfl, HB, HW⟩ := hrel
    by_cases hlt : k < n1
    rotate_left
    · have HF : Hid (la = lb) := list_all HN1.out HN2.out (fun j hj => HB.out j (by omega))
      go_wp2_with fail
      go_ret
      exact bpost_yes HF.out HW.out
    obtain ⟨⟨x0, x1, x2⟩, hx⟩ := Mp.at_lt (l := la) (k := k) (by have := HN1.out; omega)
    obtain ⟨⟨y0, y1, y2⟩, hy⟩ := Mp.at_lt (l := lb) (k := k) (by have := HN2.out; omega)
    obtain ⟨d0, d1, d2⟩ := HC1.out k _ hx
    obtain ⟨e0, e1, e2⟩ := HC2.out k _ hy
    dsimp only at d0 d1 d2 e0 e1 e2
    have d0 := below_cell HW.out _ _ d0
    have d1 := below_cell HW.out _ _ d1
    have d2 := below_cell HW.out _ _ d2
    have e0 := below_cell HW.out _ _ e0
    have e1 := below_cell HW.out _ _ e1
    have e2 := below_cell HW.out _ _ e2
    obtain rfl := HA1.out (by omega)
    obtain rfl := HA2.out (by omega)
    have HX := hideT hx
    have HY := hideT hy
    clear hx hy
    have t0 : (0 : Int) ≤ (k : Int) := by omega
    have t1 : (k : Int) < (n1 : Int) := by omega
    by_cases q0 : x0 = y0
    rotate_left
    · have HF : Hid (¬ la = lb) := list_at HX.out HY.out (fun h => q0 (by simp only [Prod.mk.injEq] at h; exact h.1))
      go_wp2_with fail
      go_quiet (fail)
      go_wp2_with fail
      go_ret
      exact bpost_no HF.out (below_drewN HW.out _)
    subst q0
    by_cases q1 : x1 = y1
    rotate_left
    · have HF : Hid (¬ la = lb) := list_at HX.out HY.out (fun h => q1 (by simp only [Prod.mk.injEq] at h; exact h.2.1))
      go_wp2_with fail
      go_quiet (fail)
      go_wp2_with fail
      go_ret
      exact bpost_no HF.out (below_drewN HW.out _)
    subst q1
    by_cases q2 : x2 = y2
    rotate_left
    · have HF : Hid (¬ la = lb) := list_at HX.out HY.out (fun h => q2 (by simp only [Prod.mk.injEq] at h; exact h.2.2))
      go_wp2_with fail
      go_quiet (fail)
      go_wp2_with fail
      go_ret
      exact bpost_no HF.out (below_drewN HW.out _)
    subst q2
    have HR : Hid (∀ (j : Nat), j < k + 1 → la[j]? = lb[j]?) := by
      intro j hj
      by_cases hj' : j < k
      · exact HB.out j hj'
      · obtain rfl : j = k := by omega
        rw [HX.out, HY.out]
    go_wp2_with fail
    go_quiet (fail)
    go_wp2_with fail
    refine ⟨⟨k + 1, by omega, by go_num, HR, below_drewN HW.out _⟩, ?_⟩
    first | omega | (simp [intOf]; omega)
theorem bpost_dec {P : Prop} [Decidable P] {w w' : World} {e : Ending} (h : e = .returned (.bool (decide P)) ∧ Below w.heap.size w w') : BPost P w e w' := ⟨_, h.1, decide_eq_true_iff, h.2⟩
theorem equalSB (w : World) (a1 a2 : Option Addr) (n1 n2 c1 c2 : Nat) (la lb : List ByteArray) (h1 : FRow w (.slice a1 n1 c1) la) (h2 : FRow w (.slice a2 n2 c2) lb) :
    Calls Try.prog 41 #[.slice a1 n1 c1, .slice a2 n2 c2] w (BPost (la = lb) w) := (equalS w a1 a2 n1 n2 c1 c2 la lb h1 h2).mono fun e w' k => bpost_dec k
theorem equalOB (w : World) (a1 a2 : Option Addr) (n1 n2 c1 c2 : Nat) (la lb : List Mp.On) (h1 : ORow w (.slice a1 n1 c1) la) (h2 : ORow w (.slice a2 n2 c2) lb) :
    Calls Try.prog 79 #[.slice a1 n1 c1, .slice a2 n2 c2] w (BPost (la = lb) w) := (equalO w a1 a2 n1 n2 c1 c2 la lb h1 h2).mono fun e w' k => bpost_dec k
theorem equalCB (w : World) (a1 a2 : Option Addr) (n1 n2 c1 c2 : Nat) (la lb : List Mp.Cond) (h1 : CRow w (.slice a1 n1 c1) la) (h2 : CRow w (.slice a2 n2 c2) lb) :
    Calls Try.prog 68 #[.slice a1 n1 c1, .slice a2 n2 c2] w (BPost (la = lb) w) := (equalC w a1 a2 n1 n2 c1 c2 la lb h1 h2).mono fun e w' k => bpost_dec k
end Go.Proofs.Ytmhiilfjckadkaa
/-
  The program's sentries and items: whether two are one. (Written by RSame.py.)
-/
set_option linter.unusedSimpArgs false
set_option linter.unusedVariables false
namespace Go.Proofs.Ytmhiilfjckadkaa
open Go.RowKit
set_option maxRecDepth 100000
set_option maxHeartbeats 4000000 in
theorem sameSentryR (w : World) (x0 y0 : List Mp.On) (p0 q0 : Option Addr) (c0 d0 : Nat) (x1 y1 : List Mp.Cond) (p1 q1 : Option Addr) (c1 d1 : Nat)
    (h0 : ORow w (.slice p0 x0.length c0) x0) (k0 : ORow w (.slice q0 y0.length d0) y0) (h1 : CRow w (.slice p1 x1.length c1) x1) (k1 : CRow w (.slice q1 y1.length d1) y1) :
    Calls Try.prog 71 #[.agg #[.slice p0 x0.length c0, .slice p1 x1.length c1], .agg #[.slice q0 y0.length d0, .slice q1 y1.length d1]] w (BPost ((x0, x1) = (y0, y1)) w) := by
  have R0 := hideT h0
  have K0 := hideT k0
  have R1 := hideT h1
  have K1 := hideT k1
  clear h0 k0 h1 k1
  have B0 := hideT (((Below.refl w.heap.size w).alloc (Nat.le_refl _) (.cells #[.slice p0 x0.length c0, .slice p1 x1.length c1] 93)).alloc (by simp) (.cells #[.slice q0 y0.length d0, .slice q1 y1.length d1] 93))
  have LA0 := hideT ((Lies.new w 93 #[.slice p0 x0.length c0, .slice p1 x1.length c1]).below ((Below.refl _ _).alloc (Nat.le_refl _) (.cells #[.slice q0 y0.length d0, .slice q1 y1.length d1] 93)))
  have LB0 : Hid (Lies ((w.alloc (.cells #[.slice p0 x0.length c0, .slice p1 x1.length c1] 93)).alloc (.cells #[.slice q0 y0.length d0, .slice q1 y1.length d1] 93)) (w.heap.size + 1) 93 #[.slice q0 y0.length d0, .slice q1 y1.length d1]) := by
    have := Lies.new (w.alloc (.cells #[.slice p0 x0.length c0, .slice p1 x1.length c1] 93)) 93 #[.slice q0 y0.length d0, .slice q1 y1.length d1]
    rwa [show (w.alloc (.cells #[.slice p0 x0.length c0, .slice p1 x1.length c1] 93)).heap.size = w.heap.size + 1 by simp] at this
  go_enter Try.func71, Try.ntmps71
  go_wp2_with fail
  refine (equalOB _ _ _ _ _ _ _ x0 y0 (orow_below R0.out B0.out) (orow_below K0.out B0.out)).mono ?_
  rintro e w1 z1
  by_cases g0 : x0 = y0
  rotate_left
  · have HF : Hid (¬ (x0, x1) = (y0, y1)) := fun h => g0 (by simp only [Prod.mk.injEq] at h; exact h.1)
    obtain ⟨rfl, b1⟩ := z1.no g0
    have BN := hideT (B0.out.trans (b1.mono B0.out.size))
    clear z1 b1 g0
    go_wp2_with fail
    go_ret
    exact bpost_no HF.out BN.out
  obtain ⟨rfl, b1⟩ := z1.yes g0
  have B1 := hideT (B0.out.trans (b1.mono B0.out.size))
  have LA1 := hideT (LA0.out.below b1)
  have LB1 := hideT (LB0.out.below b1)
  have G0 := hideT g0
  clear z1 b1 g0
  have za1_0 : w1.cell? ⟨w.heap.size, 0, none⟩ = some (.slice p0 x0.length c0) := LA1.out.cell 0
  have zb1_0 : w1.cell? ⟨w.heap.size + 1, 0, none⟩ = some (.slice q0 y0.length d0) := LB1.out.cell 0
  have za1_1 : w1.cell? ⟨w.heap.size, 1, none⟩ = some (.slice p1 x1.length c1) := LA1.out.cell 1
  have zb1_1 : w1.cell? ⟨w.heap.size + 1, 1, none⟩ = some (.slice q1 y1.length d1) := LB1.out.cell 1
  go_wp2_with fail
  refine (equalCB _ _ _ _ _ _ _ x1 y1 (crow_below R1.out B1.out) (crow_below K1.out B1.out)).mono ?_
  rintro e w2 z1
  by_cases g1 : x1 = y1
  rotate_left
  · have HF : Hid (¬ (x0, x1) = (y0, y1)) := fun h => g1 (by simp only [Prod.mk.injEq] at h; exact h.2)
    obtain ⟨rfl, b1⟩ := z1.no g1
    have BN := hideT (B1.out.trans (b1.mono B1.out.size))
    clear z1 b1 g1
    go_wp2_with fail
    go_ret
    exact bpost_no HF.out BN.out
  obtain ⟨rfl, b1⟩ := z1.yes g1
  have B2 := hideT (B1.out.trans (b1.mono B1.out.size))
  have LA2 := hideT (LA1.out.below b1)
  have LB2 := hideT (LB1.out.below b1)
  have G1 := hideT g1
  clear z1 b1 g1
  have za2_0 : w2.cell? ⟨w.heap.size, 0, none⟩ = some (.slice p0 x0.length c0) := LA2.out.cell 0
  have zb2_0 : w2.cell? ⟨w.heap.size + 1, 0, none⟩ = some (.slice q0 y0.length d0) := LB2.out.cell 0
  have za2_1 : w2.cell? ⟨w.heap.size, 1, none⟩ = some (.slice p1 x1.length c1) := LA2.out.cell 1
  have zb2_1 : w2.cell? ⟨w.heap.size + 1, 1, none⟩ = some (.slice q1 y1.length d1) := LB2.out.cell 1
  have HF : Hid ((x0, x1) = (y0, y1)) := by show _ = _; rw [G0.out, G1.out]
  go_wp2_with fail
  go_ret
  exact bpost_yes HF.out B2.out
set_option maxHeartbeats 4000000 in
theorem equalFuncSR (w : World) (a1 a2 : Option Addr) (n1 n2 c1 c2 : Nat) (la lb : List Mp.Sent) (h1 : SRow w (.slice a1 n1 c1) la) (h2 : SRow w (.slice a2 n2 c2) lb) :
    Calls Try.prog 70 #[.slice a1 n1 c1, .slice a2 n2 c2, .func (.func 71) #[] #[]] w (BPost (la = lb) w) := by
  obtain ⟨hn1, hl1, _, b1, o1, ha1, hc1⟩ := srow_at h1
  obtain ⟨hn2, hl2, _, b2, o2, ha2, hc2⟩ := srow_at h2
  have HN1 := hideT hn1
  have HN2 := hideT hn2
  have HC1 := hideT hc1
  have HA1 := hideT ha1
  have HC2 := hideT hc2
  have HA2 := hideT ha2
  clear hc1 ha1 hc2 ha2 h1 h2
  by_cases hne : n1 = n2
  rotate_left
  · have HF : Hid (¬ la = lb) := list_len (by omega)
    have t2 : ((n1 : Int) != (n2 : Int)) = true := bne_iff_ne.2 (by omega)
    clear hn1 hn2
    go_enter Try.func70, Try.ntmps70
    go_wp2_with fail
    go_ret
    exact bpost_no HF.out (Below.refl _ _)
  subst hne
  clear hn1 hn2
  go_enter Try.func70, Try.ntmps70
  go_wp2_with fail
  go_loopw [17] (fun i wr => ∃ k : Nat, k ≤ n1 ∧ i = .int .i64 k ∧ Hid (∀ (j : Nat), j < k → la[j]? = lb[j]?) ∧ Hid (Below w.heap.size w wr)) (fun i _ => n1 - (intOf i).toNat)
  case atStart => exact ⟨0, by omega, rfl, (fun j hj => absurd hj (by omega)), Below.refl _ _⟩
  case round =>
    obtain ⟨k, hk, rfl, HB, HW⟩ := hrel
    by_cases hlt : k < n1
    rotate_left
    · have HF : Hid (la = lb) := list_all HN1.out HN2.out (fun j hj => HB.out j (by omega))
      go_wp2_with fail
      go_ret
      exact bpost_yes HF.out HW.out
    obtain ⟨⟨s1, s2⟩, hx⟩ := Mp.at_lt (l := la) (k := k) (by have := HN1.out; omega)
    obtain ⟨⟨t1, t2⟩, hy⟩ := Mp.at_lt (l := lb) (k := k) (by have := HN2.out; omega)
    obtain ⟨p1, c3, p2, c4, r1, r2, d0, d1⟩ := HC1.out k _ hx
    obtain ⟨q1, c5, q2, c6, r3, r4, e0, e1⟩ := HC2.out k _ hy
    dsimp only at r1 r2 r3 r4 d0 d1 e0 e1
    have d0 := below_cell HW.out _ _ d0
    have d1 := below_cell HW.out _ _ d1
    have e0 := below_cell HW.out _ _ e0
    have e1 := below_cell HW.out _ _ e1
    have y0 := cell_lt e0
    obtain rfl := HA1.out (by omega)
    obtain rfl := HA2.out (by omega)
    have HX := hideT hx
    have HY := hideT hy
    have BA := hideT (((Below.refl wr.heap.size wr).alloc (Nat.le_refl _) (.cells #[.slice p1 s1.length c3, .slice p2 s2.length c4] 93)).alloc (by simp) (.cells #[.slice q1 t1.length c5, .slice q2 t2.length c6] 93))
    have BW := hideT (HW.out.trans (BA.out.mono HW.out.size))
    have R1 := hideT (orow_below r1 BW.out)
    have R2 := hideT (crow_below r2 BW.out)
    have R3 := hideT (orow_below r3 BW.out)
    have R4 := hideT (crow_below r4 BW.out)
    clear hx hy r1 r2 r3 r4
    have t0 : (0 : Int) ≤ (k : Int) := by omega
    have t1' : (k : Int) < (n1 : Int) := by omega
    go_wp2_with fail
    refine (sameSentryR _ s1 t1 p1 q1 c3 c5 s2 t2 p2 q2 c4 c6 R1.out R3.out R2.out R4.out).mono ?_
    rintro e w1 z1
    by_cases g : (s1, s2) = (t1, t2)
    rotate_left
    · have HF : Hid (¬ la = lb) := list_at HX.out HY.out g
      obtain ⟨rfl, p1⟩ := z1.no g
      have BW1 := hideT (BW.out.trans (p1.mono BW.out.size))
      clear z1 p1 g d0 d1 e0 e1
      go_wp2_with fail
      go_ret
      exact bpost_no HF.out BW1.out
    have HR : Hid (∀ (j : Nat), j < k + 1 → la[j]? = lb[j]?) := by
      intro j hj
      by_cases hj' : j < k
      · exact HB.out j hj'
      · obtain rfl : j = k := by omega
        rw [HX.out, HY.out, g]
    obtain ⟨rfl, p1⟩ := z1.yes g
    have BW1 := hideT (BW.out.trans (p1.mono BW.out.size))
    clear z1 p1 g d0 d1 e0 e1
    go_wp2_with fail
    refine ⟨⟨k + 1, by omega, by go_num, HR, BW1⟩, ?_⟩
    first | omega | (simp [intOf]; omega)
end Go.Proofs.Ytmhiilfjckadkaa
/-
  The program's items, rules, users: whether two are one. (Written by RSame.py.)
-/
set_option linter.unusedSimpArgs false
set_option linter.unusedVariables false
namespace Go.Proofs.Ytmhiilfjckadkaa
open Go.RowKit
set_option maxRecDepth 100000
set_option maxHeartbeats 4000000 in
theorem sameItemR (w : World) (x0 y0 : ByteArray) (x1 y1 : Int) (x2 y2 : ByteArray) (x3 y3 : Bool) (x4 y4 : Int) (x5 y5 : List Mp.Sent) (p5 q5 : Option Addr) (c5 d5 : Nat) (x6 y6 : List Mp.Sent) (p6 q6 : Option Addr) (c6 d6 : Nat)
    (h5 : SRow w (.slice p5 x5.length c5) x5) (k5 : SRow w (.slice q5 y5.length d5) y5) (h6 : SRow w (.slice p6 x6.length c6) x6) (k6 : SRow w (.slice q6 y6.length d6) y6) :
    Calls Try.prog 48 #[.agg #[.string x0, .int .i64 x1, .string x2, .bool x3, .int .i64 x4, .slice p5 x5.length c5, .slice p6 x6.length c6], .agg #[.string y0, .int .i64 y1, .string y2, .bool y3, .int .i64 y4, .slice q5 y5.length d5, .slice q6 y6.length d6]] w (BPost ((⟨x0, x1, x2, x3, x4, x5, x6⟩ : Mp.Item) = (⟨y0, y1, y2, y3, y4, y5, y6⟩ : Mp.Item)) w) := by
  have R5 := hideT h5
  have K5 := hideT k5
  have R6 := hideT h6
  have K6 := hideT k6
  clear h5 k5 h6 k6
  have B0 := hideT (((Below.refl w.heap.size w).alloc (Nat.le_refl _) (.cells #[.string x0, .int .i64 x1, .string x2, .bool x3, .int .i64 x4, .slice p5 x5.length c5, .slice p6 x6.length c6] 56)).alloc (by simp) (.cells #[.string y0, .int .i64 y1, .string y2, .bool y3, .int .i64 y4, .slice q5 y5.length d5, .slice q6 y6.length d6] 56))
  have LA0 := hideT ((Lies.new w 56 #[.string x0, .int .i64 x1, .string x2, .bool x3, .int .i64 x4, .slice p5 x5.length c5, .slice p6 x6.length c6]).below ((Below.refl _ _).alloc (Nat.le_refl _) (.cells #[.string y0, .int .i64 y1, .string y2, .bool y3, .int .i64 y4, .slice q5 y5.length d5, .slice q6 y6.length d6] 56)))
  have LB0 : Hid (Lies ((w.alloc (.cells #[.string x0, .int .i64 x1, .string x2, .bool x3, .int .i64 x4, .slice p5 x5.length c5, .slice p6 x6.length c6] 56)).alloc (.cells #[.string y0, .int .i64 y1, .string y2, .bool y3, .int .i64 y4, .slice q5 y5.length d5, .slice q6 y6.length d6] 56)) (w.heap.size + 1) 56 #[.string y0, .int .i64 y1, .string y2, .bool y3, .int .i64 y4, .slice q5 y5.length d5, .slice q6 y6.length d6]) := by
    have := Lies.new (w.alloc (.cells #[.string x0, .int .i64 x1, .string x2, .bool x3, .int .i64 x4, .slice p5 x5.length c5, .slice p6 x6.length c6] 56)) 56 #[.string y0, .int .i64 y1, .string y2, .bool y3, .int .i64 y4, .slice q5 y5.length d5, .slice q6 y6.length d6]
    rwa [show (w.alloc (.cells #[.string x0, .int .i64 x1, .string x2, .bool x3, .int .i64 x4, .slice p5 x5.length c5, .slice p6 x6.length c6] 56)).heap.size = w.heap.size + 1 by simp] at this
  go_enter Try.func48, Try.ntmps48
  by_cases g0 : x0 = y0
  rotate_left
  · have HF : Hid (¬ (⟨x0, x1, x2, x3, x4, x5, x6⟩ : Mp.Item) = (⟨y0, y1, y2, y3, y4, y5, y6⟩ : Mp.Item)) := fun h => g0 (by simp only [Mp.Item.mk.injEq] at h; exact h.1)
    have q1' : ¬ x0.toList = y0.toList := fun h => g0 (toList_inj h)
    have q2' : (x0.toList == y0.toList) = false := beq_eq_false_iff_ne.2 q1'
    go_wp2_with fail
    go_ret
    exact bpost_no HF.out B0.out
  subst g0
  by_cases g1 : x1 = y1
  rotate_left
  · have HF : Hid (¬ (⟨x0, x1, x2, x3, x4, x5, x6⟩ : Mp.Item) = (⟨x0, y1, y2, y3, y4, y5, y6⟩ : Mp.Item)) := fun h => g1 (by simp only [Mp.Item.mk.injEq] at h; exact h.2.1)
    go_wp2_with fail
    go_ret
    exact bpost_no HF.out B0.out
  subst g1
  by_cases g2 : x2 = y2
  rotate_left
  · have HF : Hid (¬ (⟨x0, x1, x2, x3, x4, x5, x6⟩ : Mp.Item) = (⟨x0, x1, y2, y3, y4, y5, y6⟩ : Mp.Item)) := fun h => g2 (by simp only [Mp.Item.mk.injEq] at h; exact h.2.2.1)
    have q1' : ¬ x2.toList = y2.toList := fun h => g2 (toList_inj h)
    have q2' : (x2.toList == y2.toList) = false := beq_eq_false_iff_ne.2 q1'
    go_wp2_with fail
    go_ret
    exact bpost_no HF.out B0.out
  subst g2
  by_cases g3 : x3 = y3
  rotate_left
  · have HF : Hid (¬ (⟨x0, x1, x2, x3, x4, x5, x6⟩ : Mp.Item) = (⟨x0, x1, x2, y3, y4, y5, y6⟩ : Mp.Item)) := fun h => g3 (by simp only [Mp.Item.mk.injEq] at h; exact h.2.2.2.1)
    have q1' : (x3 == y3) = false := beq_eq_false_iff_ne.2 g3
    go_wp2_with fail
    go_ret
    exact bpost_no HF.out B0.out
  subst g3
  by_cases g4 : x4 = y4
  rotate_left
  · have HF : Hid (¬ (⟨x0, x1, x2, x3, x4, x5, x6⟩ : Mp.Item) = (⟨x0, x1, x2, x3, y4, y5, y6⟩ : Mp.Item)) := fun h => g4 (by simp only [Mp.Item.mk.injEq] at h; exact h.2.2.2.2.1)
    go_wp2_with fail
    go_ret
    exact bpost_no HF.out B0.out
  subst g4
  go_wp2_with fail
  refine (equalFuncSR _ _ _ _ _ _ _ x5 y5 (srow_below R5.out B0.out) (srow_below K5.out B0.out)).mono ?_
  rintro e w1 z1
  by_cases g5 : x5 = y5
  rotate_left
  · have HF : Hid (¬ (⟨x0, x1, x2, x3, x4, x5, x6⟩ : Mp.Item) = (⟨x0, x1, x2, x3, x4, y5, y6⟩ : Mp.Item)) := fun h => g5 (by simp only [Mp.Item.mk.injEq] at h; exact h.2.2.2.2.2.1)
    obtain ⟨rfl, b1⟩ := z1.no g5
    have BN := hideT (B0.out.trans (b1.mono B0.out.size))
    clear z1 b1 g5
    go_wp2_with fail
    go_ret
    exact bpost_no HF.out BN.out
  obtain ⟨rfl, b1⟩ := z1.yes g5
  have B1 := hideT (B0.out.trans (b1.mono B0.out.size))
  have LA1 := hideT (LA0.out.below b1)
  have LB1 := hideT (LB0.out.below b1)
  have G5 := hideT g5
  clear z1 b1 g5
  have za1_0 : w1.cell? ⟨w.heap.size, 0, none⟩ = some (.string x0) := LA1.out.cell 0
  have zb1_0 : w1.cell? ⟨w.heap.size + 1, 0, none⟩ = some (.string x0) := LB1.out.cell 0
  have za1_1 : w1.cell? ⟨w.heap.size, 1, none⟩ = some (.int .i64 x1) := LA1.out.cell 1
  have zb1_1 : w1.cell? ⟨w.heap.size + 1, 1, none⟩ = some (.int .i64 x1) := LB1.out.cell 1
  have za1_2 : w1.cell? ⟨w.heap.size, 2, none⟩ = some (.string x2) := LA1.out.cell 2
  have zb1_2 : w1.cell? ⟨w.heap.size + 1, 2, none⟩ = some (.string x2) := LB1.out.cell 2
  have za1_3 : w1.cell? ⟨w.heap.size, 3, none⟩ = some (.bool x3) := LA1.out.cell 3
  have zb1_3 : w1.cell? ⟨w.heap.size + 1, 3, none⟩ = some (.bool x3) := LB1.out.cell 3
  have za1_4 : w1.cell? ⟨w.heap.size, 4, none⟩ = some (.int .i64 x4) := LA1.out.cell 4
  have zb1_4 : w1.cell? ⟨w.heap.size + 1, 4, none⟩ = some (.int .i64 x4) := LB1.out.cell 4
  have za1_5 : w1.cell? ⟨w.heap.size, 5, none⟩ = some (.slice p5 x5.length c5) := LA1.out.cell 5
  have zb1_5 : w1.cell? ⟨w.heap.size + 1, 5, none⟩ = some (.slice q5 y5.length d5) := LB1.out.cell 5
  have za1_6 : w1.cell? ⟨w.heap.size, 6, none⟩ = some (.slice p6 x6.length c6) := LA1.out.cell 6
  have zb1_6 : w1.cell? ⟨w.heap.size + 1, 6, none⟩ = some (.slice q6 y6.length d6) := LB1.out.cell 6
  go_wp2_with fail
  refine (equalFuncSR _ _ _ _ _ _ _ x6 y6 (srow_below R6.out B1.out) (srow_below K6.out B1.out)).mono ?_
  rintro e w2 z1
  by_cases g6 : x6 = y6
  rotate_left
  · have HF : Hid (¬ (⟨x0, x1, x2, x3, x4, x5, x6⟩ : Mp.Item) = (⟨x0, x1, x2, x3, x4, y5, y6⟩ : Mp.Item)) := fun h => g6 (by simp only [Mp.Item.mk.injEq] at h; exact h.2.2.2.2.2.2)
    obtain ⟨rfl, b1⟩ := z1.no g6
    have BN := hideT (B1.out.trans (b1.mono B1.out.size))
    clear z1 b1 g6
    go_wp2_with fail
    go_ret
    exact bpost_no HF.out BN.out
  obtain ⟨rfl, b1⟩ := z1.yes g6
  have B2 := hideT (B1.out.trans (b1.mono B1.out.size))
  have LA2 := hideT (LA1.out.below b1)
  have LB2 := hideT (LB1.out.below b1)
  have G6 := hideT g6
  clear z1 b1 g6
  have za2_0 : w2.cell? ⟨w.heap.size, 0, none⟩ = some (.string x0) := LA2.out.cell 0
  have zb2_0 : w2.cell? ⟨w.heap.size + 1, 0, none⟩ = some (.string x0) := LB2.out.cell 0
  have za2_1 : w2.cell? ⟨w.heap.size, 1, none⟩ = some (.int .i64 x1) := LA2.out.cell 1
  have zb2_1 : w2.cell? ⟨w.heap.size + 1, 1, none⟩ = some (.int .i64 x1) := LB2.out.cell 1
  have za2_2 : w2.cell? ⟨w.heap.size, 2, none⟩ = some (.string x2) := LA2.out.cell 2
  have zb2_2 : w2.cell? ⟨w.heap.size + 1, 2, none⟩ = some (.string x2) := LB2.out.cell 2
  have za2_3 : w2.cell? ⟨w.heap.size, 3, none⟩ = some (.bool x3) := LA2.out.cell 3
  have zb2_3 : w2.cell? ⟨w.heap.size + 1, 3, none⟩ = some (.bool x3) := LB2.out.cell 3
  have za2_4 : w2.cell? ⟨w.heap.size, 4, none⟩ = some (.int .i64 x4) := LA2.out.cell 4
  have zb2_4 : w2.cell? ⟨w.heap.size + 1, 4, none⟩ = some (.int .i64 x4) := LB2.out.cell 4
  have za2_5 : w2.cell? ⟨w.heap.size, 5, none⟩ = some (.slice p5 x5.length c5) := LA2.out.cell 5
  have zb2_5 : w2.cell? ⟨w.heap.size + 1, 5, none⟩ = some (.slice q5 y5.length d5) := LB2.out.cell 5
  have za2_6 : w2.cell? ⟨w.heap.size, 6, none⟩ = some (.slice p6 x6.length c6) := LA2.out.cell 6
  have zb2_6 : w2.cell? ⟨w.heap.size + 1, 6, none⟩ = some (.slice q6 y6.length d6) := LB2.out.cell 6
  have HF : Hid ((⟨x0, x1, x2, x3, x4, x5, x6⟩ : Mp.Item) = (⟨x0, x1, x2, x3, x4, y5, y6⟩ : Mp.Item)) := by show _ = _; rw [G5.out, G6.out]
  go_wp2_with fail
  go_ret
  exact bpost_yes HF.out B2.out
set_option maxHeartbeats 4000000 in
theorem sameRuleR (w : World) (x0 y0 : Int) (x1 y1 : List Rp.Lit) (p1 q1 : Option Addr) (c1 d1 : Nat) (x2 y2 : List Mp.Cond) (p2 q2 : Option Addr) (c2 d2 : Nat) (x3 y3 : List Rp.Lit) (p3 q3 : Option Addr) (c3 d3 : Nat)
    (h1 : LRow w (.slice p1 x1.length c1) x1) (k1 : LRow w (.slice q1 y1.length d1) y1) (h2 : CRow w (.slice p2 x2.length c2) x2) (k2 : CRow w (.slice q2 y2.length d2) y2) (h3 : LRow w (.slice p3 x3.length c3) x3) (k3 : LRow w (.slice q3 y3.length d3) y3) :
    Calls Try.prog 43 #[.agg #[.int .i64 x0, .slice p1 x1.length c1, .slice p2 x2.length c2, .slice p3 x3.length c3], .agg #[.int .i64 y0, .slice q1 y1.length d1, .slice q2 y2.length d2, .slice q3 y3.length d3]] w (BPost ((x0, x1, x2, x3) = (y0, y1, y2, y3)) w) := by
  have R1 := hideT h1
  have K1 := hideT k1
  have R2 := hideT h2
  have K2 := hideT k2
  have R3 := hideT h3
  have K3 := hideT k3
  clear h1 k1 h2 k2 h3 k3
  have B0 := hideT (((Below.refl w.heap.size w).alloc (Nat.le_refl _) (.cells #[.int .i64 x0, .slice p1 x1.length c1, .slice p2 x2.length c2, .slice p3 x3.length c3] 42)).alloc (by simp) (.cells #[.int .i64 y0, .slice q1 y1.length d1, .slice q2 y2.length d2, .slice q3 y3.length d3] 42))
  have LA0 := hideT ((Lies.new w 42 #[.int .i64 x0, .slice p1 x1.length c1, .slice p2 x2.length c2, .slice p3 x3.length c3]).below ((Below.refl _ _).alloc (Nat.le_refl _) (.cells #[.int .i64 y0, .slice q1 y1.length d1, .slice q2 y2.length d2, .slice q3 y3.length d3] 42)))
  have LB0 : Hid (Lies ((w.alloc (.cells #[.int .i64 x0, .slice p1 x1.length c1, .slice p2 x2.length c2, .slice p3 x3.length c3] 42)).alloc (.cells #[.int .i64 y0, .slice q1 y1.length d1, .slice q2 y2.length d2, .slice q3 y3.length d3] 42)) (w.heap.size + 1) 42 #[.int .i64 y0, .slice q1 y1.length d1, .slice q2 y2.length d2, .slice q3 y3.length d3]) := by
    have := Lies.new (w.alloc (.cells #[.int .i64 x0, .slice p1 x1.length c1, .slice p2 x2.length c2, .slice p3 x3.length c3] 42)) 42 #[.int .i64 y0, .slice q1 y1.length d1, .slice q2 y2.length d2, .slice q3 y3.length d3]
    rwa [show (w.alloc (.cells #[.int .i64 x0, .slice p1 x1.length c1, .slice p2 x2.length c2, .slice p3 x3.length c3] 42)).heap.size = w.heap.size + 1 by simp] at this
  go_enter Try.func43, Try.ntmps43
  by_cases g0 : x0 = y0
  rotate_left
  · have HF : Hid (¬ (x0, x1, x2, x3) = (y0, y1, y2, y3)) := fun h => g0 (by simp only [Prod.mk.injEq] at h; exact h.1)
    go_wp2_with fail
    go_ret
    exact bpost_no HF.out B0.out
  subst g0
  go_wp2_with fail
  refine (equalL _ _ _ _ _ _ _ x1 y1 (lrow_below R1.out B0.out) (lrow_below K1.out B0.out)).mono ?_
  rintro e w1 z1
  by_cases g1 : x1 = y1
  rotate_left
  · have HF : Hid (¬ (x0, x1, x2, x3) = (x0, y1, y2, y3)) := fun h => g1 (by simp only [Prod.mk.injEq] at h; exact h.2.1)
    obtain ⟨rfl, b1⟩ := z1.no g1
    have BN := hideT (B0.out.trans (b1.mono B0.out.size))
    clear z1 b1 g1
    go_wp2_with fail
    go_ret
    exact bpost_no HF.out BN.out
  obtain ⟨rfl, b1⟩ := z1.yes g1
  have B1 := hideT (B0.out.trans (b1.mono B0.out.size))
  have LA1 := hideT (LA0.out.below b1)
  have LB1 := hideT (LB0.out.below b1)
  have G1 := hideT g1
  clear z1 b1 g1
  have za1_0 : w1.cell? ⟨w.heap.size, 0, none⟩ = some (.int .i64 x0) := LA1.out.cell 0
  have zb1_0 : w1.cell? ⟨w.heap.size + 1, 0, none⟩ = some (.int .i64 x0) := LB1.out.cell 0
  have za1_1 : w1.cell? ⟨w.heap.size, 1, none⟩ = some (.slice p1 x1.length c1) := LA1.out.cell 1
  have zb1_1 : w1.cell? ⟨w.heap.size + 1, 1, none⟩ = some (.slice q1 y1.length d1) := LB1.out.cell 1
  have za1_2 : w1.cell? ⟨w.heap.size, 2, none⟩ = some (.slice p2 x2.length c2) := LA1.out.cell 2
  have zb1_2 : w1.cell? ⟨w.heap.size + 1, 2, none⟩ = some (.slice q2 y2.length d2) := LB1.out.cell 2
  have za1_3 : w1.cell? ⟨w.heap.size, 3, none⟩ = some (.slice p3 x3.length c3) := LA1.out.cell 3
  have zb1_3 : w1.cell? ⟨w.heap.size + 1, 3, none⟩ = some (.slice q3 y3.length d3) := LB1.out.cell 3
  go_wp2_with fail
  refine (equalCB _ _ _ _ _ _ _ x2 y2 (crow_below R2.out B1.out) (crow_below K2.out B1.out)).mono ?_
  rintro e w2 z1
  by_cases g2 : x2 = y2
  rotate_left
  · have HF : Hid (¬ (x0, x1, x2, x3) = (x0, y1, y2, y3)) := fun h => g2 (by simp only [Prod.mk.injEq] at h; exact h.2.2.1)
    obtain ⟨rfl, b1⟩ := z1.no g2
    have BN := hideT (B1.out.trans (b1.mono B1.out.size))
    clear z1 b1 g2
    go_wp2_with fail
    go_ret
    exact bpost_no HF.out BN.out
  obtain ⟨rfl, b1⟩ := z1.yes g2
  have B2 := hideT (B1.out.trans (b1.mono B1.out.size))
  have LA2 := hideT (LA1.out.below b1)
  have LB2 := hideT (LB1.out.below b1)
  have G2 := hideT g2
  clear z1 b1 g2
  have za2_0 : w2.cell? ⟨w.heap.size, 0, none⟩ = some (.int .i64 x0) := LA2.out.cell 0
  have zb2_0 : w2.cell? ⟨w.heap.size + 1, 0, none⟩ = some (.int .i64 x0) := LB2.out.cell 0
  have za2_1 : w2.cell? ⟨w.heap.size, 1, none⟩ = some (.slice p1 x1.length c1) := LA2.out.cell 1
  have zb2_1 : w2.cell? ⟨w.heap.size + 1, 1, none⟩ = some (.slice q1 y1.length d1) := LB2.out.cell 1
  have za2_2 : w2.cell? ⟨w.heap.size, 2, none⟩ = some (.slice p2 x2.length c2) := LA2.out.cell 2
  have zb2_2 : w2.cell? ⟨w.heap.size + 1, 2, none⟩ = some (.slice q2 y2.length d2) := LB2.out.cell 2
  have za2_3 : w2.cell? ⟨w.heap.size, 3, none⟩ = some (.slice p3 x3.length c3) := LA2.out.cell 3
  have zb2_3 : w2.cell? ⟨w.heap.size + 1, 3, none⟩ = some (.slice q3 y3.length d3) := LB2.out.cell 3
  go_wp2_with fail
  refine (equalT _ _ _ _ _ _ _ x3 y3 (lrow_below R3.out B2.out) (lrow_below K3.out B2.out)).mono ?_
  rintro e w3 z1
  by_cases g3 : x3 = y3
  rotate_left
  · have HF : Hid (¬ (x0, x1, x2, x3) = (x0, y1, y2, y3)) := fun h => g3 (by simp only [Prod.mk.injEq] at h; exact h.2.2.2)
    obtain ⟨rfl, b1⟩ := z1.no g3
    have BN := hideT (B2.out.trans (b1.mono B2.out.size))
    clear z1 b1 g3
    go_wp2_with fail
    go_ret
    exact bpost_no HF.out BN.out
  obtain ⟨rfl, b1⟩ := z1.yes g3
  have B3 := hideT (B2.out.trans (b1.mono B2.out.size))
  have LA3 := hideT (LA2.out.below b1)
  have LB3 := hideT (LB2.out.below b1)
  have G3 := hideT g3
  clear z1 b1 g3
  have za3_0 : w3.cell? ⟨w.heap.size, 0, none⟩ = some (.int .i64 x0) := LA3.out.cell 0
  have zb3_0 : w3.cell? ⟨w.heap.size + 1, 0, none⟩ = some (.int .i64 x0) := LB3.out.cell 0
  have za3_1 : w3.cell? ⟨w.heap.size, 1, none⟩ = some (.slice p1 x1.length c1) := LA3.out.cell 1
  have zb3_1 : w3.cell? ⟨w.heap.size + 1, 1, none⟩ = some (.slice q1 y1.length d1) := LB3.out.cell 1
  have za3_2 : w3.cell? ⟨w.heap.size, 2, none⟩ = some (.slice p2 x2.length c2) := LA3.out.cell 2
  have zb3_2 : w3.cell? ⟨w.heap.size + 1, 2, none⟩ = some (.slice q2 y2.length d2) := LB3.out.cell 2
  have za3_3 : w3.cell? ⟨w.heap.size, 3, none⟩ = some (.slice p3 x3.length c3) := LA3.out.cell 3
  have zb3_3 : w3.cell? ⟨w.heap.size + 1, 3, none⟩ = some (.slice q3 y3.length d3) := LB3.out.cell 3
  have HF : Hid ((x0, x1, x2, x3) = (x0, y1, y2, y3)) := by show _ = _; rw [G1.out, G2.out, G3.out]
  go_wp2_with fail
  go_ret
  exact bpost_yes HF.out B3.out
set_option maxHeartbeats 4000000 in
theorem sameUserR (w : World) (x0 y0 : ByteArray) (x1 y1 : Int) (x2 y2 : List Rp.Lit) (p2 q2 : Option Addr) (c2 d2 : Nat) (x3 y3 : Int)
    (h2 : LRow w (.slice p2 x2.length c2) x2) (k2 : LRow w (.slice q2 y2.length d2) y2) :
    Calls Try.prog 46 #[.agg #[.string x0, .int .i64 x1, .slice p2 x2.length c2, .int .i64 x3], .agg #[.string y0, .int .i64 y1, .slice q2 y2.length d2, .int .i64 y3]] w (BPost ((x0, x1, x2, x3) = (y0, y1, y2, y3)) w) := by
  have R2 := hideT h2
  have K2 := hideT k2
  clear h2 k2
  have B0 := hideT (((Below.refl w.heap.size w).alloc (Nat.le_refl _) (.cells #[.string x0, .int .i64 x1, .slice p2 x2.length c2, .int .i64 x3] 52)).alloc (by simp) (.cells #[.string y0, .int .i64 y1, .slice q2 y2.length d2, .int .i64 y3] 52))
  have LA0 := hideT ((Lies.new w 52 #[.string x0, .int .i64 x1, .slice p2 x2.length c2, .int .i64 x3]).below ((Below.refl _ _).alloc (Nat.le_refl _) (.cells #[.string y0, .int .i64 y1, .slice q2 y2.length d2, .int .i64 y3] 52)))
  have LB0 : Hid (Lies ((w.alloc (.cells #[.string x0, .int .i64 x1, .slice p2 x2.length c2, .int .i64 x3] 52)).alloc (.cells #[.string y0, .int .i64 y1, .slice q2 y2.length d2, .int .i64 y3] 52)) (w.heap.size + 1) 52 #[.string y0, .int .i64 y1, .slice q2 y2.length d2, .int .i64 y3]) := by
    have := Lies.new (w.alloc (.cells #[.string x0, .int .i64 x1, .slice p2 x2.length c2, .int .i64 x3] 52)) 52 #[.string y0, .int .i64 y1, .slice q2 y2.length d2, .int .i64 y3]
    rwa [show (w.alloc (.cells #[.string x0, .int .i64 x1, .slice p2 x2.length c2, .int .i64 x3] 52)).heap.size = w.heap.size + 1 by simp] at this
  go_enter Try.func46, Try.ntmps46
  by_cases g0 : x0 = y0
  rotate_left
  · have HF : Hid (¬ (x0, x1, x2, x3) = (y0, y1, y2, y3)) := fun h => g0 (by simp only [Prod.mk.injEq] at h; exact h.1)
    have q1' : ¬ x0.toList = y0.toList := fun h => g0 (toList_inj h)
    have q2' : (x0.toList == y0.toList) = false := beq_eq_false_iff_ne.2 q1'
    go_wp2_with fail
    go_ret
    exact bpost_no HF.out B0.out
  subst g0
  by_cases g1 : x1 = y1
  rotate_left
  · have HF : Hid (¬ (x0, x1, x2, x3) = (x0, y1, y2, y3)) := fun h => g1 (by simp only [Prod.mk.injEq] at h; exact h.2.1)
    go_wp2_with fail
    go_ret
    exact bpost_no HF.out B0.out
  subst g1
  go_wp2_with fail
  refine (equalL _ _ _ _ _ _ _ x2 y2 (lrow_below R2.out B0.out) (lrow_below K2.out B0.out)).mono ?_
  rintro e w1 z1
  by_cases g2 : x2 = y2
  rotate_left
  · have HF : Hid (¬ (x0, x1, x2, x3) = (x0, x1, y2, y3)) := fun h => g2 (by simp only [Prod.mk.injEq] at h; exact h.2.2.1)
    obtain ⟨rfl, b1⟩ := z1.no g2
    have BN := hideT (B0.out.trans (b1.mono B0.out.size))
    clear z1 b1 g2
    go_wp2_with fail
    go_ret
    exact bpost_no HF.out BN.out
  obtain ⟨rfl, b1⟩ := z1.yes g2
  have B1 := hideT (B0.out.trans (b1.mono B0.out.size))
  have LA1 := hideT (LA0.out.below b1)
  have LB1 := hideT (LB0.out.below b1)
  have G2 := hideT g2
  clear z1 b1 g2
  have za1_0 : w1.cell? ⟨w.heap.size, 0, none⟩ = some (.string x0) := LA1.out.cell 0
  have zb1_0 : w1.cell? ⟨w.heap.size + 1, 0, none⟩ = some (.string x0) := LB1.out.cell 0
  have za1_1 : w1.cell? ⟨w.heap.size, 1, none⟩ = some (.int .i64 x1) := LA1.out.cell 1
  have zb1_1 : w1.cell? ⟨w.heap.size + 1, 1, none⟩ = some (.int .i64 x1) := LB1.out.cell 1
  have za1_2 : w1.cell? ⟨w.heap.size, 2, none⟩ = some (.slice p2 x2.length c2) := LA1.out.cell 2
  have zb1_2 : w1.cell? ⟨w.heap.size + 1, 2, none⟩ = some (.slice q2 y2.length d2) := LB1.out.cell 2
  have za1_3 : w1.cell? ⟨w.heap.size, 3, none⟩ = some (.int .i64 x3) := LA1.out.cell 3
  have zb1_3 : w1.cell? ⟨w.heap.size + 1, 3, none⟩ = some (.int .i64 y3) := LB1.out.cell 3
  by_cases g3 : x3 = y3
  rotate_left
  · have HF : Hid (¬ (x0, x1, x2, x3) = (x0, x1, y2, y3)) := fun h => g3 (by simp only [Prod.mk.injEq] at h; exact h.2.2.2)
    have q1' : (x3 == y3) = false := beq_eq_false_iff_ne.2 g3
    go_wp2_with fail
    go_ret
    exact bpost_no HF.out B1.out
  subst g3
  have HF : Hid ((x0, x1, x2, x3) = (x0, x1, y2, x3)) := by show _ = _; rw [G2.out]
  go_wp2_with fail
  go_ret
  exact bpost_yes HF.out B1.out
end Go.Proofs.Ytmhiilfjckadkaa
/-
  The program's Same. (Written by RSame.py.)
-/
set_option linter.unusedSimpArgs false
set_option linter.unusedVariables false
namespace Go.Proofs.Ytmhiilfjckadkaa
open Go.RowKit
set_option maxRecDepth 100000
set_option maxHeartbeats 4000000 in
theorem equalFuncIR (w : World) (a1 a2 : Option Addr) (n1 n2 c1 c2 : Nat) (la lb : List Mp.Item) (h1 : IRow w (.slice a1 n1 c1) la) (h2 : IRow w (.slice a2 n2 c2) lb) :
    Calls Try.prog 47 #[.slice a1 n1 c1, .slice a2 n2 c2, .func (.func 48) #[] #[]] w (BPost (la = lb) w) := by
  obtain ⟨hn1, hl1, _, b1, o1, ha1, hc1⟩ := irow_at h1
  obtain ⟨hn2, hl2, _, b2, o2, ha2, hc2⟩ := irow_at h2
  have HN1 := hideT hn1
  have HN2 := hideT hn2
  have HC1 := hideT hc1
  have HA1 := hideT ha1
  have HC2 := hideT hc2
  have HA2 := hideT ha2
  clear hc1 ha1 hc2 ha2 h1 h2
  by_cases hne : n1 = n2
  rotate_left
  · have HF : Hid (¬ la = lb) := list_len (by omega)
    have t2 : ((n1 : Int) != (n2 : Int)) = true := bne_iff_ne.2 (by omega)
    clear hn1 hn2
    go_enter Try.func47, Try.ntmps47
    go_wp2_with fail
    go_ret
    exact bpost_no HF.out (Below.refl _ _)
  subst hne
  clear hn1 hn2
  go_enter Try.func47, Try.ntmps47
  go_wp2_with fail
  go_loopw [17] (fun i wr => ∃ k : Nat, k ≤ n1 ∧ i = .int .i64 k ∧ Hid (∀ (j : Nat), j < k → la[j]? = lb[j]?) ∧ Hid (Below w.heap.size w wr)) (fun i _ => n1 - (intOf i).toNat)
  case atStart => exact ⟨0, by omega, rfl, (fun j hj => absurd hj (by omega)), Below.refl _ _⟩
  case round =>
    obtain ⟨k, hk, rfl, HB, HW⟩ := hrel
    by_cases hlt : k < n1
    rotate_left
    · have HF : Hid (la = lb) := list_all HN1.out HN2.out (fun j hj => HB.out j (by omega))
      go_wp2_with fail
      go_ret
      exact bpost_yes HF.out HW.out
    obtain ⟨⟨x0, x1, x2, x3, x4, x5, x6⟩, hx⟩ := Mp.at_lt (l := la) (k := k) (by have := HN1.out; omega)
    obtain ⟨⟨y0, y1, y2, y3, y4, y5, y6⟩, hy⟩ := Mp.at_lt (l := lb) (k := k) (by have := HN2.out; omega)
    obtain ⟨p5, c5, p6, c6, IX⟩ := HC1.out k _ hx
    obtain ⟨q5, d5, q6, d6, IY⟩ := HC2.out k _ hy
    obtain ⟨_, _, r1, r2, u0, u1, u2, u3, u4, u5, u6⟩ := IX.turn (below_cell HW.out)
    obtain ⟨_, _, r3, r4, v0, v1, v2, v3, v4, v5, v6⟩ := IY.turn (below_cell HW.out)
    dsimp only at r1 r2 r3 r4 u0 u1 u2 u3 u4 u5 u6 v0 v1 v2 v3 v4 v5 v6
    have y0' := cell_lt v0
    obtain rfl := HA1.out (by omega)
    obtain rfl := HA2.out (by omega)
    have HX := hideT hx
    have HY := hideT hy
    have BA := hideT (((Below.refl wr.heap.size wr).alloc (Nat.le_refl _) (.cells #[.string x0, .int .i64 x1, .string x2, .bool x3, .int .i64 x4, .slice p5 x5.length c5, .slice p6 x6.length c6] 56)).alloc (by simp) (.cells #[.string y0, .int .i64 y1, .string y2, .bool y3, .int .i64 y4, .slice q5 y5.length d5, .slice q6 y6.length d6] 56))
    have BW := hideT (HW.out.trans (BA.out.mono HW.out.size))
    have R1 := hideT (srow_below r1 BA.out)
    have R2 := hideT (srow_below r2 BA.out)
    have R3 := hideT (srow_below r3 BA.out)
    have R4 := hideT (srow_below r4 BA.out)
    clear hx hy r1 r2 r3 r4 IX IY
    have t0 : (0 : Int) ≤ (k : Int) := by omega
    have t1' : (k : Int) < (n1 : Int) := by omega
    go_wp2_with fail
    refine (sameItemR _ x0 y0 x1 y1 x2 y2 x3 y3 x4 y4 x5 y5 p5 q5 c5 d5 x6 y6 p6 q6 c6 d6 R1.out R3.out R2.out R4.out).mono ?_
    rintro e w1 z1
    by_cases g : (⟨x0, x1, x2, x3, x4, x5, x6⟩ : Mp.Item) = (⟨y0, y1, y2, y3, y4, y5, y6⟩ : Mp.Item)
    rotate_left
    · have HF : Hid (¬ la = lb) := list_at HX.out HY.out g
      obtain ⟨rfl, p1⟩ := z1.no g
      have BW1 := hideT (BW.out.trans (p1.mono BW.out.size))
      clear z1 p1 g u0 u1 u2 u3 u4 u5 u6 v0 v1 v2 v3 v4 v5 v6
      go_wp2_with fail
      go_ret
      exact bpost_no HF.out BW1.out
    have HR : Hid (∀ (j : Nat), j < k + 1 → la[j]? = lb[j]?) := by
      intro j hj
      by_cases hj' : j < k
      · exact HB.out j hj'
      · obtain rfl : j = k := by omega
        rw [HX.out, HY.out, g]
    obtain ⟨rfl, p1⟩ := z1.yes g
    have BW1 := hideT (BW.out.trans (p1.mono BW.out.size))
    clear z1 p1 g u0 u1 u2 u3 u4 u5 u6 v0 v1 v2 v3 v4 v5 v6
    go_wp2_with fail
    refine ⟨⟨k + 1, by omega, by go_num, HR, BW1⟩, ?_⟩
    first | omega | (simp [intOf]; omega)
set_option maxHeartbeats 4000000 in
theorem equalFuncRR (w : World) (a1 a2 : Option Addr) (n1 n2 c1 c2 : Nat) (la lb : List Rp.Rule) (h1 : RRow w (.slice a1 n1 c1) la) (h2 : RRow w (.slice a2 n2 c2) lb) :
    Calls Try.prog 42 #[.slice a1 n1 c1, .slice a2 n2 c2, .func (.func 43) #[] #[]] w (BPost (la = lb) w) := by
  obtain ⟨hn1, hl1, _, b1, o1, ha1, hc1⟩ := rrow_at h1
  obtain ⟨hn2, hl2, _, b2, o2, ha2, hc2⟩ := rrow_at h2
  have HN1 := hideT hn1
  have HN2 := hideT hn2
  have HC1 := hideT hc1
  have HA1 := hideT ha1
  have HC2 := hideT hc2
  have HA2 := hideT ha2
  clear hc1 ha1 hc2 ha2 h1 h2
  by_cases hne : n1 = n2
  rotate_left
  · have HF : Hid (¬ la = lb) := list_len (by omega)
    have t2 : ((n1 : Int) != (n2 : Int)) = true := bne_iff_ne.2 (by omega)
    clear hn1 hn2
    go_enter Try.func42, Try.ntmps42
    go_wp2_with fail
    go_ret
    exact bpost_no HF.out (Below.refl _ _)
  subst hne
  clear hn1 hn2
  go_enter Try.func42, Try.ntmps42
  go_wp2_with fail
  go_loopw [17] (fun i wr => ∃ k : Nat, k ≤ n1 ∧ i = .int .i64 k ∧ Hid (∀ (j : Nat), j < k → la[j]? = lb[j]?) ∧ Hid (Below w.heap.size w wr)) (fun i _ => n1 - (intOf i).toNat)
  case atStart => exact ⟨0, by omega, rfl, (fun j hj => absurd hj (by omega)), Below.refl _ _⟩
  case round =>
    obtain ⟨k, hk, rfl, HB, HW⟩ := hrel
    by_cases hlt : k < n1
    rotate_left
    · have HF : Hid (la = lb) := list_all HN1.out HN2.out (fun j hj => HB.out j (by omega))
      go_wp2_with fail
      go_ret
      exact bpost_yes HF.out HW.out
    obtain ⟨⟨x0, x1, x2, x3⟩, hx⟩ := Mp.at_lt (l := la) (k := k) (by have := HN1.out; omega)
    obtain ⟨⟨y0, y1, y2, y3⟩, hy⟩ := Mp.at_lt (l := lb) (k := k) (by have := HN2.out; omega)
    obtain ⟨p1, m1, p2, m2, p3, m3, IX⟩ := HC1.out k _ hx
    obtain ⟨q1, d1, q2, d2, q3, d3, IY⟩ := HC2.out k _ hy
    obtain ⟨r1, r2, r3, u0, u1, u2, u3⟩ := IX.turn (below_cell HW.out)
    obtain ⟨s1, s2, s3, v0, v1, v2, v3⟩ := IY.turn (below_cell HW.out)
    dsimp only at r1 r2 r3 s1 s2 s3 u0 u1 u2 u3 v0 v1 v2 v3
    have y0' := cell_lt v0
    obtain rfl := HA1.out (by omega)
    obtain rfl := HA2.out (by omega)
    have HX := hideT hx
    have HY := hideT hy
    have BA := hideT (((Below.refl wr.heap.size wr).alloc (Nat.le_refl _) (.cells #[.int .i64 x0, .slice p1 x1.length m1, .slice p2 x2.length m2, .slice p3 x3.length m3] 42)).alloc (by simp) (.cells #[.int .i64 y0, .slice q1 y1.length d1, .slice q2 y2.length d2, .slice q3 y3.length d3] 42))
    have BW := hideT (HW.out.trans (BA.out.mono HW.out.size))
    have R1 := hideT (lrow_below r1 BA.out)
    have R2 := hideT (crow_below r2 BA.out)
    have R3 := hideT (lrow_below r3 BA.out)
    have S1 := hideT (lrow_below s1 BA.out)
    have S2 := hideT (crow_below s2 BA.out)
    have S3 := hideT (lrow_below s3 BA.out)
    clear hx hy r1 r2 r3 s1 s2 s3 IX IY
    have t0 : (0 : Int) ≤ (k : Int) := by omega
    have t1' : (k : Int) < (n1 : Int) := by omega
    go_wp2_with fail
    refine (sameRuleR _ x0 y0 x1 y1 p1 q1 m1 d1 x2 y2 p2 q2 m2 d2 x3 y3 p3 q3 m3 d3 R1.out S1.out R2.out S2.out R3.out S3.out).mono ?_
    rintro e w1 z1
    by_cases g : (x0, x1, x2, x3) = (y0, y1, y2, y3)
    rotate_left
    · have HF : Hid (¬ la = lb) := list_at HX.out HY.out g
      obtain ⟨rfl, p1⟩ := z1.no g
      have BW1 := hideT (BW.out.trans (p1.mono BW.out.size))
      clear z1 p1 g u0 u1 u2 u3 v0 v1 v2 v3
      go_wp2_with fail
      go_ret
      exact bpost_no HF.out BW1.out
    have HR : Hid (∀ (j : Nat), j < k + 1 → la[j]? = lb[j]?) := by
      intro j hj
      by_cases hj' : j < k
      · exact HB.out j hj'
      · obtain rfl : j = k := by omega
        rw [HX.out, HY.out, g]
    obtain ⟨rfl, p1⟩ := z1.yes g
    have BW1 := hideT (BW.out.trans (p1.mono BW.out.size))
    clear z1 p1 g u0 u1 u2 u3 v0 v1 v2 v3
    go_wp2_with fail
    refine ⟨⟨k + 1, by omega, by go_num, HR, BW1⟩, ?_⟩
    first | omega | (simp [intOf]; omega)
set_option maxHeartbeats 4000000 in
theorem equalFuncUR (w : World) (a1 a2 : Option Addr) (n1 n2 c1 c2 : Nat) (la lb : List Rp.User) (h1 : URow w (.slice a1 n1 c1) la) (h2 : URow w (.slice a2 n2 c2) lb) :
    Calls Try.prog 45 #[.slice a1 n1 c1, .slice a2 n2 c2, .func (.func 46) #[] #[]] w (BPost (la = lb) w) := by
  obtain ⟨hn1, hl1, _, b1, o1, ha1, hc1⟩ := urow_at h1
  obtain ⟨hn2, hl2, _, b2, o2, ha2, hc2⟩ := urow_at h2
  have HN1 := hideT hn1
  have HN2 := hideT hn2
  have HC1 := hideT hc1
  have HA1 := hideT ha1
  have HC2 := hideT hc2
  have HA2 := hideT ha2
  clear hc1 ha1 hc2 ha2 h1 h2
  by_cases hne : n1 = n2
  rotate_left
  · have HF : Hid (¬ la = lb) := list_len (by omega)
    have t2 : ((n1 : Int) != (n2 : Int)) = true := bne_iff_ne.2 (by omega)
    clear hn1 hn2
    go_enter Try.func45, Try.ntmps45
    go_wp2_with fail
    go_ret
    exact bpost_no HF.out (Below.refl _ _)
  subst hne
  clear hn1 hn2
  go_enter Try.func45, Try.ntmps45
  go_wp2_with fail
  go_loopw [17] (fun i wr => ∃ k : Nat, k ≤ n1 ∧ i = .int .i64 k ∧ Hid (∀ (j : Nat), j < k → la[j]? = lb[j]?) ∧ Hid (Below w.heap.size w wr)) (fun i _ => n1 - (intOf i).toNat)
  case atStart => exact ⟨0, by omega, rfl, (fun j hj => absurd hj (by omega)), Below.refl _ _⟩
  case round =>
    obtain ⟨k, hk, rfl, HB, HW⟩ := hrel
    by_cases hlt : k < n1
    rotate_left
    · have HF : Hid (la = lb) := list_all HN1.out HN2.out (fun j hj => HB.out j (by omega))
      go_wp2_with fail
      go_ret
      exact bpost_yes HF.out HW.out
    obtain ⟨⟨x0, x1, x2, x3⟩, hx⟩ := Mp.at_lt (l := la) (k := k) (by have := HN1.out; omega)
    obtain ⟨⟨y0, y1, y2, y3⟩, hy⟩ := Mp.at_lt (l := lb) (k := k) (by have := HN2.out; omega)
    obtain ⟨p2, m2, IX⟩ := HC1.out k _ hx
    obtain ⟨q2, d2, IY⟩ := HC2.out k _ hy
    obtain ⟨_, r2, u0, u1, u2, u3⟩ := IX.turn (below_cell HW.out)
    obtain ⟨_, s2, v0, v1, v2, v3⟩ := IY.turn (below_cell HW.out)
    dsimp only at r2 s2 u0 u1 u2 u3 v0 v1 v2 v3
    have y0' := cell_lt v0
    obtain rfl := HA1.out (by omega)
    obtain rfl := HA2.out (by omega)
    have HX := hideT hx
    have HY := hideT hy
    have BA := hideT (((Below.refl wr.heap.size wr).alloc (Nat.le_refl _) (.cells #[.string x0, .int .i64 x1, .slice p2 x2.length m2, .int .i64 x3] 52)).alloc (by simp) (.cells #[.string y0, .int .i64 y1, .slice q2 y2.length d2, .int .i64 y3] 52))
    have BW := hideT (HW.out.trans (BA.out.mono HW.out.size))
    have R2 := hideT (lrow_below r2 BA.out)
    have S2 := hideT (lrow_below s2 BA.out)
    clear hx hy r2 s2 IX IY
    have t0 : (0 : Int) ≤ (k : Int) := by omega
    have t1' : (k : Int) < (n1 : Int) := by omega
    go_wp2_with fail
    refine (sameUserR _ x0 y0 x1 y1 x2 y2 p2 q2 m2 d2 x3 y3 R2.out S2.out).mono ?_
    rintro e w1 z1
    by_cases g : (x0, x1, x2, x3) = (y0, y1, y2, y3)
    rotate_left
    · have HF : Hid (¬ la = lb) := list_at HX.out HY.out g
      obtain ⟨rfl, p1⟩ := z1.no g
      have BW1 := hideT (BW.out.trans (p1.mono BW.out.size))
      clear z1 p1 g u0 u1 u2 u3 v0 v1 v2 v3
      go_wp2_with fail
      go_ret
      exact bpost_no HF.out BW1.out
    have HR : Hid (∀ (j : Nat), j < k + 1 → la[j]? = lb[j]?) := by
      intro j hj
      by_cases hj' : j < k
      · exact HB.out j hj'
      · obtain rfl : j = k := by omega
        rw [HX.out, HY.out, g]
    obtain ⟨rfl, p1⟩ := z1.yes g
    have BW1 := hideT (BW.out.trans (p1.mono BW.out.size))
    clear z1 p1 g u0 u1 u2 u3 v0 v1 v2 v3
    go_wp2_with fail
    refine ⟨⟨k + 1, by omega, by go_num, HR, BW1⟩, ?_⟩
    first | omega | (simp [intOf]; omega)
theorem prog_eq {p q : Rp.Prog} (h0 : p.flags = q.flags) (h1 : p.lasting = q.lasting) (h2 : p.first = q.first) (h3 : p.over = q.over) (h4 : p.frm = q.frm) (h5 : p.files = q.files) (h6 : p.rules = q.rules) (h7 : p.ctrs = q.ctrs) (h8 : p.users = q.users) (h9 : p.notes = q.notes) : p = q := by
  cases p
  cases q
  simp only at h0 h1 h2 h3 h4 h5 h6 h7 h8 h9
  subst h0 h1 h2 h3 h4 h5 h6 h7 h8 h9
  rfl
set_option maxHeartbeats 8000000 in
theorem sameP (w : World) (A B : PA) (p q : Rp.Prog) (hp : ProgAt w A p) (hq : ProgAt w B q) : Calls Try.prog 16 #[.agg #[.int .i64 p.flags, .int .i64 p.lasting, .slice A.a2 p.first.length A.c2, .slice A.a3 p.over.length A.c3, .int .i64 p.frm, .slice A.a5 p.files.length A.c5, .slice A.a6 p.rules.length A.c6, .slice A.a7 p.ctrs.length A.c7, .slice A.a8 p.users.length A.c8, .slice A.a9 p.notes.length A.c9], .agg #[.int .i64 q.flags, .int .i64 q.lasting, .slice B.a2 q.first.length B.c2, .slice B.a3 q.over.length B.c3, .int .i64 q.frm, .slice B.a5 q.files.length B.c5, .slice B.a6 q.rules.length B.c6, .slice B.a7 q.ctrs.length B.c7, .slice B.a8 q.users.length B.c8, .slice B.a9 q.notes.length B.c9]] w (BPost (p = q) w) := by
  have HP := hideT hp
  have HQ := hideT hq
  have B0 := hideT (((Below.refl w.heap.size w).alloc (Nat.le_refl _) (.cells #[.int .i64 p.flags, .int .i64 p.lasting, .slice A.a2 p.first.length A.c2, .slice A.a3 p.over.length A.c3, .int .i64 p.frm, .slice A.a5 p.files.length A.c5, .slice A.a6 p.rules.length A.c6, .slice A.a7 p.ctrs.length A.c7, .slice A.a8 p.users.length A.c8, .slice A.a9 p.notes.length A.c9] 29)).alloc (by simp) (.cells #[.int .i64 q.flags, .int .i64 q.lasting, .slice B.a2 q.first.length B.c2, .slice B.a3 q.over.length B.c3, .int .i64 q.frm, .slice B.a5 q.files.length B.c5, .slice B.a6 q.rules.length B.c6, .slice B.a7 q.ctrs.length B.c7, .slice B.a8 q.users.length B.c8, .slice B.a9 q.notes.length B.c9] 29))
  have LA0 := hideT ((PBox.new w A p).below ((Below.refl _ _).alloc (Nat.le_refl _) (.cells #[.int .i64 q.flags, .int .i64 q.lasting, .slice B.a2 q.first.length B.c2, .slice B.a3 q.over.length B.c3, .int .i64 q.frm, .slice B.a5 q.files.length B.c5, .slice B.a6 q.rules.length B.c6, .slice B.a7 q.ctrs.length B.c7, .slice B.a8 q.users.length B.c8, .slice B.a9 q.notes.length B.c9] 29)))
  have LB0 : Hid (PBox ((w.alloc (.cells #[.int .i64 p.flags, .int .i64 p.lasting, .slice A.a2 p.first.length A.c2, .slice A.a3 p.over.length A.c3, .int .i64 p.frm, .slice A.a5 p.files.length A.c5, .slice A.a6 p.rules.length A.c6, .slice A.a7 p.ctrs.length A.c7, .slice A.a8 p.users.length A.c8, .slice A.a9 p.notes.length A.c9] 29)).alloc (.cells #[.int .i64 q.flags, .int .i64 q.lasting, .slice B.a2 q.first.length B.c2, .slice B.a3 q.over.length B.c3, .int .i64 q.frm, .slice B.a5 q.files.length B.c5, .slice B.a6 q.rules.length B.c6, .slice B.a7 q.ctrs.length B.c7, .slice B.a8 q.users.length B.c8, .slice B.a9 q.notes.length B.c9] 29)) (w.heap.size + 1) B q) := by
    have := PBox.new (w.alloc (.cells #[.int .i64 p.flags, .int .i64 p.lasting, .slice A.a2 p.first.length A.c2, .slice A.a3 p.over.length A.c3, .int .i64 p.frm, .slice A.a5 p.files.length A.c5, .slice A.a6 p.rules.length A.c6, .slice A.a7 p.ctrs.length A.c7, .slice A.a8 p.users.length A.c8, .slice A.a9 p.notes.length A.c9] 29)) B q
    rwa [show (w.alloc (.cells #[.int .i64 p.flags, .int .i64 p.lasting, .slice A.a2 p.first.length A.c2, .slice A.a3 p.over.length A.c3, .int .i64 p.frm, .slice A.a5 p.files.length A.c5, .slice A.a6 p.rules.length A.c6, .slice A.a7 p.ctrs.length A.c7, .slice A.a8 p.users.length A.c8, .slice A.a9 p.notes.length A.c9] 29)).heap.size = w.heap.size + 1 by simp] at this
  clear hp hq
  go_enter Try.func16, Try.ntmps16
  by_cases g_flags : p.flags = q.flags
  rotate_left
  · have HF : Hid (¬ p = q) := fun h => g_flags (by rw [h])
    have g' : (p.flags == q.flags) = false := beq_eq_false_iff_ne.2 g_flags
    go_wp2_with fail
    go_ret
    exact bpost_no HF.out B0.out
  have G_flags := hideT g_flags
  have t_flags : (p.flags == q.flags) = true := by simp [g_flags]
  clear g_flags
  by_cases g_lasting : p.lasting = q.lasting
  rotate_left
  · have HF : Hid (¬ p = q) := fun h => g_lasting (by rw [h])
    have g' : (p.lasting == q.lasting) = false := beq_eq_false_iff_ne.2 g_lasting
    go_wp2_with fail
    go_ret
    exact bpost_no HF.out B0.out
  have G_lasting := hideT g_lasting
  have t_lasting : (p.lasting == q.lasting) = true := by simp [g_lasting]
  clear g_lasting
  go_wp2_with fail
  refine (equalZ _ _ _ _ _ _ _ p.first q.first (zrow_below HP.out.first B0.out) (zrow_below HQ.out.first B0.out)).mono ?_
  rintro e w1 z1
  by_cases g : p.first = q.first
  rotate_left
  · have HF : Hid (¬ p = q) := fun h => g (by rw [h])
    obtain ⟨rfl, b1⟩ := z1.no g
    have BN := hideT (B0.out.trans (b1.mono B0.out.size))
    clear z1 b1 g
    go_wp2_with fail
    go_ret
    exact bpost_no HF.out BN.out
  obtain ⟨rfl, b1⟩ := z1.yes g
  have B1 := hideT (B0.out.trans (b1.mono B0.out.size))
  have LA1 := hideT (LA0.out.below b1)
  have LB1 := hideT (LB0.out.below b1)
  have G_first := hideT g
  clear z1 b1 g
  obtain ⟨x0, x1, x2, x3, x4, x5, x6, x7, x8, x9⟩ := LA1.out.cells
  obtain ⟨y0, y1, y2, y3, y4, y5, y6, y7, y8, y9⟩ := LB1.out.cells
  go_wp2_with fail
  refine (equalZ _ _ _ _ _ _ _ p.over q.over (zrow_below HP.out.over B1.out) (zrow_below HQ.out.over B1.out)).mono ?_
  rintro e w2 z1
  by_cases g : p.over = q.over
  rotate_left
  · have HF : Hid (¬ p = q) := fun h => g (by rw [h])
    obtain ⟨rfl, b1⟩ := z1.no g
    have BN := hideT (B1.out.trans (b1.mono B1.out.size))
    clear z1 b1 g x0 x1 x2 x3 x4 x5 x6 x7 x8 x9 y0 y1 y2 y3 y4 y5 y6 y7 y8 y9
    go_wp2_with fail
    go_ret
    exact bpost_no HF.out BN.out
  obtain ⟨rfl, b1⟩ := z1.yes g
  have B2 := hideT (B1.out.trans (b1.mono B1.out.size))
  have LA2 := hideT (LA1.out.below b1)
  have LB2 := hideT (LB1.out.below b1)
  have G_over := hideT g
  clear z1 b1 g x0 x1 x2 x3 x4 x5 x6 x7 x8 x9 y0 y1 y2 y3 y4 y5 y6 y7 y8 y9
  obtain ⟨x0, x1, x2, x3, x4, x5, x6, x7, x8, x9⟩ := LA2.out.cells
  obtain ⟨y0, y1, y2, y3, y4, y5, y6, y7, y8, y9⟩ := LB2.out.cells
  by_cases g_frm : p.frm = q.frm
  rotate_left
  · have HF : Hid (¬ p = q) := fun h => g_frm (by rw [h])
    have g' : (p.frm == q.frm) = false := beq_eq_false_iff_ne.2 g_frm
    go_wp2_with fail
    go_ret
    exact bpost_no HF.out B2.out
  have G_frm := hideT g_frm
  have t_frm : (p.frm == q.frm) = true := by simp [g_frm]
  clear g_frm
  go_wp2_with fail
  refine (equalSB _ _ _ _ _ _ _ p.files q.files (frow_below HP.out.files B2.out) (frow_below HQ.out.files B2.out)).mono ?_
  rintro e w3 z1
  by_cases g : p.files = q.files
  rotate_left
  · have HF : Hid (¬ p = q) := fun h => g (by rw [h])
    obtain ⟨rfl, b1⟩ := z1.no g
    have BN := hideT (B2.out.trans (b1.mono B2.out.size))
    clear z1 b1 g x0 x1 x2 x3 x4 x5 x6 x7 x8 x9 y0 y1 y2 y3 y4 y5 y6 y7 y8 y9
    go_wp2_with fail
    go_ret
    exact bpost_no HF.out BN.out
  obtain ⟨rfl, b1⟩ := z1.yes g
  have B3 := hideT (B2.out.trans (b1.mono B2.out.size))
  have LA3 := hideT (LA2.out.below b1)
  have LB3 := hideT (LB2.out.below b1)
  have G_files := hideT g
  clear z1 b1 g x0 x1 x2 x3 x4 x5 x6 x7 x8 x9 y0 y1 y2 y3 y4 y5 y6 y7 y8 y9
  obtain ⟨x0, x1, x2, x3, x4, x5, x6, x7, x8, x9⟩ := LA3.out.cells
  obtain ⟨y0, y1, y2, y3, y4, y5, y6, y7, y8, y9⟩ := LB3.out.cells
  go_wp2_with fail
  refine (equalFuncRR _ _ _ _ _ _ _ p.rules q.rules (rrow_below HP.out.rules B3.out) (rrow_below HQ.out.rules B3.out)).mono ?_
  rintro e w4 z1
  by_cases g : p.rules = q.rules
  rotate_left
  · have HF : Hid (¬ p = q) := fun h => g (by rw [h])
    obtain ⟨rfl, b1⟩ := z1.no g
    have BN := hideT (B3.out.trans (b1.mono B3.out.size))
    clear z1 b1 g x0 x1 x2 x3 x4 x5 x6 x7 x8 x9 y0 y1 y2 y3 y4 y5 y6 y7 y8 y9
    go_wp2_with fail
    go_ret
    exact bpost_no HF.out BN.out
  obtain ⟨rfl, b1⟩ := z1.yes g
  have B4 := hideT (B3.out.trans (b1.mono B3.out.size))
  have LA4 := hideT (LA3.out.below b1)
  have LB4 := hideT (LB3.out.below b1)
  have G_rules := hideT g
  clear z1 b1 g x0 x1 x2 x3 x4 x5 x6 x7 x8 x9 y0 y1 y2 y3 y4 y5 y6 y7 y8 y9
  obtain ⟨x0, x1, x2, x3, x4, x5, x6, x7, x8, x9⟩ := LA4.out.cells
  obtain ⟨y0, y1, y2, y3, y4, y5, y6, y7, y8, y9⟩ := LB4.out.cells
  go_wp2_with fail
  refine (equalK _ _ _ _ _ _ _ p.ctrs q.ctrs (trow_below HP.out.ctrs B4.out) (trow_below HQ.out.ctrs B4.out)).mono ?_
  rintro e w5 z1
  by_cases g : p.ctrs = q.ctrs
  rotate_left
  · have HF : Hid (¬ p = q) := fun h => g (by rw [h])
    obtain ⟨rfl, b1⟩ := z1.no g
    have BN := hideT (B4.out.trans (b1.mono B4.out.size))
    clear z1 b1 g x0 x1 x2 x3 x4 x5 x6 x7 x8 x9 y0 y1 y2 y3 y4 y5 y6 y7 y8 y9
    go_wp2_with fail
    go_ret
    exact bpost_no HF.out BN.out
  obtain ⟨rfl, b1⟩ := z1.yes g
  have B5 := hideT (B4.out.trans (b1.mono B4.out.size))
  have LA5 := hideT (LA4.out.below b1)
  have LB5 := hideT (LB4.out.below b1)
  have G_ctrs := hideT g
  clear z1 b1 g x0 x1 x2 x3 x4 x5 x6 x7 x8 x9 y0 y1 y2 y3 y4 y5 y6 y7 y8 y9
  obtain ⟨x0, x1, x2, x3, x4, x5, x6, x7, x8, x9⟩ := LA5.out.cells
  obtain ⟨y0, y1, y2, y3, y4, y5, y6, y7, y8, y9⟩ := LB5.out.cells
  go_wp2_with fail
  refine (equalFuncUR _ _ _ _ _ _ _ p.users q.users (urow_below HP.out.users B5.out) (urow_below HQ.out.users B5.out)).mono ?_
  rintro e w6 z1
  by_cases g : p.users = q.users
  rotate_left
  · have HF : Hid (¬ p = q) := fun h => g (by rw [h])
    obtain ⟨rfl, b1⟩ := z1.no g
    have BN := hideT (B5.out.trans (b1.mono B5.out.size))
    clear z1 b1 g x0 x1 x2 x3 x4 x5 x6 x7 x8 x9 y0 y1 y2 y3 y4 y5 y6 y7 y8 y9
    go_wp2_with fail
    go_ret
    exact bpost_no HF.out BN.out
  obtain ⟨rfl, b1⟩ := z1.yes g
  have B6 := hideT (B5.out.trans (b1.mono B5.out.size))
  have LA6 := hideT (LA5.out.below b1)
  have LB6 := hideT (LB5.out.below b1)
  have G_users := hideT g
  clear z1 b1 g x0 x1 x2 x3 x4 x5 x6 x7 x8 x9 y0 y1 y2 y3 y4 y5 y6 y7 y8 y9
  obtain ⟨x0, x1, x2, x3, x4, x5, x6, x7, x8, x9⟩ := LA6.out.cells
  obtain ⟨y0, y1, y2, y3, y4, y5, y6, y7, y8, y9⟩ := LB6.out.cells
  go_wp2_with fail
  refine (equalFuncIR _ _ _ _ _ _ _ p.notes q.notes (irow_below HP.out.notes B6.out) (irow_below HQ.out.notes B6.out)).mono ?_
  rintro e w7 z1
  by_cases g : p.notes = q.notes
  rotate_left
  · have HF : Hid (¬ p = q) := fun h => g (by rw [h])
    obtain ⟨rfl, b1⟩ := z1.no g
    have BN := hideT (B6.out.trans (b1.mono B6.out.size))
    clear z1 b1 g x0 x1 x2 x3 x4 x5 x6 x7 x8 x9 y0 y1 y2 y3 y4 y5 y6 y7 y8 y9
    go_wp2_with fail
    go_ret
    exact bpost_no HF.out BN.out
  obtain ⟨rfl, b1⟩ := z1.yes g
  have B7 := hideT (B6.out.trans (b1.mono B6.out.size))
  have LA7 := hideT (LA6.out.below b1)
  have LB7 := hideT (LB6.out.below b1)
  have G_notes := hideT g
  clear z1 b1 g x0 x1 x2 x3 x4 x5 x6 x7 x8 x9 y0 y1 y2 y3 y4 y5 y6 y7 y8 y9
  obtain ⟨x0, x1, x2, x3, x4, x5, x6, x7, x8, x9⟩ := LA7.out.cells
  obtain ⟨y0, y1, y2, y3, y4, y5, y6, y7, y8, y9⟩ := LB7.out.cells
  go_wp2_with fail
  go_ret
  exact bpost_yes (prog_eq G_flags.out G_lasting.out G_first.out G_over.out G_frm.out G_files.out G_rules.out G_ctrs.out G_users.out G_notes.out) B7.out
end Go.Proofs.Ytmhiilfjckadkaa
