/-
  slices.Equal at literals, sets, counters. (Written by RSame.py.)
-/
import Derived.Test.YtmhiilfjckadkaaRInts
set_option linter.unusedSimpArgs false
set_option linter.unusedVariables false
namespace Go.Proofs.Ytmhiilfjckadkaa
open Go.RowKit
set_option maxRecDepth 100000
set_option maxHeartbeats 4000000 in
theorem equalL (w : World) (a1 a2 : Option Addr) (n1 n2 c1 c2 : Nat) (la lb : List Rp.Lit) (h1 : LRow w (.slice a1 n1 c1) la) (h2 : LRow w (.slice a2 n2 c2) lb) :
    Calls Try.prog 67 #[.slice a1 n1 c1, .slice a2 n2 c2] w (BPost (la = lb) w) := by
  obtain ⟨hn1, hl1, _, b1, o1, ha1, hc1⟩ := lrow_at h1
  obtain ⟨hn2, hl2, _, b2, o2, ha2, hc2⟩ := lrow_at h2
  have HN1 := hideT hn1
  have HN2 := hideT hn2
  have HC1 := hideT hc1
  have HA1 := hideT ha1
  have HC2 := hideT hc2
  have HA2 := hideT ha2
  clear hc1 ha1 hc2 ha2 h1 h2
  by_cases hne : n1 = n2
  rotate_left
  · have HF : Hid (¬ la = lb) := list_len (by omega)
    have t2 : ((n1 : Int) != (n2 : Int)) = true := bne_iff_ne.2 (by omega)
    clear hn1 hn2
    go_enter Try.func67, Try.ntmps67
    go_wp2_with fail
    go_ret
    exact bpost_no HF.out (Below.refl _ _)
  subst hne
  clear hn1 hn2
  go_enter Try.func67, Try.ntmps67
  go_wp2_with fail
  go_loopw [13] (fun i wr => ∃ k : Nat, k ≤ n1 ∧ i = .int .i64 k ∧ Hid (∀ (j : Nat), j < k → la[j]? = lb[j]?) ∧ Hid (Below w.heap.size w wr)) (fun i _ => n1 - (intOf i).toNat)
  case atStart => exact ⟨0, by omega, rfl, (fun j hj => absurd hj (by omega)), Below.refl _ _⟩
  case round =>
    obtain ⟨k, hk, rfl, HB, HW⟩ := hrel
    by_cases hlt : k < n1
    rotate_left
    · have HF : Hid (la = lb) := list_all HN1.out HN2.out (fun j hj => HB.out j (by omega))
      go_wp2_with fail
      go_ret
      exact bpost_yes HF.out HW.out
    obtain ⟨⟨x0, x1⟩, hx⟩ := Mp.at_lt (l := la) (k := k) (by have := HN1.out; omega)
    obtain ⟨⟨y0, y1⟩, hy⟩ := Mp.at_lt (l := lb) (k := k) (by have := HN2.out; omega)
    obtain ⟨d0, d1⟩ := HC1.out k _ hx
    obtain ⟨e0, e1⟩ := HC2.out k _ hy
    dsimp only at d0 d1 e0 e1
    have d0 := below_cell HW.out _ _ d0
    have d1 := below_cell HW.out _ _ d1
    have e0 := below_cell HW.out _ _ e0
    have e1 := below_cell HW.out _ _ e1
    obtain rfl := HA1.out (by omega)
    obtain rfl := HA2.out (by omega)
    have HX := hideT hx
    have HY := hideT hy
    clear hx hy
    have t0 : (0 : Int) ≤ (k : Int) := by omega
    have t1 : (k : Int) < (n1 : Int) := by omega
    by_cases q0 : x0 = y0
    rotate_left
    · have HF : Hid (¬ la = lb) := list_at HX.out HY.out (fun h => q0 (by simp only [Prod.mk.injEq] at h; exact h.1))
      go_wp2_with fail
      go_quiet (fail)
      go_wp2_with fail
      go_ret
      exact bpost_no HF.out (below_drewN HW.out _)
    subst q0
    by_cases q1 : x1 = y1
    rotate_left
    · have HF : Hid (¬ la = lb) := list_at HX.out HY.out (fun h => q1 (by simp only [Prod.mk.injEq] at h; exact h.2))
      have q1' : (x1 == y1) = false := beq_eq_false_iff_ne.2 q1
      have q2' : (x1 != y1) = true := bne_iff_ne.2 q1
      go_wp2_with fail
      go_quiet (fail)
      go_wp2_with fail
      go_ret
      exact bpost_no HF.out (below_drewN HW.out _)
    subst q1
    have HR : Hid (∀ (j : Nat), j < k + 1 → la[j]? = lb[j]?) := by
      intro j hj
      by_cases hj' : j < k
      · exact HB.out j hj'
      · obtain rfl : j = k := by omega
        rw [HX.out, HY.out]
    go_wp2_with fail
    go_quiet (fail)
    go_wp2_with fail
    refine ⟨⟨k + 1, by omega, by go_num, HR, below_drewN HW.out _⟩, ?_⟩
    first | omega | (simp [intOf]; omega)
set_option maxHeartbeats 4000000 in
theorem equalT (w : World) (a1 a2 : Option Addr) (n1 n2 c1 c2 : Nat) (la lb : List Rp.Lit) (h1 : LRow w (.slice a1 n1 c1) la) (h2 : LRow w (.slice a2 n2 c2) lb) :
    Calls Try.prog 69 #[.slice a1 n1 c1, .slice a2 n2 c2] w (BPost (la = lb) w) := by
  obtain ⟨hn1, hl1, _, b1, o1, ha1, hc1⟩ := lrow_at h1
  obtain ⟨hn2, hl2, _, b2, o2, ha2, hc2⟩ := lrow_at h2
  have HN1 := hideT hn1
  have HN2 := hideT hn2
  have HC1 := hideT hc1
  have HA1 := hideT ha1
  have HC2 := hideT hc2
  have HA2 := hideT ha2
  clear hc1 ha1 hc2 ha2 h1 h2
  by_cases hne : n1 = n2
  rotate_left
  · have HF : Hid (¬ la = lb) := list_len (by omega)
    have t2 : ((n1 : Int) != (n2 : Int)) = true := bne_iff_ne.2 (by omega)
    clear hn1 hn2
    go_enter Try.func69, Try.ntmps69
    go_wp2_with fail
    go_ret
    exact bpost_no HF.out (Below.refl _ _)
  subst hne
  clear hn1 hn2
  go_enter Try.func69, Try.ntmps69
  go_wp2_with fail
  go_loopw [13] (fun i wr => ∃ k : Nat, k ≤ n1 ∧ i = .int .i64 k ∧ Hid (∀ (j : Nat), j < k → la[j]? = lb[j]?) ∧ Hid (Below w.heap.size w wr)) (fun i _ => n1 - (intOf i).toNat)
  case atStart => exact ⟨0, by omega, rfl, (fun j hj => absurd hj (by omega)), Below.refl _ _⟩
  case round =>
    obtain ⟨k, hk, rfl, HB, HW⟩ := hrel
    by_cases hlt : k < n1
    rotate_left
    · have HF : Hid (la = lb) := list_all HN1.out HN2.out (fun j hj => HB.out j (by omega))
      go_wp2_with fail
      go_ret
      exact bpost_yes HF.out HW.out
    obtain ⟨⟨x0, x1⟩, hx⟩ := Mp.at_lt (l := la) (k := k) (by have := HN1.out; omega)
    obtain ⟨⟨y0, y1⟩, hy⟩ := Mp.at_lt (l := lb) (k := k) (by have := HN2.out; omega)
    obtain ⟨d0, d1⟩ := HC1.out k _ hx
    obtain ⟨e0, e1⟩ := HC2.out k _ hy
    dsimp only at d0 d1 e0 e1
    have d0 := below_cell HW.out _ _ d0
    have d1 := below_cell HW.out _ _ d1
    have e0 := below_cell HW.out _ _ e0
    have e1 := below_cell HW.out _ _ e1
    obtain rfl := HA1.out (by omega)
    obtain rfl := HA2.out (by omega)
    have HX := hideT hx
    have HY := hideT hy
    clear hx hy
    have t0 : (0 : Int) ≤ (k : Int) := by omega
    have t1 : (k : Int) < (n1 : Int) := by omega
    by_cases q0 : x0 = y0
    rotate_left
    · have HF : Hid (¬ la = lb) := list_at HX.out HY.out (fun h => q0 (by simp only [Prod.mk.injEq] at h; exact h.1))
      go_wp2_with fail
      go_quiet (fail)
      go_wp2_with fail
      go_ret
      exact bpost_no HF.out (below_drewN HW.out _)
    subst q0
    by_cases q1 : x1 = y1
    rotate_left
    · have HF : Hid (¬ la = lb) := list_at HX.out HY.out (fun h => q1 (by simp only [Prod.mk.injEq] at h; exact h.2))
      have q1' : (x1 == y1) = false := beq_eq_false_iff_ne.2 q1
      have q2' : (x1 != y1) = true := bne_iff_ne.2 q1
      go_wp2_with fail
      go_quiet (fail)
      go_wp2_with fail
      go_ret
      exact bpost_no HF.out (below_drewN HW.out _)
    subst q1
    have HR : Hid (∀ (j : Nat), j < k + 1 → la[j]? = lb[j]?) := by
      intro j hj
      by_cases hj' : j < k
      · exact HB.out j hj'
      · obtain rfl : j = k := by omega
        rw [HX.out, HY.out]
    go_wp2_with fail
    go_quiet (fail)
    go_wp2_with fail
    refine ⟨⟨k + 1, by omega, by go_num, HR, below_drewN HW.out _⟩, ?_⟩
    first | omega | (simp [intOf]; omega)
set_option maxHeartbeats 4000000 in
theorem equalK (w : World) (a1 a2 : Option Addr) (n1 n2 c1 c2 : Nat) (la lb : List Rp.Ctr) (h1 : TRow w (.slice a1 n1 c1) la) (h2 : TRow w (.slice a2 n2 c2) lb) :
    Calls Try.prog 44 #[.slice a1 n1 c1, .slice a2 n2 c2] w (BPost (la = lb) w) := by
  obtain ⟨hn1, hl1, _, b1, o1, ha1, hc1⟩ := trow_at h1
  obtain ⟨hn2, hl2, _, b2, o2, ha2, hc2⟩ := trow_at h2
  have HN1 := hideT hn1
  have HN2 := hideT hn2
  have HC1 := hideT hc1
  have HA1 := hideT ha1
  have HC2 := hideT hc2
  have HA2 := hideT ha2
  clear hc1 ha1 hc2 ha2 h1 h2
  by_cases hne : n1 = n2
  rotate_left
  · have HF : Hid (¬ la = lb) := list_len (by omega)
    have t2 : ((n1 : Int) != (n2 : Int)) = true := bne_iff_ne.2 (by omega)
    clear hn1 hn2
    go_enter Try.func44, Try.ntmps44
    go_wp2_with fail
    go_ret
    exact bpost_no HF.out (Below.refl _ _)
  subst hne
  clear hn1 hn2
  go_enter Try.func44, Try.ntmps44
  go_wp2_with fail
  go_loopw [13] (fun i wr => ∃ k : Nat, k ≤ n1 ∧ i = .int .i64 k ∧ Hid (∀ (j : Nat), j < k → la[j]? = lb[j]?) ∧ Hid (Below w.heap.size w wr)) (fun i _ => n1 - (intOf i).toNat)
  case atStart => exact ⟨0, by omega, rfl, (fun j hj => absurd hj (by omega)), Below.refl _ _⟩
  case round =>
    obtain ⟨k, hk, rfl, HB, HW⟩ := hrel
    by_cases hlt : k < n1
    rotate_left
    · have HF : Hid (la = lb) := list_all HN1.out HN2.out (fun j hj => HB.out j (by omega))
      go_wp2_with fail
      go_ret
      exact bpost_yes HF.out HW.out
    obtain ⟨⟨x0, x1, x2⟩, hx⟩ := Mp.at_lt (l := la) (k := k) (by have := HN1.out; omega)
    obtain ⟨⟨y0, y1, y2⟩, hy⟩ := Mp.at_lt (l := lb) (k := k) (by have := HN2.out; omega)
    obtain ⟨d0, d1, d2⟩ := HC1.out k _ hx
    obtain ⟨e0, e1, e2⟩ := HC2.out k _ hy
    dsimp only at d0 d1 d2 e0 e1 e2
    have d0 := below_cell HW.out _ _ d0
    have d1 := below_cell HW.out _ _ d1
    have d2 := below_cell HW.out _ _ d2
    have e0 := below_cell HW.out _ _ e0
    have e1 := below_cell HW.out _ _ e1
    have e2 := below_cell HW.out _ _ e2
    obtain rfl := HA1.out (by omega)
    obtain rfl := HA2.out (by omega)
    have HX := hideT hx
    have HY := hideT hy
    clear hx hy
    have t0 : (0 : Int) ≤ (k : Int) := by omega
    have t1 : (k : Int) < (n1 : Int) := by omega
    by_cases q0 : x0 = y0
    rotate_left
    · have HF : Hid (¬ la = lb) := list_at HX.out HY.out (fun h => q0 (by simp only [Prod.mk.injEq] at h; exact h.1))
      go_wp2_with fail
      go_quiet (fail)
      go_wp2_with fail
      go_ret
      exact bpost_no HF.out (below_drewN HW.out _)
    subst q0
    by_cases q1 : x1 = y1
    rotate_left
    · have HF : Hid (¬ la = lb) := list_at HX.out HY.out (fun h => q1 (by simp only [Prod.mk.injEq] at h; exact h.2.1))
      go_wp2_with fail
      go_quiet (fail)
      go_wp2_with fail
      go_ret
      exact bpost_no HF.out (below_drewN HW.out _)
    subst q1
    by_cases q2 : x2 = y2
    rotate_left
    · have HF : Hid (¬ la = lb) := list_at HX.out HY.out (fun h => q2 (by simp only [Prod.mk.injEq] at h; exact h.2.2))
      go_wp2_with fail
      go_quiet (fail)
      go_wp2_with fail
      go_ret
      exact bpost_no HF.out (below_drewN HW.out _)
    subst q2
    have HR : Hid (∀ (j : Nat), j < k + 1 → la[j]? = lb[j]?) := by
      intro j hj
      by_cases hj' : j < k
      · exact HB.out j hj'
      · obtain rfl : j = k := by omega
        rw [HX.out, HY.out]
    go_wp2_with fail
    go_quiet (fail)
    go_wp2_with fail
    refine ⟨⟨k + 1, by omega, by go_num, HR, below_drewN HW.out _⟩, ?_⟩
    first | omega | (simp [intOf]; omega)
theorem bpost_dec {P : Prop} [Decidable P] {w w' : World} {e : Ending} (h : e = .returned (.bool (decide P)) ∧ Below w.heap.size w w') : BPost P w e w' := ⟨_, h.1, decide_eq_true_iff, h.2⟩
theorem equalSB (w : World) (a1 a2 : Option Addr) (n1 n2 c1 c2 : Nat) (la lb : List ByteArray) (h1 : FRow w (.slice a1 n1 c1) la) (h2 : FRow w (.slice a2 n2 c2) lb) :
    Calls Try.prog 41 #[.slice a1 n1 c1, .slice a2 n2 c2] w (BPost (la = lb) w) := (equalS w a1 a2 n1 n2 c1 c2 la lb h1 h2).mono fun e w' k => bpost_dec k
theorem equalOB (w : World) (a1 a2 : Option Addr) (n1 n2 c1 c2 : Nat) (la lb : List Mp.On) (h1 : ORow w (.slice a1 n1 c1) la) (h2 : ORow w (.slice a2 n2 c2) lb) :
    Calls Try.prog 79 #[.slice a1 n1 c1, .slice a2 n2 c2] w (BPost (la = lb) w) := (equalO w a1 a2 n1 n2 c1 c2 la lb h1 h2).mono fun e w' k => bpost_dec k
theorem equalCB (w : World) (a1 a2 : Option Addr) (n1 n2 c1 c2 : Nat) (la lb : List Mp.Cond) (h1 : CRow w (.slice a1 n1 c1) la) (h2 : CRow w (.slice a2 n2 c2) lb) :
    Calls Try.prog 68 #[.slice a1 n1 c1, .slice a2 n2 c2] w (BPost (la = lb) w) := (equalC w a1 a2 n1 n2 c1 c2 la lb h1 h2).mono fun e w' k => bpost_dec k
end Go.Proofs.Ytmhiilfjckadkaa
