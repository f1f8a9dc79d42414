/-
  slices.Equal of texts, events, conditions; the document's SameTexts.
-/
import Derived.Test.YtmhiilfjckadkaaMIndex
import Derived.Deep.QuietTactic
import Derived.BigQuiet
set_option linter.unusedSimpArgs false
set_option linter.unusedVariables false
namespace Go.Proofs.Ytmhiilfjckadkaa
open Go.RowKit
theorem dec_len {α : Type} [DecidableEq α] {a b : List α} (h : a.length ≠ b.length) : decide (a = b) = false := decide_eq_false fun e => h (by rw [e])
theorem dec_at {α : Type} [DecidableEq α] {a b : List α} {k : Nat} {x y : α} (h1 : a[k]? = some x) (h2 : b[k]? = some y) (h : x ≠ y) : decide (a = b) = false := decide_eq_false fun e => by rw [e, h2] at h1; exact h (Option.some.inj h1).symm
theorem dec_all {α : Type} [DecidableEq α] {a b : List α} {n : Nat} (h1 : n = a.length) (h2 : n = b.length) (h : ∀ (j : Nat), j < n → a[j]? = b[j]?) : decide (a = b) = true := by
  refine decide_eq_true (List.ext_getElem? fun j => ?_)
  by_cases hj : j < n
  · exact h j hj
  · rw [List.getElem?_eq_none (by omega), List.getElem?_eq_none (by omega)]
set_option maxHeartbeats 2000000 in
theorem equalS (w : World) (a1 a2 : Option Addr) (n1 n2 c1 c2 : Nat) (la lb : List ByteArray) (h1 : FRow w (.slice a1 n1 c1) la) (h2 : FRow w (.slice a2 n2 c2) lb) :
    Calls Try.prog 41 #[.slice a1 n1 c1, .slice a2 n2 c2] w fun e w' => e = .returned (.bool (decide (la = lb))) ∧ Below w.heap.size w w' := by
  obtain ⟨hn1, hl1, _, b1, o1, ha1, hc1⟩ := frow_at h1
  obtain ⟨hn2, hl2, _, b2, o2, ha2, hc2⟩ := frow_at h2
  have HN1 := hideT hn1
  have HN2 := hideT hn2
  have HC1 := hideT hc1
  have HA1 := hideT ha1
  have HC2 := hideT hc2
  have HA2 := hideT ha2
  clear hc1 ha1 hc2 ha2 h1 h2
  by_cases hne : n1 = n2
  · subst hne
    clear hn1 hn2
    go_enter Try.func41, Try.ntmps41
    go_wp2_with fail
    go_loopw [13] (fun i wr => ∃ k : Nat, k ≤ n1 ∧ i = .int .i64 k ∧ Hid (∀ (j : Nat), j < k → la[j]? = lb[j]?) ∧ Hid (Below w.heap.size w wr)) (fun i _ => n1 - (intOf i).toNat)
    case atStart => exact ⟨0, by omega, rfl, (fun j hj => absurd hj (by omega)), Below.refl _ _⟩
    case round =>
      obtain ⟨k, hk, rfl, HB, HW⟩ := hrel
      by_cases hlt : k < n1
      · obtain ⟨x0, hx⟩ := Mp.at_lt (l := la) (k := k) (by have := HN1.out; omega)
        obtain ⟨y0, hy⟩ := Mp.at_lt (l := lb) (k := k) (by have := HN2.out; omega)
        obtain ⟨_, d0⟩ := HC1.out k _ hx
        obtain ⟨_, e0⟩ := HC2.out k _ hy
        have d0 := below_cell HW.out _ _ d0
        have e0 := below_cell HW.out _ _ e0
        obtain rfl := HA1.out (by omega)
        obtain rfl := HA2.out (by omega)
        have HX := hideT hx
        have HY := hideT hy
        clear hx hy
        have t0 : (0 : Int) ≤ (k : Int) := by omega
        have t1 : (k : Int) < (n1 : Int) := by omega
        by_cases q0 : x0 = y0
        rotate_left
        · have HF := hideT (dec_at HX.out HY.out (fun h => q0 (by simpa using h)))
          have q1' : ¬ x0.toList = y0.toList := fun h => q0 (toList_inj h)
          have q2' : (x0.toList == y0.toList) = false := beq_eq_false_iff_ne.2 q1'
          have q3' : (x0.toList != y0.toList) = true := bne_iff_ne.2 q1'
          clear q0
          go_wp2_with fail
          go_quiet (fail)
          go_wp2_with fail
          go_ret
          exact ⟨ret_b HF.out.symm, below_drewN HW.out _⟩
        subst q0
        have HR : Hid (∀ (j : Nat), j < k + 1 → la[j]? = lb[j]?) := by
          intro j hj
          by_cases hj' : j < k
          · exact HB.out j hj'
          · obtain rfl : j = k := by omega
            rw [HX.out, HY.out]
        go_wp2_with fail
        go_quiet (fail)
        go_wp2_with fail
        refine ⟨⟨k + 1, by omega, by go_num, HR, below_drewN HW.out _⟩, ?_⟩
        first | omega | (simp [intOf]; omega)
      · have HF := hideT (dec_all HN1.out HN2.out (fun j hj => HB.out j (by omega)))
        go_wp2_with fail
        go_ret
        exact ⟨ret_b HF.out.symm, HW.out⟩
  · have HF := hideT (dec_len (a := la) (b := lb) (by omega))
    have t2 : ((n1 : Int) != (n2 : Int)) = true := bne_iff_ne.2 (by omega)
    clear hn1 hn2
    go_enter Try.func41, Try.ntmps41
    go_wp2_with fail
    go_ret
    exact ⟨ret_b HF.out.symm, Below.refl _ _⟩
set_option maxHeartbeats 2000000 in
theorem equalO (w : World) (a1 a2 : Option Addr) (n1 n2 c1 c2 : Nat) (la lb : List Mp.On) (h1 : ORow w (.slice a1 n1 c1) la) (h2 : ORow w (.slice a2 n2 c2) lb) :
    Calls Try.prog 79 #[.slice a1 n1 c1, .slice a2 n2 c2] w fun e w' => e = .returned (.bool (decide (la = lb))) ∧ Below w.heap.size w w' := by
  obtain ⟨hn1, hl1, _, b1, o1, ha1, hc1⟩ := orow_at h1
  obtain ⟨hn2, hl2, _, b2, o2, ha2, hc2⟩ := orow_at h2
  have HN1 := hideT hn1
  have HN2 := hideT hn2
  have HC1 := hideT hc1
  have HA1 := hideT ha1
  have HC2 := hideT hc2
  have HA2 := hideT ha2
  clear hc1 ha1 hc2 ha2 h1 h2
  by_cases hne : n1 = n2
  · subst hne
    clear hn1 hn2
    go_enter Try.func79, Try.ntmps79
    go_wp2_with fail
    go_loopw [13] (fun i wr => ∃ k : Nat, k ≤ n1 ∧ i = .int .i64 k ∧ Hid (∀ (j : Nat), j < k → la[j]? = lb[j]?) ∧ Hid (Below w.heap.size w wr)) (fun i _ => n1 - (intOf i).toNat)
    case atStart => exact ⟨0, by omega, rfl, (fun j hj => absurd hj (by omega)), Below.refl _ _⟩
    case round =>
      obtain ⟨k, hk, rfl, HB, HW⟩ := hrel
      by_cases hlt : k < n1
      · obtain ⟨⟨x0, x1⟩, hx⟩ := Mp.at_lt (l := la) (k := k) (by have := HN1.out; omega)
        obtain ⟨⟨y0, y1⟩, hy⟩ := Mp.at_lt (l := lb) (k := k) (by have := HN2.out; omega)
        obtain ⟨_, d0, d1⟩ := HC1.out k _ hx
        obtain ⟨_, e0, e1⟩ := HC2.out k _ hy
        have d0 := below_cell HW.out _ _ d0
        have e0 := below_cell HW.out _ _ e0
        have d1 := below_cell HW.out _ _ d1
        have e1 := below_cell HW.out _ _ e1
        dsimp only at d0 e0 d1 e1
        obtain rfl := HA1.out (by omega)
        obtain rfl := HA2.out (by omega)
        have HX := hideT hx
        have HY := hideT hy
        clear hx hy
        have t0 : (0 : Int) ≤ (k : Int) := by omega
        have t1 : (k : Int) < (n1 : Int) := by omega
        by_cases q0 : x0 = y0
        rotate_left
        · have HF := hideT (dec_at HX.out HY.out (fun h => q0 (by simp only [Prod.mk.injEq] at h; exact h.1)))
          have q1' : ¬ x0.toList = y0.toList := fun h => q0 (toList_inj h)
          have q2' : (x0.toList == y0.toList) = false := beq_eq_false_iff_ne.2 q1'
          have q3' : (x0.toList != y0.toList) = true := bne_iff_ne.2 q1'
          clear q0
          go_wp2_with fail
          go_quiet (fail)
          go_wp2_with fail
          go_ret
          exact ⟨ret_b HF.out.symm, below_drewN HW.out _⟩
        subst q0
        by_cases q1 : x1 = y1
        rotate_left
        · have HF := hideT (dec_at HX.out HY.out (fun h => q1 (by simp only [Prod.mk.injEq] at h; exact h.2)))
          go_wp2_with fail
          go_quiet (fail)
          go_wp2_with fail
          go_ret
          exact ⟨ret_b HF.out.symm, below_drewN HW.out _⟩
        subst q1
        have HR : Hid (∀ (j : Nat), j < k + 1 → la[j]? = lb[j]?) := by
          intro j hj
          by_cases hj' : j < k
          · exact HB.out j hj'
          · obtain rfl : j = k := by omega
            rw [HX.out, HY.out]
        go_wp2_with fail
        go_quiet (fail)
        go_wp2_with fail
        refine ⟨⟨k + 1, by omega, by go_num, HR, below_drewN HW.out _⟩, ?_⟩
        first | omega | (simp [intOf]; omega)
      · have HF := hideT (dec_all HN1.out HN2.out (fun j hj => HB.out j (by omega)))
        go_wp2_with fail
        go_ret
        exact ⟨ret_b HF.out.symm, HW.out⟩
  · have HF := hideT (dec_len (a := la) (b := lb) (by omega))
    have t2 : ((n1 : Int) != (n2 : Int)) = true := bne_iff_ne.2 (by omega)
    clear hn1 hn2
    go_enter Try.func79, Try.ntmps79
    go_wp2_with fail
    go_ret
    exact ⟨ret_b HF.out.symm, Below.refl _ _⟩
set_option maxHeartbeats 2000000 in
theorem equalC (w : World) (a1 a2 : Option Addr) (n1 n2 c1 c2 : Nat) (la lb : List Mp.Cond) (h1 : CRow w (.slice a1 n1 c1) la) (h2 : CRow w (.slice a2 n2 c2) lb) :
    Calls Try.prog 68 #[.slice a1 n1 c1, .slice a2 n2 c2] w fun e w' => e = .returned (.bool (decide (la = lb))) ∧ Below w.heap.size w w' := by
  obtain ⟨hn1, hl1, _, b1, o1, ha1, hc1⟩ := crow_at h1
  obtain ⟨hn2, hl2, _, b2, o2, ha2, hc2⟩ := crow_at h2
  have HN1 := hideT hn1
  have HN2 := hideT hn2
  have HC1 := hideT hc1
  have HA1 := hideT ha1
  have HC2 := hideT hc2
  have HA2 := hideT ha2
  clear hc1 ha1 hc2 ha2 h1 h2
  by_cases hne : n1 = n2
  · subst hne
    clear hn1 hn2
    go_enter Try.func68, Try.ntmps68
    go_wp2_with fail
    go_loopw [13] (fun i wr => ∃ k : Nat, k ≤ n1 ∧ i = .int .i64 k ∧ Hid (∀ (j : Nat), j < k → la[j]? = lb[j]?) ∧ Hid (Below w.heap.size w wr)) (fun i _ => n1 - (intOf i).toNat)
    case atStart => exact ⟨0, by omega, rfl, (fun j hj => absurd hj (by omega)), Below.refl _ _⟩
    case round =>
      obtain ⟨k, hk, rfl, HB, HW⟩ := hrel
      by_cases hlt : k < n1
      · obtain ⟨⟨x0, x1, x2⟩, hx⟩ := Mp.at_lt (l := la) (k := k) (by have := HN1.out; omega)
        obtain ⟨⟨y0, y1, y2⟩, hy⟩ := Mp.at_lt (l := lb) (k := k) (by have := HN2.out; omega)
        obtain ⟨_, d0, d1, d2⟩ := HC1.out k _ hx
        obtain ⟨_, e0, e1, e2⟩ := HC2.out k _ hy
        have d0 := below_cell HW.out _ _ d0
        have e0 := below_cell HW.out _ _ e0
        have d1 := below_cell HW.out _ _ d1
        have e1 := below_cell HW.out _ _ e1
        have d2 := below_cell HW.out _ _ d2
        have e2 := below_cell HW.out _ _ e2
        dsimp only at d0 e0 d1 e1 d2 e2
        obtain rfl := HA1.out (by omega)
        obtain rfl := HA2.out (by omega)
        have HX := hideT hx
        have HY := hideT hy
        clear hx hy
        have t0 : (0 : Int) ≤ (k : Int) := by omega
        have t1 : (k : Int) < (n1 : Int) := by omega
        by_cases q0 : x0 = y0
        rotate_left
        · have HF := hideT (dec_at HX.out HY.out (fun h => q0 (by simp only [Prod.mk.injEq] at h; exact h.1)))
          have q1' : ¬ x0.toList = y0.toList := fun h => q0 (toList_inj h)
          have q2' : (x0.toList == y0.toList) = false := beq_eq_false_iff_ne.2 q1'
          have q3' : (x0.toList != y0.toList) = true := bne_iff_ne.2 q1'
          clear q0
          go_wp2_with fail
          go_quiet (fail)
          go_wp2_with fail
          go_ret
          exact ⟨ret_b HF.out.symm, below_drewN HW.out _⟩
        subst q0
        by_cases q1 : x1 = y1
        rotate_left
        · have HF := hideT (dec_at HX.out HY.out (fun h => q1 (by simp only [Prod.mk.injEq] at h; exact h.2.1)))
          have q1' : ¬ x1.toList = y1.toList := fun h => q1 (toList_inj h)
          have q2' : (x1.toList == y1.toList) = false := beq_eq_false_iff_ne.2 q1'
          have q3' : (x1.toList != y1.toList) = true := bne_iff_ne.2 q1'
          clear q1
          go_wp2_with fail
          go_quiet (fail)
          go_wp2_with fail
          go_ret
          exact ⟨ret_b HF.out.symm, below_drewN HW.out _⟩
        subst q1
        by_cases q2 : x2 = y2
        rotate_left
        · have HF := hideT (dec_at HX.out HY.out (fun h => q2 (by simp only [Prod.mk.injEq] at h; exact h.2.2)))
          go_wp2_with fail
          go_quiet (fail)
          go_wp2_with fail
          go_ret
          exact ⟨ret_b HF.out.symm, below_drewN HW.out _⟩
        subst q2
        have HR : Hid (∀ (j : Nat), j < k + 1 → la[j]? = lb[j]?) := by
          intro j hj
          by_cases hj' : j < k
          · exact HB.out j hj'
          · obtain rfl : j = k := by omega
            rw [HX.out, HY.out]
        go_wp2_with fail
        go_quiet (fail)
        go_wp2_with fail
        refine ⟨⟨k + 1, by omega, by go_num, HR, below_drewN HW.out _⟩, ?_⟩
        first | omega | (simp [intOf]; omega)
      · have HF := hideT (dec_all HN1.out HN2.out (fun j hj => HB.out j (by omega)))
        go_wp2_with fail
        go_ret
        exact ⟨ret_b HF.out.symm, HW.out⟩
  · have HF := hideT (dec_len (a := la) (b := lb) (by omega))
    have t2 : ((n1 : Int) != (n2 : Int)) = true := bne_iff_ne.2 (by omega)
    clear hn1 hn2
    go_enter Try.func68, Try.ntmps68
    go_wp2_with fail
    go_ret
    exact ⟨ret_b HF.out.symm, Below.refl _ _⟩
set_option maxHeartbeats 2000000 in
theorem sameTexts (w : World) (a1 a2 : Option Addr) (n1 n2 c1 c2 : Nat) (la lb : List ByteArray) (h1 : FRow w (.slice a1 n1 c1) la) (h2 : FRow w (.slice a2 n2 c2) lb) :
    Calls Try.prog 49 #[.slice a1 n1 c1, .slice a2 n2 c2] w fun e w' => e = .returned (.bool (decide (la = lb))) ∧ Below w.heap.size w w' := by
  obtain ⟨hn1, hl1, _, b1, o1, ha1, hc1⟩ := frow_at h1
  obtain ⟨hn2, hl2, _, b2, o2, ha2, hc2⟩ := frow_at h2
  have HN1 := hideT hn1
  have HN2 := hideT hn2
  have HC1 := hideT hc1
  have HA1 := hideT ha1
  have HC2 := hideT hc2
  have HA2 := hideT ha2
  clear hc1 ha1 hc2 ha2 h1 h2
  by_cases hne : n1 = n2
  · subst hne
    clear hn1 hn2
    go_enter Try.func49, Try.ntmps49
    go_wp2_with fail
    go_loopw [5] (fun i wr => ∃ k : Nat, k ≤ n1 ∧ i = .int .i64 k ∧ Hid (∀ (j : Nat), j < k → la[j]? = lb[j]?) ∧ Hid (Below w.heap.size w wr)) (fun i _ => n1 - (intOf i).toNat)
    case atStart => exact ⟨0, by omega, rfl, (fun j hj => absurd hj (by omega)), Below.refl _ _⟩
    case round =>
      obtain ⟨k, hk, rfl, HB, HW⟩ := hrel
      by_cases hlt : k < n1
      · obtain ⟨x0, hx⟩ := Mp.at_lt (l := la) (k := k) (by have := HN1.out; omega)
        obtain ⟨y0, hy⟩ := Mp.at_lt (l := lb) (k := k) (by have := HN2.out; omega)
        obtain ⟨_, d0⟩ := HC1.out k _ hx
        obtain ⟨_, e0⟩ := HC2.out k _ hy
        have d0 := below_cell HW.out _ _ d0
        have e0 := below_cell HW.out _ _ e0
        obtain rfl := HA1.out (by omega)
        obtain rfl := HA2.out (by omega)
        have HX := hideT hx
        have HY := hideT hy
        clear hx hy
        have t0 : (0 : Int) ≤ (k : Int) := by omega
        have t1 : (k : Int) < (n1 : Int) := by omega
        by_cases q0 : x0 = y0
        rotate_left
        · have HF := hideT (dec_at HX.out HY.out (fun h => q0 (by simpa using h)))
          have q1' : ¬ x0.toList = y0.toList := fun h => q0 (toList_inj h)
          have q2' : (x0.toList == y0.toList) = false := beq_eq_false_iff_ne.2 q1'
          have q3' : (x0.toList != y0.toList) = true := bne_iff_ne.2 q1'
          clear q0
          go_wp2_with fail
          go_quiet (fail)
          go_wp2_with fail
          go_ret
          exact ⟨ret_b HF.out.symm, below_drewN HW.out _⟩
        subst q0
        have HR : Hid (∀ (j : Nat), j < k + 1 → la[j]? = lb[j]?) := by
          intro j hj
          by_cases hj' : j < k
          · exact HB.out j hj'
          · obtain rfl : j = k := by omega
            rw [HX.out, HY.out]
        go_wp2_with fail
        go_quiet (fail)
        go_wp2_with fail
        refine ⟨⟨k + 1, by omega, by go_num, HR, below_drewN HW.out _⟩, ?_⟩
        first | omega | (simp [intOf]; omega)
      · have HF := hideT (dec_all HN1.out HN2.out (fun j hj => HB.out j (by omega)))
        go_wp2_with fail
        go_ret
        exact ⟨ret_b HF.out.symm, HW.out⟩
  · have HF := hideT (dec_len (a := la) (b := lb) (by omega))
    have t2 : ((n1 : Int) != (n2 : Int)) = true := bne_iff_ne.2 (by omega)
    clear hn1 hn2
    go_enter Try.func49, Try.ntmps49
    go_wp2_with fail
    go_ret
    exact ⟨ret_b HF.out.symm, Below.refl _ _⟩
end Go.Proofs.Ytmhiilfjckadkaa
