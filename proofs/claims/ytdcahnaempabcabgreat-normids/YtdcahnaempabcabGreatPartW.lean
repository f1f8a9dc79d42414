/-
  Several texts in one: each opens with its own word.
-/
import Derived.Test.YtdcahnaempabcabGreatMIndex
import Derived.Deep.QuietTactic
import Derived.BigQuiet
/-
  slices.Equal of texts, events, conditions; the document's SameTexts.
-/
set_option linter.unusedSimpArgs false
set_option linter.unusedVariables false
namespace Go.Proofs.YtdcahnaempabcabGreat
open Go.RowKit
theorem dec_len {α : Type} [DecidableEq α] {a b : List α} (h : a.length ≠ b.length) : decide (a = b) = false := decide_eq_false fun e => h (by rw [e])
theorem dec_at {α : Type} [DecidableEq α] {a b : List α} {k : Nat} {x y : α} (h1 : a[k]? = some x) (h2 : b[k]? = some y) (h : x ≠ y) : decide (a = b) = false := decide_eq_false fun e => by rw [e, h2] at h1; exact h (Option.some.inj h1).symm
theorem dec_all {α : Type} [DecidableEq α] {a b : List α} {n : Nat} (h1 : n = a.length) (h2 : n = b.length) (h : ∀ (j : Nat), j < n → a[j]? = b[j]?) : decide (a = b) = true := by
  refine decide_eq_true (List.ext_getElem? fun j => ?_)
  by_cases hj : j < n
  · exact h j hj
  · rw [List.getElem?_eq_none (by omega), List.getElem?_eq_none (by omega)]
set_option maxHeartbeats 2000000 in
theorem equalS (w : World) (a1 a2 : Option Addr) (n1 n2 c1 c2 : Nat) (la lb : List ByteArray) (h1 : FRow w (.slice a1 n1 c1) la) (h2 : FRow w (.slice a2 n2 c2) lb) :
    Calls Tryz.prog 105 #[.slice a1 n1 c1, .slice a2 n2 c2] w fun e w' => e = .returned (.bool (decide (la = lb))) ∧ Below w.heap.size w w' := by
  obtain ⟨hn1, hl1, _, b1, o1, ha1, hc1⟩ := frow_at h1
  obtain ⟨hn2, hl2, _, b2, o2, ha2, hc2⟩ := frow_at h2
  have HN1 := hideT hn1
  have HN2 := hideT hn2
  have HC1 := hideT hc1
  have HA1 := hideT ha1
  have HC2 := hideT hc2
  have HA2 := hideT ha2
  clear hc1 ha1 hc2 ha2 h1 h2
  by_cases hne : n1 = n2
  · subst hne
    clear hn1 hn2
    go_enter Tryz.func105, Tryz.ntmps105
    go_wp2_with fail
    go_loopw [13] (fun i wr => ∃ k : Nat, k ≤ n1 ∧ i = .int .i64 k ∧ Hid (∀ (j : Nat), j < k → la[j]? = lb[j]?) ∧ Hid (Below w.heap.size w wr)) (fun i _ => n1 - (intOf i).toNat)
    case atStart => exact ⟨0, by omega, rfl, (fun j hj => absurd hj (by omega)), Below.refl _ _⟩
    case round =>
      obtain ⟨k, hk, rfl, HB, HW⟩ := hrel
      by_cases hlt : k < n1
      · obtain ⟨x0, hx⟩ := Mp.at_lt (l := la) (k := k) (by have := HN1.out; omega)
        obtain ⟨y0, hy⟩ := Mp.at_lt (l := lb) (k := k) (by have := HN2.out; omega)
        obtain ⟨_, d0⟩ := HC1.out k _ hx
        obtain ⟨_, e0⟩ := HC2.out k _ hy
        have d0 := below_cell HW.out _ _ d0
        have e0 := below_cell HW.out _ _ e0
        obtain rfl := HA1.out (by omega)
        obtain rfl := HA2.out (by omega)
        have HX := hideT hx
        have HY := hideT hy
        clear hx hy
        have t0 : (0 : Int) ≤ (k : Int) := by omega
        have t1 : (k : Int) < (n1 : Int) := by omega
        by_cases q0 : x0 = y0
        rotate_left
        · have HF := hideT (dec_at HX.out HY.out (fun h => q0 (by simpa using h)))
          have q1' : ¬ x0.toList = y0.toList := fun h => q0 (toList_inj h)
          have q2' : (x0.toList == y0.toList) = false := beq_eq_false_iff_ne.2 q1'
          have q3' : (x0.toList != y0.toList) = true := bne_iff_ne.2 q1'
          clear q0
          go_wp2_with fail
          go_quiet (fail)
          go_wp2_with fail
          go_ret
          exact ⟨ret_b HF.out.symm, below_drewN HW.out _⟩
        subst q0
        have HR : Hid (∀ (j : Nat), j < k + 1 → la[j]? = lb[j]?) := by
          intro j hj
          by_cases hj' : j < k
          · exact HB.out j hj'
          · obtain rfl : j = k := by omega
            rw [HX.out, HY.out]
        go_wp2_with fail
        go_quiet (fail)
        go_wp2_with fail
        refine ⟨⟨k + 1, by omega, by go_num, HR, below_drewN HW.out _⟩, ?_⟩
        first | omega | (simp [intOf]; omega)
      · have HF := hideT (dec_all HN1.out HN2.out (fun j hj => HB.out j (by omega)))
        go_wp2_with fail
        go_ret
        exact ⟨ret_b HF.out.symm, HW.out⟩
  · have HF := hideT (dec_len (a := la) (b := lb) (by omega))
    have t2 : ((n1 : Int) != (n2 : Int)) = true := bne_iff_ne.2 (by omega)
    clear hn1 hn2
    go_enter Tryz.func105, Tryz.ntmps105
    go_wp2_with fail
    go_ret
    exact ⟨ret_b HF.out.symm, Below.refl _ _⟩
set_option maxHeartbeats 2000000 in
theorem equalO (w : World) (a1 a2 : Option Addr) (n1 n2 c1 c2 : Nat) (la lb : List Mp.On) (h1 : ORow w (.slice a1 n1 c1) la) (h2 : ORow w (.slice a2 n2 c2) lb) :
    Calls Tryz.prog 179 #[.slice a1 n1 c1, .slice a2 n2 c2] w fun e w' => e = .returned (.bool (decide (la = lb))) ∧ Below w.heap.size w w' := by
  obtain ⟨hn1, hl1, _, b1, o1, ha1, hc1⟩ := orow_at h1
  obtain ⟨hn2, hl2, _, b2, o2, ha2, hc2⟩ := orow_at h2
  have HN1 := hideT hn1
  have HN2 := hideT hn2
  have HC1 := hideT hc1
  have HA1 := hideT ha1
  have HC2 := hideT hc2
  have HA2 := hideT ha2
  clear hc1 ha1 hc2 ha2 h1 h2
  by_cases hne : n1 = n2
  · subst hne
    clear hn1 hn2
    go_enter Tryz.func179, Tryz.ntmps179
    go_wp2_with fail
    go_loopw [13] (fun i wr => ∃ k : Nat, k ≤ n1 ∧ i = .int .i64 k ∧ Hid (∀ (j : Nat), j < k → la[j]? = lb[j]?) ∧ Hid (Below w.heap.size w wr)) (fun i _ => n1 - (intOf i).toNat)
    case atStart => exact ⟨0, by omega, rfl, (fun j hj => absurd hj (by omega)), Below.refl _ _⟩
    case round =>
      obtain ⟨k, hk, rfl, HB, HW⟩ := hrel
      by_cases hlt : k < n1
      · obtain ⟨⟨x0, x1⟩, hx⟩ := Mp.at_lt (l := la) (k := k) (by have := HN1.out; omega)
        obtain ⟨⟨y0, y1⟩, hy⟩ := Mp.at_lt (l := lb) (k := k) (by have := HN2.out; omega)
        obtain ⟨_, d0, d1⟩ := HC1.out k _ hx
        obtain ⟨_, e0, e1⟩ := HC2.out k _ hy
        have d0 := below_cell HW.out _ _ d0
        have e0 := below_cell HW.out _ _ e0
        have d1 := below_cell HW.out _ _ d1
        have e1 := below_cell HW.out _ _ e1
        dsimp only at d0 e0 d1 e1
        obtain rfl := HA1.out (by omega)
        obtain rfl := HA2.out (by omega)
        have HX := hideT hx
        have HY := hideT hy
        clear hx hy
        have t0 : (0 : Int) ≤ (k : Int) := by omega
        have t1 : (k : Int) < (n1 : Int) := by omega
        by_cases q0 : x0 = y0
        rotate_left
        · have HF := hideT (dec_at HX.out HY.out (fun h => q0 (by simp only [Prod.mk.injEq] at h; exact h.1)))
          have q1' : ¬ x0.toList = y0.toList := fun h => q0 (toList_inj h)
          have q2' : (x0.toList == y0.toList) = false := beq_eq_false_iff_ne.2 q1'
          have q3' : (x0.toList != y0.toList) = true := bne_iff_ne.2 q1'
          clear q0
          go_wp2_with fail
          go_quiet (fail)
          go_wp2_with fail
          go_ret
          exact ⟨ret_b HF.out.symm, below_drewN HW.out _⟩
        subst q0
        by_cases q1 : x1 = y1
        rotate_left
        · have HF := hideT (dec_at HX.out HY.out (fun h => q1 (by simp only [Prod.mk.injEq] at h; exact h.2)))
          go_wp2_with fail
          go_quiet (fail)
          go_wp2_with fail
          go_ret
          exact ⟨ret_b HF.out.symm, below_drewN HW.out _⟩
        subst q1
        have HR : Hid (∀ (j : Nat), j < k + 1 → la[j]? = lb[j]?) := by
          intro j hj
          by_cases hj' : j < k
          · exact HB.out j hj'
          · obtain rfl : j = k := by omega
            rw [HX.out, HY.out]
        go_wp2_with fail
        go_quiet (fail)
        go_wp2_with fail
        refine ⟨⟨k + 1, by omega, by go_num, HR, below_drewN HW.out _⟩, ?_⟩
        first | omega | (simp [intOf]; omega)
      · have HF := hideT (dec_all HN1.out HN2.out (fun j hj => HB.out j (by omega)))
        go_wp2_with fail
        go_ret
        exact ⟨ret_b HF.out.symm, HW.out⟩
  · have HF := hideT (dec_len (a := la) (b := lb) (by omega))
    have t2 : ((n1 : Int) != (n2 : Int)) = true := bne_iff_ne.2 (by omega)
    clear hn1 hn2
    go_enter Tryz.func179, Tryz.ntmps179
    go_wp2_with fail
    go_ret
    exact ⟨ret_b HF.out.symm, Below.refl _ _⟩
set_option maxHeartbeats 2000000 in
theorem equalC (w : World) (a1 a2 : Option Addr) (n1 n2 c1 c2 : Nat) (la lb : List Mp.Cond) (h1 : CRow w (.slice a1 n1 c1) la) (h2 : CRow w (.slice a2 n2 c2) lb) :
    Calls Tryz.prog 180 #[.slice a1 n1 c1, .slice a2 n2 c2] w fun e w' => e = .returned (.bool (decide (la = lb))) ∧ Below w.heap.size w w' := by
  obtain ⟨hn1, hl1, _, b1, o1, ha1, hc1⟩ := crow_at h1
  obtain ⟨hn2, hl2, _, b2, o2, ha2, hc2⟩ := crow_at h2
  have HN1 := hideT hn1
  have HN2 := hideT hn2
  have HC1 := hideT hc1
  have HA1 := hideT ha1
  have HC2 := hideT hc2
  have HA2 := hideT ha2
  clear hc1 ha1 hc2 ha2 h1 h2
  by_cases hne : n1 = n2
  · subst hne
    clear hn1 hn2
    go_enter Tryz.func180, Tryz.ntmps180
    go_wp2_with fail
    go_loopw [13] (fun i wr => ∃ k : Nat, k ≤ n1 ∧ i = .int .i64 k ∧ Hid (∀ (j : Nat), j < k → la[j]? = lb[j]?) ∧ Hid (Below w.heap.size w wr)) (fun i _ => n1 - (intOf i).toNat)
    case atStart => exact ⟨0, by omega, rfl, (fun j hj => absurd hj (by omega)), Below.refl _ _⟩
    case round =>
      obtain ⟨k, hk, rfl, HB, HW⟩ := hrel
      by_cases hlt : k < n1
      · obtain ⟨⟨x0, x1, x2⟩, hx⟩ := Mp.at_lt (l := la) (k := k) (by have := HN1.out; omega)
        obtain ⟨⟨y0, y1, y2⟩, hy⟩ := Mp.at_lt (l := lb) (k := k) (by have := HN2.out; omega)
        obtain ⟨_, d0, d1, d2⟩ := HC1.out k _ hx
        obtain ⟨_, e0, e1, e2⟩ := HC2.out k _ hy
        have d0 := below_cell HW.out _ _ d0
        have e0 := below_cell HW.out _ _ e0
        have d1 := below_cell HW.out _ _ d1
        have e1 := below_cell HW.out _ _ e1
        have d2 := below_cell HW.out _ _ d2
        have e2 := below_cell HW.out _ _ e2
        dsimp only at d0 e0 d1 e1 d2 e2
        obtain rfl := HA1.out (by omega)
        obtain rfl := HA2.out (by omega)
        have HX := hideT hx
        have HY := hideT hy
        clear hx hy
        have t0 : (0 : Int) ≤ (k : Int) := by omega
        have t1 : (k : Int) < (n1 : Int) := by omega
        by_cases q0 : x0 = y0
        rotate_left
        · have HF := hideT (dec_at HX.out HY.out (fun h => q0 (by simp only [Prod.mk.injEq] at h; exact h.1)))
          have q1' : ¬ x0.toList = y0.toList := fun h => q0 (toList_inj h)
          have q2' : (x0.toList == y0.toList) = false := beq_eq_false_iff_ne.2 q1'
          have q3' : (x0.toList != y0.toList) = true := bne_iff_ne.2 q1'
          clear q0
          go_wp2_with fail
          go_quiet (fail)
          go_wp2_with fail
          go_ret
          exact ⟨ret_b HF.out.symm, below_drewN HW.out _⟩
        subst q0
        by_cases q1 : x1 = y1
        rotate_left
        · have HF := hideT (dec_at HX.out HY.out (fun h => q1 (by simp only [Prod.mk.injEq] at h; exact h.2.1)))
          have q1' : ¬ x1.toList = y1.toList := fun h => q1 (toList_inj h)
          have q2' : (x1.toList == y1.toList) = false := beq_eq_false_iff_ne.2 q1'
          have q3' : (x1.toList != y1.toList) = true := bne_iff_ne.2 q1'
          clear q1
          go_wp2_with fail
          go_quiet (fail)
          go_wp2_with fail
          go_ret
          exact ⟨ret_b HF.out.symm, below_drewN HW.out _⟩
        subst q1
        by_cases q2 : x2 = y2
        rotate_left
        · have HF := hideT (dec_at HX.out HY.out (fun h => q2 (by simp only [Prod.mk.injEq] at h; exact h.2.2)))
          go_wp2_with fail
          go_quiet (fail)
          go_wp2_with fail
          go_ret
          exact ⟨ret_b HF.out.symm, below_drewN HW.out _⟩
        subst q2
        have HR : Hid (∀ (j : Nat), j < k + 1 → la[j]? = lb[j]?) := by
          intro j hj
          by_cases hj' : j < k
          · exact HB.out j hj'
          · obtain rfl : j = k := by omega
            rw [HX.out, HY.out]
        go_wp2_with fail
        go_quiet (fail)
        go_wp2_with fail
        refine ⟨⟨k + 1, by omega, by go_num, HR, below_drewN HW.out _⟩, ?_⟩
        first | omega | (simp [intOf]; omega)
      · have HF := hideT (dec_all HN1.out HN2.out (fun j hj => HB.out j (by omega)))
        go_wp2_with fail
        go_ret
        exact ⟨ret_b HF.out.symm, HW.out⟩
  · have HF := hideT (dec_len (a := la) (b := lb) (by omega))
    have t2 : ((n1 : Int) != (n2 : Int)) = true := bne_iff_ne.2 (by omega)
    clear hn1 hn2
    go_enter Tryz.func180, Tryz.ntmps180
    go_wp2_with fail
    go_ret
    exact ⟨ret_b HF.out.symm, Below.refl _ _⟩
end Go.Proofs.YtdcahnaempabcabGreat
/-
  The program's SameSentries, SameItem.
-/
set_option linter.unusedSimpArgs false
set_option linter.unusedVariables false
namespace Go.Proofs.YtdcahnaempabcabGreat
open Go.RowKit
set_option maxRecDepth 100000
theorem equalOV (w : World) (a1 a2 : Option Addr) (n1 n2 c1 c2 : Nat) (la lb : List Mp.On) (h1 : ORow w (.slice a1 n1 c1) la) (h2 : ORow w (.slice a2 n2 c2) lb) (b : Bool) (hb : Hid (decide (la = lb) = b)) :
    Calls Tryz.prog 179 #[.slice a1 n1 c1, .slice a2 n2 c2] w fun e w' => e = .returned (.bool b) ∧ Below w.heap.size w w' := by
  rw [← hb.out]
  exact equalO w a1 a2 n1 n2 c1 c2 la lb h1 h2
theorem equalCV (w : World) (a1 a2 : Option Addr) (n1 n2 c1 c2 : Nat) (la lb : List Mp.Cond) (h1 : CRow w (.slice a1 n1 c1) la) (h2 : CRow w (.slice a2 n2 c2) lb) (b : Bool) (hb : Hid (decide (la = lb) = b)) :
    Calls Tryz.prog 180 #[.slice a1 n1 c1, .slice a2 n2 c2] w fun e w' => e = .returned (.bool b) ∧ Below w.heap.size w w' := by
  rw [← hb.out]
  exact equalC w a1 a2 n1 n2 c1 c2 la lb h1 h2
theorem dec_pair {α β : Type} [DecidableEq α] [DecidableEq β] (a c : α) (b d : β) : decide ((a, b) = (c, d)) = (decide (a = c) && decide (b = d)) := by
  rw [Bool.eq_iff_iff]
  simp only [Bool.and_eq_true, decide_eq_true_eq, Prod.mk.injEq]
theorem sameSentryD (w : World) (p1 p2 q1 q2 : Option Addr) (c1 c2 d1 d2 : Nat) (s1 t1 : List Mp.On) (s2 t2 : List Mp.Cond) (h1 : ORow w (.slice p1 s1.length c1) s1) (h2 : CRow w (.slice p2 s2.length c2) s2) (k1 : ORow w (.slice q1 t1.length d1) t1) (k2 : CRow w (.slice q2 t2.length d2) t2) :
    Calls Tryz.prog 158 #[.agg #[.slice p1 s1.length c1, .slice p2 s2.length c2], .agg #[.slice q1 t1.length d1, .slice q2 t2.length d2]] w fun e w' => e = .returned (.bool (decide ((s1, s2) = (t1, t2)))) ∧ Below w.heap.size w w' := by
  obtain ⟨b1, H1⟩ : ∃ y, Hid (decide (s1 = t1) = y) := ⟨_, rfl⟩
  obtain ⟨b2, H2⟩ : ∃ y, Hid (decide (s2 = t2) = y) := ⟨_, rfl⟩
  have HF : Hid (decide ((s1, s2) = (t1, t2)) = (b1 && b2)) := by show _ = _; rw [dec_pair, H1.out, H2.out]
  have R1 := hideT h1
  have R2 := hideT h2
  have K1 := hideT k1
  have K2 := hideT k2
  clear h1 h2 k1 k2
  have B0 := hideT (((Below.refl w.heap.size w).alloc (Nat.le_refl _) (.cells #[.slice p1 s1.length c1, .slice p2 s2.length c2] 25)).alloc (by simp) (.cells #[.slice q1 t1.length d1, .slice q2 t2.length d2] 25))
  have LA := hideT ((Lies.new w 25 #[.slice p1 s1.length c1, .slice p2 s2.length c2]).below ((Below.refl _ _).alloc (Nat.le_refl _) (.cells #[.slice q1 t1.length d1, .slice q2 t2.length d2] 25)))
  have LB : Hid (Lies ((w.alloc (.cells #[.slice p1 s1.length c1, .slice p2 s2.length c2] 25)).alloc (.cells #[.slice q1 t1.length d1, .slice q2 t2.length d2] 25)) (w.heap.size + 1) 25 #[.slice q1 t1.length d1, .slice q2 t2.length d2]) := by
    have := Lies.new (w.alloc (.cells #[.slice p1 s1.length c1, .slice p2 s2.length c2] 25)) 25 #[.slice q1 t1.length d1, .slice q2 t2.length d2]
    rwa [show (w.alloc (.cells #[.slice p1 s1.length c1, .slice p2 s2.length c2] 25)).heap.size = w.heap.size + 1 by simp] at this
  go_enter Tryz.func158, Tryz.ntmps158
  go_wp2_with fail
  refine (equalOV _ _ _ _ _ _ _ s1 t1 (orow_below R1.out B0.out) (orow_below K1.out B0.out) b1 H1).mono ?_
  rintro e w1 ⟨rfl, p⟩
  have B1 := hideT (B0.out.trans (p.mono B0.out.size))
  cases b1
  · go_wp2_with fail
    go_ret
    exact ⟨ret_b (by rw [HF.out]; rfl), B1.out⟩
  have x1 : w1.cell? ⟨w.heap.size, 1, none⟩ = some (.slice p2 s2.length c2) := (LA.out.below p).cell 1
  have x2 : w1.cell? ⟨w.heap.size + 1, 1, none⟩ = some (.slice q2 t2.length d2) := (LB.out.below p).cell 1
  clear p
  go_wp2_with fail
  refine (equalCV _ _ _ _ _ _ _ s2 t2 (crow_below R2.out B1.out) (crow_below K2.out B1.out) b2 H2).mono ?_
  rintro e w2 ⟨rfl, p2'⟩
  go_wp2_with fail
  go_ret
  exact ⟨ret_b (by rw [HF.out]; rfl), B1.out.trans (p2'.mono B1.out.size)⟩
theorem sameSentryV (w : World) (p1 p2 q1 q2 : Option Addr) (c1 c2 d1 d2 : Nat) (s1 t1 : List Mp.On) (s2 t2 : List Mp.Cond) (h1 : ORow w (.slice p1 s1.length c1) s1) (h2 : CRow w (.slice p2 s2.length c2) s2) (k1 : ORow w (.slice q1 t1.length d1) t1) (k2 : CRow w (.slice q2 t2.length d2) t2) (b : Bool) (hb : Hid (decide ((s1, s2) = (t1, t2)) = b)) :
    Calls Tryz.prog 158 #[.agg #[.slice p1 s1.length c1, .slice p2 s2.length c2], .agg #[.slice q1 t1.length d1, .slice q2 t2.length d2]] w fun e w' => e = .returned (.bool b) ∧ Below w.heap.size w w' := by
  rw [← hb.out]
  exact sameSentryD w p1 p2 q1 q2 c1 c2 d1 d2 s1 t1 s2 t2 h1 h2 k1 k2
set_option maxHeartbeats 4000000 in
theorem equalFuncS (w : World) (a1 a2 : Option Addr) (n1 n2 c1 c2 : Nat) (la lb : List Mp.Sent) (h1 : SRow w (.slice a1 n1 c1) la) (h2 : SRow w (.slice a2 n2 c2) lb) :
    Calls Tryz.prog 157 #[.slice a1 n1 c1, .slice a2 n2 c2, .func (.func 158) #[] #[]] w fun e w' => e = .returned (.bool (decide (la = lb))) ∧ Below w.heap.size w w' := by
  obtain ⟨hn1, hl1, _, b1, o1, ha1, hc1⟩ := srow_at h1
  obtain ⟨hn2, hl2, _, b2, o2, ha2, hc2⟩ := srow_at h2
  have HN1 := hideT hn1
  have HN2 := hideT hn2
  have HC1 := hideT hc1
  have HA1 := hideT ha1
  have HC2 := hideT hc2
  have HA2 := hideT ha2
  clear hc1 ha1 hc2 ha2 h1 h2
  by_cases hne : n1 = n2
  rotate_left
  · have HF := hideT (dec_len (a := la) (b := lb) (by omega))
    have t2 : ((n1 : Int) != (n2 : Int)) = true := bne_iff_ne.2 (by omega)
    clear hn1 hn2
    go_enter Tryz.func157, Tryz.ntmps157
    go_wp2_with fail
    go_ret
    exact ⟨ret_b HF.out.symm, Below.refl _ _⟩
  subst hne
  clear hn1 hn2
  go_enter Tryz.func157, Tryz.ntmps157
  go_wp2_with fail
  go_loopw [17] (fun i wr => ∃ k : Nat, k ≤ n1 ∧ i = .int .i64 k ∧ Hid (∀ (j : Nat), j < k → la[j]? = lb[j]?) ∧ Hid (Below w.heap.size w wr)) (fun i _ => n1 - (intOf i).toNat)
  case atStart => exact ⟨0, by omega, rfl, (fun j hj => absurd hj (by omega)), Below.refl _ _⟩
  case round =>
    obtain ⟨k, hk, rfl, HB, HW⟩ := hrel
    by_cases hlt : k < n1
    · obtain ⟨⟨s1, s2⟩, hx⟩ := Mp.at_lt (l := la) (k := k) (by have := HN1.out; omega)
      obtain ⟨⟨t1, t2⟩, hy⟩ := Mp.at_lt (l := lb) (k := k) (by have := HN2.out; omega)
      obtain ⟨p1, c3, p2, c4, r1, r2, d0, d1⟩ := HC1.out k _ hx
      obtain ⟨q1, c5, q2, c6, r3, r4, e0, e1⟩ := HC2.out k _ hy
      dsimp only at r1 r2 r3 r4 d0 d1 e0 e1
      have d0 := below_cell HW.out _ _ d0
      have d1 := below_cell HW.out _ _ d1
      have e0 := below_cell HW.out _ _ e0
      have e1 := below_cell HW.out _ _ e1
      have y0 := cell_lt e0
      obtain rfl := HA1.out (by omega)
      obtain rfl := HA2.out (by omega)
      have HX := hideT hx
      have HY := hideT hy
      have BA := hideT (((Below.refl wr.heap.size wr).alloc (Nat.le_refl _) (.cells #[.slice p1 s1.length c3, .slice p2 s2.length c4] 25)).alloc (by simp) (.cells #[.slice q1 t1.length c5, .slice q2 t2.length c6] 25))
      have BW := hideT (HW.out.trans (BA.out.mono HW.out.size))
      have R1 := hideT (orow_below r1 BW.out)
      have R2 := hideT (crow_below r2 BW.out)
      have R3 := hideT (orow_below r3 BW.out)
      have R4 := hideT (crow_below r4 BW.out)
      clear hx hy r1 r2 r3 r4
      have t0 : (0 : Int) ≤ (k : Int) := by omega
      have t1' : (k : Int) < (n1 : Int) := by omega
      obtain ⟨bb, H1⟩ : ∃ z, Hid (decide ((s1, s2) = (t1, t2)) = z) := ⟨_, rfl⟩
      go_wp2_with fail
      refine (sameSentryV _ p1 p2 q1 q2 c3 c4 c5 c6 s1 t1 s2 t2 R1.out R2.out R3.out R4.out bb H1).mono ?_
      rintro e w1 ⟨rfl, p⟩
      have BW1 := hideT (BW.out.trans (p.mono BW.out.size))
      clear p d0 d1 e0 e1
      cases bb
      · have HF := hideT (dec_at HX.out HY.out (of_decide_eq_false H1.out))
        go_wp2_with fail
        go_ret
        exact ⟨ret_b HF.out.symm, BW1.out⟩
      · have HR : Hid (∀ (j : Nat), j < k + 1 → la[j]? = lb[j]?) := by
          intro j hj
          by_cases hj' : j < k
          · exact HB.out j hj'
          · obtain rfl : j = k := by omega
            rw [HX.out, HY.out, of_decide_eq_true H1.out]
        go_wp2_with fail
        refine ⟨⟨k + 1, by omega, by go_num, HR, BW1⟩, ?_⟩
        first | omega | (simp [intOf]; omega)
    · have HF := hideT (dec_all HN1.out HN2.out (fun j hj => HB.out j (by omega)))
      go_wp2_with fail
      go_ret
      exact ⟨ret_b HF.out.symm, HW.out⟩
theorem sameSentriesD (w : World) (a1 a2 : Option Addr) (n1 n2 c1 c2 : Nat) (la lb : List Mp.Sent) (h1 : SRow w (.slice a1 n1 c1) la) (h2 : SRow w (.slice a2 n2 c2) lb) (b : Bool) (hb : Hid (decide (la = lb) = b)) :
    Calls Tryz.prog 138 #[.slice a1 n1 c1, .slice a2 n2 c2] w fun e w' => e = .returned (.bool b) ∧ Below w.heap.size w w' := by
  have R1 := hideT h1
  have R2 := hideT h2
  clear h1 h2
  go_enter Tryz.func138, Tryz.ntmps138
  go_wp2_with fail
  refine (equalFuncS w a1 a2 n1 n2 c1 c2 la lb R1.out R2.out).mono ?_
  rintro e w1 ⟨rfl, p⟩
  go_wp2_with fail
  go_ret
  exact ⟨ret_b hb.out, p⟩
end Go.Proofs.YtdcahnaempabcabGreat
/-
  The program's SameItem, Same.
-/
set_option linter.unusedSimpArgs false
set_option linter.unusedVariables false
namespace Go.Proofs.YtdcahnaempabcabGreat
open Go.RowKit
set_option maxRecDepth 100000
namespace Mp
/-- Two items are one; two rows of items; two models. -/
def eqI (x y : Item) : Bool := decide (x.id = y.id) && (decide (x.kind = y.kind) && (decide (x.parent = y.parent) && (decide (x.req = y.req) && (decide (x.ticks = y.ticks) && (decide (x.entry = y.entry) && decide (x.exit = y.exit))))))
def eqIs : List Item → List Item → Bool
  | [], [] => true
  | x :: r, y :: s => eqI x y && eqIs r s
  | _, _ => false
def eqM (x y : Model) : Bool := decide (x.files = y.files) && eqIs x.items y.items
theorem eqI_iff (x y : Item) : eqI x y = true ↔ x = y := by
  obtain ⟨x0, x1, x2, x3, x4, x5, x6⟩ := x
  obtain ⟨y0, y1, y2, y3, y4, y5, y6⟩ := y
  simp only [eqI, Bool.and_eq_true, decide_eq_true_eq, Item.mk.injEq]
theorem eqIs_iff : ∀ (a b : List Item), eqIs a b = true ↔ a = b
  | [], [] => by simp [eqIs]
  | [], y :: s => by simp [eqIs]
  | x :: r, [] => by simp [eqIs]
  | x :: r, y :: s => by simp only [eqIs, Bool.and_eq_true, eqI_iff, eqIs_iff r s, List.cons.injEq]
theorem eqM_iff (x y : Model) : eqM x y = true ↔ x = y := by
  obtain ⟨x0, x1⟩ := x
  obtain ⟨y0, y1⟩ := y
  simp only [eqM, Bool.and_eq_true, decide_eq_true_eq, eqIs_iff, Model.mk.injEq]
theorem eqIs_no {a b : List Item} (h : a ≠ b) : eqIs a b = false := by
  cases e : eqIs a b
  · rfl
  · exact absurd ((eqIs_iff a b).1 e) h
theorem eqIs_len {a b : List Item} (h : a.length ≠ b.length) : eqIs a b = false := eqIs_no fun e => h (by rw [e])
theorem eqIs_at {a b : List Item} {k : Nat} {x y : Item} (h1 : a[k]? = some x) (h2 : b[k]? = some y) (h : eqI x y = false) : eqIs a b = false := eqIs_no fun e => by
  rw [e, h2] at h1
  have := (eqI_iff x y).2 (Option.some.inj h1).symm
  rw [h] at this
  exact absurd this (by decide)
theorem eqIs_all {a b : List Item} {n : Nat} (h1 : n = a.length) (h2 : n = b.length) (h : ∀ (j : Nat), j < n → a[j]? = b[j]?) : eqIs a b = true := by
  refine (eqIs_iff a b).2 (List.ext_getElem? fun j => ?_)
  by_cases hj : j < n
  · exact h j hj
  · rw [List.getElem?_eq_none (by omega), List.getElem?_eq_none (by omega)]
end Mp
set_option maxHeartbeats 4000000 in
theorem sameItemD (w : World) (x0 y0 : ByteArray) (x1 y1 : Int) (x2 y2 : ByteArray) (x3 y3 : Bool) (x4 y4 : Int) (x5 y5 x6 y6 : List Mp.Sent) (p5 p6 q5 q6 : Option Addr) (c5 c6 d5 d6 : Nat)
    (h5 : SRow w (.slice p5 x5.length c5) x5) (h6 : SRow w (.slice p6 x6.length c6) x6) (k5 : SRow w (.slice q5 y5.length d5) y5) (k6 : SRow w (.slice q6 y6.length d6) y6) (b : Bool) (hb : Hid (Mp.eqI ⟨x0, x1, x2, x3, x4, x5, x6⟩ ⟨y0, y1, y2, y3, y4, y5, y6⟩ = b)) :
    Calls Tryz.prog 107 #[.agg #[.string x0, .int .i64 x1, .string x2, .bool x3, .int .i64 x4, .slice p5 x5.length c5, .slice p6 x6.length c6], .agg #[.string y0, .int .i64 y1, .string y2, .bool y3, .int .i64 y4, .slice q5 y5.length d5, .slice q6 y6.length d6]] w fun e w' => e = .returned (.bool b) ∧ Below w.heap.size w w' := by
  have R5 := hideT h5
  have R6 := hideT h6
  have K5 := hideT k5
  have K6 := hideT k6
  clear h5 h6 k5 k6
  have B0 := hideT (((Below.refl w.heap.size w).alloc (Nat.le_refl _) (.cells #[.string x0, .int .i64 x1, .string x2, .bool x3, .int .i64 x4, .slice p5 x5.length c5, .slice p6 x6.length c6] 29)).alloc (by simp) (.cells #[.string y0, .int .i64 y1, .string y2, .bool y3, .int .i64 y4, .slice q5 y5.length d5, .slice q6 y6.length d6] 29))
  have LA := hideT ((Lies.new w 29 #[.string x0, .int .i64 x1, .string x2, .bool x3, .int .i64 x4, .slice p5 x5.length c5, .slice p6 x6.length c6]).below ((Below.refl _ _).alloc (Nat.le_refl _) (.cells #[.string y0, .int .i64 y1, .string y2, .bool y3, .int .i64 y4, .slice q5 y5.length d5, .slice q6 y6.length d6] 29)))
  have LB : Hid (Lies ((w.alloc (.cells #[.string x0, .int .i64 x1, .string x2, .bool x3, .int .i64 x4, .slice p5 x5.length c5, .slice p6 x6.length c6] 29)).alloc (.cells #[.string y0, .int .i64 y1, .string y2, .bool y3, .int .i64 y4, .slice q5 y5.length d5, .slice q6 y6.length d6] 29)) (w.heap.size + 1) 29 #[.string y0, .int .i64 y1, .string y2, .bool y3, .int .i64 y4, .slice q5 y5.length d5, .slice q6 y6.length d6]) := by
    have := Lies.new (w.alloc (.cells #[.string x0, .int .i64 x1, .string x2, .bool x3, .int .i64 x4, .slice p5 x5.length c5, .slice p6 x6.length c6] 29)) 29 #[.string y0, .int .i64 y1, .string y2, .bool y3, .int .i64 y4, .slice q5 y5.length d5, .slice q6 y6.length d6]
    rwa [show (w.alloc (.cells #[.string x0, .int .i64 x1, .string x2, .bool x3, .int .i64 x4, .slice p5 x5.length c5, .slice p6 x6.length c6] 29)).heap.size = w.heap.size + 1 by simp] at this
  go_enter Tryz.func107, Tryz.ntmps107
  by_cases g0 : x0 = y0
  rotate_left
  · have HF : Hid (b = false) := by rw [← hb.out]; simp [Mp.eqI, g0, Hid]
    have q1' : ¬ x0.toList = y0.toList := fun h => g0 (toList_inj h)
    have q2' : (x0.toList == y0.toList) = false := beq_eq_false_iff_ne.2 q1'
    go_wp2_with fail
    go_ret
    exact ⟨ret_b HF.out.symm, B0.out⟩
  subst g0
  by_cases g1 : x1 = y1
  rotate_left
  · have HF : Hid (b = false) := by rw [← hb.out]; simp [Mp.eqI, g1, Hid]
    go_wp2_with fail
    go_ret
    exact ⟨ret_b HF.out.symm, B0.out⟩
  subst g1
  by_cases g2 : x2 = y2
  rotate_left
  · have HF : Hid (b = false) := by rw [← hb.out]; simp [Mp.eqI, g2, Hid]
    have q1' : ¬ x2.toList = y2.toList := fun h => g2 (toList_inj h)
    have q2' : (x2.toList == y2.toList) = false := beq_eq_false_iff_ne.2 q1'
    go_wp2_with fail
    go_ret
    exact ⟨ret_b HF.out.symm, B0.out⟩
  subst g2
  by_cases g3 : x3 = y3
  rotate_left
  · have HF : Hid (b = false) := by rw [← hb.out]; simp [Mp.eqI, g3, Hid]
    have q1' : (x3 == y3) = false := beq_eq_false_iff_ne.2 g3
    go_wp2_with fail
    go_ret
    exact ⟨ret_b HF.out.symm, B0.out⟩
  subst g3
  by_cases g4 : x4 = y4
  rotate_left
  · have HF : Hid (b = false) := by rw [← hb.out]; simp [Mp.eqI, g4, Hid]
    go_wp2_with fail
    go_ret
    exact ⟨ret_b HF.out.symm, B0.out⟩
  subst g4
  obtain ⟨b1, H1⟩ : ∃ y, Hid (decide (x5 = y5) = y) := ⟨_, rfl⟩
  obtain ⟨b2, H2⟩ : ∃ y, Hid (decide (x6 = y6) = y) := ⟨_, rfl⟩
  have HF : Hid (b = (b1 && b2)) := by show _ = _; rw [← hb.out, ← H1.out, ← H2.out]; simp [Mp.eqI]
  go_wp2_with fail
  refine (sameSentriesD _ _ _ _ _ _ _ x5 y5 (srow_below R5.out B0.out) (srow_below K5.out B0.out) b1 H1).mono ?_
  rintro e w1 ⟨rfl, p⟩
  have B1 := hideT (B0.out.trans (p.mono B0.out.size))
  cases b1
  · go_wp2_with fail
    go_ret
    exact ⟨ret_b (by rw [HF.out]; rfl), B1.out⟩
  have z1 : w1.cell? ⟨w.heap.size, 6, none⟩ = some (.slice p6 x6.length c6) := (LA.out.below p).cell 6
  have z2 : w1.cell? ⟨w.heap.size + 1, 6, none⟩ = some (.slice q6 y6.length d6) := (LB.out.below p).cell 6
  clear p
  go_wp2_with fail
  refine (sameSentriesD _ _ _ _ _ _ _ x6 y6 (srow_below R6.out B1.out) (srow_below K6.out B1.out) b2 H2).mono ?_
  rintro e w2 ⟨rfl, p2'⟩
  go_wp2_with fail
  go_ret
  exact ⟨ret_b (by rw [HF.out]; rfl), B1.out.trans (p2'.mono B1.out.size)⟩
end Go.Proofs.YtdcahnaempabcabGreat
/-
  The program's Same.
-/
set_option linter.unusedSimpArgs false
set_option linter.unusedVariables false
namespace Go.Proofs.YtdcahnaempabcabGreat
open Go.RowKit
set_option maxRecDepth 100000
set_option maxHeartbeats 4000000 in
theorem equalFuncI (w : World) (a1 a2 : Option Addr) (n1 n2 c1 c2 : Nat) (la lb : List Mp.Item) (h1 : IRow w (.slice a1 n1 c1) la) (h2 : IRow w (.slice a2 n2 c2) lb) :
    Calls Tryz.prog 106 #[.slice a1 n1 c1, .slice a2 n2 c2, .func (.func 107) #[] #[]] w fun e w' => e = .returned (.bool (Mp.eqIs la lb)) ∧ Below w.heap.size w w' := by
  obtain ⟨hn1, hl1, _, b1, o1, ha1, hc1⟩ := irow_at h1
  obtain ⟨hn2, hl2, _, b2, o2, ha2, hc2⟩ := irow_at h2
  have HN1 := hideT hn1
  have HN2 := hideT hn2
  have HC1 := hideT hc1
  have HA1 := hideT ha1
  have HC2 := hideT hc2
  have HA2 := hideT ha2
  clear hc1 ha1 hc2 ha2 h1 h2
  by_cases hne : n1 = n2
  rotate_left
  · have HF := hideT (Mp.eqIs_len (a := la) (b := lb) (by omega))
    have t2 : ((n1 : Int) != (n2 : Int)) = true := bne_iff_ne.2 (by omega)
    clear hn1 hn2
    go_enter Tryz.func106, Tryz.ntmps106
    go_wp2_with fail
    go_ret
    exact ⟨ret_b HF.out.symm, Below.refl _ _⟩
  subst hne
  clear hn1 hn2
  go_enter Tryz.func106, Tryz.ntmps106
  go_wp2_with fail
  go_loopw [17] (fun i wr => ∃ k : Nat, k ≤ n1 ∧ i = .int .i64 k ∧ Hid (∀ (j : Nat), j < k → la[j]? = lb[j]?) ∧ Hid (Below w.heap.size w wr)) (fun i _ => n1 - (intOf i).toNat)
  case atStart => exact ⟨0, by omega, rfl, (fun j hj => absurd hj (by omega)), Below.refl _ _⟩
  case round =>
    obtain ⟨k, hk, rfl, HB, HW⟩ := hrel
    by_cases hlt : k < n1
    · obtain ⟨⟨x0, x1, x2, x3, x4, x5, x6⟩, hx⟩ := Mp.at_lt (l := la) (k := k) (by have := HN1.out; omega)
      obtain ⟨⟨y0, y1, y2, y3, y4, y5, y6⟩, hy⟩ := Mp.at_lt (l := lb) (k := k) (by have := HN2.out; omega)
      obtain ⟨p5, c5, p6, c6, IX⟩ := HC1.out k _ hx
      obtain ⟨q5, d5, q6, d6, IY⟩ := HC2.out k _ hy
      have IX := IX.turn (below_cell HW.out)
      have IY := IY.turn (below_cell HW.out)
      obtain ⟨_, _, r1, r2, u0, u1, u2, u3, u4, u5, u6⟩ := IX
      obtain ⟨_, _, r3, r4, v0, v1, v2, v3, v4, v5, v6⟩ := IY
      dsimp only at r1 r2 r3 r4 u0 u1 u2 u3 u4 u5 u6 v0 v1 v2 v3 v4 v5 v6
      obtain rfl := HA1.out (by omega)
      obtain rfl := HA2.out (by omega)
      have HX := hideT hx
      have HY := hideT hy
      have BA := hideT (((Below.refl wr.heap.size wr).alloc (Nat.le_refl _) (.cells #[.string x0, .int .i64 x1, .string x2, .bool x3, .int .i64 x4, .slice p5 x5.length c5, .slice p6 x6.length c6] 29)).alloc (by simp) (.cells #[.string y0, .int .i64 y1, .string y2, .bool y3, .int .i64 y4, .slice q5 y5.length d5, .slice q6 y6.length d6] 29))
      have BW := hideT (HW.out.trans (BA.out.mono HW.out.size))
      have R1 := hideT (srow_below r1 BA.out)
      have R2 := hideT (srow_below r2 BA.out)
      have R3 := hideT (srow_below r3 BA.out)
      have R4 := hideT (srow_below r4 BA.out)
      have y0' := cell_lt v0
      clear hx hy r1 r2 r3 r4
      have t0 : (0 : Int) ≤ (k : Int) := by omega
      have t1' : (k : Int) < (n1 : Int) := by omega
      obtain ⟨bb, H1⟩ : ∃ z, Hid (Mp.eqI ⟨x0, x1, x2, x3, x4, x5, x6⟩ ⟨y0, y1, y2, y3, y4, y5, y6⟩ = z) := ⟨_, rfl⟩
      go_wp2_with fail
      refine (sameItemD _ x0 y0 x1 y1 x2 y2 x3 y3 x4 y4 x5 y5 x6 y6 p5 p6 q5 q6 c5 c6 d5 d6 R1.out R2.out R3.out R4.out bb H1).mono ?_
      rintro e w1 ⟨rfl, p⟩
      have BW1 := hideT (BW.out.trans (p.mono BW.out.size))
      clear p u0 u1 u2 u3 u4 u5 u6 v0 v1 v2 v3 v4 v5 v6
      cases bb
      · have HF := hideT (Mp.eqIs_at HX.out HY.out H1.out)
        go_wp2_with fail
        go_ret
        exact ⟨ret_b HF.out.symm, BW1.out⟩
      · have HR : Hid (∀ (j : Nat), j < k + 1 → la[j]? = lb[j]?) := by
          intro j hj
          by_cases hj' : j < k
          · exact HB.out j hj'
          · obtain rfl : j = k := by omega
            rw [HX.out, HY.out, (Mp.eqI_iff _ _).1 H1.out]
        go_wp2_with fail
        refine ⟨⟨k + 1, by omega, by go_num, HR, BW1⟩, ?_⟩
        first | omega | (simp [intOf]; omega)
    · have HF := hideT (Mp.eqIs_all HN1.out HN2.out (fun j hj => HB.out j (by omega)))
      go_wp2_with fail
      go_ret
      exact ⟨ret_b HF.out.symm, HW.out⟩
theorem equalSV (w : World) (a1 a2 : Option Addr) (n1 n2 c1 c2 : Nat) (la lb : List ByteArray) (h1 : FRow w (.slice a1 n1 c1) la) (h2 : FRow w (.slice a2 n2 c2) lb) (b : Bool) (hb : Hid (decide (la = lb) = b)) :
    Calls Tryz.prog 105 #[.slice a1 n1 c1, .slice a2 n2 c2] w fun e w' => e = .returned (.bool b) ∧ Below w.heap.size w w' := by
  rw [← hb.out]
  exact equalS w a1 a2 n1 n2 c1 c2 la lb h1 h2
theorem sameD (w : World) (p1 p2 q1 q2 : Option Addr) (c1 c2 d1 d2 : Nat) (x y : Mp.Model) (hx : ModelAt w p1 c1 p2 c2 x) (hy : ModelAt w q1 d1 q2 d2 y) (b : Bool) (hb : Hid (Mp.eqM x y = b)) :
    Calls Tryz.prog 63 #[.agg #[.slice p1 x.files.length c1, .slice p2 x.items.length c2], .agg #[.slice q1 y.files.length d1, .slice q2 y.items.length d2]] w fun e w' => e = .returned (.bool b) ∧ Below w.heap.size w w' := by
  obtain ⟨s1, s2⟩ := x
  obtain ⟨t1, t2⟩ := y
  obtain ⟨h1, h2⟩ := hx
  obtain ⟨k1, k2⟩ := hy
  dsimp only at h1 h2 k1 k2
  obtain ⟨b1, H1⟩ : ∃ y, Hid (decide (s1 = t1) = y) := ⟨_, rfl⟩
  obtain ⟨b2, H2⟩ : ∃ y, Hid (Mp.eqIs s2 t2 = y) := ⟨_, rfl⟩
  have HF : Hid (b = (b1 && b2)) := by show _ = _; rw [← hb.out, ← H1.out, ← H2.out]; rfl
  have R1 := hideT h1
  have R2 := hideT h2
  have K1 := hideT k1
  have K2 := hideT k2
  clear h1 h2 k1 k2
  have B0 := hideT (((Below.refl w.heap.size w).alloc (Nat.le_refl _) (.cells #[.slice p1 s1.length c1, .slice p2 s2.length c2] 32)).alloc (by simp) (.cells #[.slice q1 t1.length d1, .slice q2 t2.length d2] 32))
  have LA := hideT ((Lies.new w 32 #[.slice p1 s1.length c1, .slice p2 s2.length c2]).below ((Below.refl _ _).alloc (Nat.le_refl _) (.cells #[.slice q1 t1.length d1, .slice q2 t2.length d2] 32)))
  have LB : Hid (Lies ((w.alloc (.cells #[.slice p1 s1.length c1, .slice p2 s2.length c2] 32)).alloc (.cells #[.slice q1 t1.length d1, .slice q2 t2.length d2] 32)) (w.heap.size + 1) 32 #[.slice q1 t1.length d1, .slice q2 t2.length d2]) := by
    have := Lies.new (w.alloc (.cells #[.slice p1 s1.length c1, .slice p2 s2.length c2] 32)) 32 #[.slice q1 t1.length d1, .slice q2 t2.length d2]
    rwa [show (w.alloc (.cells #[.slice p1 s1.length c1, .slice p2 s2.length c2] 32)).heap.size = w.heap.size + 1 by simp] at this
  go_enter Tryz.func63, Tryz.ntmps63
  go_wp2_with fail
  refine (equalSV _ _ _ _ _ _ _ s1 t1 (frow_below R1.out B0.out) (frow_below K1.out B0.out) b1 H1).mono ?_
  rintro e w1 ⟨rfl, p⟩
  have B1 := hideT (B0.out.trans (p.mono B0.out.size))
  cases b1
  · go_wp2_with fail
    go_ret
    exact ⟨ret_b (by rw [HF.out]; rfl), B1.out⟩
  have x1 : w1.cell? ⟨w.heap.size, 1, none⟩ = some (.slice p2 s2.length c2) := (LA.out.below p).cell 1
  have x2 : w1.cell? ⟨w.heap.size + 1, 1, none⟩ = some (.slice q2 t2.length d2) := (LB.out.below p).cell 1
  clear p
  go_wp2_with fail
  refine (equalFuncI _ _ _ _ _ _ _ s2 t2 (irow_below R2.out B1.out) (irow_below K2.out B1.out)).mono ?_
  rintro e w2 ⟨rfl, p2'⟩
  go_wp2_with fail
  go_ret
  exact ⟨ret_b (by rw [HF.out, H2.out]; rfl), B1.out.trans (p2'.mono B1.out.size)⟩
end Go.Proofs.YtdcahnaempabcabGreat
