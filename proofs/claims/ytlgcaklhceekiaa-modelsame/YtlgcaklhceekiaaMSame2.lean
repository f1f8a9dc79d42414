/-
  The program's SameSentries, SameItem.
-/
import Derived.Test.YtlgcaklhceekiaaMSame1
set_option linter.unusedSimpArgs false
set_option linter.unusedVariables false
namespace Go.Proofs.Ytlgcaklhceekiaa
open Go.RowKit
set_option maxRecDepth 100000
theorem equalOV (w : World) (a1 a2 : Option Addr) (n1 n2 c1 c2 : Nat) (la lb : List Mp.On) (h1 : ORow w (.slice a1 n1 c1) la) (h2 : ORow w (.slice a2 n2 c2) lb) (b : Bool) (hb : Hid (decide (la = lb) = b)) :
    Calls Try.prog 28 #[.slice a1 n1 c1, .slice a2 n2 c2] w fun e w' => e = .returned (.bool b) ∧ Below w.heap.size w w' := by
  rw [← hb.out]
  exact equalO w a1 a2 n1 n2 c1 c2 la lb h1 h2
theorem equalCV (w : World) (a1 a2 : Option Addr) (n1 n2 c1 c2 : Nat) (la lb : List Mp.Cond) (h1 : CRow w (.slice a1 n1 c1) la) (h2 : CRow w (.slice a2 n2 c2) lb) (b : Bool) (hb : Hid (decide (la = lb) = b)) :
    Calls Try.prog 29 #[.slice a1 n1 c1, .slice a2 n2 c2] w fun e w' => e = .returned (.bool b) ∧ Below w.heap.size w w' := by
  rw [← hb.out]
  exact equalC w a1 a2 n1 n2 c1 c2 la lb h1 h2
theorem dec_pair {α β : Type} [DecidableEq α] [DecidableEq β] (a c : α) (b d : β) : decide ((a, b) = (c, d)) = (decide (a = c) && decide (b = d)) := by
  rw [Bool.eq_iff_iff]
  simp only [Bool.and_eq_true, decide_eq_true_eq, Prod.mk.injEq]
theorem sameSentryD (w : World) (p1 p2 q1 q2 : Option Addr) (c1 c2 d1 d2 : Nat) (s1 t1 : List Mp.On) (s2 t2 : List Mp.Cond) (h1 : ORow w (.slice p1 s1.length c1) s1) (h2 : CRow w (.slice p2 s2.length c2) s2) (k1 : ORow w (.slice q1 t1.length d1) t1) (k2 : CRow w (.slice q2 t2.length d2) t2) :
    Calls Try.prog 16 #[.agg #[.slice p1 s1.length c1, .slice p2 s2.length c2], .agg #[.slice q1 t1.length d1, .slice q2 t2.length d2]] w fun e w' => e = .returned (.bool (decide ((s1, s2) = (t1, t2)))) ∧ Below w.heap.size w w' := by
  obtain ⟨b1, H1⟩ : ∃ y, Hid (decide (s1 = t1) = y) := ⟨_, rfl⟩
  obtain ⟨b2, H2⟩ : ∃ y, Hid (decide (s2 = t2) = y) := ⟨_, rfl⟩
  have HF : Hid (decide ((s1, s2) = (t1, t2)) = (b1 && b2)) := by show _ = _; rw [dec_pair, H1.out, H2.out]
  have R1 := hideT h1
  have R2 := hideT h2
  have K1 := hideT k1
  have K2 := hideT k2
  clear h1 h2 k1 k2
  have B0 := hideT (((Below.refl w.heap.size w).alloc (Nat.le_refl _) (.cells #[.slice p1 s1.length c1, .slice p2 s2.length c2] 38)).alloc (by simp) (.cells #[.slice q1 t1.length d1, .slice q2 t2.length d2] 38))
  have LA := hideT ((Lies.new w 38 #[.slice p1 s1.length c1, .slice p2 s2.length c2]).below ((Below.refl _ _).alloc (Nat.le_refl _) (.cells #[.slice q1 t1.length d1, .slice q2 t2.length d2] 38)))
  have LB : Hid (Lies ((w.alloc (.cells #[.slice p1 s1.length c1, .slice p2 s2.length c2] 38)).alloc (.cells #[.slice q1 t1.length d1, .slice q2 t2.length d2] 38)) (w.heap.size + 1) 38 #[.slice q1 t1.length d1, .slice q2 t2.length d2]) := by
    have := Lies.new (w.alloc (.cells #[.slice p1 s1.length c1, .slice p2 s2.length c2] 38)) 38 #[.slice q1 t1.length d1, .slice q2 t2.length d2]
    rwa [show (w.alloc (.cells #[.slice p1 s1.length c1, .slice p2 s2.length c2] 38)).heap.size = w.heap.size + 1 by simp] at this
  go_enter Try.func16, Try.ntmps16
  go_wp2_with fail
  refine (equalOV _ _ _ _ _ _ _ s1 t1 (orow_below R1.out B0.out) (orow_below K1.out B0.out) b1 H1).mono ?_
  rintro e w1 ⟨rfl, p⟩
  have B1 := hideT (B0.out.trans (p.mono B0.out.size))
  cases b1
  · go_wp2_with fail
    go_ret
    exact ⟨ret_b (by rw [HF.out]; rfl), B1.out⟩
  have x1 : w1.cell? ⟨w.heap.size, 1, none⟩ = some (.slice p2 s2.length c2) := (LA.out.below p).cell 1
  have x2 : w1.cell? ⟨w.heap.size + 1, 1, none⟩ = some (.slice q2 t2.length d2) := (LB.out.below p).cell 1
  clear p
  go_wp2_with fail
  refine (equalCV _ _ _ _ _ _ _ s2 t2 (crow_below R2.out B1.out) (crow_below K2.out B1.out) b2 H2).mono ?_
  rintro e w2 ⟨rfl, p2'⟩
  go_wp2_with fail
  go_ret
  exact ⟨ret_b (by rw [HF.out]; rfl), B1.out.trans (p2'.mono B1.out.size)⟩
theorem sameSentryV (w : World) (p1 p2 q1 q2 : Option Addr) (c1 c2 d1 d2 : Nat) (s1 t1 : List Mp.On) (s2 t2 : List Mp.Cond) (h1 : ORow w (.slice p1 s1.length c1) s1) (h2 : CRow w (.slice p2 s2.length c2) s2) (k1 : ORow w (.slice q1 t1.length d1) t1) (k2 : CRow w (.slice q2 t2.length d2) t2) (b : Bool) (hb : Hid (decide ((s1, s2) = (t1, t2)) = b)) :
    Calls Try.prog 16 #[.agg #[.slice p1 s1.length c1, .slice p2 s2.length c2], .agg #[.slice q1 t1.length d1, .slice q2 t2.length d2]] w fun e w' => e = .returned (.bool b) ∧ Below w.heap.size w w' := by
  rw [← hb.out]
  exact sameSentryD w p1 p2 q1 q2 c1 c2 d1 d2 s1 t1 s2 t2 h1 h2 k1 k2
set_option maxHeartbeats 4000000 in
theorem equalFuncS (w : World) (a1 a2 : Option Addr) (n1 n2 c1 c2 : Nat) (la lb : List Mp.Sent) (h1 : SRow w (.slice a1 n1 c1) la) (h2 : SRow w (.slice a2 n2 c2) lb) :
    Calls Try.prog 15 #[.slice a1 n1 c1, .slice a2 n2 c2, .func (.func 16) #[] #[]] w fun e w' => e = .returned (.bool (decide (la = lb))) ∧ Below w.heap.size w w' := by
  obtain ⟨hn1, hl1, _, b1, o1, ha1, hc1⟩ := srow_at h1
  obtain ⟨hn2, hl2, _, b2, o2, ha2, hc2⟩ := srow_at h2
  have HN1 := hideT hn1
  have HN2 := hideT hn2
  have HC1 := hideT hc1
  have HA1 := hideT ha1
  have HC2 := hideT hc2
  have HA2 := hideT ha2
  clear hc1 ha1 hc2 ha2 h1 h2
  by_cases hne : n1 = n2
  rotate_left
  · have HF := hideT (dec_len (a := la) (b := lb) (by omega))
    have t2 : ((n1 : Int) != (n2 : Int)) = true := bne_iff_ne.2 (by omega)
    clear hn1 hn2
    go_enter Try.func15, Try.ntmps15
    go_wp2_with fail
    go_ret
    exact ⟨ret_b HF.out.symm, Below.refl _ _⟩
  subst hne
  clear hn1 hn2
  go_enter Try.func15, Try.ntmps15
  go_wp2_with fail
  go_loopw [17] (fun i wr => ∃ k : Nat, k ≤ n1 ∧ i = .int .i64 k ∧ Hid (∀ (j : Nat), j < k → la[j]? = lb[j]?) ∧ Hid (Below w.heap.size w wr)) (fun i _ => n1 - (intOf i).toNat)
  case atStart => exact ⟨0, by omega, rfl, (fun j hj => absurd hj (by omega)), Below.refl _ _⟩
  case round =>
    obtain ⟨k, hk, rfl, HB, HW⟩ := hrel
    by_cases hlt : k < n1
    · obtain ⟨⟨s1, s2⟩, hx⟩ := Mp.at_lt (l := la) (k := k) (by have := HN1.out; omega)
      obtain ⟨⟨t1, t2⟩, hy⟩ := Mp.at_lt (l := lb) (k := k) (by have := HN2.out; omega)
      obtain ⟨p1, c3, p2, c4, r1, r2, d0, d1⟩ := HC1.out k _ hx
      obtain ⟨q1, c5, q2, c6, r3, r4, e0, e1⟩ := HC2.out k _ hy
      dsimp only at r1 r2 r3 r4 d0 d1 e0 e1
      have d0 := below_cell HW.out _ _ d0
      have d1 := below_cell HW.out _ _ d1
      have e0 := below_cell HW.out _ _ e0
      have e1 := below_cell HW.out _ _ e1
      have y0 := cell_lt e0
      obtain rfl := HA1.out (by omega)
      obtain rfl := HA2.out (by omega)
      have HX := hideT hx
      have HY := hideT hy
      have BA := hideT (((Below.refl wr.heap.size wr).alloc (Nat.le_refl _) (.cells #[.slice p1 s1.length c3, .slice p2 s2.length c4] 38)).alloc (by simp) (.cells #[.slice q1 t1.length c5, .slice q2 t2.length c6] 38))
      have BW := hideT (HW.out.trans (BA.out.mono HW.out.size))
      have R1 := hideT (orow_below r1 BW.out)
      have R2 := hideT (crow_below r2 BW.out)
      have R3 := hideT (orow_below r3 BW.out)
      have R4 := hideT (crow_below r4 BW.out)
      clear hx hy r1 r2 r3 r4
      have t0 : (0 : Int) ≤ (k : Int) := by omega
      have t1' : (k : Int) < (n1 : Int) := by omega
      obtain ⟨bb, H1⟩ : ∃ z, Hid (decide ((s1, s2) = (t1, t2)) = z) := ⟨_, rfl⟩
      go_wp2_with fail
      refine (sameSentryV _ p1 p2 q1 q2 c3 c4 c5 c6 s1 t1 s2 t2 R1.out R2.out R3.out R4.out bb H1).mono ?_
      rintro e w1 ⟨rfl, p⟩
      have BW1 := hideT (BW.out.trans (p.mono BW.out.size))
      clear p d0 d1 e0 e1
      cases bb
      · have HF := hideT (dec_at HX.out HY.out (of_decide_eq_false H1.out))
        go_wp2_with fail
        go_ret
        exact ⟨ret_b HF.out.symm, BW1.out⟩
      · have HR : Hid (∀ (j : Nat), j < k + 1 → la[j]? = lb[j]?) := by
          intro j hj
          by_cases hj' : j < k
          · exact HB.out j hj'
          · obtain rfl : j = k := by omega
            rw [HX.out, HY.out, of_decide_eq_true H1.out]
        go_wp2_with fail
        refine ⟨⟨k + 1, by omega, by go_num, HR, BW1⟩, ?_⟩
        first | omega | (simp [intOf]; omega)
    · have HF := hideT (dec_all HN1.out HN2.out (fun j hj => HB.out j (by omega)))
      go_wp2_with fail
      go_ret
      exact ⟨ret_b HF.out.symm, HW.out⟩
theorem sameSentriesD (w : World) (a1 a2 : Option Addr) (n1 n2 c1 c2 : Nat) (la lb : List Mp.Sent) (h1 : SRow w (.slice a1 n1 c1) la) (h2 : SRow w (.slice a2 n2 c2) lb) (b : Bool) (hb : Hid (decide (la = lb) = b)) :
    Calls Try.prog 8 #[.slice a1 n1 c1, .slice a2 n2 c2] w fun e w' => e = .returned (.bool b) ∧ Below w.heap.size w w' := by
  have R1 := hideT h1
  have R2 := hideT h2
  clear h1 h2
  go_enter Try.func8, Try.ntmps8
  go_wp2_with fail
  refine (equalFuncS w a1 a2 n1 n2 c1 c2 la lb R1.out R2.out).mono ?_
  rintro e w1 ⟨rfl, p⟩
  go_wp2_with fail
  go_ret
  exact ⟨ret_b hb.out, p⟩
end Go.Proofs.Ytlgcaklhceekiaa
