/-
  The program's sentries and items: whether two are one. (Written by RSame.py.)
-/
import Derived.Test.YtmhiilfjckadkaaRSame1
set_option linter.unusedSimpArgs false
set_option linter.unusedVariables false
namespace Go.Proofs.Ytmhiilfjckadkaa
open Go.RowKit
set_option maxRecDepth 100000
set_option maxHeartbeats 4000000 in
theorem sameSentryR (w : World) (x0 y0 : List Mp.On) (p0 q0 : Option Addr) (c0 d0 : Nat) (x1 y1 : List Mp.Cond) (p1 q1 : Option Addr) (c1 d1 : Nat)
    (h0 : ORow w (.slice p0 x0.length c0) x0) (k0 : ORow w (.slice q0 y0.length d0) y0) (h1 : CRow w (.slice p1 x1.length c1) x1) (k1 : CRow w (.slice q1 y1.length d1) y1) :
    Calls Try.prog 71 #[.agg #[.slice p0 x0.length c0, .slice p1 x1.length c1], .agg #[.slice q0 y0.length d0, .slice q1 y1.length d1]] w (BPost ((x0, x1) = (y0, y1)) w) := by
  have R0 := hideT h0
  have K0 := hideT k0
  have R1 := hideT h1
  have K1 := hideT k1
  clear h0 k0 h1 k1
  have B0 := hideT (((Below.refl w.heap.size w).alloc (Nat.le_refl _) (.cells #[.slice p0 x0.length c0, .slice p1 x1.length c1] 93)).alloc (by simp) (.cells #[.slice q0 y0.length d0, .slice q1 y1.length d1] 93))
  have LA0 := hideT ((Lies.new w 93 #[.slice p0 x0.length c0, .slice p1 x1.length c1]).below ((Below.refl _ _).alloc (Nat.le_refl _) (.cells #[.slice q0 y0.length d0, .slice q1 y1.length d1] 93)))
  have LB0 : Hid (Lies ((w.alloc (.cells #[.slice p0 x0.length c0, .slice p1 x1.length c1] 93)).alloc (.cells #[.slice q0 y0.length d0, .slice q1 y1.length d1] 93)) (w.heap.size + 1) 93 #[.slice q0 y0.length d0, .slice q1 y1.length d1]) := by
    have := Lies.new (w.alloc (.cells #[.slice p0 x0.length c0, .slice p1 x1.length c1] 93)) 93 #[.slice q0 y0.length d0, .slice q1 y1.length d1]
    rwa [show (w.alloc (.cells #[.slice p0 x0.length c0, .slice p1 x1.length c1] 93)).heap.size = w.heap.size + 1 by simp] at this
  go_enter Try.func71, Try.ntmps71
  go_wp2_with fail
  refine (equalOB _ _ _ _ _ _ _ x0 y0 (orow_below R0.out B0.out) (orow_below K0.out B0.out)).mono ?_
  rintro e w1 z1
  by_cases g0 : x0 = y0
  rotate_left
  · have HF : Hid (¬ (x0, x1) = (y0, y1)) := fun h => g0 (by simp only [Prod.mk.injEq] at h; exact h.1)
    obtain ⟨rfl, b1⟩ := z1.no g0
    have BN := hideT (B0.out.trans (b1.mono B0.out.size))
    clear z1 b1 g0
    go_wp2_with fail
    go_ret
    exact bpost_no HF.out BN.out
  obtain ⟨rfl, b1⟩ := z1.yes g0
  have B1 := hideT (B0.out.trans (b1.mono B0.out.size))
  have LA1 := hideT (LA0.out.below b1)
  have LB1 := hideT (LB0.out.below b1)
  have G0 := hideT g0
  clear z1 b1 g0
  have za1_0 : w1.cell? ⟨w.heap.size, 0, none⟩ = some (.slice p0 x0.length c0) := LA1.out.cell 0
  have zb1_0 : w1.cell? ⟨w.heap.size + 1, 0, none⟩ = some (.slice q0 y0.length d0) := LB1.out.cell 0
  have za1_1 : w1.cell? ⟨w.heap.size, 1, none⟩ = some (.slice p1 x1.length c1) := LA1.out.cell 1
  have zb1_1 : w1.cell? ⟨w.heap.size + 1, 1, none⟩ = some (.slice q1 y1.length d1) := LB1.out.cell 1
  go_wp2_with fail
  refine (equalCB _ _ _ _ _ _ _ x1 y1 (crow_below R1.out B1.out) (crow_below K1.out B1.out)).mono ?_
  rintro e w2 z1
  by_cases g1 : x1 = y1
  rotate_left
  · have HF : Hid (¬ (x0, x1) = (y0, y1)) := fun h => g1 (by simp only [Prod.mk.injEq] at h; exact h.2)
    obtain ⟨rfl, b1⟩ := z1.no g1
    have BN := hideT (B1.out.trans (b1.mono B1.out.size))
    clear z1 b1 g1
    go_wp2_with fail
    go_ret
    exact bpost_no HF.out BN.out
  obtain ⟨rfl, b1⟩ := z1.yes g1
  have B2 := hideT (B1.out.trans (b1.mono B1.out.size))
  have LA2 := hideT (LA1.out.below b1)
  have LB2 := hideT (LB1.out.below b1)
  have G1 := hideT g1
  clear z1 b1 g1
  have za2_0 : w2.cell? ⟨w.heap.size, 0, none⟩ = some (.slice p0 x0.length c0) := LA2.out.cell 0
  have zb2_0 : w2.cell? ⟨w.heap.size + 1, 0, none⟩ = some (.slice q0 y0.length d0) := LB2.out.cell 0
  have za2_1 : w2.cell? ⟨w.heap.size, 1, none⟩ = some (.slice p1 x1.length c1) := LA2.out.cell 1
  have zb2_1 : w2.cell? ⟨w.heap.size + 1, 1, none⟩ = some (.slice q1 y1.length d1) := LB2.out.cell 1
  have HF : Hid ((x0, x1) = (y0, y1)) := by show _ = _; rw [G0.out, G1.out]
  go_wp2_with fail
  go_ret
  exact bpost_yes HF.out B2.out
set_option maxHeartbeats 4000000 in
theorem equalFuncSR (w : World) (a1 a2 : Option Addr) (n1 n2 c1 c2 : Nat) (la lb : List Mp.Sent) (h1 : SRow w (.slice a1 n1 c1) la) (h2 : SRow w (.slice a2 n2 c2) lb) :
    Calls Try.prog 70 #[.slice a1 n1 c1, .slice a2 n2 c2, .func (.func 71) #[] #[]] w (BPost (la = lb) w) := by
  obtain ⟨hn1, hl1, _, b1, o1, ha1, hc1⟩ := srow_at h1
  obtain ⟨hn2, hl2, _, b2, o2, ha2, hc2⟩ := srow_at h2
  have HN1 := hideT hn1
  have HN2 := hideT hn2
  have HC1 := hideT hc1
  have HA1 := hideT ha1
  have HC2 := hideT hc2
  have HA2 := hideT ha2
  clear hc1 ha1 hc2 ha2 h1 h2
  by_cases hne : n1 = n2
  rotate_left
  · have HF : Hid (¬ la = lb) := list_len (by omega)
    have t2 : ((n1 : Int) != (n2 : Int)) = true := bne_iff_ne.2 (by omega)
    clear hn1 hn2
    go_enter Try.func70, Try.ntmps70
    go_wp2_with fail
    go_ret
    exact bpost_no HF.out (Below.refl _ _)
  subst hne
  clear hn1 hn2
  go_enter Try.func70, Try.ntmps70
  go_wp2_with fail
  go_loopw [17] (fun i wr => ∃ k : Nat, k ≤ n1 ∧ i = .int .i64 k ∧ Hid (∀ (j : Nat), j < k → la[j]? = lb[j]?) ∧ Hid (Below w.heap.size w wr)) (fun i _ => n1 - (intOf i).toNat)
  case atStart => exact ⟨0, by omega, rfl, (fun j hj => absurd hj (by omega)), Below.refl _ _⟩
  case round =>
    obtain ⟨k, hk, rfl, HB, HW⟩ := hrel
    by_cases hlt : k < n1
    rotate_left
    · have HF : Hid (la = lb) := list_all HN1.out HN2.out (fun j hj => HB.out j (by omega))
      go_wp2_with fail
      go_ret
      exact bpost_yes HF.out HW.out
    obtain ⟨⟨s1, s2⟩, hx⟩ := Mp.at_lt (l := la) (k := k) (by have := HN1.out; omega)
    obtain ⟨⟨t1, t2⟩, hy⟩ := Mp.at_lt (l := lb) (k := k) (by have := HN2.out; omega)
    obtain ⟨p1, c3, p2, c4, r1, r2, d0, d1⟩ := HC1.out k _ hx
    obtain ⟨q1, c5, q2, c6, r3, r4, e0, e1⟩ := HC2.out k _ hy
    dsimp only at r1 r2 r3 r4 d0 d1 e0 e1
    have d0 := below_cell HW.out _ _ d0
    have d1 := below_cell HW.out _ _ d1
    have e0 := below_cell HW.out _ _ e0
    have e1 := below_cell HW.out _ _ e1
    have y0 := cell_lt e0
    obtain rfl := HA1.out (by omega)
    obtain rfl := HA2.out (by omega)
    have HX := hideT hx
    have HY := hideT hy
    have BA := hideT (((Below.refl wr.heap.size wr).alloc (Nat.le_refl _) (.cells #[.slice p1 s1.length c3, .slice p2 s2.length c4] 93)).alloc (by simp) (.cells #[.slice q1 t1.length c5, .slice q2 t2.length c6] 93))
    have BW := hideT (HW.out.trans (BA.out.mono HW.out.size))
    have R1 := hideT (orow_below r1 BW.out)
    have R2 := hideT (crow_below r2 BW.out)
    have R3 := hideT (orow_below r3 BW.out)
    have R4 := hideT (crow_below r4 BW.out)
    clear hx hy r1 r2 r3 r4
    have t0 : (0 : Int) ≤ (k : Int) := by omega
    have t1' : (k : Int) < (n1 : Int) := by omega
    go_wp2_with fail
    refine (sameSentryR _ s1 t1 p1 q1 c3 c5 s2 t2 p2 q2 c4 c6 R1.out R3.out R2.out R4.out).mono ?_
    rintro e w1 z1
    by_cases g : (s1, s2) = (t1, t2)
    rotate_left
    · have HF : Hid (¬ la = lb) := list_at HX.out HY.out g
      obtain ⟨rfl, p1⟩ := z1.no g
      have BW1 := hideT (BW.out.trans (p1.mono BW.out.size))
      clear z1 p1 g d0 d1 e0 e1
      go_wp2_with fail
      go_ret
      exact bpost_no HF.out BW1.out
    have HR : Hid (∀ (j : Nat), j < k + 1 → la[j]? = lb[j]?) := by
      intro j hj
      by_cases hj' : j < k
      · exact HB.out j hj'
      · obtain rfl : j = k := by omega
        rw [HX.out, HY.out, g]
    obtain ⟨rfl, p1⟩ := z1.yes g
    have BW1 := hideT (BW.out.trans (p1.mono BW.out.size))
    clear z1 p1 g d0 d1 e0 e1
    go_wp2_with fail
    refine ⟨⟨k + 1, by omega, by go_num, HR, BW1⟩, ?_⟩
    first | omega | (simp [intOf]; omega)
end Go.Proofs.Ytmhiilfjckadkaa
