/-
  The program's plain of a sentry, and each over sentries.
-/
import Derived.Test.YtdcahnaempabcabGreatNOnce
import Derived.Test.YtdcahnaempabcabGreatPartV
set_option linter.unusedSimpArgs false
set_option linter.unusedVariables false
namespace Go.Proofs.YtdcahnaempabcabGreat
open Go.RowKit
/-- What plain answers. -/
def SPPost (x : Mp.Sent) (w : World) (e : Ending) (w' : World) : Prop := ∃ a1 c1 a2 c2, e = .returned (.agg #[.slice a1 x.1.length c1, .slice a2 x.2.length c2]) ∧ NewR (w.heap.size + 2) (fun w => sentR w [.slice a1 x.1.length c1, .slice a2 x.2.length c2] x) w' ∧ Below w.heap.size w w'
set_option maxHeartbeats 8000000 in
theorem plainSD (p1 p2 : Option Addr) (c1 c2 : Nat) (s1 : List Mp.On) (s2 : List Mp.Cond) (w : World) (h1 : ORow w (.slice p1 s1.length c1) s1) (h2 : CRow w (.slice p2 s2.length c2) s2) (k1 : s1.length ≤ 1000) (k2 : s2.length ≤ 1000) :
    Calls Tryz.prog 101 #[.agg #[.slice p1 s1.length c1, .slice p2 s2.length c2]] w (SPPost (s1, s2) w) := by
  have Z1 := hideT (orow_z h1)
  have Z2 := hideT (crow_z h2)
  go_enter Tryz.func101, Tryz.ntmps101
  go_wp2_with fail
  obtain ⟨V, hV, BV, LA, LR, VS⟩ := two_newU w 60 25 #[.slice p1 s1.length c1, .slice p2 s2.length c2] #[.slice none 0 0, .slice none 0 0]
  rw [hV]
  have HB := hideT BV
  have HL := hideT LA
  have HR := hideT LR
  have HS := hideT VS
  clear BV LA LR hV VS
  have R1 := hideT (orow_below h1 (below_drewN HB.out 1))
  have R2 := hideT (crow_below h2 HB.out)
  clear h1 h2
  have y0 : V.cell? ⟨w.heap.size, 0, none⟩ = some (.slice p1 s1.length c1) := HL.out.cell 0
  have y1 : V.cell? ⟨w.heap.size, 1, none⟩ = some (.slice p2 s2.length c2) := HL.out.cell 1
  go_region_held3 (fun w' => w'.cell? ⟨w.heap.size, 0, none⟩ = some (.slice p1 s1.length c1) ∧ w'.cell? ⟨w.heap.size, 1, none⟩ = some (.slice p2 s2.length c2)) (go_keep) (first
    | (go_at_call_of 132 (Value.slice p1 s1.length c1); refine (eachOnP _ p1 _ c1 s1 R1.out k1).mono ?_; rintro e w1 ⟨q1, d1, rfl, n1, b1⟩; have bV1 : Below V.heap.size V w1 := (below_drewN (Below.refl _ V) 1).trans b1; have z1_0 := below_cell bV1 _ _ y0; have z1_1 := below_cell bV1 _ _ y1; have N1 := hideT n1)
    | (go_at_call_of 134 (Value.slice p2 s2.length c2); refine (eachCondP _ p2 _ c2 s2 (crow_below R2.out bV1) k2).mono ?_; rintro e w2 ⟨q2, d2, rfl, n2, b2⟩; have bV2 : Below V.heap.size V w2 := bV1.trans (b2.mono bV1.size); have z2_0 := below_cell bV2 _ _ y0; have z2_1 := below_cell bV2 _ _ y1; have LN := HR.out.below bV2; have m0 : w2.cell? ⟨w.heap.size + 1, 0, none⟩ = some (.slice none 0 0) := LN.cell 0; have g0 : w2.frozen? ⟨w.heap.size + 1, 0, none⟩ = false := LN.free 0; have m1 : w2.cell? ⟨w.heap.size + 1, 1, none⟩ = some (.slice none 0 0) := LN.cell 1; have g1 : w2.frozen? ⟨w.heap.size + 1, 1, none⟩ = false := LN.free 1; have N2 := hideT n2; have N3 := hideT (n1.below b2)))
  obtain ⟨X, hX, bX, lX, kX⟩ : ∃ X, ((w2.setCell ⟨w.heap.size + 1, 0, none⟩ (.slice q1 s1.length d1)).setCell ⟨w.heap.size + 1, 1, none⟩ (.slice q2 s2.length d2)) = X ∧ Below w.heap.size w X ∧ Lies X (w.heap.size + 1) 25 #[.slice q1 s1.length d1, .slice q2 s2.length d2] ∧ (∀ k, k ≠ w.heap.size + 1 → k < w2.heap.size → X.heap[k]? = w2.heap[k]?) := ⟨_, rfl, (((HB.out.trans (bV2.mono HB.out.size)).setCell (Nat.le_succ _) _).setCell (Nat.le_succ _) _), ((LN.set 0 _).set 1 _), fun k hk _ => (set_other _ _ _ _ k hk).trans (set_other _ _ _ _ k hk)⟩
  rw [hX]
  go_wp2_with fail
  have r0 : X.cell? ⟨w.heap.size + 1, 0, none⟩ = some (.slice q1 s1.length d1) := lX.cell 0
  have r1 : X.cell? ⟨w.heap.size + 1, 1, none⟩ = some (.slice q2 s2.length d2) := lX.cell 1
  have hd : (V.drewN 1).heap.size = w.heap.size + 2 := HS.out
  have hw1 : w.heap.size + 2 ≤ w1.heap.size := by have := bV1.size; rw [HS.out] at this; exact this
  refine bodyPost_ret (v := .agg #[.slice q1 s1.length d1, .slice q2 s2.length d2]) (by simp [results, Tryz.results101, go_sem, r0, r1]) rfl ⟨q1, d1, q2, d2, rfl, ?_, bX⟩
  have e1 : OwnE (w.heap.size + 2) 2 83 onE (.slice q1 s1.length d1) s1 X := by
    have h := N3.out
    unfold OwnE at h ⊢
    rw [hd] at h
    exact own_keepB h (Nat.lt_succ_self _) kX
  have e2 : OwnE (w.heap.size + 2) 3 88 condE (.slice q2 s2.length d2) s2 X := by
    have h := N2.out
    unfold OwnE at h ⊢
    exact own_lower (own_keepB h (by omega) kX) hw1
  exact fun w' hw => ⟨_, _, rfl, (e1.orow k1 Z1.out) w' hw, (e2.crow k2 Z2.out) w' hw⟩
set_option maxHeartbeats 4000000 in
theorem eachSP (w : World) (a1 : Option Addr) (n c1 : Nat) (l : List Mp.Sent) (h1 : SRow w (.slice a1 n c1) l) (hn : n ≤ 1000) (hL : ∀ s ∈ l, lightS s) :
    Calls Tryz.prog 99 #[.slice a1 n c1, .func (.func 101) #[] #[]] w (CPost 2 sentR l w) := by
  obtain ⟨hn1, hl1, _, b1, o1, ha1, hc1⟩ := srow_at h1
  have HN1 := hideT hn1
  have HC1 := hideT hc1
  have HA1 := hideT ha1
  have HLt := hideT hL
  clear hc1 ha1 h1 hL
  by_cases h0 : n = 0
  · subst h0
    have HL : Hid (l = []) := List.eq_nil_of_length_eq_zero hn1.symm
    clear hn1
    go_enter Tryz.func99, Tryz.ntmps99
    go_wp2_with fail
    go_ret
    rw [HL.out]
    exact ⟨none, 0, rfl, fun w' _ => rowR_nil w', Below.refl _ _⟩
  obtain ⟨i0, hi0, hz0, hz1, hz2⟩ := info_parts infoSnt
  have t0 : ((n : Int) == 0) = false := beq_eq_false_iff_ne.2 (by omega)
  obtain ⟨W, hrun, r1, r2⟩ := run_make_full (P := Tryz.prog) w w.heap.size 27 25 i0 _ 2 Tryz.underlying27 hi0 hz0 hz1 .i64 .i64 n (by rw [hz2]; omega) (by unfold maxLen; omega) (Nat.le_refl _)
  have BT0 : Hid (Built w.heap.size w.heap.size 2 25 sentR l n 0 W) := ⟨_, r1, fun j x hj => absurd hj (Nat.not_lt_zero _)⟩
  have BW0 : Hid (Below w.heap.size w W) := (Below.refl _ w).grown r2 (Nat.le_refl _) (fun k hk => by cases hk)
  clear hn1 r1 r2 hi0 hz0 hz1 hz2
  go_enter Tryz.func99, Tryz.ntmps99
  go_wp2_with fail
  clear hrun
  go_loopw [16] (fun i wr => ∃ k : Nat, k ≤ n ∧ i = .int .i64 k ∧ Hid (Built w.heap.size w.heap.size 2 25 sentR l n k wr) ∧ Hid (Below w.heap.size w wr)) (fun i _ => n - (intOf i).toNat)
  case atStart => exact ⟨0, by omega, rfl, BT0, BW0⟩
  case round =>
    obtain ⟨k, hk, rfl, HB, HW⟩ := hrel
    by_cases hlt : k < n
    rotate_left
    · have HE : Hid (k = n) := by show k = n; omega
      have HB1 : Hid (Built w.heap.size w.heap.size 2 25 sentR l n n wr) := by have := HB.out; rw [HE.out] at this; exact this
      go_wp2_with fail
      go_ret
      refine ⟨some ⟨w.heap.size, 0, none⟩, n, ?_, HB1.out.done HN1.out hl1 (Nat.le_refl _), HW.out⟩
      exact congrArg (fun q => Ending.returned (.slice (some ⟨w.heap.size, 0, none⟩) q n)) HN1.out
    obtain ⟨⟨s1, s2⟩, hx⟩ := Mp.at_lt (l := l) (k := k) (by have := HN1.out; omega)
    obtain ⟨p1, c3, p2, c4, r1, r2, d0, d1⟩ := HC1.out k _ hx
    have hlt2 := HLt.out _ (List.mem_of_getElem? hx)
    dsimp only [lightS] at r1 r2 d0 d1 hlt2
    have d0 := below_cell HW.out _ _ d0
    have d1 := below_cell HW.out _ _ d1
    obtain rfl := HA1.out (by omega)
    have HX := hideT hx
    have BA := hideT ((Below.refl wr.heap.size wr).alloc (Nat.le_refl _) (.cells #[.slice p1 s1.length c3, .slice p2 s2.length c4] 60))
    have BW := hideT (HW.out.trans (BA.out.mono HW.out.size))
    have R1 := hideT (orow_below r1 BW.out)
    have R2 := hideT (crow_below r2 BW.out)
    have l1 := hlt2.1
    have l2 := hlt2.2
    clear hx r1 r2 hlt2
    have t1 : (0 : Int) ≤ (k : Int) := by omega
    have t2 : (k : Int) < (n : Int) := by omega
    go_wp2_with fail
    refine (plainSD p1 p2 c3 c4 s1 s2 _ R1.out R2.out (by omega) (by omega)).mono ?_
    rintro e w1 ⟨q1, d3, q2, d4, rfl, nw, p⟩
    have B1 := hideT (BA.out.trans (p.mono BA.out.size))
    have HB1 := hideT (HB.out.below B1.out)
    have HW1 := hideT (HW.out.trans (B1.out.mono HW.out.size))
    have hge : w.heap.size + 1 ≤ (wr.alloc (.cells #[.slice p1 s1.length c3, .slice p2 s2.length c4] 60)).heap.size + 2 := by have := BW.out.size; omega
    have NW := hideT (nw.low hge)
    clear nw hge
    dsimp only at NW
    obtain ⟨⟨u0, e0⟩, f0⟩ := HB1.out.cells hlt 0 (by omega)
    obtain ⟨⟨u1, e1⟩, f1⟩ := HB1.out.cells hlt 1 (by omega)
    rw [Nat.add_zero] at e0 f0
    have HB2 := hideT (HB1.out.put hlt [.slice q1 s1.length d3, .slice q2 s2.length d4] rfl (s1, s2) HX.out NW.out)
    have HW2 := hideT (setAll_below (Nat.le_refl _) [.slice q1 s1.length d3, .slice q2 s2.length d4] _ (k * 2) HW1.out)
    clear p d0 d1
    dsimp only
    go_wp2_with fail
    refine ⟨⟨k + 1, by omega, by go_num, HB2, HW2⟩, ?_⟩
    first | omega | (simp [intOf]; omega)
end Go.Proofs.YtdcahnaempabcabGreat
