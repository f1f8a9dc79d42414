/-
  The program's Copy, its files a row of its own.
-/
import Derived.Test.YtdcahnaempabcabGreatNRowI
import Derived.Test.YtdcahnaempabcabGreatPartV
set_option linter.unusedSimpArgs false
set_option linter.unusedVariables false
namespace Go.Proofs.YtdcahnaempabcabGreat
open Go.RowKit
/-- What Copy answers: files of its own in one block, the items in blocks behind it. -/
def COPost (m : Mp.Model) (w : World) (e : Ending) (w' : World) : Prop := ∃ af cf ai ci B, e = .returned (.agg #[.slice af m.files.length cf, .slice ai m.items.length ci]) ∧ OwnE (w.heap.size + 2) 1 9 strE (.slice af m.files.length cf) m.files w' ∧ (∀ g, (Value.slice af m.files.length cf).ownBlock = some g → g < B) ∧ w.heap.size + 2 ≤ B ∧ NewR B (fun w => IRow w (.slice ai m.items.length ci) m.items) w' ∧ Below w.heap.size w w'
set_option maxHeartbeats 4000000 in
theorem copyEachFO (w : World) (a1 : Option Addr) (n c1 : Nat) (l : List ByteArray) (h1 : FRow w (.slice a1 n c1) l) (hn : n ≤ 1000) :
    Calls Tryz.prog 40 #[.slice a1 n c1, .func (.func 41) #[] #[]] w (EPost 1 9 strE l w) := by
  obtain ⟨hn1, hl1, _, b1, o1, ha1, hc1⟩ := frow_at h1
  have HN1 := hideT hn1
  have HC1 := hideT hc1
  have HA1 := hideT ha1
  clear hc1 ha1 h1
  by_cases h0 : n = 0
  · subst h0
    have HL : Hid (l = []) := List.eq_nil_of_length_eq_zero hn1.symm
    clear hn1
    go_enter Tryz.func40, Tryz.ntmps40
    go_wp2_with fail
    go_ret
    rw [HL.out]
    exact ⟨none, 0, rfl, ⟨rfl, .inl ⟨rfl, rfl⟩⟩, Below.refl _ _⟩
  obtain ⟨i0, hi0, hz0, hz1, hz2⟩ := info_parts infoStr
  have t0 : ((n : Int) == 0) = false := beq_eq_false_iff_ne.2 (by omega)
  obtain ⟨W, hrun, r1, r2⟩ := run_make_full (P := Tryz.prog) w w.heap.size 26 9 i0 _ 1 Tryz.underlying26 hi0 hz0 hz1 .i64 .i64 n (by rw [hz2]; omega) (by unfold maxLen; omega) (Nat.le_refl _)
  have BT0 : Hid (Built w.heap.size w.heap.size 1 9 (fun _ cs x => cs = strE x) l n 0 W) := ⟨_, r1, fun j x hj => absurd hj (Nat.not_lt_zero _)⟩
  have BW0 : Hid (Below w.heap.size w W) := (Below.refl _ w).grown r2 (Nat.le_refl _) (fun k hk => by cases hk)
  clear hn1 r1 r2 hi0 hz0 hz1 hz2
  go_enter Tryz.func40, Tryz.ntmps40
  go_wp2_with fail
  clear hrun
  go_loopw [16] (fun i wr => ∃ k : Nat, k ≤ n ∧ i = .int .i64 k ∧ Hid (Built w.heap.size w.heap.size 1 9 (fun _ cs x => cs = strE x) l n k wr) ∧ Hid (Below w.heap.size w wr)) (fun i _ => n - (intOf i).toNat)
  case atStart => exact ⟨0, by omega, rfl, BT0, BW0⟩
  case round =>
    obtain ⟨k, hk, rfl, HB, HW⟩ := hrel
    by_cases hlt : k < n
    rotate_left
    · have HE : Hid (k = n) := by show k = n; omega
      have HB1 : Hid (Built w.heap.size w.heap.size 1 9 (fun _ cs x => cs = strE x) l n n wr) := by have := HB.out; rw [HE.out] at this; exact this
      have HB2 : Hid (OwnE w.heap.size 1 9 strE (.slice (some ⟨w.heap.size, 0, none⟩) l.length n) l wr) := by
        have h := Built.exact (enc := strE) (fun _ => rfl) HB1.out HN1.out
        have h2 := congrArg (fun q => OwnE w.heap.size 1 9 strE (.slice (some ⟨w.heap.size, 0, none⟩) q n) l wr) HN1.out
        exact h2.mp h
      go_wp2_with fail
      go_ret
      refine ⟨some ⟨w.heap.size, 0, none⟩, n, ?_, HB2.out, HW.out⟩
      exact congrArg (fun q => Ending.returned (.slice (some ⟨w.heap.size, 0, none⟩) q n)) HN1.out
    obtain ⟨x0, hx⟩ := Mp.at_lt (l := l) (k := k) (by have := HN1.out; omega)
    obtain ⟨hz, d0⟩ := HC1.out k _ hx
    try dsimp only at hz d0
    have d0 := below_cell HW.out _ _ d0
    obtain rfl := HA1.out (by omega)
    have HX := hideT hx
    clear hx
    have t1 : (0 : Int) ≤ (k : Int) := by omega
    have t2 : (k : Int) < (n : Int) := by omega
    go_wp2_with fail
    refine (cloneM x0 _ hz).mono ?_
    rintro e w1 ⟨rfl, p⟩
    have B1 := hideT p
    have HB1 := hideT (HB.out.below B1.out)
    have HW1 := hideT (HW.out.trans (B1.out.mono HW.out.size))
    obtain ⟨⟨u0, e0⟩, f0⟩ := HB1.out.cells hlt 0 (by omega)
    rw [Nat.add_zero, Nat.mul_one] at e0 f0
    have HB2 := hideT (HB1.out.put hlt [.string x0] rfl x0 HX.out (fun w' _ => rfl))
    have HW2 := hideT (setAll_below (Nat.le_refl _) [.string x0] _ (k * 1) HW1.out)
    have HB3 := hideT HB2.out
    rw [show k * 1 = k from Nat.mul_one k] at HB2 HW2
    clear p d0 HB3
    go_wp2_with fail
    refine ⟨⟨k + 1, by omega, by go_num, HB2, HW2⟩, ?_⟩
    first | omega | (simp [intOf]; omega)
set_option maxHeartbeats 8000000 in
theorem copyOD (p1 p2 : Option Addr) (c1 c2 : Nat) (s1 : List ByteArray) (s2 : List Mp.Item) (w : World) (h1 : FRow w (.slice p1 s1.length c1) s1) (h2 : IRow w (.slice p2 s2.length c2) s2) (hl : light ⟨s1, s2⟩) :
    Calls Tryz.prog 18 #[.agg #[.slice p1 s1.length c1, .slice p2 s2.length c2]] w (COPost ⟨s1, s2⟩ w) := by
  go_enter Tryz.func18, Tryz.ntmps18
  go_wp2_with fail
  obtain ⟨V, hV, BV, LA, LR, VS⟩ := two_new w 32 #[.slice p1 s1.length c1, .slice p2 s2.length c2] #[.slice none 0 0, .slice none 0 0]
  rw [hV]
  have HB := hideT BV
  have HL := hideT LA
  have HR := hideT LR
  have HS := hideT VS
  clear BV LA LR hV VS
  have R1 := hideT (frow_below h1 (below_drewN HB.out 1))
  have R2 := hideT (irow_below h2 HB.out)
  have HI := hideT hl
  clear h1 h2 hl
  have y0 : V.cell? ⟨w.heap.size, 0, none⟩ = some (.slice p1 s1.length c1) := HL.out.cell 0
  have y1 : V.cell? ⟨w.heap.size, 1, none⟩ = some (.slice p2 s2.length c2) := HL.out.cell 1
  go_region_held3 (fun w' => w'.cell? ⟨w.heap.size, 0, none⟩ = some (.slice p1 s1.length c1) ∧ w'.cell? ⟨w.heap.size, 1, none⟩ = some (.slice p2 s2.length c2)) (go_keep) (first
    | (go_at_call_of 40 (Value.slice p1 s1.length c1); refine (copyEachFO _ p1 _ c1 s1 R1.out (Nat.le_of_lt (Nat.lt_trans HI.out.1 (by decide)))).mono ?_; rintro e w1 ⟨q1, d1, rfl, n1, b1⟩; have bV1 : Below V.heap.size V w1 := (below_drewN (Below.refl _ V) 1).trans b1; have z1_0 := below_cell bV1 _ _ y0; have z1_1 := below_cell bV1 _ _ y1; have N1 := hideT n1; have W1 := hideT (Nat.le_refl w1.heap.size))
    | (go_at_call_of 42 (Value.slice p2 s2.length c2); refine (copyEachI _ p2 _ c2 s2 (irow_below R2.out bV1) (Nat.le_of_lt (Nat.lt_trans HI.out.2.1 (by decide))) HI.out.2.2).mono ?_; rintro e w2 ⟨q2, d2, rfl, n2, b2⟩; have bV2 : Below V.heap.size V w2 := bV1.trans (b2.mono bV1.size); have z2_0 := below_cell bV2 _ _ y0; have z2_1 := below_cell bV2 _ _ y1; have LN := HR.out.below bV2; have m0 : w2.cell? ⟨w.heap.size + 1, 0, none⟩ = some (.slice none 0 0) := LN.cell 0; have g0 : w2.frozen? ⟨w.heap.size + 1, 0, none⟩ = false := LN.free 0; have m1 : w2.cell? ⟨w.heap.size + 1, 1, none⟩ = some (.slice none 0 0) := LN.cell 1; have g1 : w2.frozen? ⟨w.heap.size + 1, 1, none⟩ = false := LN.free 1; have N2 := hideT n2))
  obtain ⟨X, hX, bX, lX, oX, kX⟩ : ∃ X, ((w2.setCell ⟨w.heap.size + 1, 0, none⟩ (.slice q1 s1.length d1)).setCell ⟨w.heap.size + 1, 1, none⟩ (.slice q2 s2.length d2)) = X ∧ Below w.heap.size w X ∧ Lies X (w.heap.size + 1) 32 #[.slice q1 s1.length d1, .slice q2 s2.length d2] ∧ (∀ k, k ≠ w.heap.size + 1 → k < w2.heap.size → X.heap[k]? = w2.heap[k]?) ∧ KeepBut (w.heap.size + 1) w2 X := ⟨_, rfl, (((HB.out.trans (bV2.mono HB.out.size)).setCell (Nat.le_succ _) _).setCell (Nat.le_succ _) _), ((LN.set 0 _).set 1 _), (fun k hk _ => (set_other _ _ _ _ k hk).trans (set_other _ _ _ _ k hk)), (keep_set (keep_set (keep_refl _ _) 0 _) 1 _)⟩
  rw [hX]
  go_wp2_with fail
  have r0 : X.cell? ⟨w.heap.size + 1, 0, none⟩ = some (.slice q1 s1.length d1) := lX.cell 0
  have r1 : X.cell? ⟨w.heap.size + 1, 1, none⟩ = some (.slice q2 s2.length d2) := lX.cell 1
  refine bodyPost_ret (v := .agg #[.slice q1 s1.length d1, .slice q2 s2.length d2]) (by simp [results, Tryz.results18, go_sem, r0, r1]) rfl ⟨q1, d1, q2, d2, w1.heap.size, rfl, ?_, ?_, by have h := bV1.size; rw [HS.out] at h; exact h, ?_, bX⟩
  · have h := n1.below b2
    unfold OwnE at h ⊢
    have hd : (V.drewN 1).heap.size = w.heap.size + 2 := HS.out
    rw [hd] at h
    exact own_keepB h (Nat.lt_succ_self _) oX
  · intro g hg
    exact (own_lt n1 hg).1
  · have hs := bV1.size
    exact (n2.step fun a c ha hc => kX a c (by have := HS.out; omega) hc)
end Go.Proofs.YtdcahnaempabcabGreat
