/-
  The program's copyEach of sentries.
-/
import Derived.Test.YtlgcaklhceekiaaMCopy5
import Derived.Test.YtlgcaklhceekiaaMHeavy
set_option linter.unusedSimpArgs false
set_option linter.unusedVariables false
namespace Go.Proofs.Ytlgcaklhceekiaa
open Go.RowKit
set_option maxRecDepth 100000
theorem infoSnt : (Try.prog.info? 38).map (fun i => (i.zero, i.size, i.bytes)) = some (some (.agg #[.slice none 0 0, .slice none 0 0]), 2, 48) := by kernel_rfl
set_option maxHeartbeats 4000000 in
theorem copyEachS (w : World) (a1 : Option Addr) (n c1 : Nat) (l : List Mp.Sent) (h1 : SRow w (.slice a1 n c1) l) (hn : n ≤ 1000) (hL : ∀ s ∈ l, lightS s) :
    Calls Try.prog 31 #[.slice a1 n c1, .func (.func 32) #[] #[]] w (CPost 2 sentR l w) := by
  obtain ⟨hn1, hl1, _, b1, o1, ha1, hc1⟩ := srow_at h1
  have HN1 := hideT hn1
  have HC1 := hideT hc1
  have HA1 := hideT ha1
  have HLt := hideT hL
  clear hc1 ha1 h1 hL
  by_cases h0 : n = 0
  · subst h0
    have HL : Hid (l = []) := List.eq_nil_of_length_eq_zero hn1.symm
    clear hn1
    go_enter Try.func31, Try.ntmps31
    go_wp2_with fail
    go_ret
    rw [HL.out]
    exact ⟨none, 0, rfl, fun w' _ => rowR_nil w', Below.refl _ _⟩
  obtain ⟨i0, hi0, hz0, hz1, hz2⟩ := info_parts infoSnt
  have t0 : ((n : Int) == 0) = false := beq_eq_false_iff_ne.2 (by omega)
  obtain ⟨W, hrun, r1, r2⟩ := run_make_full (P := Try.prog) w w.heap.size 27 38 i0 _ 2 Try.underlying27 hi0 hz0 hz1 .i64 .i64 n (by rw [hz2]; omega) (by unfold maxLen; omega) (Nat.le_refl _)
  have BT0 : Hid (Built w.heap.size w.heap.size 2 38 sentR l n 0 W) := ⟨_, r1, fun j x hj => absurd hj (Nat.not_lt_zero _)⟩
  have BW0 : Hid (Below w.heap.size w W) := (Below.refl _ w).grown r2 (Nat.le_refl _) (fun k hk => by cases hk)
  clear hn1 r1 r2 hi0 hz0 hz1 hz2
  go_enter Try.func31, Try.ntmps31
  go_wp2_with fail
  clear hrun
  go_loopw [16] (fun i wr => ∃ k : Nat, k ≤ n ∧ i = .int .i64 k ∧ Hid (Built w.heap.size w.heap.size 2 38 sentR l n k wr) ∧ Hid (Below w.heap.size w wr)) (fun i _ => n - (intOf i).toNat)
  case atStart => exact ⟨0, by omega, rfl, BT0, BW0⟩
  case round =>
    obtain ⟨k, hk, rfl, HB, HW⟩ := hrel
    by_cases hlt : k < n
    rotate_left
    · have HE : Hid (k = n) := by show k = n; omega
      have HB1 : Hid (Built w.heap.size w.heap.size 2 38 sentR l n n wr) := by have := HB.out; rw [HE.out] at this; exact this
      go_wp2_with fail
      go_ret
      refine ⟨some ⟨w.heap.size, 0, none⟩, n, ?_, HB1.out.done HN1.out hl1 (Nat.le_refl _), HW.out⟩
      exact congrArg (fun q => Ending.returned (.slice (some ⟨w.heap.size, 0, none⟩) q n)) HN1.out
    obtain ⟨⟨s1, s2⟩, hx⟩ := Mp.at_lt (l := l) (k := k) (by have := HN1.out; omega)
    obtain ⟨p1, c3, p2, c4, r1, r2, d0, d1⟩ := HC1.out k _ hx
    have hlt2 := HLt.out _ (List.mem_of_getElem? hx)
    dsimp only [lightS] at r1 r2 d0 d1 hlt2
    have d0 := below_cell HW.out _ _ d0
    have d1 := below_cell HW.out _ _ d1
    obtain rfl := HA1.out (by omega)
    have HX := hideT hx
    have BA := hideT ((Below.refl wr.heap.size wr).alloc (Nat.le_refl _) (.cells #[.slice p1 s1.length c3, .slice p2 s2.length c4] 38))
    have BW := hideT (HW.out.trans (BA.out.mono HW.out.size))
    have R1 := hideT (orow_below r1 BW.out)
    have R2 := hideT (crow_below r2 BW.out)
    have l1 := hlt2.1
    have l2 := hlt2.2
    clear hx r1 r2 hlt2
    have t1 : (0 : Int) ≤ (k : Int) := by omega
    have t2 : (k : Int) < (n : Int) := by omega
    go_wp2_with fail
    refine (copySentryD p1 p2 c3 c4 s1 s2 _ R1.out R2.out (by omega) (by omega)).mono ?_
    rintro e w1 ⟨q1, d3, q2, d4, rfl, nw, p⟩
    have B1 := hideT (BA.out.trans (p.mono BA.out.size))
    have HB1 := hideT (HB.out.below B1.out)
    have HW1 := hideT (HW.out.trans (B1.out.mono HW.out.size))
    have hge : w.heap.size + 1 ≤ (wr.alloc (.cells #[.slice p1 s1.length c3, .slice p2 s2.length c4] 38)).heap.size + 2 := by have := BW.out.size; omega
    have NW := hideT (nw.low hge)
    clear nw hge
    dsimp only at NW
    obtain ⟨⟨u0, e0⟩, f0⟩ := HB1.out.cells hlt 0 (by omega)
    obtain ⟨⟨u1, e1⟩, f1⟩ := HB1.out.cells hlt 1 (by omega)
    rw [Nat.add_zero] at e0 f0
    have HB2 := hideT (HB1.out.put hlt [.slice q1 s1.length d3, .slice q2 s2.length d4] rfl (s1, s2) HX.out NW.out)
    have HW2 := hideT (setAll_below (Nat.le_refl _) [.slice q1 s1.length d3, .slice q2 s2.length d4] _ (k * 2) HW1.out)
    clear p d0 d1
    dsimp only
    go_wp2_with fail
    refine ⟨⟨k + 1, by omega, by go_num, HB2, HW2⟩, ?_⟩
    first | omega | (simp [intOf]; omega)
end Go.Proofs.Ytlgcaklhceekiaa
