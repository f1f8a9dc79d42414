/-
  The program's copyEach of conditions and texts.
-/
import Derived.Test.YtlgcaklhceekiaaMCopy2
set_option linter.unusedSimpArgs false
set_option linter.unusedVariables false
namespace Go.Proofs.Ytlgcaklhceekiaa
open Go.RowKit
set_option maxRecDepth 100000
theorem infoStr : (Try.prog.info? 9).map (fun i => (i.zero, i.size, i.bytes)) = some (some (.string ⟨#[]⟩), 1, 16) := by kernel_rfl
set_option maxHeartbeats 4000000 in
theorem copyEachF (w : World) (a1 : Option Addr) (n c1 : Nat) (l : List ByteArray) (h1 : FRow w (.slice a1 n c1) l) (hn : n ≤ 1000) :
    Calls Try.prog 21 #[.slice a1 n c1, .func (.func 22) #[] #[]] w (CPost 1 strR l w) := by
  obtain ⟨hn1, hl1, _, b1, o1, ha1, hc1⟩ := frow_at h1
  have HN1 := hideT hn1
  have HC1 := hideT hc1
  have HA1 := hideT ha1
  clear hc1 ha1 h1
  by_cases h0 : n = 0
  · subst h0
    have HL : Hid (l = []) := List.eq_nil_of_length_eq_zero hn1.symm
    clear hn1
    go_enter Try.func21, Try.ntmps21
    go_wp2_with fail
    go_ret
    rw [HL.out]
    exact ⟨none, 0, rfl, fun w' _ => rowR_nil w', Below.refl _ _⟩
  obtain ⟨i0, hi0, hz0, hz1, hz2⟩ := info_parts infoStr
  have t0 : ((n : Int) == 0) = false := beq_eq_false_iff_ne.2 (by omega)
  obtain ⟨W, hrun, r1, r2⟩ := run_make_full (P := Try.prog) w w.heap.size 22 9 i0 _ 1 Try.underlying22 hi0 hz0 hz1 .i64 .i64 n (by rw [hz2]; omega) (by unfold maxLen; omega) (Nat.le_refl _)
  have BT0 : Hid (Built w.heap.size w.heap.size 1 9 strR l n 0 W) := ⟨_, r1, fun j x hj => absurd hj (Nat.not_lt_zero _)⟩
  have BW0 : Hid (Below w.heap.size w W) := (Below.refl _ w).grown r2 (Nat.le_refl _) (fun k hk => by cases hk)
  clear hn1 r1 r2 hi0 hz0 hz1 hz2
  go_enter Try.func21, Try.ntmps21
  go_wp2_with fail
  clear hrun
  go_loopw [16] (fun i wr => ∃ k : Nat, k ≤ n ∧ i = .int .i64 k ∧ Hid (Built w.heap.size w.heap.size 1 9 strR l n k wr) ∧ Hid (Below w.heap.size w wr)) (fun i _ => n - (intOf i).toNat)
  case atStart => exact ⟨0, by omega, rfl, BT0, BW0⟩
  case round =>
    obtain ⟨k, hk, rfl, HB, HW⟩ := hrel
    by_cases hlt : k < n
    rotate_left
    · have HE : Hid (k = n) := by show k = n; omega
      have HB1 : Hid (Built w.heap.size w.heap.size 1 9 strR l n n wr) := by have := HB.out; rw [HE.out] at this; exact this
      go_wp2_with fail
      go_ret
      refine ⟨some ⟨w.heap.size, 0, none⟩, n, ?_, HB1.out.done HN1.out hl1 (Nat.le_refl _), HW.out⟩
      exact congrArg (fun q => Ending.returned (.slice (some ⟨w.heap.size, 0, none⟩) q n)) HN1.out
    obtain ⟨x0, hx⟩ := Mp.at_lt (l := l) (k := k) (by have := HN1.out; omega)
    obtain ⟨hz, d0⟩ := HC1.out k _ hx
    try dsimp only at hz d0
    have d0 := below_cell HW.out _ _ d0
    obtain rfl := HA1.out (by omega)
    have HX := hideT hx
    clear hx
    have t1 : (0 : Int) ≤ (k : Int) := by omega
    have t2 : (k : Int) < (n : Int) := by omega
    go_wp2_with fail
    refine (cloneM x0 _ hz).mono ?_
    rintro e w1 ⟨rfl, p⟩
    have B1 := hideT p
    have HB1 := hideT (HB.out.below B1.out)
    have HW1 := hideT (HW.out.trans (B1.out.mono HW.out.size))
    obtain ⟨⟨u0, e0⟩, f0⟩ := HB1.out.cells hlt 0 (by omega)
    rw [Nat.add_zero, Nat.mul_one] at e0 f0
    have HB2 := hideT (HB1.out.put hlt [.string x0] rfl x0 HX.out (fun w' _ => ⟨rfl, hz⟩))
    have HW2 := hideT (setAll_below (Nat.le_refl _) [.string x0] _ (k * 1) HW1.out)
    have HB3 := hideT HB2.out
    rw [show k * 1 = k from Nat.mul_one k] at HB2 HW2
    clear p d0 HB3
    go_wp2_with fail
    refine ⟨⟨k + 1, by omega, by go_num, HB2, HW2⟩, ?_⟩
    first | omega | (simp [intOf]; omega)
end Go.Proofs.Ytlgcaklhceekiaa
