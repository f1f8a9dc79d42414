/-
  slices.Repeat of a row of one number.
-/
import Derived.Test.YtkjekohncfhbiaaRRepeat
import Derived.Deep.RegionHeld3
set_option linter.unusedSimpArgs false
set_option linter.unusedVariables false
namespace Go.Proofs.Ytkjekohncfhbiaa
open Go.RowKit
set_option maxRecDepth 100000
theorem mulOne (N : Nat) (hN : N ≤ 1000) (w : World) : Calls Try.prog 85 #[.int .u64 1, .int .u64 N] w fun e w' => e = .returned (.tuple #[.int .u64 0, .int .u64 N]) ∧ w' = w := by
  have h := Try.bits_Mul 1 N (by omega) (by omega) w
  rw [Nat.one_mul, Nat.div_eq_of_lt (by omega), Nat.mod_eq_of_lt (by omega)] at h
  exact h
theorem rep_step (x : Int) (k N m : Nat) (hk : k ≤ N) (hm : m = min k (N - k)) : (List.replicate k x ++ List.replicate (N - k) (0 : Int)).take k ++ List.replicate m x ++ (List.replicate k x ++ List.replicate (N - k) (0 : Int)).drop (k + m) = List.replicate (k + m) x ++ List.replicate (N - (k + m)) 0 := by
  rw [List.take_left' (by simp), List.drop_append, List.length_replicate, show k + m - k = m by omega, List.drop_of_length_le (by simp), List.nil_append, List.drop_replicate, List.replicate_append_replicate, show N - k - m = N - (k + m) by omega]
set_option maxHeartbeats 4000000 in
theorem repeatD (w : World) (b : Nat) (x : Int) (hx : w.cell? ⟨b, 0, none⟩ = some (.int .i64 x)) (N : Nat) (hN : N ≤ 1000) :
    Calls Try.prog 79 #[.slice (some ⟨b, 0, none⟩) 1 1, .int .i64 N] w fun e w' => e = .returned (.slice (some ⟨w.heap.size, 0, none⟩) N N) ∧ ZB w' w.heap.size (List.replicate N x) ∧ Below w.heap.size w w' := by
  obtain ⟨W, hr, r1, r2, r3⟩ := madeZ w N hN
  have hx1 := below_cell r2 _ _ hx
  obtain ⟨W2, hr2, z2, k2⟩ := copyZ W w.heap.size 0 N (List.replicate N 0) (List.replicate (min 1 N) x) b 0 1 N 1 r1 (by simp) (fun j y hj => by
    have hj1 := (List.getElem?_eq_some_iff.1 hj).1
    obtain rfl : j = 0 := by simp at hj1; omega
    rw [List.getElem?_replicate] at hj
    split at hj
    · cases hj
      exact hx1
    · cases hj) (by simp; omega)
  have B2 := hideT (Keep.below r2 k2 (fun i hi => by omega))
  rw [List.length_replicate] at hr2
  have ez := rep_step x 0 N (min 1 N) (by omega)
  have Z2 : Hid (ZB W2 w.heap.size (List.replicate (min 1 N) x ++ List.replicate (N - min 1 N) 0)) := by
    show ZB _ _ _
    have e : (List.replicate N (0 : Int)).take 0 ++ List.replicate (min 1 N) x ++ (List.replicate N (0 : Int)).drop (0 + (List.replicate (min 1 N) x).length) = List.replicate (min 1 N) x ++ List.replicate (N - min 1 N) 0 := by
      rw [List.take_zero, List.nil_append, List.length_replicate, List.drop_replicate, Nat.zero_add]
    rw [e] at z2
    exact z2
  have q0 : ¬ (N : Int) < 0 := by omega
  have q1 : IntKind.u64.wrap (N : Int) = (N : Int) := by rw [IntKind.wrap_u64]; omega
  have q2 : IntKind.i64.wrap (N : Int) = (N : Int) := by rw [IntKind.wrap_i64]; omega
  have q3 : ¬ (9223372036854775807 : Int) < (N : Int) := by omega
  obtain ⟨m, hm⟩ : ∃ m, min 1 N = m := ⟨_, rfl⟩
  rw [hm] at hr2 Z2
  have HM := hideT hm
  clear hm z2 k2 r1 r2 r3 hx hx1 ez
  go_enter Try.func79, Try.ntmps79
  go_wp2_with fail
  refine (mulOne N hN _).mono ?_
  rintro e w1 ⟨rfl, rfl⟩
  go_wp2_with fail
  go_loopw [8] (fun i wr => ∃ k : Nat, k ≤ N ∧ (k = 0 → N = 0) ∧ i = .int .i64 k ∧ Hid (ZB wr w1.heap.size (List.replicate k x ++ List.replicate (N - k) 0)) ∧ Hid (Below w1.heap.size w1 wr)) (fun i _ => N - (intOf i).toNat)
  case atStart => exact ⟨m, by have := HM.out; omega, by have := HM.out; omega, rfl, Z2, B2⟩
  case round =>
    obtain ⟨k, hk, hk0, rfl, HZ, HW⟩ := hrel
    by_cases hlt : k < N
    rotate_left
    · obtain rfl : k = N := by omega
      have HF : Hid (ZB wr w1.heap.size (List.replicate k x)) := by have := HZ.out; simp at this; exact this
      go_wp2_with fail
      go_ret
      exact ⟨rfl, HF.out, HW.out⟩
    have HG := hideT (show Below w1.heap.size w1 wr.drew from below_drewN HW.out 1)
    have HD0 := hideT (show Below wr.heap.size wr wr.drew from below_drewN (Below.refl _ _) 1)
    obtain ⟨W3, hr3, z3, k3⟩ := copyZ wr.drew w1.heap.size k (N - k) (List.replicate k x ++ List.replicate (N - k) 0) (List.replicate (min k (N - k)) x) w1.heap.size 0 k (N - k) N (HZ.out.below HD0.out) (by simp) (fun j y hj => by
      have hj1 := (List.getElem?_eq_some_iff.1 hj).1
      rw [List.length_replicate] at hj1
      refine ZB.cell (HZ.out.below HD0.out) ?_
      rw [List.getElem?_append_left (by simp; omega), Nat.zero_add, ← hj, List.getElem?_replicate, List.getElem?_replicate, if_pos (by omega), if_pos (by omega)]) (by simp; omega)
    rw [List.length_replicate] at hr3 z3
    rw [rep_step x k N _ (by omega) rfl] at z3
    have B3 := hideT (Keep.below HG.out k3 (fun i hi => by omega))
    obtain ⟨m3, hm3⟩ : ∃ m, min k (N - k) = m := ⟨_, rfl⟩
    rw [hm3] at hr3 z3
    have HM3 := hideT hm3
    have HZ3 := hideT z3
    have p0 : (0 : Int) ≤ (k : Int) := by omega
    have p1 : (k : Int) ≤ (N : Int) := by omega
    have p2 : (k : Int) < (N : Int) := by omega
    have p3 : m3 ≤ N - k := by omega
    have p4 : 1 ≤ m3 := by omega
    have p5 : IntKind.i64.wrap ((k : Int) + (m3 : Int)) = ((k + m3 : Nat) : Int) := by rw [IntKind.wrap_i64]; omega
    clear hm3 z3 k3
    go_wp2_with fail
    go_region_with (fail)
    go_wp2_with fail
    go_simp
    refine ⟨⟨k + m3, by omega, by omega, by omega, HZ3⟩, ?_⟩
    first | omega | (simp [intOf]; omega)
end Go.Proofs.Ytkjekohncfhbiaa
