/-
  fold, unfold, ops.
-/
import Derived.Test.YtcfalhgcdffjoaaKWrite
import Derived.Test.YtcfalhgcdffjoaaMPlace
set_option linter.unusedSimpArgs false
set_option linter.unusedVariables false
namespace Go.Proofs.Ytcfalhgcdffjoaa
open Go.RowKit
set_option maxRecDepth 100000
theorem foldD (n : Int) (w : World) (h : -1000000 ≤ n ∧ n ≤ 1000000) (r : Int) (hr : Hid (Kp.fold n = r)) : Calls Try.prog 90 #[.int .i64 n] w fun e w' => e = .returned (.int .i64 r) ∧ w' = w := by
  obtain ⟨h1, h2⟩ := h
  rw [← hr.out]
  clear hr
  by_cases h0 : n < 0
  · have HF : Hid (Kp.fold n = -2 * n - 1) := by show _ = _; unfold Kp.fold; rw [if_pos h0]
    go_enter Try.func90, Try.ntmps90
    go_wp2_with fail
    go_ret
    exact ⟨ret_i (by rw [HF.out]), rfl⟩
  · have HF : Hid (Kp.fold n = 2 * n) := by show _ = _; unfold Kp.fold; rw [if_neg h0]
    go_enter Try.func90, Try.ntmps90
    go_wp2_with fail
    go_ret
    exact ⟨ret_i (by rw [HF.out]), rfl⟩
theorem unfoldD (n : Int) (w : World) (h : 0 ≤ n ∧ n ≤ 10000000) (r : Int) (hr : Hid (Kp.unfold n = r)) : Calls Try.prog 92 #[.int .i64 n] w fun e w' => e = .returned (.int .i64 r) ∧ w' = w := by
  obtain ⟨h1, h2⟩ := h
  rw [← hr.out]
  clear hr
  by_cases h0 : n % 2 = 1
  · have HF : Hid (Kp.unfold n = -((n + 1) / 2)) := by show _ = _; unfold Kp.unfold; rw [if_pos h0]
    have t1 : Int.tmod n 2 = 1 := by rw [Int.tmod_eq_emod_of_nonneg h1]; exact h0
    go_enter Try.func92, Try.ntmps92
    go_wp2_with fail
    go_ret
    exact ⟨ret_i (by rw [HF.out, Int.tdiv_eq_ediv_of_nonneg (show 0 ≤ n + 1 by omega)]; unfold wrap64; omega), rfl⟩
  · have HF : Hid (Kp.unfold n = n / 2) := by show _ = _; unfold Kp.unfold; rw [if_neg h0]
    have t1 : ¬ Int.tmod n 2 = 1 := by rw [Int.tmod_eq_emod_of_nonneg h1]; exact h0
    go_enter Try.func92, Try.ntmps92
    go_wp2_with fail
    go_ret
    exact ⟨ret_i (by rw [HF.out]), rfl⟩
theorem opsD (w : World) : Calls Try.prog 89 #[] w fun e w' => ∃ g, e = .returned (.slice (some ⟨g, 0, none⟩) 6 6) ∧ FRow w' (.slice (some ⟨g, 0, none⟩) 6 6) Kp.opsL ∧ Below w.heap.size w w' := by
  go_enter Try.func89, Try.ntmps89
  go_wp2_with fail
  generalize hW1 : w.alloc _ = W1
  obtain ⟨B1, L1, z1⟩ := of_alloc hW1
  go_ret
  exact ⟨_, rfl, frow_of_own (H := 0) (own_of_lies (z := 1) (n := 6) L1 (Nat.zero_le _) rfl (by decide)) rfl (by decide) (fun s hs => by
    unfold Kp.opsL at hs
    simp only [List.mem_cons, List.mem_nil_iff, or_false] at hs
    rcases hs with rfl | rfl | rfl | rfl | rfl | rfl <;> decide), B1⟩
theorem Wr.sz {H b : Nat} {w w' : World} (h : Wr H b w w') : w.heap.size ≤ w'.heap.size := h.1.size
theorem Wr.drew {H b : Nat} {w w' : World} (h : Wr H b w w') (n : Nat) : Wr H b w (w'.drewN n) := ⟨h.1.trans ⟨rfl, rfl, rfl, Nat.le_refl _, fun _ _ => rfl⟩, fun k t C hk h1 h2 => h.2 k t C hk h1 h2⟩
end Go.Proofs.Ytcfalhgcdffjoaa
