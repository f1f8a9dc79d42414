/-
  The law QueueFull, walked.
-/
import Derived.Test.YtjibkhljihnhiaaQLaw
set_option linter.unusedSimpArgs false
set_option linter.unusedVariables false
namespace Go.Proofs.Ytjibkhljihnhiaa
open Go.RowKit
open Qp
set_option maxHeartbeats 4000000 in
theorem queueFull_walk (n : Int) (hw : (Lit.int .i64 n).wf = true) {w : World} :
    Calls Try.prog 5 #[.int .i64 n] w fun e w' => e = .returned (.bool true) ∧ Below w.heap.size w w' := by
  by_cases h0 : n < 0
  · go_enter Try.func5, Try.ntmps5
    go_wp2_with fail
    go_ret
    exact ⟨rfl, Below.refl _ _⟩
  by_cases h1 : 130 < n
  · go_enter Try.func5, Try.ntmps5
    go_wp2_with fail
    go_ret
    exact ⟨rfl, Below.refl _ _⟩
  obtain ⟨m, rfl⟩ : ∃ m : Nat, n = m := ⟨n.toNat, by omega⟩
  have h2 : m ≤ 130 := by omega
  clear hw h0 h1
  go_enter Try.func5, Try.ntmps5
  go_wp2_with (go_at_call 9; refine (newL w).mono ?_; rintro e w1 ⟨b, rfl, Q1⟩)
  have HQ1 := hideT Q1
  clear Q1
  go_loopw [4] (fun s wr => ∃ (k : Nat) (v : Value) (L : List Thing), s = .int .i64 k ∧ k ≤ m ∧ Hid (LQ w wr b v L) ∧ Hid (L.length = min k 100)) (fun s _ => m - (intOf s).toNat)
  case atStart => exact ⟨0, _, [], rfl, by omega, HQ1, by simp [Hid]⟩
  case round =>
    obtain ⟨k, v, L, rfl, hk, HL, HN⟩ := hrel
    by_cases hlt : k < m
    · by_cases hc : k < 100
      · have hcz : (k : Int) < 100 := by omega
        go_wp2_with (go_at_call 10; refine (HL.out.push _ _ (by have := HN.out; omega)).mono ?_; rintro e w2 ⟨rfl, v2, L2, Q2, P2⟩; have HQ2 := hideT Q2; have HP2 := hideT P2; clear Q2 P2)
        go_roundw
        case rel => exact ⟨k + 1, v2, L2, by go_num, by omega, HQ2, by
          have h1 := HP2.out.length_eq
          have h2 := HN.out
          rw [List.length_cons] at h1
          unfold Hid
          omega⟩
        case measure => simp [intOf]; omega
      · have hcz : ¬ ((k : Int) < 100) := by omega
        go_wp2_with (go_at_call 10; refine (HL.out.full _ _ (by have := HN.out; omega)).mono ?_; rintro e w2 ⟨rfl, v2, L2, Q2, P2⟩; have HQ2 := hideT Q2; have HP2 := hideT P2; clear Q2 P2)
        go_roundw
        case rel => exact ⟨k + 1, v2, L2, by go_num, by omega, HQ2, by
          have h1 := HP2.out.length_eq
          have h2 := HN.out
          unfold Hid
          omega⟩
        case measure => simp [intOf]; omega
    · have hkm : k = m := by omega
      subst hkm
      by_cases hc : k ≤ 100
      · go_wp2_with (first
          | (go_at_call 17; refine (HL.out.len (k : Int) (by have := HN.out; omega)).mono ?_; rintro e w2 ⟨rfl, Q2⟩; have HQ2 := hideT Q2; clear Q2)
          | (go_at_call 18; refine HQ2.out.known.mono ?_; rintro e w3 ⟨rfl, B3⟩))
        go_ret
        exact ⟨rfl, B3⟩
      · go_wp2_with (first
          | (go_at_call 17; refine (HL.out.len 100 (by have := HN.out; omega)).mono ?_; rintro e w2 ⟨rfl, Q2⟩; have HQ2 := hideT Q2; clear Q2)
          | (go_at_call 18; refine HQ2.out.known.mono ?_; rintro e w3 ⟨rfl, B3⟩))
        go_ret
        exact ⟨rfl, B3⟩
end Go.Proofs.Ytjibkhljihnhiaa
