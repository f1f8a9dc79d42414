/-
  The law QueueTurns, walked.
-/
import Derived.Test.YtjibkhljihnhiabQLaw
set_option linter.unusedSimpArgs false
set_option linter.unusedVariables false
namespace Go.Proofs.Ytjibkhljihnhiab
open Go.RowKit
open Qp
theorem RowQ.at1 {w : World} {v : Value} {l : List Int} (h : RowQ 1 intE w v l) : ∃ b o ao cap, v = .slice ao l.length cap ∧ l.length ≤ cap ∧ (0 < l.length → ao = some ⟨b, o, none⟩) ∧ ∀ (i : Nat) x, l[i]? = some x → w.cell? ⟨b, o + i, none⟩ = some (.int .i64 x) := by
  obtain ⟨b, o, ⟨ao, cap, h1, h2, h3⟩, h4⟩ := h
  refine ⟨b, o, ao, cap, h1, h2, h3, fun i x hx => ?_⟩
  have := h4 i x hx 0 _ rfl
  rw [Nat.mul_one, Nat.add_zero] at this
  exact this
theorem below_get1 {w0 w : World} (h : Below w0.heap.size w0 w) {a : Addr} {c : Value} (hc : w0.cell? a = some c) : w.cell? a = some c := by
  rw [h.cell (cell_lt hc)]
  exact hc
set_option maxHeartbeats 4000000 in
theorem queueTurns_walk (v0 : Value) (l : List Int) {w : World} (hr : RowQ 1 intE w v0 l) (hI : ∀ x ∈ l, I64 x) :
    Calls Try.prog 3 #[v0] w fun e w' => e = .returned (.bool true) ∧ Below w.heap.size w w' := by
  obtain ⟨lb, lo, ao, cap, rfl, hcap, hao, hcell⟩ := hr.at1
  clear hr hI
  by_cases h0 : 90 < l.length
  · go_enter Try.func3, Try.ntmps3
    have h0z : (90 : Int) < (l.length : Int) := by omega
    go_wp2_with fail
    go_ret
    exact ⟨rfl, Below.refl _ _⟩
  have HC := hideT hcell
  have HA := hideT hao
  clear hcell hao
  obtain ⟨N, hN⟩ : ∃ N, l.length = N := ⟨_, rfl⟩
  have HN := hideT hN
  rw [hN] at h0 hcap
  rw [hN]
  clear hN
  have h0z : ¬ ((90 : Int) < (N : Int)) := by omega
  go_enter Try.func3, Try.ntmps3
  go_wp2_with (go_at_call 4; refine (newL w).mono ?_; rintro e w1 ⟨b, rfl, Q1⟩)
  have HQ1 := hideT Q1
  clear Q1
  go_loopw [4] (fun s wr => ∃ (k : Nat) (v : Value) (L : List Thing), s = .int .i64 (2 * (k : Int)) ∧ 2 * k ≤ N ∧ Hid (LQ w wr b v L) ∧ Hid (L.length = k)) (fun s _ => N - (intOf s).toNat)
  case atStart => exact ⟨0, _, [], rfl, by omega, HQ1, rfl⟩
  case round =>
    obtain ⟨k, v, L, rfl, hk, HL, HR⟩ := hrel
    by_cases hlt : 2 * k + 1 < N
    · obtain ⟨x, hx⟩ : ∃ x, l[2 * k]? = some x := ⟨_, List.getElem?_eq_getElem (by have := HN.out; omega)⟩
      obtain ⟨y, hy⟩ : ∃ y, l[2 * k + 1]? = some y := ⟨_, List.getElem?_eq_getElem (by have := HN.out; omega)⟩
      have hlt2 : 2 * (k : Int) + 1 < (N : Int) := by omega
      have hN0 : 0 < N := by omega
      have e0 := HA.out (by have := HN.out; omega)
      subst e0
      have c1 := HC.out (2 * k) x hx
      have c2 := HC.out (2 * k + 1) y hy
      have k1 := below_get1 HL.out.below c1
      have C1 := hideT c1
      have C2 := hideT c2
      clear hx hy c1 c2
      go_wp2_with (first
        | (go_at_call 5; refine (HL.out.push x 0 (by have := HR.out; omega)).mono ?_; rintro e w2 ⟨rfl, v2, L2, Q2, P2⟩; have HQ2 := hideT Q2; have HP2 := hideT P2; have k2 := below_get1 Q2.below C2.out; clear Q2 P2 HL k1)
        | (go_at_call 5; refine (HQ2.out.push y 0 (by have h1 := HP2.out.length_eq; have h2 := HR.out; rw [List.length_cons] at h1; omega)).mono ?_; rintro e w3 ⟨rfl, v3, L3, Q3, P3⟩; have HQ3 := hideT Q3; have HP3 := hideT (P3.trans (List.Perm.cons _ HP2.out)); clear Q3 P3 HQ2 k2)
        | (go_at_call 6; refine (HQ3.out.peek (by have h1 := HP3.out.length_eq; rw [List.length_cons] at h1; omega)).mono ?_; rintro e w4 ⟨m, rfl, hm, Q4⟩; have HQ4 := hideT Q4; have HM := hideT hm; clear Q4 hm HQ3)
        | (go_at_call 7; refine (HQ4.out.pop (k + 1) (by have h1 := HP3.out.length_eq; have h2 := HR.out; simp only [List.length_cons] at h1; omega)).mono ?_; rintro e w5 ⟨m2, rfl, hm2, v5, L5, Q5, P5, N5⟩; obtain rfl := lt_uniq HM.out hm2; have k5 := below_get1 Q5.below C1.out; have j5 := below_get1 Q5.below C2.out; have HQ5 := hideT Q5; have HN5 := hideT N5; have mx : ¬ (x < m.1) := (by have := HM.out.2 (x, 0) (HP3.out.mem_iff.2 (by simp)); rw [lt_no] at this; simp only at this; omega); have my : ¬ (y < m.1) := (by have := HM.out.2 (y, 0) (HP3.out.mem_iff.2 (by simp)); rw [lt_no] at this; simp only at this; omega); clear Q5 P5 N5 HQ4 hm2))
      go_roundw
      case rel => exact ⟨k + 1, v5, L5, by go_num, by omega, HQ5, HN5.out⟩
      case measure => simp [intOf]; omega
    · have hlt2 : ¬ (2 * (k : Int) + 1 < (N : Int)) := by omega
      have hq : (N : Int) / 2 = (k : Int) := by omega
      go_wp2_with (first
        | (go_at_call 8; refine (HL.out.len ((N : Int) / 2) (by have := HR.out; omega)).mono ?_; rintro e w2 ⟨rfl, Q2⟩; have HQ2 := hideT Q2; clear Q2)
        | (go_at_call 9; refine HQ2.out.known.mono ?_; rintro e w3 ⟨rfl, B3⟩))
      go_ret
      exact ⟨rfl, B3⟩
end Go.Proofs.Ytjibkhljihnhiab
