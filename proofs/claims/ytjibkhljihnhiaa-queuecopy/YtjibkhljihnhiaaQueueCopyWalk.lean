/-
  The law QueueCopy, walked.
-/
import Derived.Test.YtjibkhljihnhiaaQTwo
set_option linter.unusedSimpArgs false
set_option linter.unusedVariables false
namespace Go.Proofs.Ytjibkhljihnhiaa
open Go.RowKit
open Qp
/-- What a row's slice says of itself, and where its cells lie. -/
theorem RowQ.at {α : Type} {z : Nat} {E : α → List Value} {w : World} {v : Value} {l : List α} (h : RowQ z E w v l) : ∃ b o ao cap, v = .slice ao l.length cap ∧ l.length ≤ cap ∧ (0 < l.length → ao = some ⟨b, o, none⟩) ∧ ∀ (i : Nat) x, l[i]? = some x → ∀ (j : Nat) c, (E x)[j]? = some c → w.cell? ⟨b, o + i * z + j, none⟩ = some c := by
  obtain ⟨b, o, ⟨ao, cap, h1, h2, h3⟩, h4⟩ := h
  exact ⟨b, o, ao, cap, h1, h2, h3, h4⟩
theorem below_get {w0 w : World} (h : Below w0.heap.size w0 w) {a : Addr} {c : Value} (hc : w0.cell? a = some c) : w.cell? a = some c := by
  rw [h.cell (cell_lt hc)]
  exact hc
set_option maxHeartbeats 4000000 in
theorem queueCopy_walk (v0 : Value) (l : List (Int × Int × Int)) {w : World} (hr : RowQ 3 actE w v0 l) (hI : ∀ x ∈ l, I64 x.1 ∧ I64 x.2.1 ∧ I64 x.2.2) (d : Int) (hd : (Lit.int .i64 d).wf = true) :
    Calls Try.prog 6 #[v0, .int .i64 d] w fun e w' => e = .returned (.bool true) ∧ Below w.heap.size w w' := by
  obtain ⟨lb, lo, ao, cap, rfl, hcap, hao, hcell⟩ := hr.at
  clear hr hd hI
  by_cases h0 : 60 < l.length
  · go_enter Try.func6, Try.ntmps6
    have h0z : (60 : Int) < (l.length : Int) := by omega
    go_wp2_with fail
    go_ret
    exact ⟨rfl, Below.refl _ _⟩
  have HC := hideT hcell
  have HA := hideT hao
  clear hcell hao
  obtain ⟨N, hN⟩ : ∃ N, l.length = N := ⟨_, rfl⟩
  have HN := hideT hN
  rw [hN] at h0 hcap
  rw [hN]
  clear hN
  have h0z : ¬ ((60 : Int) < (N : Int)) := by omega
  go_enter Try.func6, Try.ntmps6
  go_wp2_with (go_at_call 9; refine (newL w).mono ?_; rintro e w1 ⟨b, rfl, Q1⟩)
  have HQ1 := hideT Q1
  clear Q1
  go_loopw [6, 7] (fun c s wr => ∃ (k : Nat) (v : Value) (L : List Thing), s = .int .i64 k ∧ c = .int .i64 k ∧ k ≤ N ∧ Hid (LQ w wr b v L) ∧ Hid (L.length = k)) (fun _ s _ => N - (intOf s).toNat)
  case atStart => exact ⟨0, _, [], rfl, rfl, by omega, HQ1, rfl⟩
  case round =>
    obtain ⟨k, v, L, rfl, rfl, hk, HL, HR⟩ := hrel
    by_cases hlt : k < N
    · obtain ⟨x, hx⟩ : ∃ x, l[k]? = some x := ⟨_, List.getElem?_eq_getElem (by have := HN.out; omega)⟩
      have hlt2 : (k : Int) < (N : Int) := by omega
      have e0 := HA.out (by have := HN.out; omega)
      subst e0
      have c1 := below_get HL.out.below (HC.out k x hx 1 _ rfl)
      have c2 := below_get HL.out.below (HC.out k x hx 2 _ rfl)
      clear hx
      obtain ⟨x0, x1, x2⟩ := x
      simp only at c1 c2
      go_wp2_with fail
      go_region_with (go_at_call 10; refine ((HL.out.on (qdrewN (Below.refl _ _) 1)).push _ _ (by have := HR.out; omega)).mono ?_; rintro e w2 ⟨rfl, v2, L2, Q2, P2⟩; have HQ2 := hideT Q2; have HP2 := hideT P2; clear Q2 P2)
      all_goals go_wp2_with fail
      all_goals
        go_roundw
        case rel => exact ⟨k + 1, v2, L2, by go_num, by go_num, by omega, HQ2, by
          have h1 := HP2.out.length_eq
          have h2 := HR.out
          rw [List.length_cons] at h1
          unfold Hid
          omega⟩
        case measure => simp [intOf]; omega
    · have hlt2 : ¬ ((k : Int) < (N : Int)) := by omega
      have hkN : k ≤ 60 := by omega
      go_wp2_with (first
        | (go_at_call 16; refine HL.out.copy.mono ?_; rintro e w2 ⟨b2, v2, rfl, Q2⟩; have HQ2 := hideT Q2.flip; clear Q2)
        | (go_at_call 10; refine (HQ2.out.push d 0 (by have := HR.out; omega)).mono ?_; rintro e w3 ⟨rfl, v3, L3, T3, P3⟩; have HT3 := hideT T3.flip; have hn := P3.length_eq; have HN3 : Hid (L3.length = k + 1) := (by have := HR.out; rw [List.length_cons] at hn; unfold Hid; omega); clear T3 P3 hn))
      go_loopw [9] (fun s wr2 => ∃ (j : Nat) (vj : Value) (M : List Thing), s = .int .i64 j ∧ j ≤ k ∧ Hid (Two w wr2 b vj M b2 v3 L3) ∧ Hid (M.length + j = k)) (fun s _ => k - (intOf s).toNat)
      case atStart => exact ⟨0, v, L, rfl, by omega, HT3, HR.out⟩
      case round =>
        obtain ⟨j, vj, M, rfl, hj, HM, HS⟩ := hrel
        by_cases hlt3 : j < k
        · have hlt4 : (j : Int) < (k : Int) := by omega
          go_wp2_with (go_at_call 12; refine (HM.out.pop (k - j - 1) (by have := HS.out; omega)).mono ?_; rintro e w4 ⟨mm, rfl, v4, M4, T4, N4⟩; have HT4 := hideT T4; have HN4 := hideT N4; clear T4 N4)
          go_roundw
          case rel => exact ⟨j + 1, v4, M4, by go_num, by omega, HT4, by have := HN4.out; unfold Hid; omega⟩
          case measure => simp [intOf]; omega
        · have hlt4 : ¬ ((j : Int) < (k : Int)) := by omega
          go_wp2_with (first
            | (go_at_call 17; refine (HM.out.len 0 (by have := HS.out; omega)).mono ?_; rintro e w5 ⟨rfl, T5⟩; have HT5 := hideT T5.flip; clear T5 HM)
            | (go_at_call 17; refine (HT5.out.len ((k : Int) + 1) (by have := HN3.out; omega)).mono ?_; rintro e w6 ⟨rfl, T6⟩; have HT6 := hideT T6; clear T6 HT5)
            | (go_at_call 18; refine HT6.out.one.known.mono ?_; rintro e w7 ⟨rfl, B7⟩))
          go_ret
          exact ⟨rfl, B7⟩
end Go.Proofs.Ytjibkhljihnhiaa
