/-
  The law QueuePlays, walked.
-/
import Derived.Test.YtjibkhljihnhiaaQPlays
import Derived.Deep.RegionHeld3
set_option linter.unusedSimpArgs false
set_option linter.unusedVariables false
namespace Go.Proofs.Ytjibkhljihnhiaa
open Go.RowKit
open Qp
theorem RowQ.at3 {α : Type} {z : Nat} {E : α → List Value} {w : World} {v : Value} {l : List α} (h : RowQ z E w v l) : ∃ b o ao cap, v = .slice ao l.length cap ∧ l.length ≤ cap ∧ (0 < l.length → ao = some ⟨b, o, none⟩) ∧ ∀ (i : Nat) x, l[i]? = some x → ∀ (j : Nat) c, (E x)[j]? = some c → w.cell? ⟨b, o + i * z + j, none⟩ = some c := by
  obtain ⟨b, o, ⟨ao, cap, h1, h2, h3⟩, h4⟩ := h
  exact ⟨b, o, ao, cap, h1, h2, h3, h4⟩
theorem below_getP {w0 w : World} (h : Below w0.heap.size w0 w) {a : Addr} {c : Value} (hc : w0.cell? a = some c) : w.cell? a = some c := by
  rw [h.cell (cell_lt hc)]
  exact hc
theorem pq_start {w w1 : World} {b : Nat} (h : LQ w w1 b nilS []) : PQ w (w1.alloc (.cells #[.slice none 0 0] 28)) b nilS [] w1.heap.size [] :=
  ⟨⟨h.on ((Below.refl _ w1).alloc (Nat.le_refl _) _), 0, 0, none, 0, ⟨Lies.new w1 _ _, h.below.size, fun h0 => absurd h0 (by simp), fun h0 => absurd h0 (by simp), fun j u hj => by simp [flatQ] at hj, by simp, by simp, .inl rfl⟩⟩, List.Perm.refl _, List.Pairwise.nil, by simp⟩
set_option maxHeartbeats 8000000 in
set_option maxRecDepth 100000 in
theorem queuePlays_walk (v0 : Value) (l : List (Int × Int × Int)) {w : World} (hr : RowQ 3 actE w v0 l) (hI : ∀ x ∈ l, I64 x.1 ∧ I64 x.2.1 ∧ I64 x.2.2) :
    Calls Try.prog 3 #[v0] w fun e w' => e = .returned (.bool true) ∧ Below w.heap.size w w' := by
  obtain ⟨lb, lo, ao, cap, rfl, hcap, hao, hcell⟩ := hr.at3
  clear hr hI
  by_cases h0 : 300 < l.length
  · go_enter Try.func3, Try.ntmps3
    have h0z : (300 : Int) < (l.length : Int) := by omega
    go_wp2_with fail
    go_ret
    exact ⟨rfl, Below.refl _ _⟩
  have HC := hideT hcell
  have HA := hideT hao
  clear hcell hao
  obtain ⟨N, hN⟩ : ∃ N, l.length = N := ⟨_, rfl⟩
  have HN := hideT hN
  rw [hN] at h0 hcap
  rw [hN]
  clear hN
  have h0z : ¬ ((300 : Int) < (N : Int)) := by omega
  go_enter Try.func3, Try.ntmps3
  go_wp2_with (go_at_call 9; refine (newL w).mono ?_; rintro e w1 ⟨b, rfl, Q1⟩)
  have HQ1 := hideT (pq_start Q1)
  clear Q1
  generalize w1.heap.size = xb at *
  go_loopw [3, 5] (fun qv s wr => ∃ (k b : Nat) (v : Value) (L X : List Thing), s = .int .i64 k ∧ qv = .pointer (some ⟨b, 0, none⟩) ∧ k ≤ N ∧ Hid (PQ w wr b v L xb X)) (fun _ s _ => N - (intOf s).toNat)
  case atStart => exact ⟨0, b, _, [], [], rfl, rfl, by omega, HQ1⟩
  case round =>
    obtain ⟨k, b, v, L, X, rfl, rfl, hk, HP⟩ := hrel
    by_cases hlt : k < N
    · obtain ⟨x, hx⟩ : ∃ x, l[k]? = some x := ⟨_, List.getElem?_eq_getElem (by have := HN.out; omega)⟩
      have hlt2 : (k : Int) < (N : Int) := by omega
      have e0 := HA.out (by have := HN.out; omega)
      subst e0
      have c0 := below_getP HP.out.m.q.below (HC.out k x hx 0 _ rfl)
      have K1 := hideT (HC.out k x hx 1 _ rfl)
      have K2 := hideT (HC.out k x hx 2 _ rfl)
      have c1 := below_getP HP.out.m.q.below K1.out
      have c2 := below_getP HP.out.m.q.below K2.out
      clear hx
      obtain ⟨x0, x1, x2⟩ := x
      rw [Nat.add_zero] at c0
      simp only at c0 c1 c2 K1 K2
      by_cases k1 : x0 = 1
      · subst k1
        by_cases hl : L.length < 100
        · go_wp2_with fail
          go_region_held3 (fun w' => w'.cell? ⟨lb, lo + k * 3 + 1, none⟩ = some (.int .i64 x1) ∧ w'.cell? ⟨lb, lo + k * 3 + 2, none⟩ = some (.int .i64 x2)) (go_keep) (first
            | (go_at_call 10; refine ((HP.out.m.on (qdrewN (Below.refl _ _) 1)).push x1 x2 hl).mono ?_; rintro e w2 ⟨rfl, v2, L2, Q2, P2⟩; have HP2 := hideT P2; have HQ2 := hideT Q2; have z2_1 := below_getP Q2.q.below K1.out; have z2_2 := below_getP Q2.q.below K2.out; clear P2 Q2)
            | (go_at_call 11; refine (HQ2.out.xpush x1 x2 (by have := HP.out.perm.length_eq; omega)).mono ?_; rintro e w3 ⟨rfl, k3, I3, Q3⟩; have PP := hideT (PQ.grown Q3 HP2.out HP.out.perm HP.out.rise hl I3); have z3_1 := below_getP Q3.q.below K1.out; have z3_2 := below_getP Q3.q.below K2.out; clear I3 Q3))
          go_wp2_with fail
          obtain ⟨ao9, cap9, q9⟩ := PP.out.box
          have HLV := hideT (fun n => PP.out.lenV n)
          go_quiet ((go_at_call 17; exact Calls.quiet_of_same (HLV.out _)))
          go_wp2_with fail
          go_roundw
          case rel => exact ⟨k + 1, b, v2, L2, _, by go_num, rfl, by omega, PP.out.on (qdrewN (Below.refl _ _) _)⟩
          case measure => simp [intOf]; omega
        · go_wp2_with fail
          go_region_held3 (fun w' => w'.cell? ⟨lb, lo + k * 3 + 1, none⟩ = some (.int .i64 x1) ∧ w'.cell? ⟨lb, lo + k * 3 + 2, none⟩ = some (.int .i64 x2)) (go_keep) (first
            | (go_at_call 10; refine ((HP.out.m.on (qdrewN (Below.refl _ _) 1)).full x1 x2 (by omega)).mono ?_; rintro e w2 ⟨rfl, Q2⟩; have HQ2 := hideT Q2; have z2_1 := below_getP Q2.q.below K1.out; have z2_2 := below_getP Q2.q.below K2.out; clear Q2)
            | (go_at_call 11; refine (HQ2.out.xfull x1 x2 (by have := HP.out.perm.length_eq; omega)).mono ?_; rintro e w3 ⟨rfl, Q3⟩; have PP : Hid (PQ w w3 b v L xb X) := ⟨Q3, HP.out.perm, HP.out.rise, HP.out.few⟩; have z3_1 := below_getP Q3.q.below K1.out; have z3_2 := below_getP Q3.q.below K2.out; clear Q3))
          go_wp2_with fail
          obtain ⟨ao9, cap9, q9⟩ := PP.out.box
          have HLV := hideT (fun n => PP.out.lenV n)
          go_quiet ((go_at_call 17; exact Calls.quiet_of_same (HLV.out _)))
          go_wp2_with fail
          go_roundw
          case rel => exact ⟨k + 1, b, v, L, X, by go_num, rfl, by omega, PP.out.on (qdrewN (Below.refl _ _) _)⟩
          case measure => simp [intOf]; omega
      have k1z : (x0 == 1) = false := beq_eq_false_iff_ne.2 k1
      by_cases k2 : x0 = 2
      · subst k2
        clear k1 k1z c1 c2
        cases X with
        | nil =>
          have hL := HP.out.nil
          subst hL
          go_wp2_with (first
            | (go_at_call 12; refine HP.out.m.popN.mono ?_; rintro e w2 ⟨rfl, Q2⟩; have HQ2 := hideT Q2; clear Q2)
            | (go_at_call 13; refine HQ2.out.xpopN.mono ?_; rintro e w3 ⟨rfl, Q3⟩; have PP : Hid (PQ w w3 b v [] xb []) := ⟨Q3, HP.out.perm, HP.out.rise, HP.out.few⟩; clear Q3))
          obtain ⟨ao9, cap9, q9⟩ := PP.out.box
          have HLV := hideT (fun n => PP.out.lenV n)
          go_quiet ((go_at_call 17; exact Calls.quiet_of_same (HLV.out _)))
          go_wp2_with fail
          go_roundw
          case rel => exact ⟨k + 1, b, v, [], [], by go_num, rfl, by omega, PP.out.on (qdrewN (Below.refl _ _) _)⟩
          case measure => simp [intOf]; omega
        | cons m Y =>
          obtain ⟨m1, m2⟩ := m
          go_wp2_with (first
            | (go_at_call 12; refine (HP.out.m.pop Y.length (by have := HP.out.perm.length_eq; simpa using this) (m1, m2) HP.out.first).mono ?_; rintro e w2 ⟨rfl, v2, L2, Q2, P2⟩; have HQ2 := hideT Q2; have HP2 := hideT P2; clear Q2 P2)
            | (go_at_call 13; refine (HQ2.out.xpop Y.length (by simp) (m1, m2) rfl).mono ?_; rintro e w3 ⟨rfl, Q3⟩; have PP : Hid (PQ w w3 b v2 L2 xb Y) := (PQ.less Q3 HP2.out HP.out.perm HP.out.rise HP.out.few); clear Q3))
          obtain ⟨ao9, cap9, q9⟩ := PP.out.box
          have HLV := hideT (fun n => PP.out.lenV n)
          go_quiet ((go_at_call 17; exact Calls.quiet_of_same (HLV.out _)))
          go_wp2_with fail
          go_roundw
          case rel => exact ⟨k + 1, b, v2, L2, Y, by go_num, rfl, by omega, PP.out.on (qdrewN (Below.refl _ _) _)⟩
          case measure => simp [intOf]; omega
      have k2z : (x0 == 2) = false := beq_eq_false_iff_ne.2 k2
      by_cases k3 : x0 = 3
      · subst k3
        clear k1 k1z k2 k2z c1 c2
        cases X with
        | nil =>
          have hL := HP.out.nil
          subst hL
          go_wp2_with (first
            | (go_at_call 14; refine HP.out.m.peekN.mono ?_; rintro e w2 ⟨rfl, Q2⟩; have HQ2 := hideT Q2; clear Q2)
            | (go_at_call 15; refine HQ2.out.xpeekN.mono ?_; rintro e w3 ⟨rfl, Q3⟩; have PP : Hid (PQ w w3 b v [] xb []) := ⟨Q3, HP.out.perm, HP.out.rise, HP.out.few⟩; clear Q3))
          obtain ⟨ao9, cap9, q9⟩ := PP.out.box
          have HLV := hideT (fun n => PP.out.lenV n)
          go_quiet ((go_at_call 17; exact Calls.quiet_of_same (HLV.out _)))
          go_wp2_with fail
          go_roundw
          case rel => exact ⟨k + 1, b, v, [], [], by go_num, rfl, by omega, PP.out.on (qdrewN (Below.refl _ _) _)⟩
          case measure => simp [intOf]; omega
        | cons m Y =>
          obtain ⟨m1, m2⟩ := m
          go_wp2_with (first
            | (go_at_call 14; refine (HP.out.m.peek (by have := HP.out.perm.length_eq; simp at this; omega) (m1, m2) HP.out.first).mono ?_; rintro e w2 ⟨rfl, Q2⟩; have HQ2 := hideT Q2; clear Q2)
            | (go_at_call 15; refine (HQ2.out.xpeek (by simp) (m1, m2) rfl).mono ?_; rintro e w3 ⟨rfl, Q3⟩; have PP : Hid (PQ w w3 b v L xb ((m1, m2) :: Y)) := ⟨Q3, HP.out.perm, HP.out.rise, HP.out.few⟩; clear Q3))
          obtain ⟨ao9, cap9, q9⟩ := PP.out.box
          have HLV := hideT (fun n => PP.out.lenV n)
          go_quiet ((go_at_call 17; exact Calls.quiet_of_same (HLV.out _)))
          go_wp2_with fail
          go_roundw
          case rel => exact ⟨k + 1, b, v, L, ((m1, m2) :: Y), by go_num, rfl, by omega, PP.out.on (qdrewN (Below.refl _ _) _)⟩
          case measure => simp [intOf]; omega
      have k3z : (x0 == 3) = false := beq_eq_false_iff_ne.2 k3
      clear k1 k2 k3 c1 c2
      go_wp2_with (first
        | (go_at_call 16; refine HP.out.m.copy.mono ?_; rintro e w2 ⟨b2, v2, rfl, T2, X2⟩; have HT2 := hideT T2; have HX2 := hideT X2; clear T2 X2)
        | (go_at_call 10; refine (two_pushX HT2.out HX2.out 1 1).mono ?_; rintro e w3 ⟨⟨t3, rfl⟩, Q3⟩; have PP : Hid (PQ w w3 b2 v2 L xb X) := ⟨Q3, HP.out.perm, HP.out.rise, HP.out.few⟩; clear Q3))
      obtain ⟨ao9, cap9, q9⟩ := PP.out.box
      have HLV := hideT (fun n => PP.out.lenV n)
      go_quiet ((go_at_call 17; exact Calls.quiet_of_same (HLV.out _)))
      go_wp2_with fail
      go_roundw
      case rel => exact ⟨k + 1, b2, v2, L, X, by go_num, rfl, by omega, PP.out.on (qdrewN (Below.refl _ _) _)⟩
      case measure => simp [intOf]; omega
    · have hlt2 : ¬ ((k : Int) < (N : Int)) := by omega
      go_wp2_with (go_at_call 18; refine HP.out.m.q.known.mono ?_; rintro e w3 ⟨rfl, B3⟩)
      go_ret
      exact ⟨rfl, B3⟩
end Go.Proofs.Ytjibkhljihnhiaa
