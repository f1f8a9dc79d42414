/-
  heap.down: the library's own text, over the queue's row.
-/
import Derived.Test.YtjibkhljihnhiaaQUp
set_option linter.unusedSimpArgs false
set_option linter.unusedVariables false
namespace Go.Proofs.Ytjibkhljihnhiaa
open Go.RowKit
open Qp
theorem QGo.lessI {w0 w : World} {H b g n cap : Nat} {L0 L : List Thing} (h : QGo w0 w H b g n cap L0 L) (i j : Nat) (x y : Int) (v : Bool) (hv : lt (at_ L i) (at_ L j) = v) (hx : x = i) (hy : y = j) (hi : i < n) (hj : j < n) (hn : n ≤ 1000) :
    Calls Try.prog 41 #[.slice (some ⟨g, 0, none⟩) n cap, .int .i64 x, .int .i64 y] w fun e w' => e = .returned (.bool v) ∧ QGo w0 w' H b g n cap L0 L := by
  subst hx hy hv
  exact h.less i j hi hj hn
theorem QGo.swapI {w0 w : World} {H b g n cap : Nat} {L0 L : List Thing} (h : QGo w0 w H b g n cap L0 L) (i j : Nat) (x y : Int) (hx : x = i) (hy : y = j) (hi : i < n) (hj : j < n) (hn : n ≤ 1000) :
    Calls Try.prog 42 #[.slice (some ⟨g, 0, none⟩) n cap, .int .i64 x, .int .i64 y] w fun e w' => e = .returned (.tuple #[]) ∧ QGo w0 w' H b g n cap L0 (Qp.swp L i j) := by
  subst hx hy
  exact h.swap i j hi hj hn
set_option maxHeartbeats 4000000 in
theorem downQ (w : World) (H b g n cap : Nat) (L0 L : List Thing) (m : Nat) (w0 : World) (h : QGo w0 w H b g n cap L0 L) (hm : m ≤ n) (hn : n ≤ 1000) (hu : Down L m 0) :
    Calls Try.prog 23 #[.iface 46 (.pointer (some ⟨b, 0, none⟩)), .int .i64 0, .int .i64 m] w fun e w' => (∃ v, e = .returned (.bool v)) ∧ ∃ L', QGo w0 w' H b g n cap L0 L' ∧ HeapN L' m ∧ (m < n → at_ L' m = at_ L m) := by
  have eL := enters_of Try.func41 (by kernel_rfl) rfl
  have eS := enters_of Try.func42 (by kernel_rfl) rfl
  have HG : Hid (QGo w0 w H b g n cap L0 L) := h
  have HU := hideT hu
  clear h hu
  go_enter Try.func23, Try.ntmps23
  go_wp2_with fail
  go_loopw [7] (fun s wr => ∃ (k : Nat) (M : List Thing), s = .int .i64 k ∧ k ≤ n ∧ Hid (QGo w0 wr H b g n cap L0 M) ∧ Hid (Down M m k) ∧ Hid (m < n → at_ M m = at_ L m)) (fun s _ => n - (intOf s).toNat)
  case atStart => exact ⟨0, L, rfl, by omega, HG, HU, fun _ => rfl⟩
  case round =>
    obtain ⟨k, M, rfl, hk, HM, HV, HE⟩ := hrel
    have fin : (∀ q, 0 < q → q < m → (q - 1) / 2 = k → lt (at_ M q) (at_ M k) = false) → ∀ w1, QGo w0 w1 H b g n cap L0 M → ∃ L', QGo w0 w1 H b g n cap L0 L' ∧ HeapN L' m ∧ (m < n → at_ L' m = at_ L m) := fun hq w1 G => ⟨M, G, down_stop HV.out hq, HE.out⟩
    have FIN := hideT fin
    have mL := finds_Less wr ⟨b, 0, none⟩ _ HM.out.box
    clear fin
    by_cases h1 : m ≤ 2 * k + 1
    · have h1z : (m : Int) ≤ 2 * (k : Int) + 1 := by omega
      go_wp2_with fail
      go_ret
      exact ⟨⟨_, rfl⟩, FIN.out (fun q q0 q1 q2 => by omega) _ HM.out⟩
    · have h1z : ¬ ((m : Int) ≤ 2 * (k : Int) + 1) := by omega
      have nxt : ∀ j, (j - 1) / 2 = k → 0 < j → j < m → (∀ q, 0 < q → q < m → (q - 1) / 2 = k → lt (at_ M q) (at_ M j) = false) → lt (at_ M j) (at_ M k) = true → ∀ w1, QGo w0 w1 H b g n cap L0 (Qp.swp M k j) →
          Hid (QGo w0 w1 H b g n cap L0 (Qp.swp M k j)) ∧ Hid (Down (Qp.swp M k j) m j) ∧ Hid (m < n → at_ (Qp.swp M k j) m = at_ L m) := fun j hj j0 jm hl hlt w1 G =>
        ⟨G, down_step HV.out (by have := HM.out.len; omega) jm j0 hj hl hlt, fun hmn => by
          have := HM.out.len
          rw [at_swp (by omega) (by omega), if_neg (by omega), if_neg (by omega)]
          exact HE.out hmn⟩
      have NXT := hideT nxt
      clear nxt
      by_cases h2 : 2 * k + 2 < m
      · have h2z : 2 * (k : Int) + 1 + 1 < (m : Int) := by omega
        cases hv : lt (at_ M (2 * k + 2)) (at_ M (2 * k + 1)) with
        | true =>
          cases hg : lt (at_ M (2 * k + 2)) (at_ M k) with
          | true =>
            have T1 := hideT hv
            have T2 := hideT hg
            clear hv hg
            go_wp2_with (first
              | (go_at_call 41; refine (HM.out.lessI (2 * k + 2) (2 * k + 1) _ _ true T1.out (by omega) (by omega) (by omega) (by omega) hn).mono ?_; rintro e w1 ⟨rfl, G1⟩; have mL1 := finds_Less w1 ⟨b, 0, none⟩ _ G1.box)
              | (go_at_call 41; refine (G1.lessI (2 * k + 2) k _ _ true T2.out (by omega) (by omega) (by omega) (by omega) hn).mono ?_; rintro e w2 ⟨rfl, G2⟩; have mS := finds_Swap w2 ⟨b, 0, none⟩ _ G2.box)
              | (go_at_call 42; refine (G2.swapI k (2 * k + 2) _ _ (by omega) (by omega) (by omega) (by omega) hn).mono ?_; rintro e w3 ⟨rfl, G3⟩))
            go_roundw
            case rel => exact ⟨2 * k + 2, _, by go_num, by omega, NXT.out (2 * k + 2) (by omega) (by omega) (by omega) (fun q q0 q1 q2 => by
              have := T1.out
              rcases (show q = 2 * k + 1 ∨ q = 2 * k + 2 by omega) with e | e
              · subst e; rw [lt_iff] at this; rw [lt_no]; omega
              · subst e; rw [lt_no]; omega) T2.out _ G3⟩
            case measure => simp [intOf]; omega
          | false =>
            have T1 := hideT hv
            have T2 := hideT hg
            clear hv hg
            go_wp2_with (first
              | (go_at_call 41; refine (HM.out.lessI (2 * k + 2) (2 * k + 1) _ _ true T1.out (by omega) (by omega) (by omega) (by omega) hn).mono ?_; rintro e w1 ⟨rfl, G1⟩; have mL1 := finds_Less w1 ⟨b, 0, none⟩ _ G1.box)
              | (go_at_call 41; refine (G1.lessI (2 * k + 2) k _ _ false T2.out (by omega) (by omega) (by omega) (by omega) hn).mono ?_; rintro e w2 ⟨rfl, G2⟩))
            go_ret
            exact ⟨⟨_, rfl⟩, FIN.out (fun q q0 q1 q2 => by
              have t1 := T1.out
              have t2 := T2.out
              rcases (show q = 2 * k + 1 ∨ q = 2 * k + 2 by omega) with e | e
              · subst e; rw [lt_iff] at t1; rw [lt_no] at t2 ⊢; omega
              · subst e; exact t2) _ G2⟩
        | false =>
          cases hg : lt (at_ M (2 * k + 1)) (at_ M k) with
          | true =>
            have T1 := hideT hv
            have T2 := hideT hg
            clear hv hg
            go_wp2_with (first
              | (go_at_call 41; refine (HM.out.lessI (2 * k + 2) (2 * k + 1) _ _ false T1.out (by omega) (by omega) (by omega) (by omega) hn).mono ?_; rintro e w1 ⟨rfl, G1⟩; have mL1 := finds_Less w1 ⟨b, 0, none⟩ _ G1.box)
              | (go_at_call 41; refine (G1.lessI (2 * k + 1) k _ _ true T2.out (by omega) (by omega) (by omega) (by omega) hn).mono ?_; rintro e w2 ⟨rfl, G2⟩; have mS := finds_Swap w2 ⟨b, 0, none⟩ _ G2.box)
              | (go_at_call 42; refine (G2.swapI k (2 * k + 1) _ _ (by omega) (by omega) (by omega) (by omega) hn).mono ?_; rintro e w3 ⟨rfl, G3⟩))
            go_roundw
            case rel => exact ⟨2 * k + 1, _, by go_num, by omega, NXT.out (2 * k + 1) (by omega) (by omega) (by omega) (fun q q0 q1 q2 => by
              have := T1.out
              rcases (show q = 2 * k + 1 ∨ q = 2 * k + 2 by omega) with e | e
              · subst e; rw [lt_no]; omega
              · subst e; exact this) T2.out _ G3⟩
            case measure => simp [intOf]; omega
          | false =>
            have T1 := hideT hv
            have T2 := hideT hg
            clear hv hg
            go_wp2_with (first
              | (go_at_call 41; refine (HM.out.lessI (2 * k + 2) (2 * k + 1) _ _ false T1.out (by omega) (by omega) (by omega) (by omega) hn).mono ?_; rintro e w1 ⟨rfl, G1⟩; have mL1 := finds_Less w1 ⟨b, 0, none⟩ _ G1.box)
              | (go_at_call 41; refine (G1.lessI (2 * k + 1) k _ _ false T2.out (by omega) (by omega) (by omega) (by omega) hn).mono ?_; rintro e w2 ⟨rfl, G2⟩))
            go_ret
            exact ⟨⟨_, rfl⟩, FIN.out (fun q q0 q1 q2 => by
              have t1 := T1.out
              have t2 := T2.out
              rcases (show q = 2 * k + 1 ∨ q = 2 * k + 2 by omega) with e | e
              · subst e; exact t2
              · subst e; rw [lt_no] at t1 t2 ⊢; omega) _ G2⟩
      · have h2z : ¬ (2 * (k : Int) + 1 + 1 < (m : Int)) := by omega
        cases hg : lt (at_ M (2 * k + 1)) (at_ M k) with
        | true =>
          have T2 := hideT hg
          clear hg
          go_wp2_with (first
            | (go_at_call 41; refine (HM.out.lessI (2 * k + 1) k _ _ true T2.out (by omega) (by omega) (by omega) (by omega) hn).mono ?_; rintro e w2 ⟨rfl, G2⟩; have mS := finds_Swap w2 ⟨b, 0, none⟩ _ G2.box)
            | (go_at_call 42; refine (G2.swapI k (2 * k + 1) _ _ (by omega) (by omega) (by omega) (by omega) hn).mono ?_; rintro e w3 ⟨rfl, G3⟩))
          go_roundw
          case rel => exact ⟨2 * k + 1, _, by go_num, by omega, NXT.out (2 * k + 1) (by omega) (by omega) (by omega) (fun q q0 q1 q2 => by
            have e : q = 2 * k + 1 := by omega
            subst e; rw [lt_no]; omega) T2.out _ G3⟩
          case measure => simp [intOf]; omega
        | false =>
          have T2 := hideT hg
          clear hg
          go_wp2_with (first
            | (go_at_call 41; refine (HM.out.lessI (2 * k + 1) k _ _ false T2.out (by omega) (by omega) (by omega) (by omega) hn).mono ?_; rintro e w2 ⟨rfl, G2⟩))
          go_ret
          exact ⟨⟨_, rfl⟩, FIN.out (fun q q0 q1 q2 => by
            have e : q = 2 * k + 1 := by omega
            subst e; exact T2.out) _ G2⟩
end Go.Proofs.Ytjibkhljihnhiaa
