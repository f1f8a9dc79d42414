/-
  The row's own order, length, and two that change places.
-/
import Derived.Test.YtjibkhljihnhiaaQMem
import Derived.Deep.RegionHeld3
set_option linter.unusedSimpArgs false
set_option linter.unusedVariables false
namespace Go.Proofs.Ytjibkhljihnhiaa
open Go.RowKit
open Qp
theorem qret_i {k : IntKind} {a v : Int} (h : a = v) : Ending.returned (.int k a) = .returned (.int k v) := by rw [h]
theorem qret_b {a v : Bool} (h : a = v) : Ending.returned (.bool a) = .returned (.bool v) := by rw [h]
theorem qcell {w w' : World} (hb : Below w.heap.size w w') (a : Addr) (c : Value) (h : w.cell? a = some c) : w'.cell? a = some c := by
  rw [hb.cell (cell_lt h)]
  exact h
theorem qdrewN {B : Nat} {a w : World} (h : Below B a w) (n : Nat) : Below B a (w.drewN n) := h.trans ⟨rfl, rfl, rfl, Nat.le_refl _, fun _ _ => rfl⟩
theorem qfrom {w v w' : World} (h : Below w.heap.size w v) (k : Below v.heap.size v w') : Below w.heap.size w w' := h.trans (k.mono h.size)
theorem isNaNQ (x : Int) (w : World) :
    Calls Try.prog 45 #[.int .i64 x] w fun e w' => e = .returned (.bool false) ∧ w' = w := by
  go_enter Try.func45, Try.ntmps45
  go_wp2_with fail
  go_ret
  exact ⟨qret_b (by simp), rfl⟩
theorem cmpQ (x y : Int) (w : World) :
    Calls Try.prog 44 #[.int .i64 x, .int .i64 y] w fun e w' => e = .returned (.int .i64 (cz x y)) ∧ w' = w := by
  go_enter Try.func44, Try.ntmps44
  go_wp2_with (go_at_call 45; refine (isNaNQ _ _).mono ?_; rintro e w' ⟨rfl, rfl⟩)
  all_goals go_ret
  all_goals refine ⟨qret_i ?_, rfl⟩
  all_goals unfold cz
  · rw [if_pos (by assumption)]
  · rw [if_neg (by omega), if_pos (by omega)]
  · rw [if_neg (by omega), if_neg (by omega)]
theorem cmpQB (x y : Int) (w : World) :
    Calls Try.prog 44 #[.int .i64 x, .int .i64 y] w fun e w' => e = .returned (.int .i64 (cz x y)) ∧ Below w.heap.size w w' := (cmpQ x y w).mono fun _ _ ⟨h1, h2⟩ => ⟨h1, by rw [h2]; exact Below.refl _ _⟩
def or2q (x y : Int) : Int := if x ≠ 0 then x else y
theorem orQ (x y : Int) (b : Nat) (w : World) (h0 : w.cell? ⟨b, 0, none⟩ = some (.int .i64 x)) (h1 : w.cell? ⟨b, 1, none⟩ = some (.int .i64 y)) :
    Calls Try.prog 43 #[.slice (some ⟨b, 0, none⟩) 2 2] w fun e w' => e = .returned (.int .i64 (or2q x y)) ∧ w' = w := by
  go_enter Try.func43, Try.ntmps43
  go_wp2_with fail
  go_loop [8] (fun i => ∃ k : Nat, k ≤ 2 ∧ i = .int .i64 k ∧ (k = 1 → x = 0) ∧ (k = 2 → x = 0 ∧ y = 0)) (fun i => 2 - (intOf i).toNat)
  case atStart => exact ⟨0, by omega, rfl, by omega, by omega⟩
  case round =>
    obtain ⟨k, hk, rfl, hx, hy⟩ := hrel
    rcases (show k = 0 ∨ k = 1 ∨ k = 2 by omega) with rfl | rfl | rfl
    · by_cases e : x = 0
      · subst e
        go_wp2_with fail
        go_round
        case rel => exact ⟨1, by omega, by go_num, by simp, by simp⟩
        case measure => simp [intOf]
      · have e1 : (x != 0) = true := bne_iff_ne.2 e
        go_wp2_with fail
        go_ret
        exact ⟨qret_i (by unfold or2q; rw [if_pos e]), rfl⟩
    · obtain rfl := hx rfl
      by_cases e : y = 0
      · subst e
        go_wp2_with fail
        go_round
        case rel => exact ⟨2, by omega, by go_num, by simp, by simp⟩
        case measure => simp [intOf]
      · have e1 : (y != 0) = true := bne_iff_ne.2 e
        go_wp2_with fail
        go_ret
        exact ⟨qret_i (by unfold or2q; rw [if_neg (by omega)]), rfl⟩
    · obtain ⟨rfl, rfl⟩ := hy rfl
      go_wp2_with fail
      go_ret
      exact ⟨qret_i (by unfold or2q; rw [if_neg (by omega)]), rfl⟩
theorem orQB (x y : Int) (w : World) :
    Calls Try.prog 43 #[.slice (some ⟨w.heap.size, 0, none⟩) 2 2] (w.alloc (.cells #[.int .i64 x, .int .i64 y] 3)) fun e w' => e = .returned (.int .i64 (or2q x y)) ∧ Below w.heap.size w w' := by
  have LN := Lies.new w 3 #[.int .i64 x, .int .i64 y]
  exact (orQ x y w.heap.size _ (LN.cell 0) (LN.cell 1)).mono fun e w' ⟨h1, h2⟩ => ⟨h1, by rw [h2]; exact (Below.refl _ w).alloc (Nat.le_refl _) _⟩
theorem lenQ (ad : Option Addr) (n cap : Nat) (w : World) :
    Calls Try.prog 40 #[.slice ad n cap] w fun e w' => e = .returned (.int .i64 n) ∧ w' = w := by
  go_enter Try.func40, Try.ntmps40
  go_wp2_with fail
  go_ret
  exact ⟨rfl, rfl⟩
set_option maxHeartbeats 4000000 in
theorem lessQ (w : World) (g n cap : Nat) (a b : Thing) (i j : Nat) (hi : i < n) (hj : j < n) (hn : n ≤ 1000)
    (a0 : w.cell? ⟨g, i * 2, none⟩ = some (.int .i64 a.1)) (a1 : w.cell? ⟨g, i * 2 + 1, none⟩ = some (.int .i64 a.2)) (b0 : w.cell? ⟨g, j * 2, none⟩ = some (.int .i64 b.1)) (b1 : w.cell? ⟨g, j * 2 + 1, none⟩ = some (.int .i64 b.2)) :
    Calls Try.prog 41 #[.slice (some ⟨g, 0, none⟩) n cap, .int .i64 i, .int .i64 j] w fun e w' => e = .returned (.bool (lt a b)) ∧ Below w.heap.size w w' := by
  obtain ⟨x1, x2⟩ := a
  obtain ⟨y1, y2⟩ := b
  simp only at a0 a1 b0 b1
  go_enter Try.func41, Try.ntmps41
  go_wp2_with fail
  go_region_held3 (fun w' => w'.cell? ⟨g, i * 2, none⟩ = some (.int .i64 x1) ∧ w'.cell? ⟨g, i * 2 + 1, none⟩ = some (.int .i64 x2) ∧ w'.cell? ⟨g, j * 2, none⟩ = some (.int .i64 y1) ∧ w'.cell? ⟨g, j * 2 + 1, none⟩ = some (.int .i64 y2)) (go_keep) (first
    | (go_at_call_of 44 (Value.int .i64 x1); refine (cmpQB x1 y1 _).mono ?_; rintro e w1 ⟨rfl, c1⟩; have bV1 : Below w.heap.size w w1 := qfrom (qdrewN (Below.refl _ w) 1) c1; have z1_0 := qcell bV1 _ _ a0; have z1_1 := qcell bV1 _ _ a1; have z1_2 := qcell bV1 _ _ b0; have z1_3 := qcell bV1 _ _ b1)
    | (go_at_call_of 44 (Value.int .i64 x2); refine (cmpQB x2 y2 _).mono ?_; rintro e w2 ⟨rfl, c2⟩; have bV2 : Below w.heap.size w w2 := qfrom bV1 c2; have z2_0 := qcell bV2 _ _ a0; have z2_1 := qcell bV2 _ _ a1; have z2_2 := qcell bV2 _ _ b0; have z2_3 := qcell bV2 _ _ b1)
    | (go_at_call 43; refine (orQB _ _ _).mono ?_; rintro e w3 ⟨rfl, c3⟩; have bV3 : Below w.heap.size w w3 := qfrom bV2 c3; have z3_0 := qcell bV3 _ _ a0; have z3_1 := qcell bV3 _ _ a1; have z3_2 := qcell bV3 _ _ b0; have z3_3 := qcell bV3 _ _ b1))
  go_wp2_with fail
  go_ret
  exact ⟨qret_b (by rw [lt_cz]; rfl), bV3⟩
end Go.Proofs.Ytjibkhljihnhiaa
