/-
  Two of a row change places.
-/
import Derived.Test.YtjibkhljihnhiaaQSmall
set_option linter.unusedSimpArgs false
set_option linter.unusedVariables false
namespace Go.Proofs.Ytjibkhljihnhiaa
open Go.RowKit
open Qp
theorem keepg (w : World) (g a : Nat) (x : Value) : Keep (fun k => k = g) w (w.setCell ⟨g, a, none⟩ x) := Keep.set w ⟨g, a, none⟩ x rfl
theorem keepd (S : Nat → Prop) (w : World) : Keep S w w.drew := ⟨rfl, rfl, rfl, Nat.le_refl _, fun _ _ _ => rfl⟩
theorem keep4 (w : World) (g a b c d : Nat) (x y z u : Value) : Keep (fun k => k = g) w ((((w.setCell ⟨g, a, none⟩ x).setCell ⟨g, b, none⟩ y).setCell ⟨g, c, none⟩ z).setCell ⟨g, d, none⟩ u).drew :=
  ((((keepg w g a x).trans (keepg _ g b y)).trans (keepg _ g c z)).trans (keepg _ g d u)).trans (keepd _ _)
set_option maxHeartbeats 4000000 in
theorem swapQ (w : World) (H g n cap : Nat) (L : List Thing) (h : w.ownsRow H 48 2 (.slice (some ⟨g, 0, none⟩) n cap) n (flatQ L)) (hL : n = L.length) (i j : Nat) (hi : i < n) (hj : j < n) (hn : n ≤ 1000) :
    Calls Try.prog 42 #[.slice (some ⟨g, 0, none⟩) n cap, .int .i64 i, .int .i64 j] w fun e w' => e = .returned (.tuple #[]) ∧ Keep (fun k => k = g) w w' ∧ w'.ownsRow H 48 2 (.slice (some ⟨g, 0, none⟩) n cap) n (flatQ (swp L i j)) := by
  obtain ⟨p0, p1⟩ := flatQ_get (at_get (L := L) (k := i) (by omega))
  obtain ⟨q0, q1⟩ := flatQ_get (at_get (L := L) (k := j) (by omega))
  have a0 := own_cell h p0
  have a1 := own_cell h p1
  have b0 := own_cell h q0
  have b1 := own_cell h q1
  have f := fun k => own_free h k
  have h1 := own_set (own_set (own_set (own_set h (i * 2) (.int .i64 (at_ L j).1)) (i * 2 + 1) (.int .i64 (at_ L j).2)) (j * 2) (.int .i64 (at_ L i).1)) (j * 2 + 1) (.int .i64 (at_ L i).2)
  rw [flatQ_set, flatQ_set, ← swp] at h1
  have HH := hideT h1
  have KK := hideT (keep4 w g (i * 2) (i * 2 + 1) (j * 2) (j * 2 + 1) (.int .i64 (at_ L j).1) (.int .i64 (at_ L j).2) (.int .i64 (at_ L i).1) (.int .i64 (at_ L i).2))
  clear h1 p0 p1 q0 q1 hL h
  generalize at_ L i = a at *
  generalize at_ L j = b at *
  obtain ⟨x1, x2⟩ := a
  obtain ⟨y1, y2⟩ := b
  simp only at a0 a1 b0 b1
  obtain ⟨v1, k1⟩ := cell?_setCell_some (w := w) (p := ⟨g, i * 2, none⟩) (x := .int .i64 y1) (q := ⟨g, j * 2, none⟩) b0
  obtain ⟨v2, k2⟩ := cell?_setCell_some (w := w) (p := ⟨g, i * 2 + 1, none⟩) (x := .int .i64 y2) (q := ⟨g, j * 2 + 1, none⟩) b1
  obtain ⟨v3, k3⟩ := cell?_setCell_some (w := w.setCell ⟨g, i * 2, none⟩ (.int .i64 y1)) (p := ⟨g, i * 2 + 1, none⟩) (x := .int .i64 y2) (q := ⟨g, j * 2, none⟩) k1
  obtain ⟨v5, k5⟩ := cell?_setCell_some (w := w) (p := ⟨g, i * 2, none⟩) (x := .int .i64 y1) (q := ⟨g, j * 2 + 1, none⟩) b1
  obtain ⟨v4, k4⟩ := cell?_setCell_some (w := w.setCell ⟨g, i * 2, none⟩ (.int .i64 y1)) (p := ⟨g, i * 2 + 1, none⟩) (x := .int .i64 y2) (q := ⟨g, j * 2 + 1, none⟩) k5
  obtain ⟨v6, k6⟩ := cell?_setCell_some (w := (w.setCell ⟨g, i * 2, none⟩ (.int .i64 y1)).setCell ⟨g, i * 2 + 1, none⟩ (.int .i64 y2)) (p := ⟨g, j * 2, none⟩) (x := .int .i64 x1) (q := ⟨g, j * 2 + 1, none⟩) k4
  go_enter Try.func42, Try.ntmps42
  go_wp2
  go_region
  all_goals (try go_wp2)
  all_goals go_end0
  all_goals exact ⟨rfl, KK.out, HH.out.drew⟩
end Go.Proofs.Ytjibkhljihnhiaa
