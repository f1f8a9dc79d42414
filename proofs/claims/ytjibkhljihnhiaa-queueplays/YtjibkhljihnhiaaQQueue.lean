/-
  The queue's own functions: New, Push, Peek, Pop, Len.
-/
import Derived.Test.YtjibkhljihnhiaaQHeap
set_option linter.unusedSimpArgs false
set_option linter.unusedVariables false
namespace Go.Proofs.Ytjibkhljihnhiaa
open Go.RowKit
open Qp
theorem newQ (H : Nat) (w : World) (hH : H ≤ w.heap.size) :
    Calls Try.prog 9 #[] w fun e w' => ∃ b, e = .returned (.pointer (some ⟨b, 0, none⟩)) ∧ b = w.heap.size ∧ QH w' H b nilS [] ∧ Below w.heap.size w w' := by
  go_enter Try.func9, Try.ntmps9
  go_wp2_with fail
  go_ret
  exact ⟨_, rfl, rfl, ⟨⟨Lies.new w _ _, World.ownsRow_nil _ _ _ _, by simp, hH⟩, fun k h0 hk => by simp at hk⟩, (Below.refl _ _).alloc (Nat.le_refl _) _⟩
theorem lenQQ (w : World) (H b : Nat) (v : Value) (L : List Thing) (h : QH w H b v L) :
    Calls Try.prog 17 #[.pointer (some ⟨b, 0, none⟩)] w fun e w' => e = .returned (.int .i64 L.length) ∧ w' = w := by
  obtain ⟨ad, cap, rfl, hcp⟩ := q_form h.q.row
  have q0 : w.cell? ⟨b, 0, none⟩ = some (.slice ad L.length cap) := h.q.box.cell 0
  clear h
  go_enter Try.func17, Try.ntmps17
  go_wp2_with fail
  go_ret
  exact ⟨rfl, rfl⟩
set_option maxHeartbeats 4000000 in
theorem pushQ (w : World) (H b : Nat) (v : Value) (L : List Thing) (d x : Int) (h : QH w H b v L) (hH : H ≤ w.heap.size) (hl : L.length < 100) :
    Calls Try.prog 10 #[.pointer (some ⟨b, 0, none⟩), .int .i64 d, .int .i64 x] w fun e w' => e = .returned (.bool true) ∧ ∃ v' L', QTo w w' H b v v' L' ∧ L'.Perm ((d, x) :: L) := by
  obtain ⟨ad, cap, rfl, hcp⟩ := q_form h.q.row
  have q0 : w.cell? ⟨b, 0, none⟩ = some (.slice ad L.length cap) := h.q.box.cell 0
  have HQ := hideT h
  have t1 : ((100 : Int) ≤ (L.length : Int)) = False := by simp; omega
  clear h
  go_enter Try.func10, Try.ntmps10
  go_wp2_with (go_at_call 19; refine (hpushQ w H b _ L (d, x) HQ.out hH (by omega)).mono ?_; rintro e w1 ⟨rfl, v', L', T1, P1⟩)
  go_ret
  exact ⟨rfl, v', L', T1, P1⟩
set_option maxHeartbeats 4000000 in
theorem pushFull (w : World) (H b : Nat) (v : Value) (L : List Thing) (d x : Int) (h : QH w H b v L) (hl : 100 ≤ L.length) :
    Calls Try.prog 10 #[.pointer (some ⟨b, 0, none⟩), .int .i64 d, .int .i64 x] w fun e w' => e = .returned (.bool false) ∧ w' = w := by
  obtain ⟨ad, cap, rfl, hcp⟩ := q_form h.q.row
  have q0 : w.cell? ⟨b, 0, none⟩ = some (.slice ad L.length cap) := h.q.box.cell 0
  have t1 : ((100 : Int) ≤ (L.length : Int)) = True := by simp; omega
  clear h
  go_enter Try.func10, Try.ntmps10
  go_wp2_with fail
  go_ret
  exact ⟨rfl, rfl⟩
set_option maxHeartbeats 4000000 in
theorem peekQ (w : World) (H b : Nat) (v : Value) (L : List Thing) (h : QH w H b v L) (h0 : 0 < L.length) :
    Calls Try.prog 14 #[.pointer (some ⟨b, 0, none⟩)] w fun e w' => e = .returned (.tuple #[.int .i64 (at_ L 0).1, .int .i64 (at_ L 0).2, .bool true]) ∧ Below w.heap.size w w' := by
  obtain ⟨g, cap, rfl, hcp, hg0, hg1, hgb⟩ := h.q.form h0
  have q0 : w.cell? ⟨b, 0, none⟩ = some (.slice (some ⟨g, 0, none⟩) L.length cap) := h.q.box.cell 0
  obtain ⟨c0, c1⟩ := h.q.cells (k := 0) h0
  rw [Nat.zero_mul] at c0 c1
  rw [Nat.zero_add] at c1
  have hf := h.q.few
  have hL0 : ((L.length : Int) == 0) = false := beq_eq_false_iff_ne.2 (by omega)
  have hL1 : (0 : Int) < (L.length : Int) := by omega
  generalize at_ L 0 = a at *
  obtain ⟨a1, a2⟩ := a
  simp only at c0 c1
  clear h
  go_enter Try.func14, Try.ntmps14
  go_wp2_with fail
  go_quiet (fail)
  go_wp2_with fail
  exact bodyPost_ret (v := .tuple #[.int .i64 a1, .int .i64 a2, .bool true]) (by simp [results, Try.results14, go_sem]) rfl ⟨rfl, qdrewN (Below.refl _ _) _⟩
theorem peekNone (w : World) (H b : Nat) (v : Value) (h : QH w H b v []) :
    Calls Try.prog 14 #[.pointer (some ⟨b, 0, none⟩)] w fun e w' => e = .returned (.tuple #[.int .i64 0, .int .i64 0, .bool false]) ∧ w' = w := by
  obtain ⟨ad, cap, hv, hcp⟩ := q_form h.q.row
  have hv' : v = .slice ad 0 cap := hv
  clear hv
  subst hv'
  have q0 : w.cell? ⟨b, 0, none⟩ = some (.slice ad 0 cap) := h.q.box.cell 0
  clear h
  go_enter Try.func14, Try.ntmps14
  go_wp2_with fail
  exact bodyPost_ret (v := .tuple #[.int .i64 0, .int .i64 0, .bool false]) (by simp [results, Try.results14, go_sem]) rfl ⟨rfl, rfl⟩
theorem popNone (w : World) (H b : Nat) (v : Value) (h : QH w H b v []) :
    Calls Try.prog 12 #[.pointer (some ⟨b, 0, none⟩)] w fun e w' => e = .returned (.tuple #[.int .i64 0, .int .i64 0, .bool false]) ∧ w' = w := by
  go_enter Try.func12, Try.ntmps12
  go_wp2_with (go_at_call 14; refine (peekNone w H b v h).mono ?_; rintro e w1 ⟨rfl, hw⟩; obtain rfl := hw.symm)
  exact bodyPost_ret (v := .tuple #[.int .i64 0, .int .i64 0, .bool false]) (by simp [results, Try.results12, go_sem]) rfl ⟨rfl, rfl⟩
set_option maxHeartbeats 4000000 in
theorem popQ (w : World) (H b : Nat) (v : Value) (L : List Thing) (h : QH w H b v L) (n : Nat) (hL : L.length = n + 1) :
    Calls Try.prog 12 #[.pointer (some ⟨b, 0, none⟩)] w fun e w' => e = .returned (.tuple #[.int .i64 (at_ L 0).1, .int .i64 (at_ L 0).2, .bool true]) ∧ ∃ v' L', QTo w w' H b v v' L' ∧ (at_ L 0 :: L').Perm L ∧ L'.length = n := by
  have HQ := hideT h
  have HL := hideT hL
  clear h hL
  go_enter Try.func12, Try.ntmps12
  go_wp2_with (first
    | (go_at_call 14; refine (peekQ w H b v L HQ.out (by have := HL.out; omega)).mono ?_; rintro e w1 ⟨rfl, B1⟩)
    | (go_at_call 20; refine (hpopQ w1 H b v L (HQ.out.below B1) n HL.out).mono ?_; rintro e w2 ⟨rfl, v', L', T2, P2, N2⟩))
  exact bodyPost_ret (v := .tuple #[.int .i64 (at_ L 0).1, .int .i64 (at_ L 0).2, .bool true]) (by simp [results, Try.results12, go_sem]) rfl ⟨rfl, v', L', ⟨T2.h, (Keep.of_below B1).trans T2.keep, (Grew.refl w v).trans B1.size T2.grew⟩, P2, N2⟩
end Go.Proofs.Ytjibkhljihnhiaa
