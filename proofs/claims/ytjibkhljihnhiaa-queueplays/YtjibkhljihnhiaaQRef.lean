/-
  The document's queue: a row that rises.
-/
import Derived.Test.YtjibkhljihnhiaaQIns
set_option linter.unusedSimpArgs false
set_option linter.unusedVariables false
namespace Go.Proofs.Ytjibkhljihnhiaa
open Go.RowKit
open Qp
structure XAt (w : World) (H xb g o : Nat) (ao : Option Addr) (cap : Nat) (L : List Thing) : Prop where
  box : Lies w xb 28 #[.slice ao L.length cap]
  low : H ≤ xb
  start : 0 < L.length → ao = some ⟨g, o, none⟩
  row : 0 < L.length → ∃ cur, w.heap[g]? = some (.cells cur 49 (0, 0)) ∧ H ≤ g
  cells : ∀ (j : Nat) u, (flatQ L)[j]? = some u → w.cell? ⟨g, o + j, none⟩ = some u
  capn : L.length ≤ cap
  few : L.length ≤ 1000
  form : ao = none ∨ ∃ g' o', ao = some ⟨g', o', none⟩
theorem XAt.two {w : World} {H xb g o : Nat} {ao : Option Addr} {cap : Nat} {L : List Thing} (h : XAt w H xb g o ao cap L) {k : Nat} (hk : k < L.length) : w.cell? ⟨g, o + k * 2, none⟩ = some (.int .i64 (at_ L k).1) ∧ w.cell? ⟨g, o + k * 2 + 1, none⟩ = some (.int .i64 (at_ L k).2) := by
  obtain ⟨h1, h2⟩ := flatQ_get (at_get hk)
  exact ⟨h.cells _ _ h1, h.cells _ _ h2⟩
theorem XAt.norm {w : World} {H xb g o : Nat} {ao : Option Addr} {cap : Nat} {L : List Thing} (h : XAt w H xb g o ao cap L) : (ao = none ∧ L = []) ∨ ∃ g o, XAt w H xb g o ao cap L ∧ ao = some ⟨g, o, none⟩ := by
  rcases Nat.eq_zero_or_pos L.length with h0 | h0
  · obtain rfl := List.eq_nil_of_length_eq_zero h0
    rcases h.form with e | ⟨g', o', e⟩
    · exact .inl ⟨e, rfl⟩
    · exact .inr ⟨g', o', ⟨h.box, h.low, fun h0 => absurd h0 (by simp), fun h0 => absurd h0 (by simp), fun j u hj => by simp [flatQ] at hj, h.capn, h.few, h.form⟩, e⟩
  · exact .inr ⟨g, o, h, h.start h0⟩
/-- What leaves its blocks leaves it. -/
theorem XAt.keep {w w' : World} {H xb g o : Nat} {ao : Option Addr} {cap : Nat} {L : List Thing} (h : XAt w H xb g o ao cap L) {S : Nat → Prop} (k : Keep S w w') (h1 : ¬ S xb) (h2 : 0 < L.length → ¬ S g) : XAt w' H xb g o ao cap L := by
  refine ⟨h.box.keep k h1, h.low, h.start, fun h0 => ?_, fun j u hj => ?_, h.capn, h.few, h.form⟩
  · obtain ⟨cur, c1, c2⟩ := h.row h0
    have hg : g < w.heap.size := (Array.getElem?_eq_some_iff.1 c1).1
    exact ⟨cur, (k.block g hg (h2 h0)).trans c1, c2⟩
  · have h0 : 0 < L.length := by
      have := (List.getElem?_eq_some_iff.1 hj).1
      rw [flatQ_len] at this
      omega
    have hc := h.cells j u hj
    rw [k.cell (cell_lt hc) (h2 h0)]
    exact hc
theorem XAt.below {w w' : World} {H xb g o : Nat} {ao : Option Addr} {cap : Nat} {L : List Thing} (h : XAt w H xb g o ao cap L) (hb : Below w.heap.size w w') : XAt w' H xb g o ao cap L := h.keep (S := fun _ => False) (Keep.of_below hb) (fun e => e) (fun _ e => e)
/-- A queue's own blocks are none of its. -/
theorem XAt.off {w : World} {H H' xb g o b : Nat} {ao : Option Addr} {cap : Nat} {L M : List Thing} {v : Value} (h : XAt w H xb g o ao cap L) (q : QH w H' b v M) : ¬ QS b v xb ∧ (0 < L.length → ¬ QS b v g) := by
  refine ⟨fun e => ?_, fun h0 e => ?_⟩
  · rcases e with e | e
    · subst e
      have h1 := h.box
      have h2 := q.q.box
      unfold Lies at h1 h2
      rw [h1] at h2
      simp only [Option.some.injEq, Obj.cells.injEq] at h2
      exact absurd h2.2.1 (by decide)
    · exact own_ne q.q.row h.box (by decide) e
  · obtain ⟨cur, c1, c2⟩ := h.row h0
    rcases e with e | e
    · subst e
      have h2 := q.q.box
      unfold Lies at h2
      rw [c1] at h2
      simp only [Option.some.injEq, Obj.cells.injEq] at h2
      exact absurd h2.2.1 (by decide)
    · obtain ⟨_, cur', _, _, h2, _⟩ := own_heap q.q.row e
      rw [c1] at h2
      simp only [Option.some.injEq, Obj.cells.injEq] at h2
      exact absurd h2.2.1 (by decide)
set_option maxHeartbeats 4000000 in
theorem refPeek (w : World) (H xb g o : Nat) (ao : Option Addr) (cap : Nat) (L : List Thing) (h : XAt w H xb g o ao cap L) (h0 : 0 < L.length) :
    Calls Try.prog 15 #[.pointer (some ⟨xb, 0, none⟩)] w fun e w' => e = .returned (.tuple #[.int .i64 (at_ L 0).1, .int .i64 (at_ L 0).2, .bool true]) ∧ Below w.heap.size w w' := by
  obtain rfl := h.start h0
  have q0 : w.cell? ⟨xb, 0, none⟩ = some (.slice (some ⟨g, o, none⟩) L.length cap) := h.box.cell 0
  obtain ⟨c0, c1⟩ := h.two (k := 0) h0
  rw [Nat.zero_mul, Nat.add_zero] at c0 c1
  have hf := h.few
  have hL0 : ((L.length : Int) == 0) = false := beq_eq_false_iff_ne.2 (by omega)
  have hL1 : (0 : Int) < (L.length : Int) := by omega
  generalize at_ L 0 = a at *
  obtain ⟨a1, a2⟩ := a
  simp only at c0 c1
  clear h
  go_enter Try.func15, Try.ntmps15
  go_wp2_with fail
  go_quiet (fail)
  go_wp2_with fail
  exact bodyPost_ret (v := .tuple #[.int .i64 a1, .int .i64 a2, .bool true]) (by simp [results, Try.results15, go_sem]) rfl ⟨rfl, qdrewN (Below.refl _ _) _⟩
theorem refPeekNone (w : World) (H xb g o : Nat) (ao : Option Addr) (cap : Nat) (h : XAt w H xb g o ao cap []) :
    Calls Try.prog 15 #[.pointer (some ⟨xb, 0, none⟩)] w fun e w' => e = .returned (.tuple #[.int .i64 0, .int .i64 0, .bool false]) ∧ w' = w := by
  have q0 : w.cell? ⟨xb, 0, none⟩ = some (.slice ao 0 cap) := h.box.cell 0
  clear h
  go_enter Try.func15, Try.ntmps15
  go_wp2_with fail
  exact bodyPost_ret (v := .tuple #[.int .i64 0, .int .i64 0, .bool false]) (by simp [results, Try.results15, go_sem]) rfl ⟨rfl, rfl⟩
theorem refPopNone (w : World) (H xb g o : Nat) (ao : Option Addr) (cap : Nat) (h : XAt w H xb g o ao cap []) :
    Calls Try.prog 13 #[.pointer (some ⟨xb, 0, none⟩)] w fun e w' => e = .returned (.tuple #[.int .i64 0, .int .i64 0, .bool false]) ∧ w' = w := by
  go_enter Try.func13, Try.ntmps13
  go_wp2_with (go_at_call 15; refine (refPeekNone w H xb g o ao cap h).mono ?_; rintro e w1 ⟨rfl, hw⟩; obtain rfl := hw.symm)
  exact bodyPost_ret (v := .tuple #[.int .i64 0, .int .i64 0, .bool false]) (by simp [results, Try.results13, go_sem]) rfl ⟨rfl, rfl⟩
theorem XAt.popped {w w1 : World} {H xb g o : Nat} {ao : Option Addr} {cap n : Nat} {L : List Thing} (h : XAt w H xb g o ao cap L) (hb : Below w.heap.size w w1) (hn : L.length = n + 1) (ao' : Option Addr) (ha : 0 < n → ao' = some ⟨g, o + 2, none⟩) (hf : ∃ g' o', ao' = some ⟨g', o', none⟩) :
    XAt (w1.setCell ⟨xb, 0, none⟩ (.slice ao' n (cap - 1))) H xb g (o + 2) ao' (cap - 1) (L.drop 1) ∧ Keep (fun k => k = xb) w (w1.setCell ⟨xb, 0, none⟩ (.slice ao' n (cap - 1))) := by
  have h1 := h.below hb
  have hl : (L.drop 1).length = n := by rw [List.length_drop]; omega
  have hk : Keep (fun k => k = xb) w1 (w1.setCell ⟨xb, 0, none⟩ (.slice ao' n (cap - 1))) := Keep.set w1 ⟨xb, 0, none⟩ _ rfl
  refine ⟨⟨?_, h.low, fun h0 => ha (by omega), fun h0 => ?_, fun j u hj => ?_, by have := h.capn; omega, by have := h.few; omega, .inr hf⟩, (Keep.of_below hb).trans hk⟩
  · have := h1.box.set 0 (.slice ao' n (cap - 1))
    rw [hl]
    exact this
  · obtain ⟨cur, c1, c2⟩ := h1.row (by omega)
    refine ⟨cur, ?_, c2⟩
    have hne : g ≠ xb := fun e => by
      subst e
      have h2 := h1.box
      unfold Lies at h2
      rw [c1] at h2
      simp only [Option.some.injEq, Obj.cells.injEq] at h2
      exact absurd h2.2.1 (by decide)
    rw [Below.heap_setCell _ _ _ _ hne]
    exact c1
  · have h3 : (flatQ L)[j + 2]? = some u := by
      cases L with
      | nil => simp [flatQ] at hj
      | cons a M => exact hj
    have hc := h1.cells _ _ h3
    have hj0 := (List.getElem?_eq_some_iff.1 h3).1
    obtain ⟨cur, c1, c2⟩ := h1.row (by omega)
    have hne : g ≠ xb := fun e => by
      subst e
      have h2 := h1.box
      unfold Lies at h2
      rw [c1] at h2
      simp only [Option.some.injEq, Obj.cells.injEq] at h2
      exact absurd h2.2.1 (by decide)
    rw [show o + 2 + j = o + (j + 2) by omega, hk.cell (cell_lt hc) hne]
    exact hc
set_option maxHeartbeats 4000000 in
theorem refPop (w : World) (H xb g o : Nat) (ao : Option Addr) (cap : Nat) (L : List Thing) (h : XAt w H xb g o ao cap L) (n : Nat) (hL : L.length = n + 1) :
    Calls Try.prog 13 #[.pointer (some ⟨xb, 0, none⟩)] w fun e w' => e = .returned (.tuple #[.int .i64 (at_ L 0).1, .int .i64 (at_ L 0).2, .bool true]) ∧ (∃ ao' o' cap', XAt w' H xb g o' ao' cap' (L.drop 1)) ∧ Keep (fun k => k = xb) w w' := by
  obtain rfl := h.start (by omega)
  have hcn := h.capn
  have hfw := h.few
  have HX := hideT h
  have HL := hideT hL
  rw [hL] at hcn hfw
  clear h hL
  by_cases hc1 : cap = 1
  · subst hc1
    have hn0 : n = 0 := by omega
    subst hn0
    go_enter Try.func13, Try.ntmps13
    go_wp2_with (go_at_call 15; refine (refPeek w H xb g o _ 1 L HX.out (by have := HL.out; omega)).mono ?_; rintro e w1 ⟨rfl, B1⟩; have y0 : w1.cell? ⟨xb, 0, none⟩ = some (.slice (some ⟨g, o, none⟩) 1 1) := (by have := (HX.out.below B1).box.cell 0; rw [HL.out] at this; exact this); have yf := (HX.out.below B1).box.free 0; have HB := hideT B1; clear B1)
    obtain ⟨p1, p2⟩ := HX.out.popped HB.out HL.out (some ⟨g, o, none⟩) (fun h => absurd h (by omega)) ⟨_, _, rfl⟩
    exact bodyPost_ret (v := .tuple #[.int .i64 (at_ L 0).1, .int .i64 (at_ L 0).2, .bool true]) (by simp [results, Try.results13, go_sem]) rfl ⟨rfl, ⟨_, _, _, p1⟩, p2⟩
  · have hc2 : cap ≠ 1 := hc1
    go_enter Try.func13, Try.ntmps13
    go_wp2_with (go_at_call 15; refine (refPeek w H xb g o _ cap L HX.out (by have := HL.out; omega)).mono ?_; rintro e w1 ⟨rfl, B1⟩; have y0 : w1.cell? ⟨xb, 0, none⟩ = some (.slice (some ⟨g, o, none⟩) (n + 1) cap) := (by have := (HX.out.below B1).box.cell 0; rw [HL.out] at this; exact this); have yf := (HX.out.below B1).box.free 0; have HB := hideT B1; clear B1)
    obtain ⟨p1, p2⟩ := HX.out.popped HB.out HL.out (some ⟨g, o + 2, none⟩) (fun _ => rfl) ⟨_, _, rfl⟩
    exact bodyPost_ret (v := .tuple #[.int .i64 (at_ L 0).1, .int .i64 (at_ L 0).2, .bool true]) (by simp [results, Try.results13, go_sem]) rfl ⟨rfl, ⟨_, _, _, p1⟩, p2⟩
end Go.Proofs.Ytjibkhljihnhiaa
