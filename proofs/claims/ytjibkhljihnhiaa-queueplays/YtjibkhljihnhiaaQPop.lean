/-
  The row's own Pop: the last one is taken off.
-/
import Derived.Test.YtjibkhljihnhiaaQPush
set_option linter.unusedSimpArgs false
set_option linter.unusedVariables false
namespace Go.Proofs.Ytjibkhljihnhiaa
open Go.RowKit
open Qp
theorem qshrink {w : World} {H g n cap : Nat} {L : List Thing} (h : w.ownsRow H 48 2 (.slice (some ⟨g, 0, none⟩) (n + 1) cap) (n + 1) (flatQ L)) : w.ownsRow H 48 2 (.slice (some ⟨g, 0, none⟩) n cap) n (flatQ (L.take n)) := by
  obtain ⟨cap', cur, hv, h1, h2, h3, h5, h6, h4⟩ := own_heap h rfl
  cases hv
  have hlen : L.length = n + 1 := by
    have := congrArg List.length h4
    rw [flatQ_len, List.length_take, Array.length_toList] at this
    have h8 : (n + 1) * 2 ≤ cap * 2 := by omega
    omega
  refine ⟨by rw [flatQ_len, List.length_take]; omega, .inr ⟨g, cap, cur, rfl, h1, h2, by omega, h5, h6, ?_⟩⟩
  rw [← flatQ_take, ← h4, List.take_take, Nat.min_eq_left (by omega)]
set_option maxHeartbeats 4000000 in
theorem tpopQ (w : World) (H b g n cap : Nat) (L : List Thing) (h : QAt w H b (.slice (some ⟨g, 0, none⟩) (n + 1) cap) L) (hL : L.length = n + 1) :
    Calls Try.prog 46 #[.pointer (some ⟨b, 0, none⟩)] w fun e w' => e = .returned (.iface 48 (.agg #[.int .i64 (at_ L n).1, .int .i64 (at_ L n).2])) ∧ QAt w' H b (.slice (some ⟨g, 0, none⟩) n cap) (L.take n) ∧ Keep (fun k => k = b) w w' := by
  have hf := h.few
  have hc : n + 1 ≤ cap := by
    obtain ⟨_, _, e, hc⟩ := q_form h.row
    injection e with e1 e2 e3
    omega
  have q0 : w.cell? ⟨b, 0, none⟩ = some (.slice (some ⟨g, 0, none⟩) (n + 1) cap) := h.box.cell 0
  have f0 : w.frozen? ⟨b, 0, none⟩ = false := h.box.free 0
  have hbl := h.box.lt
  obtain ⟨c0, c1⟩ := h.cells (k := n) (by omega)
  have hgl := (own_lt h.row rfl).1
  have hgb : g ≠ b := fun e => by
    subst e
    exact own_ne h.row h.box (by decide) rfl
  have hr : w.ownsRow H 48 2 (.slice (some ⟨g, 0, none⟩) (n + 1) cap) (n + 1) (flatQ L) := by
    have := h.row
    rw [hL] at this
    exact this
  have hq := qshrink hr
  have Q1 : QAt (w.setCell ⟨b, 0, none⟩ (.slice (some ⟨g, 0, none⟩) n cap)) H b (.slice (some ⟨g, 0, none⟩) n cap) (L.take n) :=
    ⟨h.box.set 0 _, by
      rw [show (L.take n).length = n by rw [List.length_take]; omega]
      exact own_keep hq (fun k hk => Below.heap_setCell _ _ _ _ (fun e => hgb (by
        have : g = k := Option.some.inj hk
        rw [this]; exact e))), by rw [List.length_take]; omega, h.low⟩
  have HQ := hideT Q1
  rw [hL] at hf
  clear hr hq Q1
  clear h hL
  go_enter Try.func46, Try.ntmps46
  go_wp2_with fail
  go_ret
  exact ⟨rfl, HQ.out.below ((Below.refl _ _).alloc (Nat.le_refl _) _), (keepg w b 0 _).trans (Keep.of_below ((Below.refl _ _).alloc (Nat.le_refl _) _))⟩
end Go.Proofs.Ytjibkhljihnhiaa
