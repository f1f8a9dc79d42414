/-
  heap.up, heap.down: the library's own text, over the queue's row.
-/
import Derived.Test.YtjibkhljihnhiaaQPop
import Derived.Shelf.Abstract
set_option linter.unusedSimpArgs false
set_option linter.unusedVariables false
namespace Go.Proofs.Ytjibkhljihnhiaa
open Go.RowKit
open Qp
/-- The world while the heap is put right: the same row, the things in another order; nothing else has turned. -/
structure QGo (w0 w : World) (H b g n cap : Nat) (L0 L : List Thing) : Prop where
  q : QAt w H b (.slice (some ⟨g, 0, none⟩) n cap) L
  keep : Keep (fun k => k = g) w0 w
  len : L.length = n
  perm : L.Perm L0
theorem QGo.row {w0 w : World} {H b g n cap : Nat} {L0 L : List Thing} (h : QGo w0 w H b g n cap L0 L) : w.ownsRow H 48 2 (.slice (some ⟨g, 0, none⟩) n cap) n (flatQ L) := by
  have := h.q.row
  rw [h.len] at this
  exact this
theorem QGo.ne {w0 w : World} {H b g n cap : Nat} {L0 L : List Thing} (h : QGo w0 w H b g n cap L0 L) : g ≠ b := fun e => by
  subst e
  exact own_ne h.q.row h.q.box (by decide) rfl
theorem QGo.swp {w0 w w' : World} {H b g n cap : Nat} {L0 L : List Thing} (h : QGo w0 w H b g n cap L0 L) {i j : Nat} (hi : i < n) (hj : j < n) (k : Keep (fun k => k = g) w w') (hr : w'.ownsRow H 48 2 (.slice (some ⟨g, 0, none⟩) n cap) n (flatQ (swp L i j))) : QGo w0 w' H b g n cap L0 (Qp.swp L i j) :=
  ⟨⟨h.q.box.keep k (fun e => h.ne e.symm), by rw [swp_len, h.len]; exact hr, by rw [swp_len]; exact h.q.few, h.q.low⟩, h.keep.trans k, by rw [swp_len]; exact h.len, (swp_perm (by rw [h.len]; exact hi) (by rw [h.len]; exact hj)).trans h.perm⟩
theorem QGo.below {w0 w w' : World} {H b g n cap : Nat} {L0 L : List Thing} (h : QGo w0 w H b g n cap L0 L) (hb : Below w.heap.size w w') : QGo w0 w' H b g n cap L0 L := ⟨h.q.below hb, h.keep.trans (Keep.of_below hb), h.len, h.perm⟩
theorem QGo.less {w0 w : World} {H b g n cap : Nat} {L0 L : List Thing} (h : QGo w0 w H b g n cap L0 L) (i j : Nat) (hi : i < n) (hj : j < n) (hn : n ≤ 1000) :
    Calls Try.prog 41 #[.slice (some ⟨g, 0, none⟩) n cap, .int .i64 i, .int .i64 j] w fun e w' => e = .returned (.bool (lt (at_ L i) (at_ L j))) ∧ QGo w0 w' H b g n cap L0 L := by
  obtain ⟨a0, a1⟩ := h.q.cells (k := i) (by rw [h.len]; exact hi)
  obtain ⟨b0, b1⟩ := h.q.cells (k := j) (by rw [h.len]; exact hj)
  exact (lessQ w g n cap (at_ L i) (at_ L j) i j hi hj hn a0 a1 b0 b1).mono fun e w' ⟨h1, h2⟩ => ⟨h1, h.below h2⟩
theorem QGo.swap {w0 w : World} {H b g n cap : Nat} {L0 L : List Thing} (h : QGo w0 w H b g n cap L0 L) (i j : Nat) (hi : i < n) (hj : j < n) (hn : n ≤ 1000) :
    Calls Try.prog 42 #[.slice (some ⟨g, 0, none⟩) n cap, .int .i64 i, .int .i64 j] w fun e w' => e = .returned (.tuple #[]) ∧ QGo w0 w' H b g n cap L0 (Qp.swp L i j) :=
  (swapQ w H g n cap L h.row h.len.symm i j hi hj hn).mono fun e w' ⟨h1, h2, h3⟩ => ⟨h1, h.swp hi hj h2 h3⟩
theorem QGo.box {w0 w : World} {H b g n cap : Nat} {L0 L : List Thing} (h : QGo w0 w H b g n cap L0 L) : w.cell? ⟨b, 0, none⟩ = some (.slice (some ⟨g, 0, none⟩) n cap) := h.q.box.cell 0
set_option maxHeartbeats 4000000 in
theorem upQ (w : World) (H b g n cap : Nat) (L : List Thing) (j : Nat) (h : QAt w H b (.slice (some ⟨g, 0, none⟩) n cap) L) (hL : L.length = n) (hj : j < n) (hn : n ≤ 1000) (hu : Up L j) :
    Calls Try.prog 22 #[.iface 46 (.pointer (some ⟨b, 0, none⟩)), .int .i64 j] w fun e w' => e = .returned (.tuple #[]) ∧ ∃ L', QGo w w' H b g n cap L L' ∧ HeapN L' L'.length := by
  have eL := enters_of Try.func41 (by kernel_rfl) rfl
  have eS := enters_of Try.func42 (by kernel_rfl) rfl
  have HG : Hid (QGo w w H b g n cap L L) := ⟨h, Keep.refl _ _, hL, List.Perm.refl _⟩
  have HU := hideT hu
  clear h hL hu
  go_enter Try.func22, Try.ntmps22
  go_wp2_with fail
  go_loopw [1] (fun s wr => ∃ (k : Nat) (M : List Thing), s = .int .i64 k ∧ k < n ∧ Hid (QGo w wr H b g n cap L M) ∧ Hid (Up M k)) (fun s _ => (intOf s).toNat)
  case atStart => exact ⟨j, L, rfl, hj, HG, HU⟩
  case round =>
    obtain ⟨k, M, rfl, hk, HM, HV⟩ := hrel
    rcases Nat.eq_zero_or_pos k with h0 | h0
    · subst h0
      go_wp2_with fail
      go_end0
      exact ⟨rfl, M, HM.out, up_top HV.out⟩
    · obtain ⟨i, hi⟩ : ∃ i, (k - 1) / 2 = i := ⟨_, rfl⟩
      have hik : i < n := by omega
      have ht : ((k : Int) - 1) / 2 = (i : Int) := by omega
      have hne : (((k : Int) - 1) / 2 == (k : Int)) = false := by simp; omega
      have hlk : 0 < (k : Int) := by omega
      have hl := HM.out.less k i hk hik hn
      have mL := finds_Less wr ⟨b, 0, none⟩ _ HM.out.box
      have HI := hideT hi
      have hs : ∀ w1, QGo w w1 H b g n cap L M → Calls Try.prog 42 #[.slice (some ⟨g, 0, none⟩) n cap, .int .i64 (((k : Int) - 1) / 2), .int .i64 k] w1 fun e w' => e = .returned (.tuple #[]) ∧ QGo w w' H b g n cap L (Qp.swp M i k) := fun w1 G => by
        rw [ht]
        exact G.swap i k hik hk hn
      rw [← ht] at hl
      have HT2 := hideT ht
      have HS := hideT hs
      clear hi ht hs
      cases hv : lt (at_ M k) (at_ M i) with
      | true =>
        rw [hv] at hl
        have HT := hideT hv
        clear hv
        go_wp2_with (first | (go_at_call 41; refine hl.mono ?_; rintro e w1 ⟨rfl, G1⟩; have mS := finds_Swap w1 ⟨b, 0, none⟩ _ G1.box) | (go_at_call 42; refine (HS.out _ G1).mono ?_; rintro e w2 ⟨rfl, G2⟩))
        go_roundw
        case rel => exact ⟨i, Qp.swp M i k, by rw [HT2.out], hik, G2, by
          have h1 := HT.out
          rw [← HI.out] at h1 ⊢
          exact up_step HV.out h0 (by have := HM.out.len; omega) h1⟩
        case measure =>
          have := HI.out
          simp [intOf]
          omega
      | false =>
        rw [hv] at hl
        have HT := hideT hv
        clear hv
        go_wp2_with (first | (go_at_call 41; refine hl.mono ?_; rintro e w1 ⟨rfl, G1⟩))
        go_end0
        exact ⟨rfl, M, G1, up_stop HV.out (by rw [HI.out]; exact HT.out)⟩
end Go.Proofs.Ytjibkhljihnhiaa
