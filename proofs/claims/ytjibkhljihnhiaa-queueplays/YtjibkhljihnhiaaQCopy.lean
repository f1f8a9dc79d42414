/-
  The queue's Copy.
-/
import Derived.Test.YtjibkhljihnhiaaQKnown
import Derived.Maps.AppendAt
import Derived.Lib.SliceRun
set_option linter.unusedSimpArgs false
set_option linter.unusedVariables false
namespace Go.Proofs.Ytjibkhljihnhiaa
open Go.RowKit
open Qp
set_option maxHeartbeats 4000000 in
theorem cloneQ (w : World) (H b : Nat) (v : Value) (L : List Thing) (h : QAt w H b v L) :
    Calls Try.prog 21 #[v] w fun e w' => ∃ v', e = .returned v' ∧ w'.ownsRow w.heap.size 48 2 v' L.length (flatQ L) ∧ Below w.heap.size w w' := by
  obtain ⟨i0, hi0, hz0, hz1, hz2⟩ := info_parts infoQ
  have qT : ∀ (w : World) (a : Option Addr) (n c n' c' : Nat), (binOp .eql 42 (.slice a n c) (.slice none n' c')).run Try.prog w = .ok (.bool a.isNone) w := fun w a n c n' c' => Lib.run_eql_slice_nil w _ _ a n c n' c' Try.underlying42
  have hf := h.few
  rcases h.row.2 with ⟨hv, h0⟩ | ⟨g, cap, cur, hv, _⟩
  · subst hv
    have hL : L = [] := List.eq_nil_of_length_eq_zero h0
    subst hL
    go_enter Try.func21, Try.ntmps21
    go_wp2_with fail
    go_ret
    exact ⟨_, rfl, World.ownsRow_nil _ _ _ _, Below.refl _ _⟩
  · subst hv
    have hc := fun (j : Nat) (u : Value) (hj : (flatQ L)[j]? = some u) => own_cell h.row hj
    have HC := hideT hc
    have hl := flatQ_len L
    have HL := hideT hl
    have h1 : ∀ u ∈ flatQ L, u.oneCell' = true := by
      intro u hu
      unfold flatQ at hu
      obtain ⟨x, _, hx⟩ := List.mem_flatMap.1 hu
      simp only [List.mem_cons, List.not_mem_nil, or_false] at hx
      rcases hx with rfl | rfl <;> rfl
    have H1 := hideT h1
    clear h hc hl h1
    go_enter Try.func21, Try.ntmps21
    go_wp2_with (at_builtin; refine wpList_append_own _ rfl _ _ 42 rfl w.heap.size 48 i0 (.agg #[.int .i64 0, .int .i64 0]) 2 16 Try.underlying42 hi0 hz0 hz1 hz2 rfl (by decide) _ _ _ rfl (World.ownsRow_made w #[] 0 (Nat.le_refl _) (Nat.zero_le _) rfl) ⟨g, 0, none⟩ L.length cap (flatQ L) rfl ?qc1 ?qc2 ?qc3 ?qc4 ?qc5 ?qc6 ?_)
    case qc1 => exact HL.out
    case qc2 =>
      intro j u hj
      have := HC.out j u hj
      rw [show (⟨g, 0, none⟩ : Addr).add j = ⟨g, 0 + j, none⟩ by unfold Addr.add; split <;> simp_all, Nat.zero_add]
      exact Lib.cell?_alloc_some _ this
    case qc3 => exact H1.out
    case qc4 => unfold maxLen; omega
    case qc5 => omega
    case qc6 => simp
    intro v' w1 hown hgrow hnil
    go_wp2
    go_ret
    refine ⟨v', rfl, by simpa using hown, ?_⟩
    exact ((Below.refl _ w).alloc (Nat.le_refl _) _).grown hgrow (by simp) (by intro k hk; simp [Value.ownBlock] at hk; omega)
theorem copyQ (w : World) (H b : Nat) (v : Value) (L : List Thing) (h : QH w H b v L) :
    Calls Try.prog 16 #[.pointer (some ⟨b, 0, none⟩)] w fun e w' => ∃ b' v', e = .returned (.pointer (some ⟨b', 0, none⟩)) ∧ QH w' w.heap.size b' v' L ∧ Below w.heap.size w w' := by
  have q0 : w.cell? ⟨b, 0, none⟩ = some v := h.q.box.cell 0
  have HQ := hideT h
  clear h
  go_enter Try.func16, Try.ntmps16
  go_wp2_with (go_at_call 21; refine (cloneQ w H b v L HQ.out.q).mono ?_; rintro e w1 ⟨v1, rfl, r1, b1⟩; have R1 := hideT r1; have B1 := hideT b1; obtain ⟨a1, n1, c1, hv1⟩ : ∃ a n c, v1 = .slice a n c := (by obtain ⟨ad, cap, e, _⟩ := q_form r1; exact ⟨_, _, _, e⟩); subst hv1; clear r1 b1)
  go_ret
  refine ⟨_, _, rfl, ⟨⟨Lies.new w1 _ _, ?_, HQ.out.q.few, B1.out.size⟩, HQ.out.heap⟩, B1.out.alloc B1.out.size _⟩
  exact own_keep R1.out (fun g hg => ((Below.refl _ w1).alloc (Nat.le_refl _) _).block g (own_lt R1.out hg).1)
end Go.Proofs.Ytjibkhljihnhiaa
