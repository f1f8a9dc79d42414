/-
  append of a row of sentries to one's own.
-/
import Derived.Test.YtfbnlplafkangabMPlanD
import Derived.Deep.Upon
import Derived.Maps.AppendAt
set_option linter.unusedSimpArgs false
set_option linter.unusedVariables false
namespace Go.Proofs.Ytfbnlplafkangab
open Go.RowKit
theorem infoSt : (Try.prog.info? 33).map (fun i => (i.zero, i.size, i.bytes)) = some (some (.agg #[.slice none 0 0, .slice none 0 0]), 2, 48) := by kernel_rfl
theorem sentR_one {w : World} {cs : List Value} {x : Mp.Sent} (h : sentR w cs x) : cs.length = 2 ∧ ∀ u ∈ cs, u.oneCell' = true := by
  obtain ⟨v1, v2, rfl, h1, h2⟩ := h
  obtain ⟨_, _, rfl⟩ := row_val h1
  obtain ⟨_, _, rfl⟩ := row_val h2
  refine ⟨rfl, fun u hu => ?_⟩
  simp only [List.mem_cons, List.mem_nil_iff, or_false] at hu
  rcases hu with rfl | rfl <;> rfl
theorem sentR_turn {w w' : World} {cs : List Value} {x : Mp.Sent} (h : sentR w cs x) (hc : ∀ a c, w.cell? a = some c → w'.cell? a = some c) : sentR w' cs x := by
  obtain ⟨v1, v2, e, h1, h2⟩ := h
  exact ⟨v1, v2, e, orow_turn h1 hc, crow_turn h2 hc⟩
theorem flat_len {z : Nat} : ∀ (X : List (List Value)), (∀ x ∈ X, x.length = z) → X.flatten.length = X.length * z
  | [], _ => by simp
  | a :: X, h => by rw [List.flatten_cons, List.length_append, flat_len X (fun x hx => h x (List.mem_cons_of_mem _ hx)), h a List.mem_cons_self, List.length_cons, Nat.add_mul]; omega
theorem app_run (wq w : World) (hq : Below wq.heap.size wq w) (ty : TypeId) (H : Nat) (vd : Option Addr) (vc N : Nat) (xs : List Value) (hown : w.ownsRow H 33 2 (.slice vd N vc) N xs) (hH : H ≤ w.heap.size) (a5 : Option Addr) (m c : Nat) (L : List Mp.Sent) (hrow : SRow wq (.slice a5 m c) L) (hm : m ≤ 1000) (hN : N ≤ 1000) :
    ∃ (ad : Option Addr) (cap : Nat) (w' : World) (CS : List (List Value)), (Builtin.append_ #[27, 27] ty #[.slice vd N vc, .slice a5 m c]).run Try.prog w = .ok (.slice ad (N + m) cap) w' ∧ w'.ownsRow H 33 2 (.slice ad (N + m) cap) (N + m) (xs ++ CS.flatten) ∧ w.grownBy w' (Value.slice vd N vc).ownBlock ∧ CS.length = L.length ∧ (∀ x ∈ CS, x.length = 2) ∧ ∀ (i : Nat) x cs, L[i]? = some x → CS[i]? = some cs → sentR wq cs x := by
  obtain ⟨i0, hi0, hz0, hz1, hz2⟩ := info_parts infoSt
  obtain ⟨hlen, _, hcp, b, o, ha, _⟩ := srow_at hrow
  rcases Nat.eq_zero_or_pos m with h0 | h0
  · subst h0
    have hL : L = [] := List.eq_nil_of_length_eq_zero hlen.symm
    subst hL
    have hsrc : Src Try.prog i0.size 27 (.slice a5 0 c) 0 [] w := by
      cases a5 with
      | none => exact Src.ofNil w Try.underlying27 c
      | some a => exact Src.ofSlice w Try.underlying27 a 0 c [] (by simp) (fun j u hu => by simp at hu) (fun u hu => by simp at hu)
    refine ⟨vd, vc, w, [], run_append_nothing w _ _ ty _ i0 Try.underlying27 hi0 vd N vc (own_cap hown).2 _ hsrc, by simpa using hown, World.grownBy.refl _ _, rfl, (fun x hx => by simp at hx), fun i x cs hx => by simp at hx⟩
  · obtain rfl := ha h0
    obtain ⟨CS, hcl, hcz, hcr, hcc⟩ := row_cells hrow h0
    have hfl : CS.flatten.length = m * 2 := by rw [flat_len CS hcz, hcl, hlen]
    have hone : ∀ u ∈ CS.flatten, u.oneCell' = true := by
      intro u hu
      obtain ⟨cs, hcs, hu'⟩ := List.mem_flatten.1 hu
      obtain ⟨i, hi⟩ := List.getElem?_of_mem hcs
      have hil := (List.getElem?_eq_some_iff.1 hi).1
      exact (sentR_one (hcr i L[i] cs (List.getElem?_eq_getElem (by omega)) hi)).2 u hu'
    obtain ⟨v', w', hr, ho, hg, _, _⟩ := run_append_own_at (P := Try.prog) w H 27 ty 33 i0 _ 2 48 Try.underlying27 hi0 hz0 hz1 hz2 rfl (by decide) (.slice vd N vc) N xs hown ⟨b, o, none⟩ m c CS.flatten hfl (fun j u hu => by rw [show (⟨b, o, none⟩ : Addr).add j = ⟨b, o + j, none⟩ by unfold Addr.add; split <;> simp_all]; exact below_cell hq _ _ (hcc j u hu)) hone (by unfold maxLen; omega) (by omega) hH
    obtain ⟨ad, cap, rfl⟩ := slice_form ho
    exact ⟨ad, cap, w', CS, hr, ho, hg, hcl, hcz, hcr⟩
theorem step_app {ops : Array Oper} {op : Oper} {a : Act} {K : Act → World → Prop} {Q : Exit → Act → World → Prop} {E : Prop} {w : World} (hgd : op.guard = none) (s x : Operand) (t : TypeId)
    (ho : op.op = .call { callee := .builtin .append, args := #[s, x], argTypes := #[t, t] }) (v xv : Value) (hs : a.eval s = v) (hx : a.eval x = xv) (v' : Value) (w' : World) (ty : TypeId) (hty : op.type = ty)
    (hr : (Builtin.append_ #[t, t] ty #[v, xv]).run Try.prog w = .ok v' w') (h : K (a.put op.dst v') w') : if Region.wanted op (yielded ops a.tmps) = true then Oper.wp Try.prog op a w K Q else E := by
  have hw : Region.wanted op (yielded ops a.tmps) = true := by simp [Region.wanted, hgd]
  rw [if_pos hw]
  subst hty
  unfold Oper.wp execOp
  simp only [ho, resolve, invoke, builtin, Sem.run_bind, Sem.run_pure, Result.andThen_ok, List.map_toArray, List.map_cons, List.map_nil, hs, hx, hr]
  exact h
end Go.Proofs.Ytfbnlplafkangab
