/-
  A row of whatever elements made by appends one in another: none or some are appended.
-/
import Derived.Test.YtkjekohncfhbiabRRepeat
import Derived.Test.YtkjekohncfhbiabMRows
import Derived.Deep.AppendSrc
import Derived.Deep.AppendLies
import Derived.Deep.RegionLaw
set_option linter.unusedSimpArgs false
set_option linter.unusedVariables false
namespace Go.Proofs.Ytkjekohncfhbiab
open Go.RowKit
set_option maxRecDepth 100000
section MadeR
variable {α : Type} {t e : TypeId} {z bytes : Nat} {E : α → List Value}
/-- A row that was made since W0, all of W0 left as it was. -/
structure TE (e : TypeId) (z : Nat) (E : α → List Value) (W0 W : World) (v : Value) (L : List α) : Prop where
  own : W.ownsRow W0.heap.size e z v L.length (L.map E).flatten
  below : Below W0.heap.size W0 W
theorem TE.alloc {W0 W : World} {v : Value} {L : List α} (h : TE e z E W0 W v L) (o : Obj) : TE e z E W0 (W.alloc o) v L := ⟨h.own.alloc _, h.below.alloc h.below.size _⟩
theorem TE.drew {W0 W : World} {v : Value} {L : List α} (h : TE e z E W0 W v L) : TE e z E W0 W.drew v L := ⟨h.own.drew, below_drewN h.below 1⟩
theorem TE.under {W0 W W' : World} {v : Value} {L : List α} (h : TE e z E W0 W v L) (hb : Below W.heap.size W W') : TE e z E W0 W' v L := ⟨own_below h.own hb, h.below.trans (hb.mono h.below.size)⟩
theorem TE.drewN {W0 W : World} {v : Value} {L : List α} (h : TE e z E W0 W v L) (d : Nat) : TE e z E W0 (W.drewN d) v L := h.under (below_drewN (Below.refl _ W) d)
theorem TE.none {W0 W : World} (hb : Below W0.heap.size W0 W) : TE e z E W0 W (.slice none 0 0) [] := ⟨⟨by simp, .inl ⟨rfl, rfl⟩⟩, hb⟩
theorem TE.empty {W0 W : World} (hb : Below W0.heap.size W0 W) (H : Nat) (hH : W.heap.size = H) : TE e z E W0 (W.alloc (.cells #[] e)) (.slice (some ⟨H, 0, .none⟩) 0 0) [] :=
  ⟨⟨by simp, .inr ⟨H, 0, #[], rfl, by rw [← hH]; exact hb.size, by rw [← hH]; exact heap_alloc_new W _, Nat.le_refl _, by unfold maxLen; omega, by simp, by simp⟩⟩, hb.alloc hb.size _⟩
theorem TE.cell {W0 W : World} {v : Value} {L : List α} (h : TE e z E W0 W v L) {a : Addr} {c : Value} (hc : W0.cell? a = some c) : W.cell? a = some c := below_cell h.below _ _ hc
theorem TE.low {W0 W1 W : World} {v : Value} {L : List α} (h : TE e z E W1 W v L) (hb : Below W0.heap.size W0 W1) : TE e z E W0 W v L := ⟨⟨h.own.1, h.own.2.imp id fun ⟨g, cap, cur, h1, h2, h3⟩ => ⟨g, cap, cur, h1, Nat.le_trans hb.size h2, h3⟩⟩, hb.trans (h.below.mono hb.size)⟩
theorem te_form {W0 W : World} {v : Value} {L : List α} (h : TE e z E W0 W v L) : ∃ ob oc, v = .slice ob L.length oc ∧ L.length ≤ oc ∧ ∃ g, (0 < L.length → ob = some ⟨g, 0, .none⟩) ∧ (L.length = 0 → ob = .none ∨ ob = some ⟨g, 0, .none⟩) ∧ ∀ (j : Nat) u, (L.map E).flatten[j]? = some u → W.cell? ⟨g, j, .none⟩ = some u := by
  rcases h.own.2 with ⟨rfl, h0⟩ | ⟨g, cap, cur, rfl, hbg, hg, hnc, hcm, hcs, htake⟩
  · refine ⟨.none, 0, by rw [h0], by omega, 0, fun h => by omega, fun _ => .inl rfl, fun j u hj => ?_⟩
    have h1 := h.own.1
    rw [h0, Nat.zero_mul] at h1
    have := (List.getElem?_eq_some_iff.1 hj).1
    omega
  · refine ⟨_, cap, rfl, hnc, g, fun _ => rfl, fun _ => .inr rfl, fun j u hj => ?_⟩
    have hc := h.own.cells (g := g) rfl j u hj
    rwa [show ((⟨g, 0, .none⟩ : Addr).add j) = ⟨g, j, .none⟩ by unfold Addr.add; split <;> simp_all] at hc
theorem run_app_noneE {W : World} {H n : Nat} {v : Value} {xs : List Value} (ty : TypeId) (ht : Try.prog.underlying t = some (.slice e)) {i : TypeInfo} (hi : Try.prog.info? e = some i) (hown : W.ownsRow H e z v n xs) (ao : Option Addr) (c : Nat) :
    (Builtin.append_ #[t, t] ty #[v, .slice ao 0 c]).run Try.prog W = .ok v W := by
  rcases hown.2 with ⟨rfl, rfl⟩ | ⟨g, cap, cur, rfl, hbg, hg, hnc, hcm, hcs, htake⟩
  · cases ao <;> simp [Builtin.append_, run_underlying ht, sizeOf, typeInfo, hi, Builtin.lenOf, Builtin.firstCells, loadCells, loadCellsFrom]
  · have h0 : W.setCells g (0 + n * i.size) [] = W := rfl
    have hr := run_append_room_src (P := Try.prog) W t t ty e i ht hi g 0 n cap (.slice ao 0 c) 0 [] (by
      cases ao with
      | none => exact Src.ofNil W ht c
      | some a => exact Src.ofSlice W ht a 0 c [] (by simp) (fun j u h => by simp at h) (fun u h => by cases h)) (by omega) (fun j h => by simp at h) (fun j h => by simp at h)
    rw [h0] at hr
    exact hr
theorem flat_len (hE : ∀ x, (E x).length = z) : ∀ (l : List α), (l.map E).flatten.length = l.length * z
  | [] => by simp
  | x :: l => by rw [List.map_cons, List.flatten_cons, List.length_append, hE, flat_len hE l, List.length_cons, Nat.succ_mul]; omega
/-- The law: at a step of a region that draws its order. -/
theorem step_appE (ht : Try.prog.underlying t = some (.slice e)) {zv : Value} (hi : (Try.prog.info? e).map (fun i => (i.zero, i.size, i.bytes)) = some (some zv, z, bytes)) (hzs : zv.cells.size = z) (hz0 : 0 < z) (hbb : bytes ≤ 1000) (hE : ∀ x, (E x).length = z) (hE1 : ∀ x, ∀ u ∈ E x, u.oneCell' = true)
    {ops : Array Oper} {o : Oper} {a : Act} {K : Act → World → Prop} {Q : Exit → Act → World → Prop} {F : Prop} (hgd : o.guard = .none) (s x : Operand) (ho : o.op = .call { callee := .builtin .append, args := #[s, x], argTypes := #[t, t] })
    {W0 W : World} {v : Value} (hs : a.eval s = v) {ao : Option Addr} {m c : Nat} (hx : a.eval x = .slice ao m c) {L : List α} (hT : TE e z E W0 W v L) (news : List α) (hm : news.length = m) (hsrc : 0 < m → ∃ ad, ao = some ad ∧ ∀ (j : Nat) u, (news.map E).flatten[j]? = some u → W.cell? (ad.add j) = some u) (hl : L.length + m ≤ 1000000)
    (h : ∀ v' w', TE e z E W0 w' v' (L ++ news) → (∀ (b i : Nat) (u : Value), v.ownBlock ≠ some b → W.cell? ⟨b, i, .none⟩ = some u → w'.cell? ⟨b, i, .none⟩ = some u) → K (a.put o.dst v') w') :
    if Region.wanted o (yielded ops a.tmps) = true then Oper.wp Try.prog o a W K Q else F := by
  have hw : Region.wanted o (yielded ops a.tmps) = true := by simp [Region.wanted, hgd]
  rw [if_pos hw]
  obtain ⟨j0, hj0, jz0, jz1, jz2⟩ := info_parts hi
  have hr : ∃ v' w', (Builtin.append_ #[t, t] o.type #[v, .slice ao m c]).run Try.prog W = .ok v' w' ∧ TE e z E W0 w' v' (L ++ news) ∧ (∀ (b i : Nat) (u : Value), v.ownBlock ≠ some b → W.cell? ⟨b, i, .none⟩ = some u → w'.cell? ⟨b, i, .none⟩ = some u) := by
    by_cases h0 : m = 0
    · subst h0
      obtain rfl := List.eq_nil_of_length_eq_zero hm
      exact ⟨v, W, run_app_noneE o.type ht hj0 hT.own ao c, by rw [List.append_nil]; exact hT, fun _ _ _ _ h => h⟩
    · obtain ⟨ad, rfl, hc⟩ := hsrc (by omega)
      obtain ⟨v', w', hr, h2, h3, _, _⟩ := run_append_own_at (P := Try.prog) W W0.heap.size t o.type e j0 _ z bytes ht hj0 jz0 jz1 jz2 hzs hz0 v L.length (L.map E).flatten hT.own ad m c (news.map E).flatten (by rw [flat_len hE, hm]) hc (fun u hu => by
        obtain ⟨q, hq, hu⟩ := List.mem_flatten.1 hu
        obtain ⟨y, _, rfl⟩ := List.mem_map.1 hq
        exact hE1 y u hu) (by unfold maxLen; omega) (Nat.le_trans (Nat.mul_le_mul hl hbb) (by omega)) hT.below.size
      refine ⟨v', w', hr, ⟨?_, ?_⟩, fun b i u hb hu => by rw [h3.cell_far ⟨b, i, .none⟩ (cell_lt hu) (fun e => hb e.symm)]; exact hu⟩
      · rw [List.length_append, List.map_append, List.flatten_append, hm]
        exact h2
      · exact ⟨h3.os.trans hT.below.os, h3.tape.trans hT.below.tape, h3.output.trans hT.below.output, Nat.le_trans hT.below.size h3.size, fun k hk => (h3.block k (by have := hT.below.size; omega) (fun e => by have := (own_lt hT.own e.symm).2; omega)).trans (hT.below.block k hk)⟩
  obtain ⟨v', w', hr, hT', hG⟩ := hr
  unfold Oper.wp execOp
  simp only [ho, resolve, invoke, builtin, Sem.run_bind, Sem.run_pure, Result.andThen_ok, List.map_toArray, List.map_cons, List.map_nil, hs, hx, hr]
  exact h v' w' hT' hG
end MadeR
end Go.Proofs.Ytkjekohncfhbiab
