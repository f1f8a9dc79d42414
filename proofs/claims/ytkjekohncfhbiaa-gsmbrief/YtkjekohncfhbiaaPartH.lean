/-
  Several texts in one: each opens with its own word.
-/
import Derived.Test.YtkjekohncfhbiaaRRepeat
import Derived.Test.YtkjekohncfhbiaaPartX
import Derived.Deep.AppendSrc
import Derived.Deep.AppendLies
import Derived.Deep.RegionLaw
import Derived.Test.YtkjekohncfhbiaaRFlags
/-
  A row of whatever elements made by appends one in another: none or some are appended.
-/
set_option linter.unusedSimpArgs false
set_option linter.unusedVariables false
namespace Go.Proofs.Ytkjekohncfhbiaa
open Go.RowKit
set_option maxRecDepth 100000
section MadeR
variable {α : Type} {t e : TypeId} {z bytes : Nat} {E : α → List Value}
/-- A row that was made since W0, all of W0 left as it was. -/
structure TE (e : TypeId) (z : Nat) (E : α → List Value) (W0 W : World) (v : Value) (L : List α) : Prop where
  own : W.ownsRow W0.heap.size e z v L.length (L.map E).flatten
  below : Below W0.heap.size W0 W
theorem TE.alloc {W0 W : World} {v : Value} {L : List α} (h : TE e z E W0 W v L) (o : Obj) : TE e z E W0 (W.alloc o) v L := ⟨h.own.alloc _, h.below.alloc h.below.size _⟩
theorem TE.drew {W0 W : World} {v : Value} {L : List α} (h : TE e z E W0 W v L) : TE e z E W0 W.drew v L := ⟨h.own.drew, below_drewN h.below 1⟩
theorem TE.under {W0 W W' : World} {v : Value} {L : List α} (h : TE e z E W0 W v L) (hb : Below W.heap.size W W') : TE e z E W0 W' v L := ⟨own_below h.own hb, h.below.trans (hb.mono h.below.size)⟩
theorem TE.drewN {W0 W : World} {v : Value} {L : List α} (h : TE e z E W0 W v L) (d : Nat) : TE e z E W0 (W.drewN d) v L := h.under (below_drewN (Below.refl _ W) d)
theorem TE.none {W0 W : World} (hb : Below W0.heap.size W0 W) : TE e z E W0 W (.slice none 0 0) [] := ⟨⟨by simp, .inl ⟨rfl, rfl⟩⟩, hb⟩
theorem TE.empty {W0 W : World} (hb : Below W0.heap.size W0 W) (H : Nat) (hH : W.heap.size = H) : TE e z E W0 (W.alloc (.cells #[] e)) (.slice (some ⟨H, 0, .none⟩) 0 0) [] :=
  ⟨⟨by simp, .inr ⟨H, 0, #[], rfl, by rw [← hH]; exact hb.size, by rw [← hH]; exact heap_alloc_new W _, Nat.le_refl _, by unfold maxLen; omega, by simp, by simp⟩⟩, hb.alloc hb.size _⟩
theorem TE.cell {W0 W : World} {v : Value} {L : List α} (h : TE e z E W0 W v L) {a : Addr} {c : Value} (hc : W0.cell? a = some c) : W.cell? a = some c := below_cell h.below _ _ hc
theorem TE.low {W0 W1 W : World} {v : Value} {L : List α} (h : TE e z E W1 W v L) (hb : Below W0.heap.size W0 W1) : TE e z E W0 W v L := ⟨⟨h.own.1, h.own.2.imp id fun ⟨g, cap, cur, h1, h2, h3⟩ => ⟨g, cap, cur, h1, Nat.le_trans hb.size h2, h3⟩⟩, hb.trans (h.below.mono hb.size)⟩
theorem te_form {W0 W : World} {v : Value} {L : List α} (h : TE e z E W0 W v L) : ∃ ob oc, v = .slice ob L.length oc ∧ L.length ≤ oc ∧ ∃ g, (0 < L.length → ob = some ⟨g, 0, .none⟩) ∧ (L.length = 0 → ob = .none ∨ ob = some ⟨g, 0, .none⟩) ∧ ∀ (j : Nat) u, (L.map E).flatten[j]? = some u → W.cell? ⟨g, j, .none⟩ = some u := by
  rcases h.own.2 with ⟨rfl, h0⟩ | ⟨g, cap, cur, rfl, hbg, hg, hnc, hcm, hcs, htake⟩
  · refine ⟨.none, 0, by rw [h0], by omega, 0, fun h => by omega, fun _ => .inl rfl, fun j u hj => ?_⟩
    have h1 := h.own.1
    rw [h0, Nat.zero_mul] at h1
    have := (List.getElem?_eq_some_iff.1 hj).1
    omega
  · refine ⟨_, cap, rfl, hnc, g, fun _ => rfl, fun _ => .inr rfl, fun j u hj => ?_⟩
    have hc := h.own.cells (g := g) rfl j u hj
    rwa [show ((⟨g, 0, .none⟩ : Addr).add j) = ⟨g, j, .none⟩ by unfold Addr.add; split <;> simp_all] at hc
theorem run_app_noneE {W : World} {H n : Nat} {v : Value} {xs : List Value} (ty : TypeId) (ht : Try.prog.underlying t = some (.slice e)) {i : TypeInfo} (hi : Try.prog.info? e = some i) (hown : W.ownsRow H e z v n xs) (ao : Option Addr) (c : Nat) :
    (Builtin.append_ #[t, t] ty #[v, .slice ao 0 c]).run Try.prog W = .ok v W := by
  rcases hown.2 with ⟨rfl, rfl⟩ | ⟨g, cap, cur, rfl, hbg, hg, hnc, hcm, hcs, htake⟩
  · cases ao <;> simp [Builtin.append_, run_underlying ht, sizeOf, typeInfo, hi, Builtin.lenOf, Builtin.firstCells, loadCells, loadCellsFrom]
  · have h0 : W.setCells g (0 + n * i.size) [] = W := rfl
    have hr := run_append_room_src (P := Try.prog) W t t ty e i ht hi g 0 n cap (.slice ao 0 c) 0 [] (by
      cases ao with
      | none => exact Src.ofNil W ht c
      | some a => exact Src.ofSlice W ht a 0 c [] (by simp) (fun j u h => by simp at h) (fun u h => by cases h)) (by omega) (fun j h => by simp at h) (fun j h => by simp at h)
    rw [h0] at hr
    exact hr
theorem flat_len (hE : ∀ x, (E x).length = z) : ∀ (l : List α), (l.map E).flatten.length = l.length * z
  | [] => by simp
  | x :: l => by rw [List.map_cons, List.flatten_cons, List.length_append, hE, flat_len hE l, List.length_cons, Nat.succ_mul]; omega
/-- The law: at a step of a region that draws its order. -/
theorem step_appE (ht : Try.prog.underlying t = some (.slice e)) {zv : Value} (hi : (Try.prog.info? e).map (fun i => (i.zero, i.size, i.bytes)) = some (some zv, z, bytes)) (hzs : zv.cells.size = z) (hz0 : 0 < z) (hbb : bytes ≤ 1000) (hE : ∀ x, (E x).length = z) (hE1 : ∀ x, ∀ u ∈ E x, u.oneCell' = true)
    {ops : Array Oper} {o : Oper} {a : Act} {K : Act → World → Prop} {Q : Exit → Act → World → Prop} {F : Prop} (hgd : o.guard = .none) (s x : Operand) (ho : o.op = .call { callee := .builtin .append, args := #[s, x], argTypes := #[t, t] })
    {W0 W : World} {v : Value} (hs : a.eval s = v) {ao : Option Addr} {m c : Nat} (hx : a.eval x = .slice ao m c) {L : List α} (hT : TE e z E W0 W v L) (news : List α) (hm : news.length = m) (hsrc : 0 < m → ∃ ad, ao = some ad ∧ ∀ (j : Nat) u, (news.map E).flatten[j]? = some u → W.cell? (ad.add j) = some u) (hl : L.length + m ≤ 1000000)
    (h : ∀ v' w', TE e z E W0 w' v' (L ++ news) → (∀ (b i : Nat) (u : Value), v.ownBlock ≠ some b → W.cell? ⟨b, i, .none⟩ = some u → w'.cell? ⟨b, i, .none⟩ = some u) → K (a.put o.dst v') w') :
    if Region.wanted o (yielded ops a.tmps) = true then Oper.wp Try.prog o a W K Q else F := by
  have hw : Region.wanted o (yielded ops a.tmps) = true := by simp [Region.wanted, hgd]
  rw [if_pos hw]
  obtain ⟨j0, hj0, jz0, jz1, jz2⟩ := info_parts hi
  have hr : ∃ v' w', (Builtin.append_ #[t, t] o.type #[v, .slice ao m c]).run Try.prog W = .ok v' w' ∧ TE e z E W0 w' v' (L ++ news) ∧ (∀ (b i : Nat) (u : Value), v.ownBlock ≠ some b → W.cell? ⟨b, i, .none⟩ = some u → w'.cell? ⟨b, i, .none⟩ = some u) := by
    by_cases h0 : m = 0
    · subst h0
      obtain rfl := List.eq_nil_of_length_eq_zero hm
      exact ⟨v, W, run_app_noneE o.type ht hj0 hT.own ao c, by rw [List.append_nil]; exact hT, fun _ _ _ _ h => h⟩
    · obtain ⟨ad, rfl, hc⟩ := hsrc (by omega)
      obtain ⟨v', w', hr, h2, h3, _, _⟩ := run_append_own_at (P := Try.prog) W W0.heap.size t o.type e j0 _ z bytes ht hj0 jz0 jz1 jz2 hzs hz0 v L.length (L.map E).flatten hT.own ad m c (news.map E).flatten (by rw [flat_len hE, hm]) hc (fun u hu => by
        obtain ⟨q, hq, hu⟩ := List.mem_flatten.1 hu
        obtain ⟨y, _, rfl⟩ := List.mem_map.1 hq
        exact hE1 y u hu) (by unfold maxLen; omega) (Nat.le_trans (Nat.mul_le_mul hl hbb) (by omega)) hT.below.size
      refine ⟨v', w', hr, ⟨?_, ?_⟩, fun b i u hb hu => by rw [h3.cell_far ⟨b, i, .none⟩ (cell_lt hu) (fun e => hb e.symm)]; exact hu⟩
      · rw [List.length_append, List.map_append, List.flatten_append, hm]
        exact h2
      · exact ⟨h3.os.trans hT.below.os, h3.tape.trans hT.below.tape, h3.output.trans hT.below.output, Nat.le_trans hT.below.size h3.size, fun k hk => (h3.block k (by have := hT.below.size; omega) (fun e => by have := (own_lt hT.own e.symm).2; omega)).trans (hT.below.block k hk)⟩
  obtain ⟨v', w', hr, hT', hG⟩ := hr
  unfold Oper.wp execOp
  simp only [ho, resolve, invoke, builtin, Sem.run_bind, Sem.run_pure, Result.andThen_ok, List.map_toArray, List.map_cons, List.map_nil, hs, hx, hr]
  exact h v' w' hT' hG
end MadeR
end Go.Proofs.Ytkjekohncfhbiaa
/-
  A row copied by an append and one element more: the rows' relations read of it.
-/
set_option linter.unusedSimpArgs false
set_option linter.unusedVariables false
namespace Go.Proofs.Ytkjekohncfhbiaa
open Go.RowKit
set_option maxRecDepth 100000
/-- The cells of one element. -/
def Cel (z : Nat) : Type := {cs : List Value // cs.length = z ∧ ∀ u ∈ cs, u.oneCell' = true}
def celE {z : Nat} (c : Cel z) : List Value := c.1
theorem celE_len {z : Nat} (c : Cel z) : (celE c).length = z := c.2.1
theorem celE_one {z : Nat} (c : Cel z) : ∀ u ∈ celE c, u.oneCell' = true := c.2.2
theorem cel_flat {z : Nat} : ∀ {cl : List (Cel z)} {j : Nat} {u : Value}, (cl.map celE).flatten[j]? = some u → ∃ i c k, j = i * z + k ∧ cl[i]? = some c ∧ c.1[k]? = some u
  | [], j, u, h => by simp at h
  | c :: cl, j, u, h => by
    rw [List.map_cons, List.flatten_cons] at h
    have hl := celE_len c
    by_cases e : j < z
    · rw [List.getElem?_append_left (by omega)] at h
      exact ⟨0, c, j, by omega, rfl, h⟩
    · rw [List.getElem?_append_right (by omega), hl] at h
      obtain ⟨i, d, k, h1, h2, h3⟩ := cel_flat h
      exact ⟨i + 1, d, k, by rw [Nat.succ_mul]; omega, h2, h3⟩
theorem cel_at {z : Nat} : ∀ {cl : List (Cel z)} {i : Nat} {c : Cel z} {k : Nat} {u : Value}, cl[i]? = some c → c.1[k]? = some u → (cl.map celE).flatten[i * z + k]? = some u
  | [], i, c, k, u, h, hk => by simp at h
  | d :: cl, 0, c, k, u, h, hk => by
    cases h
    have hl := celE_len d
    rw [List.map_cons, List.flatten_cons, Nat.zero_mul, Nat.zero_add, List.getElem?_append_left (by have := (List.getElem?_eq_some_iff.1 hk).1; have := d.2.1; omega)]
    exact hk
  | d :: cl, i + 1, c, k, u, h, hk => by
    have hl := celE_len d
    rw [List.map_cons, List.flatten_cons, List.getElem?_append_right (by rw [Nat.succ_mul]; omega), hl, show (i + 1) * z + k - z = i * z + k by rw [Nat.succ_mul]; omega]
    exact cel_at h hk
theorem add_none (b o j : Nat) : (⟨b, o, none⟩ : Addr).add j = ⟨b, o + j, none⟩ := by
  unfold Addr.add
  split <;> simp_all
section RowsR
variable {α : Type} {e : TypeId} {z : Nat} {R : World → List Value → α → Prop}
theorem rowr_cells {w : World} {ao : Option Addr} {n cap : Nat} {l : List α} (h : RowR z R w (.slice ao n cap) l) (hR : ∀ cs x, R w cs x → ∀ u ∈ cs, u.oneCell' = true) :
    ∃ cl : List (Cel z), cl.length = n ∧ n = l.length ∧ (∀ (i : Nat) x c, l[i]? = some x → cl[i]? = some c → R w c.1 x) ∧ (0 < n → ∃ ad, ao = some ad ∧ ∀ (j : Nat) u, (cl.map celE).flatten[j]? = some u → w.cell? (ad.add j) = some u) := by
  obtain ⟨b, o, ⟨a1, c1, hv, hcp, ha⟩, h2, h3⟩ := h
  cases hv
  have H : ∀ i : Fin l.length, ∃ c : Cel z, R w c.1 l[i] ∧ ∀ (j : Nat) u, c.1[j]? = some u → w.cell? ⟨b, o + i * z + j, none⟩ = some u := fun i => by
    obtain ⟨cs, q1, q2, q3⟩ := h3 i l[i] (List.getElem?_eq_getElem i.2)
    exact ⟨⟨cs, q1, hR cs _ q2⟩, q2, q3⟩
  refine ⟨List.ofFn fun i => Classical.choose (H i), by simp, rfl, fun i x c hx hc => ?_, fun h0 => ⟨_, ha h0, fun j u hu => ?_⟩⟩
  · have hi : i < l.length := (List.getElem?_eq_some_iff.1 hx).1
    rw [List.getElem?_ofFn] at hc
    simp only [hi, dif_pos, Option.some.injEq] at hc
    subst hc
    have := (Classical.choose_spec (H ⟨i, hi⟩)).1
    rw [List.getElem?_eq_getElem hi] at hx
    cases hx
    exact this
  · obtain ⟨i, c, k, rfl, hc, hk⟩ := cel_flat hu
    rw [List.getElem?_ofFn] at hc
    split at hc
    · rename_i hi
      cases hc
      rw [add_none, show o + (i * z + k) = o + i * z + k by omega]
      exact (Classical.choose_spec (H ⟨i, hi⟩)).2 k u hk
    · cases hc
theorem te_rowr {W0 W : World} {v : Value} {cl : List (Cel z)} {l : List α} (T : TE e z celE W0 W v cl) (hlen : cl.length = l.length) (hR : ∀ (i : Nat) x c, l[i]? = some x → cl[i]? = some c → R W c.1 x) (hl : l.length ≤ 10000000000000) : RowR z R W v l := by
  obtain ⟨ob, oc, rfl, hoc, g, hg1, hg0, hgc⟩ := te_form T
  rw [hlen] at hoc hg1 hg0
  refine ⟨g, 0, ⟨ob, oc, by rw [hlen], hoc, hg1⟩, hl, fun i x hx => ?_⟩
  have hi : i < cl.length := by have := (List.getElem?_eq_some_iff.1 hx).1; omega
  refine ⟨cl[i].1, cl[i].2.1, hR i x _ hx (List.getElem?_eq_getElem hi), fun j u hu => ?_⟩
  rw [Nat.zero_add]
  exact hgc _ u (cel_at (List.getElem?_eq_getElem hi) hu)
end RowsR
section Plainly
variable {α : Type} {t e : TypeId} {z bytes : Nat} {E : α → List Value}
/-- As step_appE, where the region does not draw. -/
theorem wpList_appE (ht : Try.prog.underlying t = some (.slice e)) {zv : Value} (hi : (Try.prog.info? e).map (fun i => (i.zero, i.size, i.bytes)) = some (some zv, z, bytes)) (hzs : zv.cells.size = z) (hz0 : 0 < z) (hbb : bytes ≤ 1000) (hE : ∀ x, (E x).length = z) (hE1 : ∀ x, ∀ u ∈ E x, u.oneCell' = true)
    {ops : Array Oper} {rest : List Oper} {o : Oper} {a : Act} {Q : Exit → Act → World → Prop} (hgd : o.guard = .none) (s x : Operand) (ho : o.op = .call { callee := .builtin .append, args := #[s, x], argTypes := #[t, t] })
    {W0 W : World} {v : Value} (hs : a.eval s = v) {ao : Option Addr} {m c : Nat} (hx : a.eval x = .slice ao m c) {L : List α} (hT : TE e z E W0 W v L) (news : List α) (hm : news.length = m) (hsrc : 0 < m → ∃ ad, ao = some ad ∧ ∀ (j : Nat) u, (news.map E).flatten[j]? = some u → W.cell? (ad.add j) = some u) (hl : L.length + m ≤ 1000000)
    (h : ∀ v' w', TE e z E W0 w' v' (L ++ news) → (∀ (b i : Nat) (u : Value), v.ownBlock ≠ some b → W.cell? ⟨b, i, .none⟩ = some u → w'.cell? ⟨b, i, .none⟩ = some u) → wpList Try.prog ops Q rest (a.put o.dst v') w') : wpList Try.prog ops Q (o :: rest) a W :=
  wpList_plain hgd fun K hK => by
    have h0 := step_appE (F := False) (ops := ops) (K := K) (Q := Q) ht hi hzs hz0 hbb hE hE1 hgd s x ho hs hx hT news hm hsrc hl (fun v' w' h1 h2 => hK _ _ (h v' w' h1 h2))
    rwa [if_pos (by simp [Region.wanted, hgd])] at h0
end Plainly
end Go.Proofs.Ytkjekohncfhbiaa
/-
  A region that draws its order, by an invariant: what holds of the operations that are listed, whatever their order.
-/
set_option linter.unusedSimpArgs false
set_option linter.unusedVariables false
namespace Go.Proofs.Ytkjekohncfhbiaa
open Go.RowKit
set_option maxRecDepth 100000
section InvR
variable {P : Program} {ops : Array Oper} {Q : Exit → Act → World → Prop} {md : Region.Mode}
theorem ready_mem {listed : Array Bool} {i : Nat} (h : i ∈ Region.ready md ops listed) : i < ops.size ∧ listed.getD i true = false ∧ ∃ o, ops[i]? = some o ∧ ∀ e ∈ o.after, Region.binds md e = true → listed.getD e.on false = true := by
  unfold Region.ready at h
  rw [List.mem_filter] at h
  obtain ⟨h1, h2⟩ := h
  have hi : i < ops.size := List.mem_range.1 h1
  rw [Bool.and_eq_true] at h2
  obtain ⟨h2, h3⟩ := h2
  refine ⟨hi, by simpa using h2, ops[i], Array.getElem?_eq_getElem hi, fun e he hb => ?_⟩
  rw [Array.getElem?_eq_getElem hi] at h3
  simp only [Option.map_some, Option.getD_some, Array.all_eq_true'] at h3
  have := h3 e he
  simpa [hb] using this
/-- How many are not listed yet. -/
def unlisted (listed : Array Bool) : Nat := listed.toList.count false
theorem unlisted_set {listed : Array Bool} {i : Nat} (h : listed.getD i true = false) : unlisted (listed.setIfInBounds i true) + 1 = unlisted listed := by
  have hi : i < listed.size := by
    by_cases e : i < listed.size
    · exact e
    · simp [Array.getD, e] at h
  have hv : listed.toList[i]'(by simpa using hi) = false := by
    simpa [Array.getD, hi] using h
  unfold unlisted
  rw [Array.toList_setIfInBounds, List.count_set (by simpa using hi), hv]
  have : 0 < listed.toList.count false := List.count_pos_iff.2 (by rw [← hv]; exact List.getElem_mem _)
  rw [show (false == false) = true from rfl, show (true == false) = false from rfl, if_pos rfl, if_neg (by decide)]
  omega
theorem unlisted_zero {listed : Array Bool} (h : unlisted listed = 0) : Region.ready md ops listed = [] := by
  apply List.eq_nil_iff_forall_not_mem.2
  intro i hi
  have := unlisted_set (ready_mem hi).2.1
  omega
/-- THE LAW: each operation that is ready goes from the invariant to the invariant; at the end it gives what stands behind the region. -/
theorem wpAny_inv (I : Array Bool → Act → World → Prop) (hstep : ∀ listed a w i, I listed a w → i ∈ Region.ready md ops listed → wpOp P ops Q i (I (listed.setIfInBounds i true)) a w)
    (hend : ∀ listed a w, I listed a w → Region.ready md ops listed = [] → Q .normal a w) : ∀ (fuel : Nat) (listed : Array Bool) (a : Act) (w : World), unlisted listed ≤ fuel → I listed a w → wpAny P md ops Q fuel listed a w
  | 0, listed, a, w, hf, h => ⟨unlisted_zero (by omega), hend listed a w h (unlisted_zero (by omega))⟩
  | fuel + 1, listed, a, w, hf, h => ⟨fun hr => hend listed a w h hr, fun i hi => wpOp_mono (fun a' w' h' => wpAny_inv I hstep hend fuel _ a' w' (by have := unlisted_set (ready_mem hi).2.1; omega) h') (hstep listed a w i h hi)⟩
theorem wp_region_inv {id : Nat} {a : Act} {w : World} (hm : P.follows .mixedOrders = true) (I : Array Bool → Act → World → Prop)
    (h0 : I (Array.replicate ops.size false) a w.drew)
    (hstep : ∀ listed a w i, I listed a w → i ∈ Region.ready .any ops listed → wpOp P ops Q i (I (listed.setIfInBounds i true)) a w)
    (hend : ∀ listed a w, I listed a w → Region.ready .any ops listed = [] → Q .normal a w) : (Code.region id ops true).wp P Q a w :=
  wp_region_any hm (wpAny_inv I hstep hend ops.size _ _ _ (by unfold unlisted; simp) h0)
end InvR
end Go.Proofs.Ytkjekohncfhbiaa
/-
  A region that draws its order and allocates: each operation's slot holds what is said of it, whatever the order.
-/
set_option linter.unusedSimpArgs false
set_option linter.unusedVariables false
namespace Go.Proofs.Ytkjekohncfhbiaa
open Go.RowKit
set_option maxRecDepth 100000
section SlotsR
variable {P : Program} {ops : Array Oper} {Q : Exit → Act → World → Prop}
theorem eval_put_at (a : Act) (d : Nat) (v : Value) (h : d < a.tmps.size) : (a.put (some d) v).eval (.tmp d) = v := by
  simp [Act.put, Act.eval, Array.getD_eq_getD_getElem?, h]
theorem eval_put_far (a : Act) (d s : Nat) (v : Value) (h : d ≠ s) : (a.put (some d) v).eval (.tmp s) = a.eval (.tmp s) := by
  simp [Act.put, Act.eval, Array.getD_eq_getD_getElem?, Array.getElem?_setIfInBounds, h]
theorem listed_at {listed : Array Bool} {i : Nat} (h : i < listed.size) : (listed.setIfInBounds i true).getD i false = true := by
  simp [Array.getD_eq_getD_getElem?, h]
theorem listed_far {listed : Array Bool} {i k : Nat} (h : i ≠ k) : (listed.setIfInBounds i true).getD k false = listed.getD k false := by
  simp [Array.getD_eq_getD_getElem?, Array.getElem?_setIfInBounds, h]
theorem ready_of {md : Region.Mode} {listed : Array Bool} {i : Nat} {o : Oper} (ho : ops[i]? = some o) (hs : listed.size = ops.size) (hl : listed.getD i false = false) (hd : ∀ e ∈ o.after, Region.binds md e = true → listed.getD e.on false = true) : i ∈ Region.ready md ops listed := by
  have hi : i < ops.size := (Array.getElem?_eq_some_iff.1 ho).1
  unfold Region.ready
  rw [List.mem_filter]
  refine ⟨List.mem_range.2 hi, ?_⟩
  rw [ho, Bool.and_eq_true]
  refine ⟨?_, ?_⟩
  · have : listed.getD i true = listed.getD i false := by simp [Array.getD, show i < listed.size by omega]
    rw [this, hl]
    rfl
  · simp only [Option.map_some, Option.getD_some, Array.all_eq_true']
    intro e he
    by_cases hb : Region.binds md e = true
    · simp [hb, hd e he hb]
    · simp [hb]
/-- THE LAW. Spec k: what operation k's slot holds; it is stable while nothing that was there changes. -/
theorem wp_region_slots {id : Nat} {a0 : Act} {w0 : World} (hm : P.follows .mixedOrders = true) (dst : Nat → Nat) (Spec : Nat → Value → World → Prop)
    (hst : ∀ k v w w', Spec k v w → Below w.heap.size w w' → Spec k v w')
    (hd : ∀ k o, ops[k]? = some o → o.dst = some (dst k) ∧ o.guard = none ∧ dst k < a0.tmps.size ∧ ∀ e ∈ o.after, Region.binds .any e = true → e.on < k)
    (hinj : ∀ j k, j < ops.size → k < ops.size → dst j = dst k → j = k)
    (hstep : ∀ k o a w, ops[k]? = some o → Below w0.heap.size w0 w → (∀ s, (∀ k, k < ops.size → dst k ≠ s) → a.eval (.tmp s) = a0.eval (.tmp s)) → (∀ e ∈ o.after, Region.binds .any e = true → Spec e.on (a.eval (.tmp (dst e.on))) w) →
      ∀ K : Act → World → Prop, (∀ v w', Spec k v w' → Below w.heap.size w w' → K (a.put o.dst v) w') → Oper.wp P o a w K Q)
    (hend : ∀ a w, a.defers = a0.defers → a.tmps.size = a0.tmps.size → Below w0.heap.size w0 w → (∀ s, (∀ k, k < ops.size → dst k ≠ s) → a.eval (.tmp s) = a0.eval (.tmp s)) → (∀ k, k < ops.size → Spec k (a.eval (.tmp (dst k))) w) → Q .normal a w) :
    (Code.region id ops true).wp P Q a0 w0 := by
  refine wp_region_inv hm (fun listed a w => listed.size = ops.size ∧ a.defers = a0.defers ∧ a.tmps.size = a0.tmps.size ∧ Below w0.heap.size w0 w ∧ (∀ s, (∀ k, k < ops.size → dst k ≠ s) → a.eval (.tmp s) = a0.eval (.tmp s)) ∧ ∀ k, k < ops.size → listed.getD k false = true → Spec k (a.eval (.tmp (dst k))) w) ?_ ?_ ?_
  · refine ⟨by simp, rfl, rfl, Below.drew (Below.refl _ _), fun s _ => rfl, fun k hk h => ?_⟩
    simp [Array.getD_eq_getD_getElem?, hk] at h
  · rintro listed a w i ⟨h1, h2, h3, h4, h5, h6⟩ hi
    obtain ⟨q1, q2, o, ho, q3⟩ := ready_mem hi
    obtain ⟨d1, d2, d3, d4⟩ := hd i o ho
    refine wpOp_step ho (fun K' hK => ?_)
    rw [if_pos (by simp [Region.wanted, d2])]
    refine hstep i o a w ho h4 h5 (fun e he hb => h6 e.on (by have := d4 e he hb; omega) (q3 e he hb)) K' (fun v w' hs hb => hK _ _ ?_)
    rw [d1]
    refine ⟨by simp [h1], h2, by show (a.tmps.setIfInBounds _ _).size = _; rw [Array.size_setIfInBounds, h3], h4.trans (hb.mono h4.size), fun s hs' => ?_, fun k hk hl => ?_⟩
    · rw [eval_put_far _ _ _ _ (hs' i q1)]
      exact h5 s hs'
    · by_cases e : i = k
      · subst e
        rw [eval_put_at _ _ _ (by omega)]
        exact hs
      · rw [eval_put_far _ _ _ _ (fun h => e (hinj i k q1 hk h))]
        rw [listed_far e] at hl
        exact hst _ _ _ _ (h6 k hk hl) hb
  · rintro listed a w ⟨h1, h2, h3, h4, h5, h6⟩ hr
    have hall : ∀ n k, k < n → k < ops.size → listed.getD k false = true := by
      intro n
      induction n with
      | zero => intro k hk; omega
      | succ n ih =>
        intro k hk hko
        by_cases e : k < n
        · exact ih k e hko
        · by_cases hl : listed.getD k false = true
          · exact hl
          · have ho : ops[k]? = some ops[k] := Array.getElem?_eq_getElem hko
            have := ready_of (md := .any) ho h1 (by simpa using hl) (fun e he hb => by
              have hlt := (hd k _ ho).2.2.2 e he hb
              exact ih e.on (by omega) (by omega))
            rw [hr] at this
            cases this
    exact hend a w h2 h3 h4 h5 (fun k hk => h6 k hk (hall (k + 1) k (by omega) hk))
end SlotsR
end Go.Proofs.Ytkjekohncfhbiaa
/-
  A region that draws its order, allocates, and stores at its end: each slot holds what is said of it, any two are apart.
-/
set_option linter.unusedSimpArgs false
set_option linter.unusedVariables false
namespace Go.Proofs.Ytkjekohncfhbiaa
open Go.RowKit
set_option maxRecDepth 100000
section SlotsG
variable {P : Program} {ops : Array Oper} {Q : Exit → Act → World → Prop}
/-- THE LAW. The last operation is a store behind all others. -/
theorem wp_region_store {id : Nat} {a0 : Act} {w0 : World} (hm : P.follows .mixedOrders = true) (dst : Nat → Nat) (n : Nat) (hn : ops.size = n + 1) (Spec : Nat → Value → World → Prop) (R : Nat → Nat → Value → Value → Prop) (Fin : Act → World → Prop)
    (hst : ∀ k v w w', Spec k v w → Below w.heap.size w w' → Spec k v w')
    (hd : ∀ k o, k < n → ops[k]? = some o → o.dst = some (dst k) ∧ o.guard = none ∧ dst k < a0.tmps.size ∧ ∀ e ∈ o.after, Region.binds .any e = true → e.on < k)
    (hl : ∀ o, ops[n]? = some o → o.dst = none ∧ o.guard = none ∧ (∀ k, k < n → ∃ e ∈ o.after, Region.binds .any e = true ∧ e.on = k) ∧ ∀ e ∈ o.after, Region.binds .any e = true → e.on < n)
    (hinj : ∀ j k, j < n → k < n → dst j = dst k → j = k)
    (hstep : ∀ k o a w, k < n → ops[k]? = some o → Below w0.heap.size w0 w → (∀ s, (∀ k, k < n → dst k ≠ s) → a.eval (.tmp s) = a0.eval (.tmp s)) → (∀ e ∈ o.after, Region.binds .any e = true → Spec e.on (a.eval (.tmp (dst e.on))) w) →
      (∀ e ∈ o.after, ∀ e' ∈ o.after, Region.binds .any e = true → Region.binds .any e' = true → e.on ≠ e'.on → R e.on e'.on (a.eval (.tmp (dst e.on))) (a.eval (.tmp (dst e'.on)))) →
      ∀ K : Act → World → Prop, (∀ v w', Spec k v w' → Below w.heap.size w w' → (∀ j u, j < n → j ≠ k → Spec j u w → R j k u v ∧ R k j v u) → K (a.put o.dst v) w') → Oper.wp P o a w K Q)
    (hlast : ∀ o a w, ops[n]? = some o → a.defers = a0.defers → a.tmps.size = a0.tmps.size → Below w0.heap.size w0 w → (∀ s, (∀ k, k < n → dst k ≠ s) → a.eval (.tmp s) = a0.eval (.tmp s)) → (∀ k, k < n → Spec k (a.eval (.tmp (dst k))) w) → ∀ K : Act → World → Prop, (∀ w', Fin a w' → K a w') → Oper.wp P o a w K Q)
    (hend : ∀ a w, Fin a w → Q .normal a w) :
    (Code.region id ops true).wp P Q a0 w0 := by
  refine wp_region_inv hm (fun listed a w => (listed.size = ops.size ∧ (listed.getD n false = true → Fin a w ∧ ∀ k, k < n → listed.getD k false = true)) ∧ (listed.getD n false = false → (a.defers = a0.defers ∧ a.tmps.size = a0.tmps.size ∧ Below w0.heap.size w0 w ∧ (∀ s, (∀ k, k < n → dst k ≠ s) → a.eval (.tmp s) = a0.eval (.tmp s)) ∧ (∀ k, k < n → listed.getD k false = true → Spec k (a.eval (.tmp (dst k))) w) ∧ ∀ j k, j < n → k < n → j ≠ k → listed.getD j false = true → listed.getD k false = true → R j k (a.eval (.tmp (dst j))) (a.eval (.tmp (dst k)))))) ?_ ?_ ?_
  · refine ⟨⟨by simp, fun h => ?_⟩, fun _ => ⟨rfl, rfl, Below.drew (Below.refl _ _), fun s _ => rfl, fun k hk h => ?_, fun j k hj hk _ h => ?_⟩⟩
    · simp [Array.getD_eq_getD_getElem?, hn] at h
    · simp [Array.getD_eq_getD_getElem?, show k < ops.size by omega] at h
    · simp [Array.getD_eq_getD_getElem?, show j < ops.size by omega] at h
  · rintro listed a w i ⟨⟨h1, hF⟩, hI⟩ hi
    obtain ⟨q1, q2, o, ho, q3⟩ := ready_mem hi
    have q2' : listed.getD i false = false := by
      have : listed.getD i true = listed.getD i false := by simp [Array.getD, show i < listed.size by omega]
      rw [← this]
      exact q2
    have hln : listed.getD n false = false := by
      cases hx : listed.getD n false with
      | false => rfl
      | true =>
        by_cases e : i = n
        · rw [e, hx] at q2'
          cases q2'
        · have := (hF hx).2 i (by omega)
          rw [q2'] at this
          cases this
    obtain ⟨h2, h3, h4, h5, h6, h7⟩ := hI hln
    refine wpOp_step ho (fun K' hK => ?_)
    by_cases ein : i = n
    · obtain ⟨d1, d2, d3, _⟩ := hl o (by rw [← ein]; exact ho)
      rw [if_pos (by simp [Region.wanted, d2])]
      have hall : ∀ k, k < n → listed.getD k false = true := fun k hk => by
        obtain ⟨e, he, hb, rfl⟩ := d3 k hk
        exact q3 e he hb
      refine hlast o a w (by rw [← ein]; exact ho) h2 h3 h4 h5 (fun k hk => h6 k hk (hall k hk)) K' (fun w' hw => hK _ _ ?_)
      refine ⟨⟨by simp [h1], fun _ => ⟨hw, fun k hk => ?_⟩⟩, fun hx => ?_⟩
      · rw [listed_far (by omega)]
        exact hall k hk
      · rw [ein, listed_at (by omega)] at hx
        cases hx
    · have hin : i < n := by omega
      obtain ⟨d1, d2, d3, d4⟩ := hd i o hin ho
      rw [if_pos (by simp [Region.wanted, d2])]
      refine hstep i o a w hin ho h4 h5 (fun e he hb => h6 e.on (by have := d4 e he hb; omega) (q3 e he hb)) (fun e he e' he' hb hb' hne => h7 e.on e'.on (by have := d4 e he hb; omega) (by have := d4 e' he' hb'; omega) hne (q3 e he hb) (q3 e' he' hb')) K' (fun v w' hs hb hR => hK _ _ ?_)
      rw [d1]
      refine ⟨⟨by simp [h1], fun hx => ?_⟩, fun _ => ⟨h2, by show (a.tmps.setIfInBounds _ _).size = _; rw [Array.size_setIfInBounds, h3], h4.trans (hb.mono h4.size), fun s hs' => ?_, fun k hk hlk => ?_, fun j k hj hk hjk hlj hlk => ?_⟩⟩
      · rw [listed_far ein, hln] at hx
        cases hx
      · rw [eval_put_far _ _ _ _ (hs' i hin)]
        exact h5 s hs'
      · by_cases e : i = k
        · subst e
          rw [eval_put_at _ _ _ (by omega)]
          exact hs
        · rw [eval_put_far _ _ _ _ (fun h => e (hinj i k hin hk h))]
          rw [listed_far e] at hlk
          exact hst _ _ _ _ (h6 k hk hlk) hb
      · by_cases ej : i = j
        · subst ej
          rw [listed_far hjk] at hlk
          rw [eval_put_at _ _ _ (by omega), eval_put_far _ _ _ _ (fun h => hjk (hinj i k hin hk h))]
          exact (hR k _ hk (fun e => hjk e.symm) (h6 k hk hlk)).2
        · by_cases ek : i = k
          · subst ek
            rw [listed_far ej] at hlj
            rw [eval_put_at _ _ _ (by omega), eval_put_far _ _ _ _ (fun h => ej (hinj i j hin hj h))]
            exact (hR j _ hj hjk (h6 j hj hlj)).1
          · rw [listed_far ej] at hlj
            rw [listed_far ek] at hlk
            rw [eval_put_far _ _ _ _ (fun h => ej (hinj i j hin hj h)), eval_put_far _ _ _ _ (fun h => ek (hinj i k hin hk h))]
            exact h7 j k hj hk hjk hlj hlk
  · rintro listed a w ⟨⟨h1, hF⟩, hI⟩ hr
    by_cases hx : listed.getD n false = true
    · exact hend a w (hF hx).1
    · have hx' : listed.getD n false = false := by simpa using hx
      exfalso
      have hall : ∀ m k, k < m → k < n → listed.getD k false = true := by
        intro m
        induction m with
        | zero => intro k hk; omega
        | succ m ih =>
          intro k hk hko
          by_cases e : k < m
          · exact ih k e hko
          · by_cases hl' : listed.getD k false = true
            · exact hl'
            · have hko' : k < ops.size := by omega
              have ho : ops[k]? = some ops[k] := Array.getElem?_eq_getElem hko'
              have := ready_of (md := .any) ho h1 (by simpa using hl') (fun e he hb => by
                have hlt := (hd k _ hko ho).2.2.2 e he hb
                exact ih e.on (by omega) (by omega))
              rw [hr] at this
              cases this
      have hno : n < ops.size := by omega
      have ho : ops[n]? = some ops[n] := Array.getElem?_eq_getElem hno
      have hcase := (hl _ ho).2.2.2
      have := ready_of (md := .any) ho h1 hx' (fun e he hb => hall n e.on (hcase e he hb) (hcase e he hb))
      rw [hr] at this
      cases this
end SlotsG
/-- The law's side conditions, reckoned. -/
def storeB (ops : Array Oper) (dst : List Nat) (n sz : Nat) : Bool :=
  decide (ops.size = n + 1) && ((List.range n).all fun k => match ops[k]? with
    | none => true
    | some o => decide (o.dst = some (dst.getD k 0)) && o.guard.isNone && decide (dst.getD k 0 < sz) && o.after.all (fun e => !Region.binds .any e || decide (e.on < k)) && (List.range n).all (fun j => decide (dst.getD j 0 = dst.getD k 0 → j = k))) && (match ops[n]? with
    | none => true
    | some o => o.dst.isNone && o.guard.isNone && o.after.all (fun e => !Region.binds .any e || decide (e.on < n)) && (List.range n).all (fun k => o.after.any (fun e => Region.binds .any e && decide (e.on = k))))
theorem wp_region_storeB {P : Program} {ops : Array Oper} {Q : Exit → Act → World → Prop} {id : Nat} {a0 : Act} {w0 : World} (hm : P.follows .mixedOrders = true) (dst : List Nat) (n : Nat) (hc : storeB ops dst n a0.tmps.size = true) (Spec : Nat → Value → World → Prop) (R : Nat → Nat → Value → Value → Prop) (Fin : Act → World → Prop)
    (hst : ∀ k v w w', Spec k v w → Below w.heap.size w w' → Spec k v w')
    (hstep : ∀ k o a w, k < n → ops[k]? = some o → Below w0.heap.size w0 w → (∀ s, (∀ k, k < n → dst.getD k 0 ≠ s) → a.eval (.tmp s) = a0.eval (.tmp s)) → (∀ e ∈ o.after, Region.binds .any e = true → Spec e.on (a.eval (.tmp (dst.getD e.on 0))) w) →
      (∀ e ∈ o.after, ∀ e' ∈ o.after, Region.binds .any e = true → Region.binds .any e' = true → e.on ≠ e'.on → R e.on e'.on (a.eval (.tmp (dst.getD e.on 0))) (a.eval (.tmp (dst.getD e'.on 0)))) →
      ∀ K : Act → World → Prop, (∀ v w', Spec k v w' → Below w.heap.size w w' → (∀ j u, j < n → j ≠ k → Spec j u w → R j k u v ∧ R k j v u) → K (a.put o.dst v) w') → Oper.wp P o a w K Q)
    (hlast : ∀ o a w, ops[n]? = some o → a.defers = a0.defers → a.tmps.size = a0.tmps.size → Below w0.heap.size w0 w → (∀ s, (∀ k, k < n → dst.getD k 0 ≠ s) → a.eval (.tmp s) = a0.eval (.tmp s)) → (∀ k, k < n → Spec k (a.eval (.tmp (dst.getD k 0))) w) → ∀ K : Act → World → Prop, (∀ w', Fin a w' → K a w') → Oper.wp P o a w K Q)
    (hend : ∀ a w, Fin a w → Q .normal a w) :
    (Code.region id ops true).wp P Q a0 w0 := by
  unfold storeB at hc
  simp only [Bool.and_eq_true, decide_eq_true_eq] at hc
  obtain ⟨⟨hn, hk⟩, hz⟩ := hc
  have hall : ∀ k o, k < n → ops[k]? = some o → (o.dst = some (dst.getD k 0) ∧ o.guard = none ∧ dst.getD k 0 < a0.tmps.size ∧ ∀ e ∈ o.after, Region.binds .any e = true → e.on < k) ∧ ∀ j, j < n → dst.getD j 0 = dst.getD k 0 → j = k := by
    intro k o hkn ho
    rw [List.all_eq_true] at hk
    have h := hk k (List.mem_range.2 hkn)
    rw [ho] at h
    simp only [Bool.and_eq_true, decide_eq_true_eq, Array.all_eq_true', List.all_eq_true, Option.isNone_iff_eq_none] at h
    obtain ⟨⟨⟨⟨h1, h2⟩, h3⟩, h4⟩, h5⟩ := h
    refine ⟨⟨h1, h2, h3, fun e he hb => ?_⟩, fun j hj => h5 j (List.mem_range.2 hj)⟩
    have := h4 e he
    simpa [hb] using this
  refine wp_region_store hm (fun k => dst.getD k 0) n hn Spec R Fin hst (fun k o hkn ho => (hall k o hkn ho).1) (fun o ho => ?_) (fun j k hj hkn e => (hall k _ hkn (Array.getElem?_eq_getElem (by omega))).2 j hj e) hstep hlast hend
  rw [ho] at hz
  simp only [Bool.and_eq_true, decide_eq_true_eq, Array.all_eq_true', List.all_eq_true, Option.isNone_iff_eq_none] at hz
  obtain ⟨⟨⟨h1, h2⟩, h3⟩, h4⟩ := hz
  refine ⟨h1, h2, fun k hkn => ?_, fun e he hb => ?_⟩
  · have := h4 k (List.mem_range.2 hkn)
    rw [Array.any_eq_true'] at this
    obtain ⟨e, he, hb⟩ := this
    simp only [Bool.and_eq_true, decide_eq_true_eq] at hb
    exact ⟨e, he, hb.1, hb.2⟩
  · have := h3 e he
    simpa [hb] using this
end Go.Proofs.Ytkjekohncfhbiaa
