/-
  A row copied by an append and one element more: the rows' relations read of it.
-/
import Derived.Test.YtkjekohncfhbiabRApp
import Derived.Test.YtkjekohncfhbiabRFlags
set_option linter.unusedSimpArgs false
set_option linter.unusedVariables false
namespace Go.Proofs.Ytkjekohncfhbiab
open Go.RowKit
set_option maxRecDepth 100000
/-- The cells of one element. -/
def Cel (z : Nat) : Type := {cs : List Value // cs.length = z ∧ ∀ u ∈ cs, u.oneCell' = true}
def celE {z : Nat} (c : Cel z) : List Value := c.1
theorem celE_len {z : Nat} (c : Cel z) : (celE c).length = z := c.2.1
theorem celE_one {z : Nat} (c : Cel z) : ∀ u ∈ celE c, u.oneCell' = true := c.2.2
theorem cel_flat {z : Nat} : ∀ {cl : List (Cel z)} {j : Nat} {u : Value}, (cl.map celE).flatten[j]? = some u → ∃ i c k, j = i * z + k ∧ cl[i]? = some c ∧ c.1[k]? = some u
  | [], j, u, h => by simp at h
  | c :: cl, j, u, h => by
    rw [List.map_cons, List.flatten_cons] at h
    have hl := celE_len c
    by_cases e : j < z
    · rw [List.getElem?_append_left (by omega)] at h
      exact ⟨0, c, j, by omega, rfl, h⟩
    · rw [List.getElem?_append_right (by omega), hl] at h
      obtain ⟨i, d, k, h1, h2, h3⟩ := cel_flat h
      exact ⟨i + 1, d, k, by rw [Nat.succ_mul]; omega, h2, h3⟩
theorem cel_at {z : Nat} : ∀ {cl : List (Cel z)} {i : Nat} {c : Cel z} {k : Nat} {u : Value}, cl[i]? = some c → c.1[k]? = some u → (cl.map celE).flatten[i * z + k]? = some u
  | [], i, c, k, u, h, hk => by simp at h
  | d :: cl, 0, c, k, u, h, hk => by
    cases h
    have hl := celE_len d
    rw [List.map_cons, List.flatten_cons, Nat.zero_mul, Nat.zero_add, List.getElem?_append_left (by have := (List.getElem?_eq_some_iff.1 hk).1; have := d.2.1; omega)]
    exact hk
  | d :: cl, i + 1, c, k, u, h, hk => by
    have hl := celE_len d
    rw [List.map_cons, List.flatten_cons, List.getElem?_append_right (by rw [Nat.succ_mul]; omega), hl, show (i + 1) * z + k - z = i * z + k by rw [Nat.succ_mul]; omega]
    exact cel_at h hk
theorem add_none (b o j : Nat) : (⟨b, o, none⟩ : Addr).add j = ⟨b, o + j, none⟩ := by
  unfold Addr.add
  split <;> simp_all
section RowsR
variable {α : Type} {e : TypeId} {z : Nat} {R : World → List Value → α → Prop}
theorem rowr_cells {w : World} {ao : Option Addr} {n cap : Nat} {l : List α} (h : RowR z R w (.slice ao n cap) l) (hR : ∀ cs x, R w cs x → ∀ u ∈ cs, u.oneCell' = true) :
    ∃ cl : List (Cel z), cl.length = n ∧ n = l.length ∧ (∀ (i : Nat) x c, l[i]? = some x → cl[i]? = some c → R w c.1 x) ∧ (0 < n → ∃ ad, ao = some ad ∧ ∀ (j : Nat) u, (cl.map celE).flatten[j]? = some u → w.cell? (ad.add j) = some u) := by
  obtain ⟨b, o, ⟨a1, c1, hv, hcp, ha⟩, h2, h3⟩ := h
  cases hv
  have H : ∀ i : Fin l.length, ∃ c : Cel z, R w c.1 l[i] ∧ ∀ (j : Nat) u, c.1[j]? = some u → w.cell? ⟨b, o + i * z + j, none⟩ = some u := fun i => by
    obtain ⟨cs, q1, q2, q3⟩ := h3 i l[i] (List.getElem?_eq_getElem i.2)
    exact ⟨⟨cs, q1, hR cs _ q2⟩, q2, q3⟩
  refine ⟨List.ofFn fun i => Classical.choose (H i), by simp, rfl, fun i x c hx hc => ?_, fun h0 => ⟨_, ha h0, fun j u hu => ?_⟩⟩
  · have hi : i < l.length := (List.getElem?_eq_some_iff.1 hx).1
    rw [List.getElem?_ofFn] at hc
    simp only [hi, dif_pos, Option.some.injEq] at hc
    subst hc
    have := (Classical.choose_spec (H ⟨i, hi⟩)).1
    rw [List.getElem?_eq_getElem hi] at hx
    cases hx
    exact this
  · obtain ⟨i, c, k, rfl, hc, hk⟩ := cel_flat hu
    rw [List.getElem?_ofFn] at hc
    split at hc
    · rename_i hi
      cases hc
      rw [add_none, show o + (i * z + k) = o + i * z + k by omega]
      exact (Classical.choose_spec (H ⟨i, hi⟩)).2 k u hk
    · cases hc
theorem te_rowr {W0 W : World} {v : Value} {cl : List (Cel z)} {l : List α} (T : TE e z celE W0 W v cl) (hlen : cl.length = l.length) (hR : ∀ (i : Nat) x c, l[i]? = some x → cl[i]? = some c → R W c.1 x) (hl : l.length ≤ 10000000000000) : RowR z R W v l := by
  obtain ⟨ob, oc, rfl, hoc, g, hg1, hg0, hgc⟩ := te_form T
  rw [hlen] at hoc hg1 hg0
  refine ⟨g, 0, ⟨ob, oc, by rw [hlen], hoc, hg1⟩, hl, fun i x hx => ?_⟩
  have hi : i < cl.length := by have := (List.getElem?_eq_some_iff.1 hx).1; omega
  refine ⟨cl[i].1, cl[i].2.1, hR i x _ hx (List.getElem?_eq_getElem hi), fun j u hu => ?_⟩
  rw [Nat.zero_add]
  exact hgc _ u (cel_at (List.getElem?_eq_getElem hi) hu)
end RowsR
section Plainly
variable {α : Type} {t e : TypeId} {z bytes : Nat} {E : α → List Value}
/-- As step_appE, where the region does not draw. -/
theorem wpList_appE (ht : Try.prog.underlying t = some (.slice e)) {zv : Value} (hi : (Try.prog.info? e).map (fun i => (i.zero, i.size, i.bytes)) = some (some zv, z, bytes)) (hzs : zv.cells.size = z) (hz0 : 0 < z) (hbb : bytes ≤ 1000) (hE : ∀ x, (E x).length = z) (hE1 : ∀ x, ∀ u ∈ E x, u.oneCell' = true)
    {ops : Array Oper} {rest : List Oper} {o : Oper} {a : Act} {Q : Exit → Act → World → Prop} (hgd : o.guard = .none) (s x : Operand) (ho : o.op = .call { callee := .builtin .append, args := #[s, x], argTypes := #[t, t] })
    {W0 W : World} {v : Value} (hs : a.eval s = v) {ao : Option Addr} {m c : Nat} (hx : a.eval x = .slice ao m c) {L : List α} (hT : TE e z E W0 W v L) (news : List α) (hm : news.length = m) (hsrc : 0 < m → ∃ ad, ao = some ad ∧ ∀ (j : Nat) u, (news.map E).flatten[j]? = some u → W.cell? (ad.add j) = some u) (hl : L.length + m ≤ 1000000)
    (h : ∀ v' w', TE e z E W0 w' v' (L ++ news) → (∀ (b i : Nat) (u : Value), v.ownBlock ≠ some b → W.cell? ⟨b, i, .none⟩ = some u → w'.cell? ⟨b, i, .none⟩ = some u) → wpList Try.prog ops Q rest (a.put o.dst v') w') : wpList Try.prog ops Q (o :: rest) a W :=
  wpList_plain hgd fun K hK => by
    have h0 := step_appE (F := False) (ops := ops) (K := K) (Q := Q) ht hi hzs hz0 hbb hE hE1 hgd s x ho hs hx hT news hm hsrc hl (fun v' w' h1 h2 => hK _ _ (h v' w' h1 h2))
    rwa [if_pos (by simp [Region.wanted, hgd])] at h0
end Plainly
end Go.Proofs.Ytkjekohncfhbiab
