/-
  Strata under way.
-/
import Derived.Test.YtkjekohncfhbiabGRule
set_option linter.unusedSimpArgs false
set_option linter.unusedVariables false
namespace Go.Proofs.Ytkjekohncfhbiab
open Go.RowKit
set_option maxRecDepth 100000
theorem infoC_R : (Try.prog.info? 113).map (fun i => (i.zero, i.size, i.bytes)) = some (some (.agg #[.slice none 0 0, .slice none 0 0, .slice none 0 0]), 3, 72) := by kernel_rfl
theorem infoC_ST : (Try.prog.info? 109).map (fun i => (i.zero, i.size, i.bytes)) = some (some (.agg #[.int .i64 0, .slice none 0 0]), 2, 32) := by kernel_rfl
theorem one_cel {z : Nat} {W : World} {cs : Array Value} {ty : TypeId} (c : Cel z) (hc : c.1 = cs.toList) : 0 < 1 → ∃ ad, (some ⟨W.heap.size, 0, none⟩ : Option Addr) = some ad ∧ ∀ (j : Nat) u, ([c].map celE).flatten[j]? = some u → (W.alloc (.cells cs ty)).cell? (ad.add j) = some u := fun _ => ⟨_, rfl, fun j u hj => news1 W cs ty j u (by
  have e : ([c].map celE).flatten = cs.toList := by rw [← hc]; simp [celE]
  rwa [e] at hj)⟩
def celS (n : Int) (a : Option Addr) (m c : Nat) : Cel 2 := ⟨[.int .i64 n, .slice a m c], rfl, fun u hu => by simp at hu; rcases hu with rfl | rfl <;> rfl⟩
/-- The cells of a rule. -/
def celR (v1 v2 v3 : Value) (h1 : v1.oneCell' = true) (h2 : v2.oneCell' = true) (h3 : v3.oneCell' = true) : Cel 3 := ⟨[v1, v2, v3], rfl, fun u hu => by simp at hu; rcases hu with rfl | rfl | rfl <;> assumption⟩
theorem flat_last {z : Nat} (cl : List (Cel z)) (c d : Cel z) (i : Nat) (u : Value) (hi : i < z) (hd : d.1 = c.1.set i u) : ((cl ++ [c]).map celE).flatten.set (cl.length * z + i) u = ((cl ++ [d]).map celE).flatten := by
  rw [List.map_append, List.map_append, List.flatten_append, List.flatten_append]
  have hl : (cl.map celE).flatten.length = cl.length * z := flat_len celE_len cl
  rw [List.set_append_right _ _ (by omega), hl, show cl.length * z + i - cl.length * z = i by omega]
  simp [celE, hd]
structure StrIn (B M : Nat) (w : World) (v : Value) (cl : List (Cel 2)) (l : List Gp.KS) (n : Int) (ra : Option Addr) (rm rc : Nat) (rcl : List (Cel 3)) (rs : List Gp.KR) : Prop where
  own : OE B 109 2 celE w v (cl ++ [celS n ra rm rc])
  len : cl.length = l.length
  each : ∀ (i : Nat) x c, l[i]? = some x → cl[i]? = some c → Hang (fun k => B ≤ k ∧ k < M ∧ v.ownBlock ≠ some k) (fun w => ksR w c.1 x) w
  row : OE M 113 3 celE w (.slice ra rm rc) rcl
  rlen : rcl.length = rs.length
  rms : rm = rs.length
  reach : ∀ (i : Nat) y d, rs[i]? = some y → rcl[i]? = some d → Hang (fun k => B ≤ k ∧ v.ownBlock ≠ some k ∧ (Value.slice ra rm rc).ownBlock ≠ some k) (fun w => krR w d.1 y) w
  lo : B ≤ M
section
variable {B M : Nat} {w w' : World} {v v' : Value} {cl : List (Cel 2)} {l : List Gp.KS} {n : Int} {ra : Option Addr} {rm rc : Nat} {rcl : List (Cel 3)} {rs : List Gp.KR}
theorem StrIn.below (h : StrIn B M w v cl l n ra rm rc rcl rs) (k : Below w.heap.size w w') : StrIn B M w' v cl l n ra rm rc rcl rs :=
  ⟨h.own.below k, h.len, fun i x c hx hc => (h.each i x c hx hc).below k, h.row.below k, h.rlen, h.rms, fun i y d hy hd => (h.reach i y d hy hd).below k, h.lo⟩
theorem StrIn.apart (h : StrIn B M w v cl l n ra rm rc rcl rs) {g : Nat} (hg : (Value.slice ra rm rc).ownBlock = some g) : v.ownBlock ≠ some g := own_ne2 h.row.own h.own.own (by decide) g hg
/-- The last stratum, as a row's element. -/
theorem StrIn.tail (h : StrIn B M w v cl l n ra rm rc rcl rs) (hl : rs.length ≤ 10000000000000) : Hang (fun k => B ≤ k ∧ k < w.heap.size ∧ v.ownBlock ≠ some k) (fun w => ksR w (celS n ra rm rc).1 (n, rs)) w := by
  have h1 := h.row.row (R := krR) (S := fun k => B ≤ k ∧ k < w.heap.size ∧ v.ownBlock ≠ some k) h.rlen hl celE_len (fun g hg => ⟨by have := (h.row.lt hg).2; have := h.lo; omega, (h.row.lt hg).1, h.apart hg⟩) (fun i y d hy hd => (h.reach i y d hy hd).sub (fun k hk hs => ⟨hs.1, hk, hs.2.1⟩))
  exact h1.imp (fun w2 hw => ⟨_, rfl, hw⟩)
theorem StrIn.done (h : StrIn B M w v cl l n ra rm rc rcl rs) (hl : rs.length ≤ 10000000000000) (hll : l.length ≤ 1000000000) : Hang (fun k => B ≤ k) (fun w => KSRow w v (l ++ [(n, rs)])) w := by
  refine h.own.row (R := ksR) (l := l ++ [(n, rs)]) (by rw [List.length_append, List.length_append, h.len]; rfl) (by rw [List.length_append, List.length_singleton]; omega) celE_len (fun g hg => (h.own.lt hg).2) (fun i x c hx hc => ?_)
  by_cases hi : i < l.length
  · rw [List.getElem?_append_left hi] at hx
    rw [List.getElem?_append_left (by rw [h.len]; exact hi)] at hc
    exact (h.each i x c hx hc).sub (fun k _ hs => hs.1)
  · rw [List.getElem?_append_right (by omega)] at hx
    rw [List.getElem?_append_right (by rw [h.len]; omega), h.len] at hc
    have h0 : i - l.length = 0 := by have := (List.getElem?_eq_some_iff.1 hx).1; simp at this; omega
    rw [h0] at hx hc
    cases hx
    cases hc
    exact (h.tail hl).sub (fun k _ hs => hs.1)
/-- The first stratum. -/
theorem StrIn.start (hB : B ≤ w.heap.size) (o : OE B 109 2 celE w v' [celS n none 0 0]) : StrIn B w.heap.size w v' [] [] n none 0 0 [] [] :=
  ⟨o, rfl, fun i x c hx => by simp at hx, OE.nil (Nat.le_refl _), rfl, rfl, fun i y d hy => by simp at hy, hB⟩
/-- One more stratum. -/
theorem StrIn.next {n' : Int} (h : StrIn B M w v cl l n ra rm rc rcl rs) (hl : rs.length ≤ 10000000000000) (o : OE B 109 2 celE w' v' ((cl ++ [celS n ra rm rc]) ++ [celS n' none 0 0])) (k : AppK w w' v v') : StrIn B w.heap.size w' v' (cl ++ [celS n ra rm rc]) (l ++ [(n, rs)]) n' none 0 0 [] [] := by
  refine ⟨o, by rw [List.length_append, List.length_append, h.len]; rfl, fun i x c hx hc => ?_, OE.nil k.keep.size, rfl, rfl, fun i y d hy => by simp at hy, h.own.low⟩
  have hfin : Hang (fun k => B ≤ k ∧ k < w.heap.size ∧ v.ownBlock ≠ some k) (fun w => ksR w c.1 x) w := by
    by_cases hi : i < l.length
    · rw [List.getElem?_append_left hi] at hx
      rw [List.getElem?_append_left (by rw [h.len]; exact hi)] at hc
      exact (h.each i x c hx hc).sub (fun k hk hs => ⟨hs.1, hk, hs.2.2⟩)
    · rw [List.getElem?_append_right (by omega)] at hx
      rw [List.getElem?_append_right (by rw [h.len]; omega), h.len] at hc
      have h0 : i - l.length = 0 := by have := (List.getElem?_eq_some_iff.1 hx).1; simp at this; omega
      rw [h0] at hx hc
      cases hx
      cases hc
      exact h.tail hl
  exact (hfin.keep k.keep (fun i _ hs e => hs.2.2 e)).sub (fun j hj hs => ⟨hs.1, hs.2.1, fun e => hs.2.2 (k.old hs.2.1 e)⟩)
/-- One more rule: it lies in the blocks from H on; the last stratum's row is now another one. -/
theorem StrIn.rule {H : Nat} {X : World} {qa : Option Addr} {qm qc g : Nat} {cr : Cel 3} {y : Gp.KR} (h : StrIn B M w v cl l n ra rm rc rcl rs) (hH : ∀ g, v.ownBlock = some g ∨ (Value.slice ra rm rc).ownBlock = some g → g < H) (hBH : B ≤ H) (hn : Hang (fun k => H ≤ k ∧ k < w.heap.size) (fun w => krR w cr.1 y) w)
    (o : OE M 113 3 celE w' (.slice qa qm qc) (rcl ++ [cr])) (hqm : qm = rs.length + 1) (k : AppK w w' (.slice ra rm rc) (.slice qa qm qc)) (hg : v.ownBlock = some g) (hX : X = w'.setCell ⟨g, cl.length * 2 + 1, none⟩ (.slice qa qm qc)) :
    StrIn B M X v cl l n qa qm qc (rcl ++ [cr]) (rs ++ [y]) := by
  have hv := h.own.lt hg
  have kv : ∀ j, v.ownBlock = some j → ¬ (Value.slice ra rm rc).ownBlock = some j := fun j hj e => h.apart e hj
  have ow' := h.own.keep k.keep kv
  obtain ⟨cap, cur, hvv, _⟩ := own_heap ow'.own hg
  have KX : Keep (fun j => j = g) w' X := by rw [hX]; exact Keep.set _ _ _ rfl
  have hq : ∀ j, (Value.slice qa qm qc).ownBlock = some j → ¬ j = g := fun j hj e => by
    subst e
    exact own_ne2 o.own ow'.own (by decide) j hj hg
  refine ⟨?_, h.len, fun i x c hx hc => ?_, o.keep KX hq, by rw [List.length_append, List.length_append, h.rlen]; rfl, by rw [List.length_append, hqm]; rfl, fun i z d hz hd => ?_, h.lo⟩
  · refine ⟨?_, Nat.le_trans ow'.low KX.size⟩
    have h1 := ow'.own
    rw [hvv] at h1
    have h2 := own_set h1 (cl.length * 2 + 1) (.slice qa qm qc)
    rw [← hX, ← hvv, flat_last cl (celS n ra rm rc) (celS n qa qm qc) 1 (.slice qa qm qc) (by omega) rfl] at h2
    rw [show (cl ++ [celS n qa qm qc]).length = (cl ++ [celS n ra rm rc]).length by simp]
    exact h2
  · refine ((h.each i x c hx hc).keep k.keep (fun j _ hs e => ?_)).keep KX (fun j _ hs e => hs.2.2 (by rw [e]; exact hg))
    have := (h.row.lt e).2
    have := hs.2.1
    omega
  · by_cases hi : i < rs.length
    · rw [List.getElem?_append_left hi] at hz
      rw [List.getElem?_append_left (by rw [h.rlen]; exact hi)] at hd
      have h1 := (h.reach i z d hz hd).sub (S' := fun k => (B ≤ k ∧ v.ownBlock ≠ some k ∧ (Value.slice ra rm rc).ownBlock ≠ some k) ∧ k < w.heap.size) (fun j hj hs => ⟨hs, hj⟩)
      have h2 := h1.keep k.keep (fun j _ hs e => hs.1.2.2 e)
      have h3 := h2.keep KX (fun j _ hs e => hs.1.2.1 (by rw [e]; exact hg))
      exact h3.sub (fun j _ hs => ⟨hs.1.1, hs.1.2.1, fun e => hs.1.2.2 (k.old hs.2 e)⟩)
    · rw [List.getElem?_append_right (by omega)] at hz
      rw [List.getElem?_append_right (by rw [h.rlen]; omega), h.rlen] at hd
      have h0 : i - rs.length = 0 := by have := (List.getElem?_eq_some_iff.1 hz).1; simp at this; omega
      rw [h0] at hz hd
      cases hz
      cases hd
      have h2 := hn.keep k.keep (fun j _ hs e => by have := hH j (.inr e); omega)
      have h3 := h2.keep KX (fun j _ hs e => by have := hH g (.inl hg); omega)
      refine h3.sub (fun j _ hs => ⟨by omega, fun e => by have := hH j (.inl e); omega, fun e => ?_⟩)
      have := hH j (.inr (k.old hs.2 e))
      omega
end
namespace Gp
theorem strataOf_step {files : List ByteArray} {rs : List Rp.Rule} {k : Nat} {r : Rp.Rule} (h : rs[k]? = some r) : strataOf files (rs.take (k + 1)) = addR files (strataOf files (rs.take k)) r := by
  unfold strataOf
  rw [Mp.take_at h, List.foldl_append]
  rfl
theorem addR_nil (files : List ByteArray) (r : Rp.Rule) : addR files [] r = [(r.1, [ruleOf files r])] := rfl
theorem addR_same (files : List ByteArray) (l : List KS) (n : Int) (rs : List KR) (r : Rp.Rule) (h : n = r.1) : addR files (l ++ [(n, rs)]) r = l ++ [(n, rs ++ [ruleOf files r])] := by
  unfold addR
  rw [List.getLast?_concat]
  show (if n = r.1 then _ else _) = _
  rw [if_pos h, List.dropLast_concat]
theorem addR_new (files : List ByteArray) (l : List KS) (n : Int) (rs : List KR) (r : Rp.Rule) (h : ¬ n = r.1) : addR files (l ++ [(n, rs)]) r = (l ++ [(n, rs)]) ++ [(r.1, [ruleOf files r])] := by
  unfold addR
  rw [List.getLast?_concat]
  show (if n = r.1 then _ else _) = _
  rw [if_neg h]
theorem strata_lens {files : List ByteArray} {rs : List Rp.Rule} {l : List KS} {n : Int} {q : List KR} (h : strataOf files rs = l ++ [(n, q)]) (hr : rs.length ≤ 1500) : l.length ≤ 1500 ∧ q.length ≤ 1500 := by
  have h1 := strata_num files rs []
  have h2 : rs.foldl (addR files) [] = l ++ [(n, q)] := h
  rw [h2] at h1
  have h3 := numR_mem (l := l ++ [(n, q)]) (x := (n, q)) (by simp)
  simp only [List.length_append, List.length_singleton, List.length_nil, numR, List.map_nil, List.sum_nil] at h1 h3
  omega
end Gp
end Go.Proofs.Ytkjekohncfhbiab
