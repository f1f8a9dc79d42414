/-
  A region that draws its order, allocates, and stores at its end: each slot holds what is said of it, any two are apart.
-/
import Derived.Test.YtkjekohncfhbiabRInv2
set_option linter.unusedSimpArgs false
set_option linter.unusedVariables false
namespace Go.Proofs.Ytkjekohncfhbiab
open Go.RowKit
set_option maxRecDepth 100000
section SlotsG
variable {P : Program} {ops : Array Oper} {Q : Exit → Act → World → Prop}
/-- THE LAW. The last operation is a store behind all others. -/
theorem wp_region_store {id : Nat} {a0 : Act} {w0 : World} (hm : P.follows .mixedOrders = true) (dst : Nat → Nat) (n : Nat) (hn : ops.size = n + 1) (Spec : Nat → Value → World → Prop) (R : Nat → Nat → Value → Value → Prop) (Fin : Act → World → Prop)
    (hst : ∀ k v w w', Spec k v w → Below w.heap.size w w' → Spec k v w')
    (hd : ∀ k o, k < n → ops[k]? = some o → o.dst = some (dst k) ∧ o.guard = none ∧ dst k < a0.tmps.size ∧ ∀ e ∈ o.after, Region.binds .any e = true → e.on < k)
    (hl : ∀ o, ops[n]? = some o → o.dst = none ∧ o.guard = none ∧ (∀ k, k < n → ∃ e ∈ o.after, Region.binds .any e = true ∧ e.on = k) ∧ ∀ e ∈ o.after, Region.binds .any e = true → e.on < n)
    (hinj : ∀ j k, j < n → k < n → dst j = dst k → j = k)
    (hstep : ∀ k o a w, k < n → ops[k]? = some o → Below w0.heap.size w0 w → (∀ s, (∀ k, k < n → dst k ≠ s) → a.eval (.tmp s) = a0.eval (.tmp s)) → (∀ e ∈ o.after, Region.binds .any e = true → Spec e.on (a.eval (.tmp (dst e.on))) w) →
      (∀ e ∈ o.after, ∀ e' ∈ o.after, Region.binds .any e = true → Region.binds .any e' = true → e.on ≠ e'.on → R e.on e'.on (a.eval (.tmp (dst e.on))) (a.eval (.tmp (dst e'.on)))) →
      ∀ K : Act → World → Prop, (∀ v w', Spec k v w' → Below w.heap.size w w' → (∀ j u, j < n → j ≠ k → Spec j u w → R j k u v ∧ R k j v u) → K (a.put o.dst v) w') → Oper.wp P o a w K Q)
    (hlast : ∀ o a w, ops[n]? = some o → a.defers = a0.defers → a.tmps.size = a0.tmps.size → Below w0.heap.size w0 w → (∀ s, (∀ k, k < n → dst k ≠ s) → a.eval (.tmp s) = a0.eval (.tmp s)) → (∀ k, k < n → Spec k (a.eval (.tmp (dst k))) w) → ∀ K : Act → World → Prop, (∀ w', Fin a w' → K a w') → Oper.wp P o a w K Q)
    (hend : ∀ a w, Fin a w → Q .normal a w) :
    (Code.region id ops true).wp P Q a0 w0 := by
  refine wp_region_inv hm (fun listed a w => (listed.size = ops.size ∧ (listed.getD n false = true → Fin a w ∧ ∀ k, k < n → listed.getD k false = true)) ∧ (listed.getD n false = false → (a.defers = a0.defers ∧ a.tmps.size = a0.tmps.size ∧ Below w0.heap.size w0 w ∧ (∀ s, (∀ k, k < n → dst k ≠ s) → a.eval (.tmp s) = a0.eval (.tmp s)) ∧ (∀ k, k < n → listed.getD k false = true → Spec k (a.eval (.tmp (dst k))) w) ∧ ∀ j k, j < n → k < n → j ≠ k → listed.getD j false = true → listed.getD k false = true → R j k (a.eval (.tmp (dst j))) (a.eval (.tmp (dst k)))))) ?_ ?_ ?_
  · refine ⟨⟨by simp, fun h => ?_⟩, fun _ => ⟨rfl, rfl, Below.drew (Below.refl _ _), fun s _ => rfl, fun k hk h => ?_, fun j k hj hk _ h => ?_⟩⟩
    · simp [Array.getD_eq_getD_getElem?, hn] at h
    · simp [Array.getD_eq_getD_getElem?, show k < ops.size by omega] at h
    · simp [Array.getD_eq_getD_getElem?, show j < ops.size by omega] at h
  · rintro listed a w i ⟨⟨h1, hF⟩, hI⟩ hi
    obtain ⟨q1, q2, o, ho, q3⟩ := ready_mem hi
    have q2' : listed.getD i false = false := by
      have : listed.getD i true = listed.getD i false := by simp [Array.getD, show i < listed.size by omega]
      rw [← this]
      exact q2
    have hln : listed.getD n false = false := by
      cases hx : listed.getD n false with
      | false => rfl
      | true =>
        by_cases e : i = n
        · rw [e, hx] at q2'
          cases q2'
        · have := (hF hx).2 i (by omega)
          rw [q2'] at this
          cases this
    obtain ⟨h2, h3, h4, h5, h6, h7⟩ := hI hln
    refine wpOp_step ho (fun K' hK => ?_)
    by_cases ein : i = n
    · obtain ⟨d1, d2, d3, _⟩ := hl o (by rw [← ein]; exact ho)
      rw [if_pos (by simp [Region.wanted, d2])]
      have hall : ∀ k, k < n → listed.getD k false = true := fun k hk => by
        obtain ⟨e, he, hb, rfl⟩ := d3 k hk
        exact q3 e he hb
      refine hlast o a w (by rw [← ein]; exact ho) h2 h3 h4 h5 (fun k hk => h6 k hk (hall k hk)) K' (fun w' hw => hK _ _ ?_)
      refine ⟨⟨by simp [h1], fun _ => ⟨hw, fun k hk => ?_⟩⟩, fun hx => ?_⟩
      · rw [listed_far (by omega)]
        exact hall k hk
      · rw [ein, listed_at (by omega)] at hx
        cases hx
    · have hin : i < n := by omega
      obtain ⟨d1, d2, d3, d4⟩ := hd i o hin ho
      rw [if_pos (by simp [Region.wanted, d2])]
      refine hstep i o a w hin ho h4 h5 (fun e he hb => h6 e.on (by have := d4 e he hb; omega) (q3 e he hb)) (fun e he e' he' hb hb' hne => h7 e.on e'.on (by have := d4 e he hb; omega) (by have := d4 e' he' hb'; omega) hne (q3 e he hb) (q3 e' he' hb')) K' (fun v w' hs hb hR => hK _ _ ?_)
      rw [d1]
      refine ⟨⟨by simp [h1], fun hx => ?_⟩, fun _ => ⟨h2, by show (a.tmps.setIfInBounds _ _).size = _; rw [Array.size_setIfInBounds, h3], h4.trans (hb.mono h4.size), fun s hs' => ?_, fun k hk hlk => ?_, fun j k hj hk hjk hlj hlk => ?_⟩⟩
      · rw [listed_far ein, hln] at hx
        cases hx
      · rw [eval_put_far _ _ _ _ (hs' i hin)]
        exact h5 s hs'
      · by_cases e : i = k
        · subst e
          rw [eval_put_at _ _ _ (by omega)]
          exact hs
        · rw [eval_put_far _ _ _ _ (fun h => e (hinj i k hin hk h))]
          rw [listed_far e] at hlk
          exact hst _ _ _ _ (h6 k hk hlk) hb
      · by_cases ej : i = j
        · subst ej
          rw [listed_far hjk] at hlk
          rw [eval_put_at _ _ _ (by omega), eval_put_far _ _ _ _ (fun h => hjk (hinj i k hin hk h))]
          exact (hR k _ hk (fun e => hjk e.symm) (h6 k hk hlk)).2
        · by_cases ek : i = k
          · subst ek
            rw [listed_far ej] at hlj
            rw [eval_put_at _ _ _ (by omega), eval_put_far _ _ _ _ (fun h => ej (hinj i j hin hj h))]
            exact (hR j _ hj hjk (h6 j hj hlj)).1
          · rw [listed_far ej] at hlj
            rw [listed_far ek] at hlk
            rw [eval_put_far _ _ _ _ (fun h => ej (hinj i j hin hj h)), eval_put_far _ _ _ _ (fun h => ek (hinj i k hin hk h))]
            exact h7 j k hj hk hjk hlj hlk
  · rintro listed a w ⟨⟨h1, hF⟩, hI⟩ hr
    by_cases hx : listed.getD n false = true
    · exact hend a w (hF hx).1
    · have hx' : listed.getD n false = false := by simpa using hx
      exfalso
      have hall : ∀ m k, k < m → k < n → listed.getD k false = true := by
        intro m
        induction m with
        | zero => intro k hk; omega
        | succ m ih =>
          intro k hk hko
          by_cases e : k < m
          · exact ih k e hko
          · by_cases hl' : listed.getD k false = true
            · exact hl'
            · have hko' : k < ops.size := by omega
              have ho : ops[k]? = some ops[k] := Array.getElem?_eq_getElem hko'
              have := ready_of (md := .any) ho h1 (by simpa using hl') (fun e he hb => by
                have hlt := (hd k _ hko ho).2.2.2 e he hb
                exact ih e.on (by omega) (by omega))
              rw [hr] at this
              cases this
      have hno : n < ops.size := by omega
      have ho : ops[n]? = some ops[n] := Array.getElem?_eq_getElem hno
      have hcase := (hl _ ho).2.2.2
      have := ready_of (md := .any) ho h1 hx' (fun e he hb => hall n e.on (hcase e he hb) (hcase e he hb))
      rw [hr] at this
      cases this
end SlotsG
/-- The law's side conditions, reckoned. -/
def storeB (ops : Array Oper) (dst : List Nat) (n sz : Nat) : Bool :=
  decide (ops.size = n + 1) && ((List.range n).all fun k => match ops[k]? with
    | none => true
    | some o => decide (o.dst = some (dst.getD k 0)) && o.guard.isNone && decide (dst.getD k 0 < sz) && o.after.all (fun e => !Region.binds .any e || decide (e.on < k)) && (List.range n).all (fun j => decide (dst.getD j 0 = dst.getD k 0 → j = k))) && (match ops[n]? with
    | none => true
    | some o => o.dst.isNone && o.guard.isNone && o.after.all (fun e => !Region.binds .any e || decide (e.on < n)) && (List.range n).all (fun k => o.after.any (fun e => Region.binds .any e && decide (e.on = k))))
theorem wp_region_storeB {P : Program} {ops : Array Oper} {Q : Exit → Act → World → Prop} {id : Nat} {a0 : Act} {w0 : World} (hm : P.follows .mixedOrders = true) (dst : List Nat) (n : Nat) (hc : storeB ops dst n a0.tmps.size = true) (Spec : Nat → Value → World → Prop) (R : Nat → Nat → Value → Value → Prop) (Fin : Act → World → Prop)
    (hst : ∀ k v w w', Spec k v w → Below w.heap.size w w' → Spec k v w')
    (hstep : ∀ k o a w, k < n → ops[k]? = some o → Below w0.heap.size w0 w → (∀ s, (∀ k, k < n → dst.getD k 0 ≠ s) → a.eval (.tmp s) = a0.eval (.tmp s)) → (∀ e ∈ o.after, Region.binds .any e = true → Spec e.on (a.eval (.tmp (dst.getD e.on 0))) w) →
      (∀ e ∈ o.after, ∀ e' ∈ o.after, Region.binds .any e = true → Region.binds .any e' = true → e.on ≠ e'.on → R e.on e'.on (a.eval (.tmp (dst.getD e.on 0))) (a.eval (.tmp (dst.getD e'.on 0)))) →
      ∀ K : Act → World → Prop, (∀ v w', Spec k v w' → Below w.heap.size w w' → (∀ j u, j < n → j ≠ k → Spec j u w → R j k u v ∧ R k j v u) → K (a.put o.dst v) w') → Oper.wp P o a w K Q)
    (hlast : ∀ o a w, ops[n]? = some o → a.defers = a0.defers → a.tmps.size = a0.tmps.size → Below w0.heap.size w0 w → (∀ s, (∀ k, k < n → dst.getD k 0 ≠ s) → a.eval (.tmp s) = a0.eval (.tmp s)) → (∀ k, k < n → Spec k (a.eval (.tmp (dst.getD k 0))) w) → ∀ K : Act → World → Prop, (∀ w', Fin a w' → K a w') → Oper.wp P o a w K Q)
    (hend : ∀ a w, Fin a w → Q .normal a w) :
    (Code.region id ops true).wp P Q a0 w0 := by
  unfold storeB at hc
  simp only [Bool.and_eq_true, decide_eq_true_eq] at hc
  obtain ⟨⟨hn, hk⟩, hz⟩ := hc
  have hall : ∀ k o, k < n → ops[k]? = some o → (o.dst = some (dst.getD k 0) ∧ o.guard = none ∧ dst.getD k 0 < a0.tmps.size ∧ ∀ e ∈ o.after, Region.binds .any e = true → e.on < k) ∧ ∀ j, j < n → dst.getD j 0 = dst.getD k 0 → j = k := by
    intro k o hkn ho
    rw [List.all_eq_true] at hk
    have h := hk k (List.mem_range.2 hkn)
    rw [ho] at h
    simp only [Bool.and_eq_true, decide_eq_true_eq, Array.all_eq_true', List.all_eq_true, Option.isNone_iff_eq_none] at h
    obtain ⟨⟨⟨⟨h1, h2⟩, h3⟩, h4⟩, h5⟩ := h
    refine ⟨⟨h1, h2, h3, fun e he hb => ?_⟩, fun j hj => h5 j (List.mem_range.2 hj)⟩
    have := h4 e he
    simpa [hb] using this
  refine wp_region_store hm (fun k => dst.getD k 0) n hn Spec R Fin hst (fun k o hkn ho => (hall k o hkn ho).1) (fun o ho => ?_) (fun j k hj hkn e => (hall k _ hkn (Array.getElem?_eq_getElem (by omega))).2 j hj e) hstep hlast hend
  rw [ho] at hz
  simp only [Bool.and_eq_true, decide_eq_true_eq, Array.all_eq_true', List.all_eq_true, Option.isNone_iff_eq_none] at hz
  obtain ⟨⟨⟨h1, h2⟩, h3⟩, h4⟩ := hz
  refine ⟨h1, h2, fun k hkn => ?_, fun e he hb => ?_⟩
  · have := h4 k (List.mem_range.2 hkn)
    rw [Array.any_eq_true'] at this
    obtain ⟨e, he, hb⟩ := this
    simp only [Bool.and_eq_true, decide_eq_true_eq] at hb
    exact ⟨e, he, hb.1, hb.2⟩
  · have := h3 e he
    simpa [hb] using this
end Go.Proofs.Ytkjekohncfhbiab
