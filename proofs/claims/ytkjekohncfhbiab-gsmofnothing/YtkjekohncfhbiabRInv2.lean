/-
  A region that draws its order and allocates: each operation's slot holds what is said of it, whatever the order.
-/
import Derived.Test.YtkjekohncfhbiabRInv
set_option linter.unusedSimpArgs false
set_option linter.unusedVariables false
namespace Go.Proofs.Ytkjekohncfhbiab
open Go.RowKit
set_option maxRecDepth 100000
section SlotsR
variable {P : Program} {ops : Array Oper} {Q : Exit → Act → World → Prop}
theorem eval_put_at (a : Act) (d : Nat) (v : Value) (h : d < a.tmps.size) : (a.put (some d) v).eval (.tmp d) = v := by
  simp [Act.put, Act.eval, Array.getD_eq_getD_getElem?, h]
theorem eval_put_far (a : Act) (d s : Nat) (v : Value) (h : d ≠ s) : (a.put (some d) v).eval (.tmp s) = a.eval (.tmp s) := by
  simp [Act.put, Act.eval, Array.getD_eq_getD_getElem?, Array.getElem?_setIfInBounds, h]
theorem listed_at {listed : Array Bool} {i : Nat} (h : i < listed.size) : (listed.setIfInBounds i true).getD i false = true := by
  simp [Array.getD_eq_getD_getElem?, h]
theorem listed_far {listed : Array Bool} {i k : Nat} (h : i ≠ k) : (listed.setIfInBounds i true).getD k false = listed.getD k false := by
  simp [Array.getD_eq_getD_getElem?, Array.getElem?_setIfInBounds, h]
theorem ready_of {md : Region.Mode} {listed : Array Bool} {i : Nat} {o : Oper} (ho : ops[i]? = some o) (hs : listed.size = ops.size) (hl : listed.getD i false = false) (hd : ∀ e ∈ o.after, Region.binds md e = true → listed.getD e.on false = true) : i ∈ Region.ready md ops listed := by
  have hi : i < ops.size := (Array.getElem?_eq_some_iff.1 ho).1
  unfold Region.ready
  rw [List.mem_filter]
  refine ⟨List.mem_range.2 hi, ?_⟩
  rw [ho, Bool.and_eq_true]
  refine ⟨?_, ?_⟩
  · have : listed.getD i true = listed.getD i false := by simp [Array.getD, show i < listed.size by omega]
    rw [this, hl]
    rfl
  · simp only [Option.map_some, Option.getD_some, Array.all_eq_true']
    intro e he
    by_cases hb : Region.binds md e = true
    · simp [hb, hd e he hb]
    · simp [hb]
/-- THE LAW. Spec k: what operation k's slot holds; it is stable while nothing that was there changes. -/
theorem wp_region_slots {id : Nat} {a0 : Act} {w0 : World} (hm : P.follows .mixedOrders = true) (dst : Nat → Nat) (Spec : Nat → Value → World → Prop)
    (hst : ∀ k v w w', Spec k v w → Below w.heap.size w w' → Spec k v w')
    (hd : ∀ k o, ops[k]? = some o → o.dst = some (dst k) ∧ o.guard = none ∧ dst k < a0.tmps.size ∧ ∀ e ∈ o.after, Region.binds .any e = true → e.on < k)
    (hinj : ∀ j k, j < ops.size → k < ops.size → dst j = dst k → j = k)
    (hstep : ∀ k o a w, ops[k]? = some o → Below w0.heap.size w0 w → (∀ s, (∀ k, k < ops.size → dst k ≠ s) → a.eval (.tmp s) = a0.eval (.tmp s)) → (∀ e ∈ o.after, Region.binds .any e = true → Spec e.on (a.eval (.tmp (dst e.on))) w) →
      ∀ K : Act → World → Prop, (∀ v w', Spec k v w' → Below w.heap.size w w' → K (a.put o.dst v) w') → Oper.wp P o a w K Q)
    (hend : ∀ a w, a.defers = a0.defers → a.tmps.size = a0.tmps.size → Below w0.heap.size w0 w → (∀ s, (∀ k, k < ops.size → dst k ≠ s) → a.eval (.tmp s) = a0.eval (.tmp s)) → (∀ k, k < ops.size → Spec k (a.eval (.tmp (dst k))) w) → Q .normal a w) :
    (Code.region id ops true).wp P Q a0 w0 := by
  refine wp_region_inv hm (fun listed a w => listed.size = ops.size ∧ a.defers = a0.defers ∧ a.tmps.size = a0.tmps.size ∧ Below w0.heap.size w0 w ∧ (∀ s, (∀ k, k < ops.size → dst k ≠ s) → a.eval (.tmp s) = a0.eval (.tmp s)) ∧ ∀ k, k < ops.size → listed.getD k false = true → Spec k (a.eval (.tmp (dst k))) w) ?_ ?_ ?_
  · refine ⟨by simp, rfl, rfl, Below.drew (Below.refl _ _), fun s _ => rfl, fun k hk h => ?_⟩
    simp [Array.getD_eq_getD_getElem?, hk] at h
  · rintro listed a w i ⟨h1, h2, h3, h4, h5, h6⟩ hi
    obtain ⟨q1, q2, o, ho, q3⟩ := ready_mem hi
    obtain ⟨d1, d2, d3, d4⟩ := hd i o ho
    refine wpOp_step ho (fun K' hK => ?_)
    rw [if_pos (by simp [Region.wanted, d2])]
    refine hstep i o a w ho h4 h5 (fun e he hb => h6 e.on (by have := d4 e he hb; omega) (q3 e he hb)) K' (fun v w' hs hb => hK _ _ ?_)
    rw [d1]
    refine ⟨by simp [h1], h2, by show (a.tmps.setIfInBounds _ _).size = _; rw [Array.size_setIfInBounds, h3], h4.trans (hb.mono h4.size), fun s hs' => ?_, fun k hk hl => ?_⟩
    · rw [eval_put_far _ _ _ _ (hs' i q1)]
      exact h5 s hs'
    · by_cases e : i = k
      · subst e
        rw [eval_put_at _ _ _ (by omega)]
        exact hs
      · rw [eval_put_far _ _ _ _ (fun h => e (hinj i k q1 hk h))]
        rw [listed_far e] at hl
        exact hst _ _ _ _ (h6 k hk hl) hb
  · rintro listed a w ⟨h1, h2, h3, h4, h5, h6⟩ hr
    have hall : ∀ n k, k < n → k < ops.size → listed.getD k false = true := by
      intro n
      induction n with
      | zero => intro k hk; omega
      | succ n ih =>
        intro k hk hko
        by_cases e : k < n
        · exact ih k e hko
        · by_cases hl : listed.getD k false = true
          · exact hl
          · have ho : ops[k]? = some ops[k] := Array.getElem?_eq_getElem hko
            have := ready_of (md := .any) ho h1 (by simpa using hl) (fun e he hb => by
              have hlt := (hd k _ ho).2.2.2 e he hb
              exact ih e.on (by omega) (by omega))
            rw [hr] at this
            cases this
    exact hend a w h2 h3 h4 h5 (fun k hk => h6 k hk (hall (k + 1) k (by omega) hk))
end SlotsR
end Go.Proofs.Ytkjekohncfhbiab
