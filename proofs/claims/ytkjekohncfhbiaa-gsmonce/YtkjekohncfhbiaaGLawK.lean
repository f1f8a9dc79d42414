/-
  What a law that makes its program wants: rows by blocks, a row of numbers that was appended to.
-/
import Derived.Test.YtkjekohncfhbiaaGKnown
set_option linter.unusedSimpArgs false
set_option linter.unusedVariables false
namespace Go.Proofs.Ytkjekohncfhbiaa
open Go.RowKit
set_option maxRecDepth 100000
theorem box1 (w : World) (t : TypeId) (C : Array Value) : ∃ V, w.alloc (.cells C t) = V ∧ Below w.heap.size w V ∧ Lies V w.heap.size t C ∧ V.heap.size = w.heap.size + 1 :=
  ⟨_, rfl, (Below.refl _ w).alloc (Nat.le_refl _) _, Lies.new w t C, by simp⟩
theorem lrow_lies {w : World} {b : Nat} {e : TypeId} {C : Array Value} (h : Lies w b e C) (l : List Rp.Lit) (hC : C.toList = (l.map fun x => [Value.int .i64 x.1, .bool x.2]).flatten) (hl : l.length ≤ 1000) : LRow w (.slice (some ⟨b, 0, none⟩) l.length l.length) l := by
  have hs : C.size = l.length * 2 := by
    rw [← Array.length_toList, hC, List.length_flatten, List.map_map]
    have : (List.map (List.length ∘ fun x : Rp.Lit => [Value.int .i64 x.1, .bool x.2]) l) = List.replicate l.length 2 := by
      rw [List.eq_replicate_iff]
      refine ⟨by simp, fun b hb => ?_⟩
      obtain ⟨x, _, rfl⟩ := List.mem_map.1 hb
      rfl
    rw [this]
    simp
  have ho := own_of_liesG (H := 0) (z := 2) (n := l.length) h (Nat.zero_le _) hs (by omega)
  rw [hC] at ho
  refine rowR_of_own ho (by omega) (by simp) (fun x hx => ?_) (fun i x cs hx hcs => ?_)
  · obtain ⟨y, _, rfl⟩ := List.mem_map.1 hx
    rfl
  · rw [List.getElem?_map, hx] at hcs
    cases hcs
    rfl
def celI (n : Int) : Cel 1 := ⟨[.int .i64 n], rfl, fun u hu => by simp at hu; subst hu; rfl⟩
theorem oe_zrow {H : Nat} {e : TypeId} {w : World} {v : Value} {l : List Int} (h : OE H e 1 celE w v (l.map celI)) (hl : l.length ≤ 1000) : ZRow w v l := by
  obtain ⟨ob, oc, rfl, hoc, g, hg, hc⟩ := h.form
  rw [List.length_map] at hoc hg ⊢
  refine ⟨g, 0, ⟨ob, oc, rfl, hoc, fun h0 => (hg h0).1⟩, by omega, fun i x hx => ?_⟩
  have : ((l.map celI).map celE).flatten[i]? = some (.int .i64 x) := by
    have e1 : ((l.map celI).map celE).flatten = l.map fun x => Value.int .i64 x := by
      clear hx hc hg hoc hl h
      induction l with
      | nil => rfl
      | cons a l ih => simp only [List.map_cons, List.flatten_cons, ih]; rfl
    rw [e1, List.getElem?_map, hx]
    rfl
  have := (hc i _ this).2.1
  simpa using this
/-- A box at k with a row of numbers in its third cell that is appended to; what V held below k stays. -/
def AppF (V w : World) (k : Nat) (C : Value → Array Value) (l : List Int) : Prop := ∃ ob oc, Lies w k 29 (C (.slice ob l.length oc)) ∧ OE (k + 1) 3 1 celE w (.slice ob l.length oc) (l.map celI) ∧ Keep (fun i => k ≤ i) V w
theorem appF_kept {X w3 : World} {k : Nat} {C : Value → Array Value} {l : List Int} {n : Int} {ob : Option Addr} {oc : Nat} {v' : Value} (L8 : Lies X k 29 (C (.slice ob l.length oc))) (hO : OE (k + 1) 3 1 celE X (.slice ob l.length oc) (l.map celI)) (k3 : AppK (X.alloc (.cells #[.int .i64 n] 3)) w3 (.slice ob l.length oc) v') : Lies w3 k 29 (C (.slice ob l.length oc)) :=
  (L8.below ((Below.refl _ X).alloc (Nat.le_refl _) _)).keep k3.keep (fun e => by have := (hO.lt e).2; omega)
theorem appF_next {V X w3 : World} {k : Nat} {C : Value → Array Value} {l : List Int} {n : Int} {ob : Option Addr} {oc : Nat} {qa : Option Addr} {qc : Nat} (L8 : Lies X k 29 (C (.slice ob l.length oc))) (hO : OE (k + 1) 3 1 celE X (.slice ob l.length oc) (l.map celI)) (hK : Keep (fun i => k ≤ i) V X) (hC : ∀ v v', (C v).setIfInBounds 2 v' = C v')
    (o3 : OE (k + 1) 3 1 celE w3 (.slice qa (l.length + 1) qc) (l.map celI ++ [celI n])) (k3 : AppK (X.alloc (.cells #[.int .i64 n] 3)) w3 (.slice ob l.length oc) (.slice qa (l.length + 1) qc)) : AppF V (w3.setCell ⟨k, 2, none⟩ (.slice qa (l.length + 1) qc)) k C (l ++ [n]) := by
  have hL := (appF_kept L8 hO k3).set 2 (.slice qa (l.length + 1) qc)
  rw [hC] at hL
  refine ⟨qa, qc, by rw [List.length_append]; exact hL, ?_, ?_⟩
  · rw [List.map_append, List.length_append]
    exact o3.keep (S := fun i => i = k) (Keep.set _ _ _ rfl) (fun i e h => by have := (o3.lt e).2; omega)
  · exact ((hK.trans (Keep.of_below ((Below.refl _ X).alloc (Nat.le_refl _) _))).trans (k3.keep.wide (fun i _ e => by have := (hO.lt e).2; omega))).trans (Keep.set _ _ _ (Nat.le_refl _))
end Go.Proofs.Ytkjekohncfhbiaa
