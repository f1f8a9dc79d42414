/-
  A row copied with one element more, read in a world where a box besides was written.
-/
import Derived.Test.YtmhiilfjckadkaaRApp2
import Derived.Test.YtmhiilfjckadkaaRPut
set_option linter.unusedSimpArgs false
set_option linter.unusedVariables false
namespace Go.Proofs.Ytmhiilfjckadkaa
open Go.RowKit
set_option maxRecDepth 100000
def intR (w : World) (cs : List Value) (x : Int) : Prop := cs = [.int .i64 x]
theorem zrow_rowr {w : World} {v : Value} {l : List Int} (h : ZRow w v l) (hl : l.length ≤ 10000000000000) : RowR 1 intR w v l := by
  obtain ⟨b, o, h1, h2, h3⟩ := h
  refine ⟨b, o, h1, hl, fun i x hx => ⟨_, rfl, rfl, fun j c hc => ?_⟩⟩
  match j, hc with
  | 0, hc =>
    cases hc
    rw [Nat.mul_one, Nat.add_zero]
    exact h3 i x hx
theorem rowr_zrow {w : World} {v : Value} {l : List Int} (h : RowR 1 intR w v l) : ZRow w v l := by
  obtain ⟨b, o, h1, h2, h3⟩ := h
  refine ⟨b, o, h1, by omega, fun i x hx => ?_⟩
  obtain ⟨cs, _, rfl, hc⟩ := h3 i x hx
  have := hc 0 _ rfl
  rwa [Nat.mul_one, Nat.add_zero] at this
theorem te_slice {e : TypeId} {z : Nat} {α : Type} {E : α → List Value} {W0 W : World} {v : Value} {L : List α} (T : TE e z E W0 W v L) {n : Nat} (hn : L.length = n) : ∃ ob oc, v = .slice ob n oc := by
  obtain ⟨ob, oc, rfl, _⟩ := te_form T
  exact ⟨ob, oc, by rw [hn]⟩
theorem te_rowr2 {α : Type} {e : TypeId} {z : Nat} {R : World → List Value → α → Prop} {W0 W W5 : World} {v : Value} {cl : List (Cel z)} {l : List α} (T : TE e z celE W0 W v cl)
    (hfar : ∀ (b i : Nat) u, W0.heap.size ≤ b → W.cell? ⟨b, i, none⟩ = some u → W5.cell? ⟨b, i, none⟩ = some u) (hlen : cl.length = l.length) (hR : ∀ (i : Nat) x c, l[i]? = some x → cl[i]? = some c → R W5 c.1 x) (hl : l.length ≤ 10000000000000) : RowR z R W5 v l := by
  rcases T.own.2 with ⟨rfl, h0⟩ | ⟨g, cap, cur, rfl, hbg, hg, hnc, hcm, hcs, htake⟩
  · obtain rfl : l = [] := List.eq_nil_of_length_eq_zero (by omega)
    exact ⟨0, 0, ⟨none, 0, rfl, Nat.le_refl _, fun h => by cases h⟩, by simp, fun i x hx => by simp at hx⟩
  · refine ⟨g, 0, ⟨some ⟨g, 0, none⟩, cap, by rw [hlen], by omega, fun _ => rfl⟩, hl, fun i x hx => ?_⟩
    have hi : i < cl.length := by have := (List.getElem?_eq_some_iff.1 hx).1; omega
    refine ⟨cl[i].1, cl[i].2.1, hR i x _ hx (List.getElem?_eq_getElem hi), fun j u hu => ?_⟩
    rw [Nat.zero_add]
    have hc := T.own.cells (g := g) rfl _ u (cel_at (List.getElem?_eq_getElem hi) hu)
    rw [add_none, Nat.zero_add] at hc
    exact hfar g _ u hbg hc
/-- The row that came of two appends: what was there, and one more. -/
theorem te_one {α : Type} {e : TypeId} {z : Nat} {R : World → List Value → α → Prop} {w W0 W W5 : World} {v : Value} {cl : List (Cel z)} {one : Cel z} {l F : List α} {x0 : α} (T : TE e z celE W0 W v (cl ++ [one])) (hF : F = l ++ [x0])
    (hfar : ∀ (b i : Nat) u, W0.heap.size ≤ b → W.cell? ⟨b, i, none⟩ = some u → W5.cell? ⟨b, i, none⟩ = some u) (hlen : cl.length = l.length) (hR : ∀ (i : Nat) x c, l[i]? = some x → cl[i]? = some c → R w c.1 x)
    (hturn : ∀ cs x, R w cs x → R W5 cs x) (h1 : R W5 one.1 x0) (hl : l.length ≤ 100000) : RowR z R W5 v F := by
  subst hF
  refine te_rowr2 T hfar (by simp [hlen]) (fun i x c hx hc => ?_) (by simp; omega)
  by_cases e : i < l.length
  · rw [List.getElem?_append_left e] at hx
    rw [List.getElem?_append_left (by omega)] at hc
    exact hturn _ _ (hR i x c hx hc)
  · rw [List.getElem?_append_right (by omega)] at hx hc
    rw [hlen] at hc
    match h : i - l.length, hx, hc with
    | 0, hx, hc =>
      simp [h] at hx hc
      subst hx
      subst hc
      exact h1
    | k + 1, hx, hc => simp [h] at hx
theorem one_srcC {z : Nat} {W : World} {cs : Array Value} {ty : TypeId} {B : Nat} (hB : W.heap.size = B) (c : Cel z) (hc : c.1 = cs.toList) : 0 < 1 → ∃ ad, (some ⟨B, 0, none⟩ : Option Addr) = some ad ∧ ∀ (j : Nat) u, ([c].map celE).flatten[j]? = some u → (W.alloc (.cells cs ty)).cell? (ad.add j) = some u := fun _ => ⟨_, rfl, fun j u hj => by
  subst hB
  have e : ([c].map celE).flatten = cs.toList := by rw [← hc]; simp [celE]
  rw [e, Array.getElem?_toList] at hj
  rw [add_none, Nat.zero_add, cell_new]
  exact hj⟩
theorem app_ne {α : Type} (l : List α) (x : α) : l ≠ l ++ [x] := fun h => by have := congrArg List.length h; simp at this
end Go.Proofs.Ytmhiilfjckadkaa
