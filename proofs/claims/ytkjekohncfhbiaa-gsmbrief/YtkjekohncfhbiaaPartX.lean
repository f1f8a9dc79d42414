/-
  Several texts in one: each opens with its own word.
-/
import Derived.Test.YtkjekohncfhbiaaPartB
import Derived.Test.YtkjekohncfhbiaaIs
/-
  Rows of names; the place of an item.
-/
set_option linter.unusedSimpArgs false
set_option linter.unusedVariables false
namespace Go.Proofs.Ytkjekohncfhbiaa
open Go.RowKit
theorem containsSV (w : World) (ao : Option Addr) (n cap : Nat) (l : List ByteArray) (s : ByteArray) (h : FRow w (.slice ao n cap) l) (b : Bool) (hb : Hid (Mp.has l s = b)) :
    Calls Try.prog 66 #[.slice ao n cap, .string s] w fun e w' => e = .returned (.bool b) ∧ w' = w := by
  rw [← hb.out]
  exact containsS w ao n cap l s h
end Go.Proofs.Ytkjekohncfhbiaa
/-
  The place of an item; the kids of one; the items' own names.
-/
set_option linter.unusedSimpArgs false
set_option linter.unusedVariables false
namespace Go.Proofs.Ytkjekohncfhbiaa
open Go.RowKit
theorem placeZ_some {l : List Mp.Item} {s : ByteArray} {k : Nat} {x : Mp.Item} (h : l[k]? = some x) (hx : x.id = s) (hb : ∀ (j : Nat) y, j < k → l[j]? = some y → y.id ≠ s) : Mp.placeZ l s = k := by
  unfold Mp.placeZ Mp.placeO
  rw [Mp.find_some h (decide_eq_true hx) (fun j y hj hy => decide_eq_false (hb j y hj hy))]
theorem placeZ_none {l : List Mp.Item} {s : ByteArray} (hb : ∀ (j : Nat) y, l[j]? = some y → y.id ≠ s) : Mp.placeZ l s = -1 := by
  unfold Mp.placeZ Mp.placeO
  rw [Mp.find_none (fun j y hy => decide_eq_false (hb j y hy))]
end Go.Proofs.Ytkjekohncfhbiaa
/-
  Rows that were appended to, read as rows of elements.
-/
set_option linter.unusedSimpArgs false
set_option linter.unusedVariables false
namespace Go.Proofs.Ytkjekohncfhbiaa
open Go.RowKit
theorem infoS : (Try.prog.info? 9).map (fun i => (i.zero, i.size, i.bytes)) = some (some (.string ⟨#[]⟩), 1, 16) := by kernel_rfl
theorem infoInt : (Try.prog.info? 3).map (fun i => (i.zero, i.size, i.bytes)) = some (some (.int .i64 0), 1, 8) := by kernel_rfl
theorem infoI : (Try.prog.info? 159).map (fun i => (i.zero, i.size, i.bytes)) = some (some (.agg #[.string ⟨#[]⟩, .int .i64 0, .string ⟨#[]⟩, .bool false, .int .i64 0, .slice none 0 0, .slice none 0 0]), 7, 104) := by kernel_rfl
theorem slice_form {w : World} {H : Nat} {e : TypeId} {z : Nat} {v : Value} {n : Nat} {xs : List Value} (h : w.ownsRow H e z v n xs) : ∃ ad cap, v = .slice ad n cap := by
  rcases h.2 with ⟨rfl, h0⟩ | ⟨g, cap, cur, rfl, _⟩
  · exact ⟨none, 0, by rw [h0]⟩
  · exact ⟨_, _, rfl⟩
theorem own_cap {w : World} {H : Nat} {e : TypeId} {z : Nat} {ad : Option Addr} {cap m n : Nat} {xs : List Value} (h : w.ownsRow H e z (.slice ad m cap) n xs) : m = n ∧ n ≤ cap := by
  rcases h.2 with ⟨h1, h0⟩ | ⟨g, cap', cur, h1, _, _, h2, _⟩
  · cases h1; omega
  · cases h1; exact ⟨rfl, h2⟩
theorem own_below {w w' : World} {H : Nat} {e : TypeId} {z : Nat} {v : Value} {n : Nat} {xs : List Value} (h : w.ownsRow H e z v n xs) (hb : Below w.heap.size w w') : w'.ownsRow H e z v n xs :=
  own_keep h (fun g hg => hb.block g (own_lt h hg).1)
theorem news1 (w : World) (cs : Array Value) (t : TypeId) : ∀ (j : Nat) u, cs.toList[j]? = some u → (w.alloc (.cells cs t)).cell? ((⟨w.heap.size, 0, none⟩ : Addr).add j) = some u :=
  World.news_of_block (fr := (0, 0)) (Lies.new w t cs)
theorem news2 (w : World) (X : Obj) (cs : Array Value) (t : TypeId) : ∀ (j : Nat) u, cs.toList[j]? = some u → ((w.alloc X).alloc (.cells cs t)).cell? ((⟨w.heap.size + 1, 0, none⟩ : Addr).add j) = some u := by
  have h := news1 (w.alloc X) cs t
  rwa [show (w.alloc X).heap.size = w.heap.size + 1 by simp] at h
theorem flatten_get {z : Nat} : ∀ {CS : List (List Value)} {i j : Nat} {cs : List Value} {c : Value}, (∀ x ∈ CS, x.length = z) → CS[i]? = some cs → cs[j]? = some c → CS.flatten[i * z + j]? = some c
  | [], i, j, cs, c, _, h, _ => by simp at h
  | a :: CS, 0, j, cs, c, hz, h, hj => by
    simp only [List.getElem?_cons_zero, Option.some.injEq] at h
    subst h
    rw [Nat.zero_mul, Nat.zero_add, List.flatten_cons, List.getElem?_append_left (List.getElem?_eq_some_iff.1 hj).1]
    exact hj
  | a :: CS, i + 1, j, cs, c, hz, h, hj => by
    rw [List.getElem?_cons_succ] at h
    have ha := hz a List.mem_cons_self
    rw [List.flatten_cons, List.getElem?_append_right (by rw [ha, Nat.add_mul]; omega), ha, show (i + 1) * z + j - z = i * z + j by rw [Nat.add_mul]; omega]
    exact flatten_get (fun x hx => hz x (List.mem_cons_of_mem _ hx)) h hj
theorem rowR_of_own {α : Type} {z : Nat} {R : World → List Value → α → Prop} {w : World} {H : Nat} {e : TypeId} {v : Value} {L : List α} {CS : List (List Value)} (h : w.ownsRow H e z v L.length CS.flatten) (hl : L.length ≤ 10000000000000) (hlen : CS.length = L.length) (hz : ∀ x ∈ CS, x.length = z)
    (hR : ∀ (i : Nat) x cs, L[i]? = some x → CS[i]? = some cs → R w cs x) : RowR z R w v L := by
  rcases Nat.eq_zero_or_pos L.length with h0 | h0
  · obtain ⟨ad, cap, rfl⟩ := slice_form h
    exact ⟨0, 0, ⟨ad, cap, rfl, (own_cap h).2, fun h => by omega⟩, hl, fun i x hx => by have := (List.getElem?_eq_some_iff.1 hx).1; omega⟩
  · obtain ⟨g, cap, rfl, _, _⟩ := h.form h0
    refine ⟨g, 0, ⟨_, cap, rfl, (own_cap h).2, fun _ => rfl⟩, hl, fun i x hx => ?_⟩
    have hi := (List.getElem?_eq_some_iff.1 hx).1
    have hcs : CS[i]? = some (CS[i]'(by omega)) := List.getElem?_eq_getElem (by omega)
    refine ⟨CS[i]'(by omega), hz _ (List.getElem_mem _), hR i x _ hx hcs, fun j c hj => ?_⟩
    rw [Nat.zero_add]
    exact own_cell h (flatten_get hz hcs hj)
theorem flat_one {α : Type} (f : α → Value) (L : List α) : L.map f = (L.map fun s => [f s]).flatten := by
  induction L with
  | nil => rfl
  | cons a L ih => rw [List.map_cons, List.map_cons, List.flatten_cons, ← ih]; rfl
theorem frow_of_own {w : World} {H : Nat} {e : TypeId} {v : Value} {L : List ByteArray} {n : Nat} (h : w.ownsRow H e 1 v n (L.map Value.string)) (hn : n = L.length) (hl : n ≤ 10000000000000) (hz : ∀ s ∈ L, s.size ≤ 140737488355328) : FRow w v L := by
  subst hn
  rw [flat_one] at h
  refine rowR_of_own h hl (by rw [List.length_map]) (fun x hx => ?_) (fun i x cs hx hcs => ?_)
  · obtain ⟨s, _, rfl⟩ := List.mem_map.1 hx
    rfl
  · rw [List.getElem?_map, hx] at hcs
    obtain rfl := Option.some.inj hcs
    exact ⟨rfl, hz x (List.mem_of_getElem? hx)⟩
end Go.Proofs.Ytkjekohncfhbiaa
/-
  The items' own names.
-/
set_option linter.unusedSimpArgs false
set_option linter.unusedVariables false
namespace Go.Proofs.Ytkjekohncfhbiaa
open Go.RowKit
set_option maxRecDepth 100000
end Go.Proofs.Ytkjekohncfhbiaa
/-
  Items within one another.
-/
set_option linter.unusedSimpArgs false
set_option linter.unusedVariables false
namespace Go.Proofs.Ytkjekohncfhbiaa
open Go.RowKit
set_option maxRecDepth 100000
theorem indexSV (w : World) (ao : Option Addr) (n cap : Nat) (l : List ByteArray) (s : ByteArray) (h : FRow w (.slice ao n cap) l) (z : Int) (hz : Hid (idxZ l s = z)) :
    Calls Try.prog 40 #[.slice ao n cap, .string s] w fun e w' => e = .returned (.int .i64 z) ∧ w' = w := by
  rw [← hz.out]
  exact indexS w ao n cap l s h
theorem idxZ_cases (l : List ByteArray) (s : ByteArray) : (idxZ l s = -1 ∧ Mp.idx l s = none) ∨ ∃ k : Nat, idxZ l s = k ∧ Mp.idx l s = some k ∧ k < l.length := by
  unfold idxZ
  cases h : Mp.idx l s with
  | none => exact .inl ⟨rfl, rfl⟩
  | some k =>
    obtain ⟨x, hx, _⟩ := Mp.find_some_inv h
    exact .inr ⟨k, rfl, rfl, (List.getElem?_eq_some_iff.1 hx).1⟩
/-- A row cut short is still owned. -/
theorem own_cut {w : World} {H : Nat} {e : TypeId} {z : Nat} {ad : Option Addr} {n cap : Nat} {xs : List Value} (h : w.ownsRow H e z (.slice ad n cap) n xs) (k : Nat) (hk : k ≤ n) : w.ownsRow H e z (.slice ad k cap) k (xs.take (k * z)) := by
  have hmul : k * z ≤ n * z := Nat.mul_le_mul_right _ hk
  have hlen := h.1
  refine ⟨by rw [List.length_take]; omega, ?_⟩
  rcases h.2 with ⟨h1, h0⟩ | ⟨g, cap', cur, h1, h2, h3, h4, h5, h6, h7⟩
  · cases h1
    exact .inl ⟨by rw [show k = 0 by omega], by omega⟩
  · cases h1
    exact .inr ⟨g, cap, cur, rfl, h2, h3, by omega, h5, h6, by rw [← h7, List.take_take, Nat.min_eq_left hmul]⟩
theorem open_next {op : List ByteArray} {p : Nat} {x : Mp.Item} {r : List Mp.Item} (h : Mp.idx op x.parent = some p) (h5 : ¬ 5 < p + 1) : Mp.nestF op (x :: r) = Mp.nestF (if x.kind = 1 then op.take (p + 1) ++ [x.id] else op.take (p + 1)) r := by
  rw [Mp.nestF, h]
  dsimp only
  rw [if_neg h5]
theorem own_one (w : World) (e : TypeId) (v : Value) : (w.alloc (.cells #[v] e)).ownsRow w.heap.size e 1 (.slice (some ⟨w.heap.size, 0, none⟩) 1 1) 1 [v] :=
  ⟨rfl, .inr ⟨w.heap.size, 1, #[v], rfl, Nat.le_refl _, Lies.new w e #[v], Nat.le_refl _, by decide, rfl, rfl⟩⟩
theorem nest_none {op : List ByteArray} {x : Mp.Item} {r : List Mp.Item} (h : Mp.idx op x.parent = none) : Mp.nestF op (x :: r) = false := by
  rw [Mp.nestF, h]
theorem nest_deep {op : List ByteArray} {p : Nat} {x : Mp.Item} {r : List Mp.Item} (h : Mp.idx op x.parent = some p) (h5 : 5 < p + 1) : Mp.nestF op (x :: r) = false := by
  rw [Mp.nestF, h]
  dsimp only
  rw [if_pos h5]
end Go.Proofs.Ytkjekohncfhbiaa
