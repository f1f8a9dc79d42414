/-
  A row of one's own, sorted by the library: what it holds behind it.
-/
import Derived.Test.YtdcahnaempabcaaGreatNCmp2
import Derived.Test.YtdcahnaempabcaaGreatPartV
import Derived.Test.YtdcahnaempabcaaGreatPartX
import Derived.Test.YtdcahnaempabcaaGreatShelfS
set_option linter.unusedSimpArgs false
set_option linter.unusedVariables false
namespace Go.Proofs.YtdcahnaempabcaaGreat
open Go.RowKit Go.Sort
section
variable {α : Type} (enc : α → List Value) (k : Nat)
theorem flatten_len (hk : ∀ x, (enc x).length = k) : ∀ L : List α, (L.map enc).flatten.length = L.length * k
  | [] => by simp
  | a :: L => by
    rw [List.map_cons, List.flatten_cons, List.length_append, flatten_len hk L, hk, List.length_cons, Nat.add_mul, Nat.one_mul, Nat.add_comm]
theorem flat_list [Inhabited α] (hk : ∀ x, (enc x).length = k) (L : List α) : (flatK enc k L.toArray).toList = (L.map enc).flatten := by
  refine List.ext_getElem? fun t => ?_
  by_cases ht : t < L.length * k
  · have k0 : 0 < k := by
      rcases Nat.eq_zero_or_pos k with h | h
      · subst h; simp at ht
      · exact h
    have hi : t / k < L.length := (Nat.div_lt_iff_lt_mul k0).2 ht
    have hj : t % k < k := Nat.mod_lt _ k0
    have e1 : (flatK enc k L.toArray).toList[t]? = some ((enc L[t / k])[t % k]'(by rw [hk]; exact hj)) := by
      have h1 := get_flatK enc k L.toArray t (by simpa using ht)
      rw [getElem!_pos _ t (by simpa using ht)] at h1
      rw [Array.getElem?_toList, Array.getElem?_eq_getElem (by simpa using ht), h1, getElem!_pos L.toArray (t / k) (by simpa using hi), getElem!_pos _ (t % k) (by rw [hk]; exact hj)]
      simp
    rw [e1]
    have e2 := flatten_get (z := k) (CS := L.map enc) (i := t / k) (j := t % k) (cs := enc L[t / k]) (c := (enc L[t / k])[t % k]'(by rw [hk]; exact hj)) (fun x hx => by obtain ⟨y, _, rfl⟩ := List.mem_map.1 hx; exact hk y) (by rw [List.getElem?_map, List.getElem?_eq_getElem hi]; rfl) (List.getElem?_eq_getElem _)
    rw [Nat.mul_comm (t / k) k, Nat.div_add_mod] at e2
    exact e2.symm
  · rw [List.getElem?_eq_none (by simpa using ht), List.getElem?_eq_none (by rw [flatten_len enc k hk]; omega)]
theorem holds_own [Inhabited α] (hk : ∀ x, (enc x).length = k) {w : World} {H : Nat} {e : TypeId} {g n cap : Nat} {L : List α} (h : w.ownsRow H e k (.slice (some ⟨g, 0, none⟩) n cap) n (L.map enc).flatten) (hn : n = L.length) : HoldsK enc k w g 0 L.toArray := by
  intro j hj
  have hj' : j < L.length * k := by simpa using hj
  have e1 : ((L.map enc).flatten)[j]? = some (flatK enc k L.toArray)[j]! := by
    rw [← flat_list enc k hk, Array.getElem?_toList, getElem!_pos _ j (by simpa using hj'), Array.getElem?_eq_getElem]
  refine ⟨?_, own_free h _⟩
  rw [Nat.zero_add]
  exact own_cell h e1
theorem heap_sortedK [Inhabited α] {w : World} {g n : Nat} {os : Array Obj} {cur : Array Value} {e : TypeId} {fr : Nat × Nat} (d : Array α) (hb : w.heap[g]? = some (.cells cur e fr)) :
    (sortWorldK enc k w g 0 n d os).heap[g]? = some (.cells (putCells id 0 (flatK enc k d) cur) e fr) := by
  have hg : g < w.heap.size := (Array.getElem?_eq_some_iff.1 hb).1
  unfold sortWorldK
  rw [heap_grow_old _ _ (by simpa [putRowK] using hg)]
  simp [putRowK, putRow, mapBlock, Sort.ahead, Array.getElem?_modify, hb, onCells]
theorem heap_otherK [Inhabited α] {w : World} {g n : Nat} {os : Array Obj} (d : Array α) (b : Nat) (hb : b < w.heap.size) (hne : b ≠ g) : (sortWorldK enc k w g 0 n d os).heap[b]? = w.heap[b]? := by
  unfold sortWorldK
  rw [heap_grow_old _ _ (by simpa [putRowK] using hb)]
  simp [putRowK, putRow, mapBlock, Sort.ahead, Array.getElem?_modify, Ne.symm hne]
theorem sort_size [Inhabited α] {w : World} {g n : Nat} {os : Array Obj} (d : Array α) : w.heap.size ≤ (sortWorldK enc k w g 0 n d os).heap.size := by
  unfold sortWorldK
  rw [size_grow]
  simp [putRowK, putRow, mapBlock, Sort.ahead]
theorem sort_below [Inhabited α] {w : World} {g n B : Nat} {os : Array Obj} (d : Array α) (hg : B ≤ g) (hB : B ≤ w.heap.size) : Below B w (sortWorldK enc k w g 0 n d os) :=
  ⟨rfl, rfl, rfl, sort_size enc k d, fun b hb => heap_otherK enc k d b (by omega) (by omega)⟩
theorem sort_drawn [Inhabited α] {w : World} {g n : Nat} {os : Array Obj} (d : Array α) : w.drawn ≤ (sortWorldK enc k w g 0 n d os).drawn := Nat.le_add_right _ _
theorem sort_keep [Inhabited α] {w : World} {g n : Nat} {os : Array Obj} (d : Array α) : KeepBut g w (sortWorldK enc k w g 0 n d os) := by
  intro a c ha hc
  have hl := cell_lt hc
  have := heap_otherK enc k (w := w) (g := g) (n := n) (os := os) d a.block hl ha
  unfold World.cell? at hc ⊢
  rw [this]
  exact hc
/-- The same slice owns what is sorted. -/
theorem own_sortedK [Inhabited α] (hk : ∀ x, (enc x).length = k) {w : World} {H : Nat} {e : TypeId} {g n cap m : Nat} {os : Array Obj} {L L' : List α} (h : w.ownsRow H e k (.slice (some ⟨g, 0, none⟩) n cap) n (L.map enc).flatten) (hn : n = L.length) (hl : L'.length = L.length) :
    (sortWorldK enc k w g 0 m L'.toArray os).ownsRow H e k (.slice (some ⟨g, 0, none⟩) n cap) n (L'.map enc).flatten := by
  refine ⟨by rw [flatten_len enc k hk, hl, hn], ?_⟩
  rcases h.2 with ⟨h1, _⟩ | ⟨g', cap', cur, h1, h2, h3, h4, h5, h6, h7⟩
  · cases h1
  · cases h1
    refine .inr ⟨g, cap, _, rfl, h2, heap_sortedK enc k L'.toArray h3, h4, h5, by simp [putCells, h6], ?_⟩
    have hle : L'.length * k ≤ cur.size := by
      rw [h6, hl, ← hn]
      exact Nat.mul_le_mul_right _ h4
    have hF : (flatK enc k L'.toArray).size = L'.length * k := by simp
    rw [← flat_list enc k hk, show n * k = L'.length * k by rw [hn, hl]]
    refine List.ext_getElem? fun j => ?_
    by_cases hj : j < L'.length * k
    · rw [List.getElem?_take_of_lt hj, Array.getElem?_toList, Array.getElem?_toList]
      simp only [putCells, Array.getElem?_mapIdx]
      rw [Array.getElem?_eq_getElem (by omega), Option.map_some, if_pos ⟨Nat.zero_le _, by omega⟩, Array.getElem?_eq_getElem (by omega), Nat.sub_zero, getElem!_pos _ j (by omega)]
      rfl
    · rw [List.getElem?_take_eq_none (by omega), Array.getElem?_toList, Array.getElem?_eq_none (by omega)]
end
end Go.Proofs.YtdcahnaempabcaaGreat
