/-
  PLAIN: in a model in its order an item's kids rise by ID.
-/
import Derived.Test.YtdcahnaempabcabGreatPartA
import Derived.Test.YtdcahnaempabcabGreatMKidsP
set_option linter.unusedVariables false
set_option linter.unusedSimpArgs false
namespace Go.Proofs.YtdcahnaempabcabGreat.Np
theorem ids_rise {m : Mp.Model} (h : Mp.isB m = true) {x y y' : It} {q q' : Nat} (hx : x ∈ itemsN m.items) (hy : (itemsN m.items)[q]? = some y) (hy' : (itemsN m.items)[q']? = some y') (e : y.parent = x.id) (e' : y'.parent = x.id) (hlt : q < q') : cmpS y.id y'.id < 0 := by
  obtain ⟨_, _, ho, _⟩ := parts_of h
  have ht := tree_of h
  have hs := sorted_of ho ht
  have hn := Tree.norm ho ht
  have h1 := (List.getElem?_eq_some_iff.1 hy)
  have h2 := (List.getElem?_eq_some_iff.1 hy')
  obtain ⟨l1, r1⟩ := h1
  obtain ⟨l2, r2⟩ := h2
  have hp := List.pairwise_iff_getElem.1 hs q q' l1 l2 hlt
  rw [r1, r2] at hp
  unfold ltW ltC at hp
  have w1 := hn.kid_of hx (List.mem_of_getElem? hy) e
  have w2 := hn.kid_of hx (List.mem_of_getElem? hy') e'
  rw [w1, w2] at hp
  by_cases c1 : cmpS y.id y'.id < 0
  · exact c1
  · exfalso
    by_cases c0 : cmpS y.id y'.id = 0
    · have e0 := (cmpS_tot.eq0 _ _).1 c0
      rw [e0, cmpS_tot.row.self] at hp
      omega
    · have ha := cmpS_tot.anti y.id y'.id
      have := rowC_split cmpS_tot (show cmpS y'.id y.id < 0 by omega) [] [] (W m.items x.id)
      have hb := cmpS_tot.row.anti (W m.items x.id ++ [y.id]) (W m.items x.id ++ [y'.id])
      omega
theorem norm_place {m : Mp.Model} (h : Mp.isB m = true) {x : It} (hx : x ∈ itemsN m.items) : ∃ p : Nat, Mp.placeZ m.items x.id = p := by
  obtain ⟨_, _, ho, _⟩ := parts_of h
  obtain ⟨y, hy, rfl⟩ := (mem_itemsN ho).1 hx
  obtain ⟨i, hi⟩ := List.getElem?_of_mem hy
  have := Mp.placeZ_at ho hi
  exact ⟨i, this⟩
end Go.Proofs.YtdcahnaempabcabGreat.Np
