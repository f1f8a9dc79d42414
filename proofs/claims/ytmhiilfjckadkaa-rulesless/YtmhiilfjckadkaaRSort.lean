/-
  A row of numbers, sorted, each once: slices.Sort, slices.Compact, slices.Clip.
-/
import Derived.Test.YtmhiilfjckadkaaRFlags
import Derived.Test.YtmhiilfjckadkaaShelfU
import Derived.Test.YtmhiilfjckadkaaShelfC
import Derived.Test.YtmhiilfjckadkaaMRows
import Derived.Sort.OwnSortedInts
set_option linter.unusedSimpArgs false
set_option linter.unusedVariables false
namespace Go.Proofs.Ytmhiilfjckadkaa
open Go.RowKit Go.Sort
set_option maxRecDepth 100000
namespace Rp
theorem keeps_zero (d : Array Int) : Lib.keeps d 0 = true := Lib.keeps_lt_one d 0 (by omega)
theorem sorted_get {zs : List Int} (hs : zs.Pairwise (· ≤ ·)) {i j : Nat} {x y : Int} (hij : i ≤ j) (hx : zs[i]? = some x) (hy : zs[j]? = some y) : x ≤ y := by
  obtain ⟨hi, rfl⟩ := List.getElem?_eq_some_iff.1 hx
  obtain ⟨hj, rfl⟩ := List.getElem?_eq_some_iff.1 hy
  rcases Nat.lt_or_ge i j with h | h
  · exact List.pairwise_iff_getElem.1 hs i j hi hj h
  · obtain rfl : i = j := by omega
    exact Int.le_refl _
theorem get_bang {zs : List Int} {i : Nat} (hi : i < zs.length) : zs[i]? = some (zs.toArray[i]!) := by
  rw [getElem!_pos zs.toArray i (by simpa using hi), List.getElem?_eq_getElem hi]
  simp
theorem compact_sets (zs : List Int) (hs : zs.Pairwise (· ≤ ·)) : Sets (Lib.compact zs) (fun x => x ∈ zs) := by
  constructor
  · unfold Lib.compact Lib.compactUpTo
    rw [List.pairwise_map]
    have hp : ((List.range zs.length).filter (Lib.keeps zs.toArray)).Pairwise (· < ·) := List.Pairwise.filter _ List.pairwise_lt_range
    refine List.Pairwise.imp_of_mem ?_ hp
    intro i j hi hj hij
    rw [List.mem_filter, List.mem_range] at hi hj
    have h1 := sorted_get hs (show i ≤ j - 1 by omega) (get_bang hi.1) (get_bang (show j - 1 < zs.length by omega))
    have h2 := sorted_get hs (show j - 1 ≤ j by omega) (get_bang (show j - 1 < zs.length by omega)) (get_bang hj.1)
    have h3 : zs.toArray[j]! ≠ zs.toArray[j - 1]! := fun e => by
      have := Lib.keeps_neg (d := zs.toArray) (m := j) (by omega) e
      rw [hj.2] at this
      cases this
    omega
  · intro x
    unfold Lib.compact Lib.compactUpTo
    rw [List.mem_map]
    constructor
    · rintro ⟨i, hi, rfl⟩
      rw [List.mem_filter, List.mem_range] at hi
      exact List.mem_of_getElem? (get_bang hi.1)
    · intro hx
      obtain ⟨i, hi⟩ := List.getElem?_of_mem hx
      have hl := (List.getElem?_eq_some_iff.1 hi).1
      rw [get_bang hl] at hi
      obtain rfl := Option.some.inj hi
      clear hx hi
      induction i with
      | zero => exact ⟨0, List.mem_filter.2 ⟨List.mem_range.2 hl, keeps_zero _⟩, rfl⟩
      | succ i ih =>
        by_cases e : zs.toArray[i + 1]! = zs.toArray[i]!
        · rw [e]
          exact ih (by omega)
        · exact ⟨i + 1, List.mem_filter.2 ⟨List.mem_range.2 hl, Lib.keeps_pos (by simpa using e)⟩, rfl⟩
end Rp
theorem holds_cell {w : World} {g : Nat} {zs : List Int} (h : Holds (Value.int .i64) w g 0 zs.toArray) {i : Nat} {x : Int} (hx : zs[i]? = some x) : w.cell? ⟨g, i, none⟩ = some (.int .i64 x) := by
  have hi := (List.getElem?_eq_some_iff.1 hx).1
  have := (h i (by simpa using hi)).1
  rw [Nat.zero_add] at this
  rw [this]
  rw [Rp.get_bang hi] at hx
  rw [Option.some.inj hx]
theorem clipD (w : World) (a : Option Addr) (n c : Nat) (hnc : n ≤ c) : Calls Try.prog 63 #[.slice a n c] w fun e w' => e = .returned (.slice a n n) ∧ w' = w := by
  have t1 : (n : Int) ≤ (c : Int) := by omega
  go_enter Try.func63, Try.ntmps63
  go_wp2_with fail
  go_ret
  exact ⟨rfl, rfl⟩
/-- What the tail of strata answers. -/
def ZPost (S : Int → Prop) (w : World) (e : Ending) (w' : World) : Prop := ∃ a L, e = .returned (.slice a L.length L.length) ∧ ZRow w' (.slice a L.length L.length) L ∧ Rp.Sets L S ∧ Below w.heap.size w w'
end Go.Proofs.Ytmhiilfjckadkaa
