/-
  When a program may be, reckoned; small ones.
-/
import Derived.Test.YtkjekohncfhbiabGNew
set_option linter.unusedSimpArgs false
set_option linter.unusedVariables false
namespace Go.Proofs.Ytkjekohncfhbiab.Gp
open Rp
theorem ris_of {n : Int} {l : List Int} (h : l.Pairwise (· < ·)) (h2 : ∀ x ∈ l, 0 ≤ x ∧ x < n) : RisP n l := fun i x hx => ⟨h2 x (List.mem_of_getElem? hx), fun j y hj hy => by
  have hi := (List.getElem?_eq_some_iff.1 hx)
  have hjj := (List.getElem?_eq_some_iff.1 hy)
  obtain ⟨a1, a2⟩ := hi
  obtain ⟨b1, b2⟩ := hjj
  have := List.pairwise_iff_getElem.1 h j i b1 a1 (by omega)
  rw [a2, b2] at this
  exact this⟩
theorem is_of {p : Prog} (h1 : 0 ≤ p.lasting ∧ p.lasting ≤ p.flags ∧ p.flags ≤ 800) (h2 : p.first.Pairwise (· < ·) ∧ ∀ x ∈ p.first, 0 ≤ x ∧ x < p.lasting) (h3 : p.over.Pairwise (· < ·) ∧ ∀ x ∈ p.over, 0 ≤ x ∧ x < p.lasting) (h4 : 1 ≤ p.frm ∧ p.frm ≤ 20)
    (h5 : p.files.length ≤ 6 ∧ p.files.Nodup) (h6 : p.rules.length ≤ 1500) (h7 : ∀ r ∈ p.rules, (1 ≤ r.1 ∧ r.1 ≤ 20) ∧ (∀ x ∈ r.2.1, 0 ≤ x.1 ∧ x.1 < p.flags) ∧ (∀ c ∈ r.2.2.1, Mp.has p.files c.1 = true ∧ Mp.opB c.2.1 = true) ∧ (∀ x ∈ r.2.2.2, 0 ≤ x.1 ∧ x.1 < p.flags) ∧ 0 < r.2.2.2.length) (h8 : p.rules.Pairwise fun q r => q.1 ≤ r.1)
    (h9 : ∀ c ∈ p.ctrs, (0 ≤ c.1 ∧ c.1 < p.lasting) ∧ 1 ≤ c.2.1 ∧ c.2.1 ≤ 100 ∧ p.lasting ≤ c.2.2 ∧ c.2.2 < p.flags) (h10 : ∀ u ∈ p.users, (∀ x ∈ u.2.2.1, 0 ≤ x.1 ∧ x.1 < p.lasting) ∧ p.lasting ≤ u.2.2.2 ∧ u.2.2.2 < p.flags)
    (h11 : ∀ r ∈ p.rules, ∀ s ∈ r.2.2.2, (0 ≤ s.1 ∧ s.1 < p.lasting → r.1 = lastS p) ∧ (p.lasting ≤ s.1 ∧ s.1 < p.flags → ∀ q ∈ p.rules, ∀ l ∈ q.2.1, l.1 = s.1 → r.1 < q.1)) : IsP p := by
  refine ⟨⟨h1.1, h1.2.1, h1.2.2, ris_of h2.1 h2.2, ris_of h3.1 h3.2⟩, h4, ⟨h5.1, fun i j s hij hi hj => ?_⟩, ⟨h6, fun i r hr => ?_⟩, h9, h10, h11⟩
  · obtain ⟨a1, a2⟩ := List.getElem?_eq_some_iff.1 hi
    obtain ⟨b1, b2⟩ := List.getElem?_eq_some_iff.1 hj
    have := List.pairwise_iff_getElem.1 h5.2 i j a1 b1 hij
    rw [a2, b2] at this
    exact this rfl
  · have hm := h7 r (List.mem_of_getElem? hr)
    refine ⟨hm.1, ⟨hm.2.1, hm.2.2.1, hm.2.2.2.1, hm.2.2.2.2⟩, fun j q hj hq => ?_⟩
    obtain ⟨a1, a2⟩ := List.getElem?_eq_some_iff.1 hr
    obtain ⟨b1, b2⟩ := List.getElem?_eq_some_iff.1 hq
    have := List.pairwise_iff_getElem.1 h8 j i b1 a1 (by omega)
    rw [a2, b2] at this
    exact this
def kn0 : Prog := ⟨1, 1, [], [], 1, [], [(1, [(0, true)], [], [(0, true)])], [], [], []⟩
def kn1 : Prog := ⟨1, 1, [], [], 1, [], [(1, [(0, true)], [], [(0, true)]), (1, [(0, false)], [], [(0, false)])], [], [], []⟩
theorem kn0_is : IsP kn0 := is_of (by decide) (by decide) (by decide) (by decide) (by decide) (by decide) (by decide) (by decide) (by decide) (by decide) (by decide)
theorem kn1_is : IsP kn1 := is_of (by decide) (by decide) (by decide) (by decide) (by decide) (by decide) (by decide) (by decide) (by decide) (by decide) (by decide)
theorem kn0_small : SmallP kn0 := ⟨by decide, by decide, by decide, by decide, by decide, by decide, by decide⟩
theorem kn1_small : SmallP kn1 := ⟨by decide, by decide, by decide, by decide, by decide, by decide, by decide⟩
theorem kn0_new : newP kn0 = some ⟨[true], [], []⟩ := by kernel_rfl
theorem kn1_new : newP kn1 = none := by kernel_rfl
end Go.Proofs.Ytkjekohncfhbiab.Gp
