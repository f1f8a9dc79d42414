/-
  The events of a model that may be can be looked up.
-/
import Derived.Test.YtpipjkbgbhefcaaGreatCAsk
set_option linter.unusedSimpArgs false
set_option linter.unusedVariables false
namespace Go.Proofs.YtpipjkbgbhefcaaGreat
open Go.RowKit
namespace Mp
theorem ons_mem {l : List Item} : ∀ {row seen : List On}, onsF l seen row = true → ∀ o ∈ row, onLegal l o = true
  | [], _, _, o, h => by cases h
  | a :: row, seen, h, o, ho => by
    rw [onsF] at h
    simp only [Bool.and_eq_true] at h
    rcases List.mem_cons.1 ho with rfl | ho
    · exact h.1.1
    · exact ons_mem h.2 o ho
theorem names_mem : ∀ {l seen : List BA}, namesF seen l = true → ∀ s ∈ l, isN s = true
  | [], _, _, s, h => by cases h
  | a :: l, seen, h, s, hs => by
    rw [namesF] at h
    simp only [Bool.and_eq_true] at h
    rcases List.mem_cons.1 hs with rfl | hs
    · exact h.1.1
    · exact names_mem h.2 s hs
theorem legal_rng {k e : Int} (h : legalB k e = true) : 1 ≤ e ∧ e ≤ 5 := by
  unfold legalB at h
  by_cases h1 : e = 1 ∨ e = 5
  · omega
  · rw [if_neg h1] at h
    by_cases h2 : e = 2 ∨ e = 3
    · omega
    · rw [if_neg h2] at h
      by_cases h3 : e = 4
      · omega
      · rw [if_neg h3] at h
        cases h
theorem name_small {s : BA} (h : isN s = true) : s.size ≤ 12 := by
  unfold isN Sp.isB at h
  simp only [Bool.and_eq_true, decide_eq_true_eq] at h
  have := h.1.1.2
  rwa [Sp.len_byte] at this
theorem on_small {m : Model} (hl : isB m = true) {o : On} (h : onLegal m.items o = true) : o.1.size ≤ 12 ∧ 1 ≤ o.2 ∧ o.2 ≤ 5 := by
  unfold onLegal at h
  cases hp : placeO m.items o.1 with
  | none => rw [hp] at h; cases h
  | some k =>
    rw [hp] at h
    obtain ⟨x, hx, he, _⟩ := find_some_inv hp
    simp only [hx] at h
    unfold isB at hl
    simp only [Bool.and_eq_true] at hl
    have hi := hl.1.1.1.2
    unfold idsB at hi
    simp only [Bool.and_eq_true] at hi
    have hn := names_mem hi.2 x.id (List.mem_map.2 ⟨x, List.mem_of_getElem? hx, rfl⟩)
    rw [of_decide_eq_true he] at hn
    exact ⟨name_small hn, legal_rng h⟩
theorem sent_ons {m : Model} {s : Sent} (h : sentB m s = true) : ∀ o ∈ s.1, onLegal m.items o = true := by
  unfold sentB at h
  simp only [Bool.and_eq_true] at h
  have h2 := h.1.2
  unfold onB at h2
  simp only [Bool.and_eq_true] at h2
  exact ons_mem h2.2
theorem item_sents {m : Model} (hl : isB m = true) {x : Item} (hx : x ∈ m.items) : ∀ s, (s ∈ x.entry ∨ s ∈ x.exit) → sentB m s = true := by
  unfold isB at hl
  simp only [Bool.and_eq_true] at hl
  have hi := List.all_eq_true.1 hl.2 x hx
  unfold itemB at hi
  simp only [Bool.and_eq_true] at hi
  have h1 := hi.1.2
  have h2 := hi.2
  unfold sentsB at h1 h2
  simp only [Bool.and_eq_true] at h1 h2
  intro s hs
  rcases hs with hs | hs
  · exact List.all_eq_true.1 h1.2 s hs
  · exact List.all_eq_true.1 h2.2 s hs
end Mp
theorem okM_of {m : Mp.Model} (hl : Mp.isB m = true) : OkM m := by
  refine ⟨hl, fun i hi s hs o ho => ?_⟩
  have := Mp.on_small hl (Mp.sent_ons (Mp.item_sents hl (List.mem_of_getElem? (Cp.itm_at hi)) s hs) o ho)
  exact ⟨by omega, by omega, by omega⟩
end Go.Proofs.YtpipjkbgbhefcaaGreat
