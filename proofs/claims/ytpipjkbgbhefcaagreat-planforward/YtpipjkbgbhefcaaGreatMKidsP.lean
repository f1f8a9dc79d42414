/-
  PLAIN: each item but the plan is one of its Parent's, and nobody else's.
-/
import Derived.Test.YtpipjkbgbhefcaaGreatPartA
import Derived.Test.YtpipjkbgbhefcaaGreatMKids
set_option linter.unusedVariables false
namespace Go.Proofs.YtpipjkbgbhefcaaGreat.Mp
theorem is_parts {m : Model} (h : isB m = true) : 1 ≤ m.items.length ∧ Once m.items ∧ ∀ (j : Nat) x, m.items[j]? = some x → x.id ≠ e0 ∧ (j = 0 → x.parent = e0) ∧ (j ≠ 0 → 0 ≤ placeZ m.items x.parent ∧ placeZ m.items x.parent < j) := by
  rw [← is_eq] at h
  unfold isR at h
  simp only [Bool.and_eq_true, decide_eq_true_eq] at h
  obtain ⟨⟨⟨⟨⟨f1, i1⟩, i2⟩, f2⟩, hit⟩, hb⟩ := h
  have hI := (itemsF_iff m.items m.items 0).1 hit
  have parts : ∀ (j : Nat) x, m.items[j]? = some x → isN x.id = true ∧ placeZ m.items x.id = j ∧ (if j = 0 then planB x else nestedR m.items j x) = true := by
    intro j x hx
    have := hI j x hx
    rw [Nat.zero_add] at this
    unfold itemR at this
    simp only [Bool.and_eq_true, decide_eq_true_eq] at this
    exact ⟨this.1.1.1.1.1, this.1.1.1.1.2, this.2⟩
  refine ⟨i1, fun i j x y hx hy e => ?_, fun j x hx => ?_⟩
  · have h1 := (parts i x hx).2.1
    have h2 := (parts j y hy).2.1
    rw [e, h2] at h1
    omega
  · obtain ⟨h1, _, h3⟩ := parts j x hx
    refine ⟨isN_ne h1, fun h0 => ?_, fun h0 => ?_⟩
    · rw [if_pos h0] at h3
      unfold planB at h3
      simp only [Bool.and_eq_true, decide_eq_true_eq] at h3
      exact h3.1.1.1.2
    · rw [if_neg h0] at h3
      unfold nestedR at h3
      simp only [Bool.and_eq_true, decide_eq_true_eq] at h3
      exact ⟨h3.1.1.1.1.1.2, h3.1.1.1.1.2⟩
theorem kid_at {l : List Item} {s : BA} {n j q : Nat} (hn : n ≤ l.length) (h : (kidsN l s n)[j]? = some q) : ∃ y, l[q]? = some y ∧ y.parent = s := by
  have hm := List.mem_of_getElem? h
  unfold kidsN at hm
  obtain ⟨h1, h2⟩ := List.mem_filter.1 hm
  have hq := List.mem_range.1 h1
  obtain ⟨y, hy⟩ := at_lt (l := l) (k := q) (by omega)
  have h3 := of_decide_eq_true h2
  unfold parAt at h3
  rw [hy] at h3
  exact ⟨y, hy, h3⟩
theorem kid_order {l : List Item} {s : BA} {n j q q' : Nat} (h : (kidsN l s n)[j]? = some q) (h' : (kidsN l s n)[j + 1]? = some q') : q < q' := by
  have hp : (kidsN l s n).Pairwise (· < ·) := List.Pairwise.filter _ List.pairwise_lt_range
  obtain ⟨h1, rfl⟩ := List.getElem?_eq_some_iff.1 h
  obtain ⟨h2, rfl⟩ := List.getElem?_eq_some_iff.1 h'
  exact List.pairwise_iff_getElem.1 hp j (j + 1) h1 h2 (by omega)
theorem kid_gt {m : Model} (h : isB m = true) {i q : Nat} {x y : Item} (hx : m.items[i]? = some x) (hy : m.items[q]? = some y) (e : y.parent = x.id) : i < q := by
  obtain ⟨_, ho, hp⟩ := is_parts h
  obtain ⟨_, h0, h1⟩ := hp q y hy
  by_cases hq : q = 0
  · have := h0 hq
    rw [e] at this
    exact absurd this (hp i x hx).1
  · obtain ⟨_, h2⟩ := h1 hq
    rw [e, placeZ_at ho hx] at h2
    omega
theorem filter_split {p q r : Nat → Bool} : ∀ (l : List Nat), (∀ a ∈ l, r a = (p a || q a)) → (∀ a ∈ l, p a = true → q a = false) → (l.filter r).length = (l.filter p).length + (l.filter q).length
  | [], _, _ => rfl
  | a :: l, h1, h2 => by
    have ih := filter_split l (fun b hb => h1 b (List.mem_cons_of_mem _ hb)) (fun b hb => h2 b (List.mem_cons_of_mem _ hb))
    have e1 := h1 a List.mem_cons_self
    have e2 := h2 a List.mem_cons_self
    cases hp : p a with
    | true =>
      have hq := e2 hp
      have hr : r a = true := by rw [e1, hp]; rfl
      rw [List.filter_cons_of_pos hr, List.filter_cons_of_pos hp, List.filter_cons_of_neg (by rw [hq]; simp)]
      simp only [List.length_cons]
      omega
    | false =>
      cases hq : q a with
      | true =>
        have hr : r a = true := by rw [e1, hp, hq]; rfl
        rw [List.filter_cons_of_pos hr, List.filter_cons_of_neg (by rw [hp]; simp), List.filter_cons_of_pos hq]
        simp only [List.length_cons]
        omega
      | false =>
        have hr : r a = false := by rw [e1, hp, hq]; rfl
        rw [List.filter_cons_of_neg (by rw [hr]; simp), List.filter_cons_of_neg (by rw [hp]; simp), List.filter_cons_of_neg (by rw [hq]; simp)]
        exact ih
/-- How many items stand in one of the first k. -/
def cnt (l : List Item) (k : Nat) : Nat := ((List.range l.length).filter fun j => decide (0 ≤ placeZ l (parAt l j)) && decide (placeZ l (parAt l j) < k)).length
theorem cnt_zero (l : List Item) : cnt l 0 = 0 := by
  unfold cnt
  rw [List.length_eq_zero_iff, List.filter_eq_nil_iff]
  intro j _
  simp only [Bool.and_eq_true, decide_eq_true_eq]
  omega
theorem cnt_succ {l : List Item} (ho : Once l) {k : Nat} {x : Item} (hx : l[k]? = some x) : cnt l (k + 1) = cnt l k + (kidsN l x.id l.length).length := by
  unfold cnt kidsN
  refine filter_split _ (fun j hj => ?_) (fun j hj hp => ?_)
  · rw [Bool.eq_iff_iff]
    simp only [Bool.and_eq_true, Bool.or_eq_true, decide_eq_true_eq]
    constructor
    · rintro ⟨h1, h2⟩
      by_cases hk : placeZ l (parAt l j) < k
      · exact .inl ⟨h1, hk⟩
      · have he : placeZ l (parAt l j) = k := by omega
        obtain ⟨y, hy, hid⟩ := placeZ_inv he
        obtain rfl := at_inj hx hy
        exact .inr hid.symm
    · rintro (⟨h1, h2⟩ | he)
      · exact ⟨h1, by omega⟩
      · rw [he, placeZ_at ho hx]
        exact ⟨by omega, by omega⟩
  · simp only [Bool.and_eq_true, decide_eq_true_eq] at hp
    refine decide_eq_false fun he => ?_
    rw [he, placeZ_at ho hx] at hp
    omega
theorem pos_count : ∀ (n : Nat), ((List.range n).filter fun j => decide (j ≠ 0)).length = n - 1
  | 0 => rfl
  | n + 1 => by
    rw [List.range_succ, List.filter_append, List.length_append, pos_count n]
    cases n with
    | zero => rfl
    | succ n => simp
theorem cnt_all {m : Model} (h : isB m = true) : cnt m.items m.items.length = m.items.length - 1 := by
  obtain ⟨h1, ho, hp⟩ := is_parts h
  unfold cnt
  rw [← pos_count m.items.length]
  congr 1
  refine List.filter_congr fun j hj => ?_
  have hjl := List.mem_range.1 hj
  obtain ⟨x, hx⟩ := at_lt (l := m.items) (k := j) hjl
  have hpa : parAt m.items j = x.parent := by unfold parAt; rw [hx]
  rw [hpa, Bool.eq_iff_iff]
  simp only [Bool.and_eq_true, decide_eq_true_eq]
  obtain ⟨_, h2, h3⟩ := hp j x hx
  constructor
  · rintro ⟨a, b⟩ h0
    have := h2 h0
    obtain ⟨y, hy, hid⟩ := placeZ_inv (show placeZ m.items x.parent = ((placeZ m.items x.parent).toNat : Int) by omega)
    exact (hp _ y hy).1 (hid.trans this)
  · intro h0
    obtain ⟨a, b⟩ := h3 h0
    exact ⟨a, by omega⟩
theorem kids_none {m : Model} (h : isB m = true) : kidsN m.items e0 m.items.length = [0] := by
  obtain ⟨h1, ho, hp⟩ := is_parts h
  have key : ∀ n, 1 ≤ n → n ≤ m.items.length → kidsN m.items e0 n = [0] := by
    intro n
    induction n with
    | zero => intro h; omega
    | succ n ih =>
      intro _ hn
      obtain ⟨x, hx⟩ := at_lt (l := m.items) (k := n) (by omega)
      obtain ⟨_, h2, h3⟩ := hp n x hx
      by_cases h0 : n = 0
      · subst h0
        rw [kidsN_yes hx (h2 rfl)]
        rfl
      · rw [kidsN_no hx (fun e => ?_), ih (by omega) (by omega)]
        obtain ⟨a, b⟩ := h3 h0
        obtain ⟨y, hy, hid⟩ := placeZ_inv (show placeZ m.items x.parent = ((placeZ m.items x.parent).toNat : Int) by omega)
        exact (hp _ y hy).1 (hid.trans e)
  exact key _ h1 (Nat.le_refl _)
end Go.Proofs.YtpipjkbgbhefcaaGreat.Mp
