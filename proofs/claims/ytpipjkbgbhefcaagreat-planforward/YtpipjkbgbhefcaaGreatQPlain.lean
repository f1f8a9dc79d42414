/-
  What is due, plainly: rows of things, heaps, and what one step up or down keeps.
-/
namespace Go.Proofs.YtpipjkbgbhefcaaGreat
namespace Qp
abbrev Thing := Int × Int
/-- The least due, of these the least what. -/
def lt (a b : Thing) : Bool := decide (a.1 < b.1 ∨ (a.1 = b.1 ∧ a.2 < b.2))
theorem lt_iff {a b : Thing} : lt a b = true ↔ a.1 < b.1 ∨ (a.1 = b.1 ∧ a.2 < b.2) := by unfold lt; exact decide_eq_true_iff
theorem lt_no {a b : Thing} : lt a b = false ↔ ¬ (a.1 < b.1 ∨ (a.1 = b.1 ∧ a.2 < b.2)) := by unfold lt; exact decide_eq_false_iff_not
/-- What two numbers' order is. -/
def cz (x y : Int) : Int := if x < y then -1 else if y < x then 1 else 0
theorem lt_cz (a b : Thing) : lt a b = decide ((if cz a.1 b.1 ≠ 0 then cz a.1 b.1 else cz a.2 b.2) < 0) := by
  unfold lt cz
  rw [Bool.eq_iff_iff, decide_eq_true_iff, decide_eq_true_iff]
  split <;> split <;> (try split) <;> (try split) <;> omega
/-- The thing at a place. -/
def at_ (L : List Thing) (k : Nat) : Thing := (L[k]?).getD (0, 0)
theorem at_get {L : List Thing} {k : Nat} (h : k < L.length) : L[k]? = some (at_ L k) := by
  unfold at_
  rw [List.getElem?_eq_getElem h]
  rfl
/-- Two change places. -/
def swp (L : List Thing) (i j : Nat) : List Thing := (L.set i (at_ L j)).set j (at_ L i)
theorem swp_len (L : List Thing) (i j : Nat) : (swp L i j).length = L.length := by unfold swp; rw [List.length_set, List.length_set]
theorem at_swp {L : List Thing} {i j : Nat} (hi : i < L.length) (hj : j < L.length) (k : Nat) : at_ (swp L i j) k = if k = j then at_ L i else if k = i then at_ L j else at_ L k := by
  unfold swp at_
  rw [List.getElem?_set, List.getElem?_set, List.length_set]
  by_cases h1 : j = k
  · subst h1; simp [hj]
  · by_cases h2 : i = k
    · subst h2; simp [h1, hi, Ne.symm h1]
    · simp [h1, h2, Ne.symm h1, Ne.symm h2]
theorem count_set {α : Type} [DecidableEq α] {d : α} {L : List α} : ∀ {i : Nat} (x y : α), i < L.length → (L.set i x).count y + (if (L[i]?).getD d = y then 1 else 0) = L.count y + (if x = y then 1 else 0) := by
  induction L with
  | nil => intro i x y h; simp at h
  | cons a L ih =>
    intro i x y h
    cases i with
    | zero =>
      simp only [List.set_cons_zero, List.count_cons, List.getElem?_cons_zero, Option.getD_some, beq_iff_eq]
      omega
    | succ i =>
      have := ih (i := i) x y (by simpa using h)
      simp only [List.set_cons_succ, List.count_cons, List.getElem?_cons_succ] at this ⊢
      omega
theorem swap_perm {α : Type} [DecidableEq α] {d : α} {L : List α} {i j : Nat} (hi : i < L.length) (hj : j < L.length) : ((L.set i ((L[j]?).getD d)).set j ((L[i]?).getD d)).Perm L := by
  rw [List.perm_iff_count]
  intro y
  have h1 := count_set (d := d) ((L[j]?).getD d) y hi
  have h2 := count_set (d := d) (L := L.set i ((L[j]?).getD d)) ((L[i]?).getD d) y (by rw [List.length_set]; exact hj)
  have h3 : ((L.set i ((L[j]?).getD d))[j]?).getD d = (L[j]?).getD d := by
    rw [List.getElem?_set]
    by_cases h : i = j
    · subst h; simp [hi]
    · simp [h]
  rw [h3] at h2
  omega
theorem swp_perm {L : List Thing} {i j : Nat} (hi : i < L.length) (hj : j < L.length) : (swp L i j).Perm L := swap_perm (d := ((0 : Int), (0 : Int))) hi hj
/-- None is less than the one above it, among the first n. -/
def HeapN (L : List Thing) (n : Nat) : Prop := ∀ k, 0 < k → k < n → lt (at_ L k) (at_ L ((k - 1) / 2)) = false
/-- So, but for the place j; and what stands below j is not less than what stands above it. -/
def Up (L : List Thing) (j : Nat) : Prop := (∀ k, 0 < k → k < L.length → k ≠ j → lt (at_ L k) (at_ L ((k - 1) / 2)) = false) ∧ (0 < j → ∀ k, 0 < k → k < L.length → (k - 1) / 2 = j → lt (at_ L k) (at_ L ((j - 1) / 2)) = false)
theorem up_start {L : List Thing} (x : Thing) (h : HeapN L L.length) : Up (L ++ [x]) L.length := by
  have ha : ∀ k, k < L.length → at_ (L ++ [x]) k = at_ L k := fun k hk => by unfold at_; rw [List.getElem?_append_left hk]
  refine ⟨fun k h0 hk hn => ?_, fun h0 k h1 hk he => ?_⟩
  · rw [List.length_append, List.length_singleton] at hk
    rw [ha k (by omega), ha _ (by omega)]
    exact h k h0 (by omega)
  · rw [List.length_append, List.length_singleton] at hk
    omega
theorem up_step {L : List Thing} {j : Nat} (h : Up L j) (h0 : 0 < j) (hj : j < L.length) (hl : lt (at_ L j) (at_ L ((j - 1) / 2)) = true) : Up (swp L ((j - 1) / 2) j) ((j - 1) / 2) := by
  have hs := fun k => at_swp (L := L) (i := (j - 1) / 2) (j := j) (by omega) hj k
  generalize hi : (j - 1) / 2 = i at *
  refine ⟨fun k k0 hk hn => ?_, fun i0 k k0 hk he => ?_⟩
  · rw [swp_len] at hk
    have h1 := h.1 k k0 hk
    rw [hs, hs]
    by_cases e1 : k = j
    · subst e1
      rw [if_pos rfl, hi, if_neg (by omega), if_pos rfl]
      rw [lt_iff] at hl; rw [lt_no]; omega
    · rw [if_neg e1, if_neg hn]
      by_cases e2 : (k - 1) / 2 = j
      · rw [if_pos e2]
        have := h.2 h0 k k0 hk e2
        rw [hi] at this
        exact this
      · rw [if_neg e2]
        by_cases e3 : (k - 1) / 2 = i
        · rw [if_pos e3]
          have := h1 e1
          rw [e3] at this
          rw [lt_iff] at hl; rw [lt_no] at this ⊢; omega
        · rw [if_neg e3]
          exact h1 e1
  · rw [swp_len] at hk
    rw [hs, hs]
    have hii := h.1 i i0 (by omega) (by omega)
    rw [if_neg (show ¬ (i - 1) / 2 = j by omega), if_neg (show ¬ (i - 1) / 2 = i by omega)]
    by_cases e1 : k = j
    · rw [if_pos e1]
      exact hii
    · rw [if_neg e1, if_neg (show ¬ k = i by omega)]
      have := h.1 k k0 hk e1
      rw [he] at this
      rw [lt_no] at *; omega
theorem up_top {L : List Thing} (h : Up L 0) : HeapN L L.length := fun k h0 hk => h.1 k h0 hk (by omega)
theorem up_stop {L : List Thing} {j : Nat} (h : Up L j) (hl : lt (at_ L j) (at_ L ((j - 1) / 2)) = false) : HeapN L L.length := fun k h0 hk => by
  by_cases e : k = j
  · subst e; exact hl
  · exact h.1 k h0 hk e
/-- So among the first n, but below the place i. -/
def Down (L : List Thing) (n i : Nat) : Prop := (∀ k, 0 < k → k < n → (k - 1) / 2 ≠ i → lt (at_ L k) (at_ L ((k - 1) / 2)) = false) ∧ (0 < i → ∀ k, 0 < k → k < n → (k - 1) / 2 = i → lt (at_ L k) (at_ L ((i - 1) / 2)) = false)
theorem down_step {L : List Thing} {n i j : Nat} (h : Down L n i) (hn : n ≤ L.length) (hj : j < n) (h0 : 0 < j) (hp : (j - 1) / 2 = i) (hleast : ∀ k, 0 < k → k < n → (k - 1) / 2 = i → lt (at_ L k) (at_ L j) = false) (hl : lt (at_ L j) (at_ L i) = true) : Down (swp L i j) n j := by
  have hs := fun k => at_swp (L := L) (i := i) (j := j) (by omega) (by omega) k
  refine ⟨fun k k0 hk hne => ?_, fun _ k k0 hk he => ?_⟩
  · rw [hs, hs, if_neg hne]
    by_cases e2 : (k - 1) / 2 = i
    · rw [if_pos e2]
      by_cases e1 : k = j
      · rw [if_pos e1]
        rw [lt_iff] at hl; rw [lt_no]; omega
      · rw [if_neg e1, if_neg (by omega)]
        exact hleast k k0 hk e2
    · rw [if_neg e2]
      by_cases e1 : k = j
      · subst e1; omega
      · rw [if_neg e1]
        by_cases e3 : k = i
        · subst e3
          rw [if_pos rfl]
          exact h.2 k0 j h0 hj hp
        · rw [if_neg e3]
          exact h.1 k k0 hk e2
  · rw [hs, hs, if_neg (show ¬ k = j by omega), if_neg (show ¬ k = i by omega), if_neg (show ¬ (j - 1) / 2 = j by omega), if_pos hp]
    have := h.1 k k0 hk (by omega)
    rw [he] at this
    exact this
theorem down_stop {L : List Thing} {n i : Nat} (h : Down L n i) (hk : ∀ k, 0 < k → k < n → (k - 1) / 2 = i → lt (at_ L k) (at_ L i) = false) : HeapN L n := fun k k0 hk' => by
  by_cases e : (k - 1) / 2 = i
  · rw [e]; exact hk k k0 hk' e
  · exact h.1 k k0 hk' e
theorem down_start {L : List Thing} {n : Nat} (h : HeapN L (n + 1)) (hn : L.length = n + 1) : Down (swp L 0 n) n 0 := by
  have hs := fun k => at_swp (L := L) (i := 0) (j := n) (by omega) (by omega) k
  refine ⟨fun k k0 hk hne => ?_, fun h0 => by omega⟩
  rw [hs, hs, if_neg (by omega), if_neg (by omega), if_neg (by omega), if_neg hne]
  exact h k k0 (by omega)
/-- A heap's first one is its least. -/
theorem heap_least {L : List Thing} {n : Nat} (h : HeapN L n) : ∀ k, k < n → lt (at_ L k) (at_ L 0) = false := by
  intro k
  induction k using Nat.strongRecOn with
  | _ k ih =>
    intro hk
    rcases Nat.eq_zero_or_pos k with h0 | h0
    · subst h0; rw [lt_no]; omega
    · have h1 := h k h0 hk
      have h2 := ih ((k - 1) / 2) (by omega) (by omega)
      rw [lt_no] at *
      omega
theorem mem_at {L : List Thing} {x : Thing} (h : x ∈ L) : ∃ k, k < L.length ∧ at_ L k = x := by
  obtain ⟨k, hk, rfl⟩ := List.mem_iff_getElem.1 h
  exact ⟨k, hk, by unfold at_; rw [List.getElem?_eq_getElem hk]; rfl⟩
theorem least_mem {L : List Thing} (h : HeapN L L.length) {x : Thing} (hx : x ∈ L) : lt x (at_ L 0) = false := by
  obtain ⟨k, hk, rfl⟩ := mem_at hx
  exact heap_least h k hk
theorem at_take {L : List Thing} {n k : Nat} (h : k < n) : at_ (L.take n) k = at_ L k := by unfold at_; rw [List.getElem?_take_of_lt h]
theorem heap_take {L : List Thing} {n : Nat} (h : HeapN L n) (hn : n ≤ L.length) : HeapN (L.take n) (L.take n).length := by
  rw [List.length_take, Nat.min_eq_left hn]
  intro k k0 hk
  rw [at_take hk, at_take (by omega)]
  exact h k k0 hk
theorem perm_last {L : List Thing} {n : Nat} (hn : L.length = n + 1) : (at_ L n :: L.take n).Perm L := by
  have h1 : L = L.take n ++ [at_ L n] := by
    have h2 : L.drop n = [at_ L n] := by
      rw [List.drop_eq_getElem_cons (by omega), List.drop_eq_nil_of_le (by omega)]
      unfold at_
      rw [List.getElem?_eq_getElem (by omega)]
      rfl
    rw [← h2, List.take_append_drop]
  calc (at_ L n :: L.take n).Perm (L.take n ++ [at_ L n]) := (List.perm_append_singleton _ _).symm
    _ = L := h1.symm
end Qp
end Go.Proofs.YtpipjkbgbhefcaaGreat
