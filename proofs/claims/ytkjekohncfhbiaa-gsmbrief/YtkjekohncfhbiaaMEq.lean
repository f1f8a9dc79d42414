/-
  PLAIN: what the document asks of a model is what the program asks.
-/
import Derived.Test.YtkjekohncfhbiaaMPlainR
set_option linter.unusedVariables false
namespace Go.Proofs.Ytkjekohncfhbiaa.Mp
theorem at_inj {l : List Item} {i : Nat} {x y : Item} (h1 : l[i]? = some x) (h2 : l[i]? = some y) : x = y := Option.some.inj (h1.symm.trans h2)
/-! ### Names that stand once -/
theorem has_iff {α : Type} [DecidableEq α] (l : List α) (s : α) : has l s = true ↔ ∃ i : Nat, l[i]? = some s := by
  unfold has idx
  cases h : l.findIdx? (fun t => decide (t = s)) with
  | none =>
    refine ⟨fun e => (by cases e), fun ⟨i, hi⟩ => ?_⟩
    have := find_none_inv h i s hi
    rw [decide_eq_true rfl] at this
    cases this
  | some k =>
    obtain ⟨x, hx, he, _⟩ := find_some_inv h
    rw [of_decide_eq_true he] at hx
    exact ⟨fun _ => ⟨k, hx⟩, fun _ => rfl⟩
theorem has_false {α : Type} [DecidableEq α] (l : List α) (s : α) : has l s = false ↔ ∀ i : Nat, l[i]? ≠ some s := by
  constructor
  · intro h i hi
    have := (has_iff l s).2 ⟨i, hi⟩
    rw [h] at this
    cases this
  · intro h
    cases hb : has l s with
    | false => rfl
    | true =>
      obtain ⟨i, hi⟩ := (has_iff l s).1 hb
      exact absurd hi (h i)
theorem namesF_iff : ∀ (r seen : List BA), namesF seen r = true ↔ (∀ s ∈ r, isN s = true) ∧ (∀ s ∈ r, ∀ i : Nat, seen[i]? ≠ some s) ∧ (∀ (i j : Nat) s, i < j → r[i]? = some s → r[j]? ≠ some s)
  | [], seen => by simp [namesF]
  | a :: r, seen => by
    rw [namesF, Bool.and_eq_true, Bool.and_eq_true, namesF_iff r (seen ++ [a]), Bool.not_eq_true', has_false]
    constructor
    · rintro ⟨⟨h1, h2⟩, h3, h4, h5⟩
      refine ⟨fun s hs => ?_, fun s hs => ?_, fun i j s hij hi => ?_⟩
      · rcases List.mem_cons.1 hs with rfl | hs
        · exact h1
        · exact h3 s hs
      · rcases List.mem_cons.1 hs with rfl | hs
        · exact h2
        · intro i hi
          have := h4 s hs i
          rw [List.getElem?_append_left (List.getElem?_eq_some_iff.1 hi).1] at this
          exact this hi
      · cases j with
        | zero => omega
        | succ j =>
          rw [List.getElem?_cons_succ]
          cases i with
          | zero =>
            simp only [List.getElem?_cons_zero, Option.some.injEq] at hi
            subst hi
            intro hj
            have := h4 a (List.mem_of_getElem? hj) seen.length
            rw [List.getElem?_append_right (Nat.le_refl _), Nat.sub_self] at this
            exact this rfl
          | succ i =>
            rw [List.getElem?_cons_succ] at hi
            exact h5 i j s (by omega) hi
    · rintro ⟨h1, h2, h3⟩
      refine ⟨⟨h1 a List.mem_cons_self, h2 a List.mem_cons_self⟩, fun s hs => h1 s (List.mem_cons_of_mem _ hs), fun s hs i hi => ?_, fun i j s hij hi hj => ?_⟩
      · rcases Nat.lt_or_ge i seen.length with hl | hl
        · rw [List.getElem?_append_left hl] at hi
          exact h2 s (List.mem_cons_of_mem _ hs) i hi
        · rw [List.getElem?_append_right hl] at hi
          have h0 : i - seen.length = 0 := by
            have := (List.getElem?_eq_some_iff.1 hi).1
            simp at this
            omega
          rw [h0] at hi
          simp only [List.getElem?_cons_zero, Option.some.injEq] at hi
          subst hi
          obtain ⟨k, hk⟩ := List.getElem?_of_mem hs
          exact h3 0 (k + 1) a (by omega) rfl (by rw [List.getElem?_cons_succ]; exact hk)
      · exact h3 (i + 1) (j + 1) s (by omega) (by rw [List.getElem?_cons_succ]; exact hi) (by rw [List.getElem?_cons_succ]; exact hj)
/-- IDs that stand once: where each stands. -/
def Once (l : List Item) : Prop := ∀ (i j : Nat) x y, l[i]? = some x → l[j]? = some y → x.id = y.id → i = j
theorem once_of {l : List Item} (h : namesF [] (l.map Item.id) = true) : Once l := by
  obtain ⟨_, _, h3⟩ := (namesF_iff _ _).1 h
  intro i j x y hi hj he
  have hi' : (l.map Item.id)[i]? = some x.id := by rw [List.getElem?_map, hi]; rfl
  have hj' : (l.map Item.id)[j]? = some x.id := by rw [List.getElem?_map, hj, he]; rfl
  rcases Nat.lt_trichotomy i j with h | h | h
  · exact absurd hj' (h3 i j _ h hi')
  · exact h
  · exact absurd hi' (h3 j i _ h hj')
theorem placeZ_at {l : List Item} (ho : Once l) {i : Nat} {x : Item} (h : l[i]? = some x) : placeZ l x.id = i := by
  unfold placeZ placeO
  rw [find_some (p := fun y => decide (y.id = x.id)) h (decide_eq_true rfl) (fun j y hj hy => decide_eq_false fun e => by have := ho j i y x hy h e; omega)]
theorem placeZ_inv {l : List Item} {s : BA} {k : Nat} (h : placeZ l s = k) : ∃ x, l[k]? = some x ∧ x.id = s := by
  unfold placeZ at h
  cases hp : placeO l s with
  | none =>
    rw [hp] at h
    have h' : (-1 : Int) = (k : Int) := h
    omega
  | some j =>
    rw [hp] at h
    have h' : (j : Int) = (k : Int) := h
    have hj : j = k := by omega
    subst hj
    obtain ⟨x, hx, he, _⟩ := find_some_inv hp
    exact ⟨x, hx, of_decide_eq_true he⟩
theorem upZ_at {l : List Item} {k : Nat} {x : Item} (h : l[k]? = some x) : upZ l (k : Int) = placeZ l x.parent := by
  unfold upZ parAt
  rw [Int.toNat_natCast, h]
theorem idAt_at {l : List Item} {k : Nat} {x : Item} (h : l[k]? = some x) : idAt l k = x.id := by
  unfold idAt
  rw [h]
theorem kindAt_at {l : List Item} {k : Nat} {x : Item} (h : l[k]? = some x) : kindAt l k = x.kind := by
  unfold kindAt
  rw [h]
/-! ### The stages in which an item may stand -/
structure Ch (l : List Item) (i : Nat) (op : List BA) (c : List Nat) : Prop where
  one : 1 ≤ i
  len : c.length = op.length
  pos : 0 < op.length
  zero : c[0]? = some 0
  each : ∀ (t k : Nat), c[t]? = some k → k < i ∧ ∃ y, l[k]? = some y ∧ y.kind = 1 ∧ op[t]? = some y.id
  link : ∀ (t k k' : Nat), c[t]? = some k → c[t + 1]? = some k' → k < k' ∧ upZ l k' = k
  last : ∃ y k, l[i - 1]? = some y ∧ c[op.length - 1]? = some k ∧ ((y.kind = 1 ∧ k = i - 1) ∨ (y.kind ≠ 1 ∧ upZ l ((i - 1 : Nat) : Int) = k))
theorem Ch.at {l : List Item} {i : Nat} {op : List BA} {c : List Nat} (h : Ch l i op c) {t : Nat} (ht : t < op.length) : ∃ k y, c[t]? = some k ∧ k < i ∧ l[k]? = some y ∧ y.kind = 1 ∧ op[t]? = some y.id := by
  have hc : c[t]? = some (c[t]'(by have := h.len; omega)) := List.getElem?_eq_getElem _
  obtain ⟨h1, y, h2, h3, h4⟩ := h.each t _ hc
  exact ⟨_, y, hc, h1, h2, h3, h4⟩
theorem Ch.ge {l : List Item} {i : Nat} {op : List BA} {c : List Nat} (h : Ch l i op c) : ∀ (t k : Nat), c[t]? = some k → t ≤ k
  | 0, k, _ => Nat.zero_le _
  | t + 1, k, hk => by
    have hlt := (List.getElem?_eq_some_iff.1 hk).1
    have hc : c[t]? = some (c[t]'(by omega)) := List.getElem?_eq_getElem _
    have := h.ge t _ hc
    have := (h.link t _ _ hc hk).1
    omega
theorem Ch.depth {l : List Item} {i : Nat} {op : List BA} {c : List Nat} (h : Ch l i op c) : ∀ (t k f n : Nat), c[t]? = some k → t < f → depthG l f k n = ((n + t : Nat) : Int)
  | 0, k, f, n, hk, hf => by
    obtain rfl : k = 0 := Option.some.inj (hk.symm.trans h.zero)
    obtain ⟨f', rfl⟩ : ∃ f', f = f' + 1 := ⟨f - 1, by omega⟩
    rw [depthG, if_neg (by omega), if_neg (by omega)]
    rfl
  | t + 1, k, f, n, hk, hf => by
    have hlt := (List.getElem?_eq_some_iff.1 hk).1
    have hc : c[t]? = some (c[t]'(by omega)) := List.getElem?_eq_getElem _
    obtain ⟨h1, h2⟩ := h.link t _ _ hc hk
    obtain ⟨f', rfl⟩ : ∃ f', f = f' + 1 := ⟨f - 1, by omega⟩
    rw [depthG, if_pos (by omega), h2, h.depth t _ f' (n + 1) hc (by omega)]
    congr 1
    omega
theorem Ch.withinT {l : List Item} {i : Nat} {op : List BA} {c : List Nat} (h : Ch l i op c) (s : BA) : ∀ (t k f u : Nat), c[t]? = some k → u ≤ t → op[u]? = some s → t - u < f → withinG l s f k = true
  | 0, k, f, u, hk, hu, hs, hf => by
    obtain ⟨f', rfl⟩ : ∃ f', f = f' + 1 := ⟨f - 1, by omega⟩
    obtain rfl : u = 0 := by omega
    obtain ⟨_, y, h2, _, h4⟩ := h.each 0 k hk
    rw [withinG, if_neg (by omega), Int.toNat_natCast, idAt_at h2, if_pos (Option.some.inj (h4.symm.trans hs))]
  | t + 1, k, f, u, hk, hu, hs, hf => by
    obtain ⟨f', rfl⟩ : ∃ f', f = f' + 1 := ⟨f - 1, by omega⟩
    obtain ⟨_, y, h2, _, h4⟩ := h.each (t + 1) k hk
    rw [withinG, if_neg (by omega), Int.toNat_natCast, idAt_at h2]
    by_cases e : y.id = s
    · rw [if_pos e]
    · rw [if_neg e]
      have hlt := (List.getElem?_eq_some_iff.1 hk).1
      have hc : c[t]? = some (c[t]'(by omega)) := List.getElem?_eq_getElem _
      obtain ⟨h1, hup⟩ := h.link t _ _ hc hk
      rw [hup]
      have hut : u ≤ t := by
        rcases Nat.lt_or_ge t u with h' | h'
        · obtain rfl : u = t + 1 := by omega
          exact absurd (Option.some.inj (h4.symm.trans hs)) e
        · exact h'
      exact h.withinT s t _ f' u hc hut hs (by omega)
theorem Ch.withinF {l : List Item} {i : Nat} {op : List BA} {c : List Nat} (h : Ch l i op c) (hroot : upZ l 0 = -1) (s : BA) : ∀ (t k f : Nat), c[t]? = some k → withinG l s f k = true → ∃ u : Nat, op[u]? = some s
  | t, k, 0, hk, hw => by cases hw
  | 0, k, f + 1, hk, hw => by
    obtain rfl : k = 0 := Option.some.inj (hk.symm.trans h.zero)
    obtain ⟨_, y, h2, _, h4⟩ := h.each 0 0 hk
    rw [withinG, if_neg (by omega), Int.toNat_natCast, idAt_at h2] at hw
    by_cases e : y.id = s
    · exact ⟨0, by rw [h4, e]⟩
    · rw [if_neg e] at hw
      have hw' : withinG l s f (upZ l 0) = true := hw
      rw [hroot] at hw'
      cases f with
      | zero => cases hw'
      | succ f => rw [withinG, if_pos (by omega)] at hw'; cases hw'
  | t + 1, k, f + 1, hk, hw => by
    obtain ⟨_, y, h2, _, h4⟩ := h.each (t + 1) k hk
    rw [withinG, if_neg (by omega), Int.toNat_natCast, idAt_at h2] at hw
    by_cases e : y.id = s
    · exact ⟨t + 1, by rw [h4, e]⟩
    · rw [if_neg e] at hw
      have hlt := (List.getElem?_eq_some_iff.1 hk).1
      have hc : c[t]? = some (c[t]'(by omega)) := List.getElem?_eq_getElem _
      obtain ⟨h1, hup⟩ := h.link t _ _ hc hk
      rw [hup] at hw
      exact h.withinF hroot s t _ f hc hw
end Go.Proofs.Ytkjekohncfhbiaa.Mp
