/-
  PLAIN: what the document asks of a model is what the program asks: the stages, item by item.
-/
import Derived.Test.YtcfalhgcdffjoaaMEq
set_option linter.unusedVariables false
namespace Go.Proofs.Ytcfalhgcdffjoaa.Mp
theorem idx_some {op : List BA} {s : BA} {p : Nat} (h : idx op s = some p) : op[p]? = some s := by
  obtain ⟨x, hx, he, _⟩ := find_some_inv h
  rw [of_decide_eq_true he] at hx
  exact hx
theorem idx_none {op : List BA} {s : BA} (h : idx op s = none) (u : Nat) : op[u]? ≠ some s := by
  intro hu
  have := find_none_inv h u s hu
  rw [decide_eq_true rfl] at this
  cases this
section
variable {l : List Item} {i : Nat} {op : List BA} {c : List Nat}
theorem Ch.some_step (h : Ch l i op c) (ho : Once l) (hn : ∀ (k : Nat) y, l[k]? = some y → y.id ≠ e0) {x : Item} (hx : l[i]? = some x) {p : Nat} (hp : idx op x.parent = some p) :
    nestedR l i x = decide (p + 1 ≤ 5) := by
  have hop := idx_some hp
  have hpl := (List.getElem?_eq_some_iff.1 hop).1
  have hil := (List.getElem?_eq_some_iff.1 hx).1
  obtain ⟨k, y, hk, hki, hy, hy1, hyo⟩ := h.at hpl
  have hid : y.id = x.parent := Option.some.inj (hyo.symm.trans hop)
  have hpz : placeZ l x.parent = k := by rw [← hid]; exact placeZ_at ho hy
  have hpk := h.ge p k hk
  have hone := h.one
  have hw : withinZ l ((i : Int) - 1) x.parent = true := by
    unfold withinZ
    obtain ⟨y', kl, hy', hkl, hc⟩ := h.last
    have hge := h.ge _ _ hkl
    have hlt := (h.each _ _ hkl).1
    rw [show ((i : Int) - 1) = ((i - 1 : Nat) : Int) by omega]
    rcases hc with ⟨_, rfl⟩ | ⟨_, hup⟩
    · exact h.withinT x.parent _ _ _ p hkl (by omega) hop (by omega)
    · rw [withinG, if_neg (by omega), Int.toNat_natCast]
      split
      · rfl
      · rw [hup]
        exact h.withinT x.parent _ _ _ p hkl (by omega) hop (by omega)
  have hd : depthZ l i = ((1 + p : Nat) : Int) := by
    unfold depthZ
    rw [depthG, if_pos (by omega), upZ_at hx, hpz]
    exact h.depth p k _ _ hk (by omega)
  unfold nestedR
  rw [hpz, hw, hd, decide_eq_false (by rw [← hid]; exact hn k y hy), decide_eq_true (p := (0 : Int) ≤ k) (by omega), decide_eq_true (p := (k : Int) < i) (by omega), Int.toNat_natCast, kindAt_at hy, decide_eq_true hy1, decide_eq_true (p := (1 : Int) ≤ ((1 + p : Nat) : Int)) (by omega)]
  show decide (((1 + p : Nat) : Int) ≤ 5) = decide (p + 1 ≤ 5)
  rw [Bool.eq_iff_iff]
  simp only [decide_eq_true_eq]
  omega
theorem Ch.none_step (h : Ch l i op c) (ho : Once l) (hroot : upZ l 0 = -1) {x : Item} (hx : l[i]? = some x) (hp : idx op x.parent = none) : nestedR l i x = false := by
  cases hb : nestedR l i x with
  | false => rfl
  | true =>
    exfalso
    unfold nestedR at hb
    simp only [Bool.and_eq_true, decide_eq_true_eq] at hb
    obtain ⟨⟨⟨⟨⟨⟨_, h0⟩, hlt⟩, hk1⟩, hw⟩, _⟩, _⟩ := hb
    have hone := h.one
    obtain ⟨y', kl, hy', hkl, hc⟩ := h.last
    unfold withinZ at hw
    rw [show ((i : Int) - 1) = ((i - 1 : Nat) : Int) by omega] at hw
    have key : ∃ u : Nat, op[u]? = some x.parent := by
      rcases hc with ⟨_, rfl⟩ | ⟨hne, hup⟩
      · exact h.withinF hroot x.parent _ _ _ hkl hw
      · rw [withinG, if_neg (by omega), Int.toNat_natCast, idAt_at hy'] at hw
        by_cases e : y'.id = x.parent
        · exfalso
          have : placeZ l x.parent = ((i - 1 : Nat) : Int) := by rw [← e]; exact placeZ_at ho hy'
          rw [this, Int.toNat_natCast, kindAt_at hy'] at hk1
          exact hne hk1
        · rw [if_neg e, hup] at hw
          exact h.withinF hroot x.parent _ _ _ hkl hw
    obtain ⟨u, hu⟩ := key
    exact idx_none hp u hu
theorem Ch.next (h : Ch l i op c) (ho : Once l) {x : Item} (hx : l[i]? = some x) {p : Nat} (hp : idx op x.parent = some p) :
    ∃ c', Ch l (i + 1) (if x.kind = 1 then op.take (p + 1) ++ [x.id] else op.take (p + 1)) c' := by
  have hop := idx_some hp
  have hpl := (List.getElem?_eq_some_iff.1 hop).1
  obtain ⟨k, y, hk, hki, hy, hy1, hyo⟩ := h.at hpl
  have hid : y.id = x.parent := Option.some.inj (hyo.symm.trans hop)
  have hpz : placeZ l x.parent = k := by rw [← hid]; exact placeZ_at ho hy
  have hup : upZ l i = k := by rw [upZ_at hx, hpz]
  have hcl := h.len
  have l1 : (op.take (p + 1)).length = p + 1 := by rw [List.length_take]; omega
  have l2 : (c.take (p + 1)).length = p + 1 := by rw [List.length_take]; omega
  have tk : ∀ (t : Nat), t < p + 1 → (c.take (p + 1))[t]? = c[t]? := fun t ht => List.getElem?_take_of_lt ht
  have tn : ∀ (t q : Nat), (c.take (p + 1))[t]? = some q → t < p + 1 ∧ c[t]? = some q := by
    intro t q hq
    have := (List.getElem?_eq_some_iff.1 hq).1
    rw [l2] at this
    rw [tk t this] at hq
    exact ⟨this, hq⟩
  by_cases hs : x.kind = 1
  · rw [if_pos hs]
    refine ⟨c.take (p + 1) ++ [i], by omega, by simp only [List.length_append, List.length_cons, List.length_nil]; omega, by simp, ?_, fun t q hq => ?_, fun t q q' hq hq' => ?_, ?_⟩
    · rw [List.getElem?_append_left (by omega), tk 0 (by omega)]
      exact h.zero
    · rcases Nat.lt_or_ge t (p + 1) with ht | ht
      · rw [List.getElem?_append_left (by omega), tk t ht] at hq
        obtain ⟨h1, z, h2, h3, h4⟩ := h.each t q hq
        exact ⟨by omega, z, h2, h3, by rw [List.getElem?_append_left (by omega), List.getElem?_take_of_lt ht]; exact h4⟩
      · rw [List.getElem?_append_right (by omega), l2] at hq
        have h0 : t - (p + 1) = 0 := by
          have := (List.getElem?_eq_some_iff.1 hq).1
          simp at this
          omega
        rw [h0] at hq
        obtain rfl : i = q := Option.some.inj hq
        exact ⟨by omega, x, hx, hs, by rw [List.getElem?_append_right (by omega), l1, h0]; rfl⟩
    · rcases Nat.lt_or_ge (t + 1) (p + 1) with ht | ht
      · rw [List.getElem?_append_left (by omega), tk _ (by omega)] at hq hq'
        exact h.link t q q' hq hq'
      · rw [List.getElem?_append_right (by omega), l2] at hq'
        have h0 : t + 1 - (p + 1) = 0 := by
          have := (List.getElem?_eq_some_iff.1 hq').1
          simp at this
          omega
        rw [h0] at hq'
        obtain rfl : i = q' := Option.some.inj hq'
        obtain rfl : t = p := by omega
        rw [List.getElem?_append_left (by omega), tk t (by omega), hk] at hq
        obtain rfl : k = q := Option.some.inj hq
        exact ⟨hki, hup⟩
    · refine ⟨x, i, by simpa using hx, ?_, .inl ⟨hs, by omega⟩⟩
      rw [List.length_append, l1, List.getElem?_append_right (by simp only [List.length_cons, List.length_nil]; omega), l2]
      simp
  · rw [if_neg hs]
    refine ⟨c.take (p + 1), by omega, by rw [l1, l2], by omega, ?_, fun t q hq => ?_, fun t q q' hq hq' => ?_, ?_⟩
    · rw [tk 0 (by omega)]
      exact h.zero
    · obtain ⟨ht, hq⟩ := tn t q hq
      obtain ⟨h1, z, h2, h3, h4⟩ := h.each t q hq
      exact ⟨by omega, z, h2, h3, by rw [List.getElem?_take_of_lt ht]; exact h4⟩
    · obtain ⟨ht, hq⟩ := tn t q hq
      obtain ⟨ht', hq'⟩ := tn (t + 1) q' hq'
      exact h.link t q q' hq hq'
    · refine ⟨x, k, by simpa using hx, ?_, .inr ⟨hs, by simpa using hup⟩⟩
      rw [l1, Nat.add_sub_cancel, tk p (by omega)]
      exact hk
end
theorem nest_all {l : List Item} (ho : Once l) (hn : ∀ (k : Nat) y, l[k]? = some y → y.id ≠ e0) (hroot : upZ l 0 = -1) : ∀ (d i : Nat) (op : List BA) (c : List Nat), l.length - i = d → Ch l i op c → (nestF op (l.drop i) = true ↔ ∀ (j : Nat) x, i ≤ j → l[j]? = some x → nestedR l j x = true)
  | 0, i, op, c, hd, h => by
    rw [drop_all (by omega), nestF]
    refine ⟨fun _ j x hj hx => ?_, fun _ => rfl⟩
    have := (List.getElem?_eq_some_iff.1 hx).1
    omega
  | d + 1, i, op, c, hd, h => by
    obtain ⟨x, hx⟩ := at_lt (l := l) (k := i) (by omega)
    rw [drop_at hx, nestF]
    cases hp : idx op x.parent with
    | none =>
      dsimp only
      have := h.none_step ho hroot hx hp
      refine ⟨fun e => by (cases e), fun e => ?_⟩
      have h2 := e i x (Nat.le_refl _) hx
      rw [this] at h2
      exact h2
    | some p =>
      dsimp only
      have hs := h.some_step ho hn hx hp
      by_cases h5 : 5 < p + 1
      · rw [if_pos h5]
        refine ⟨fun e => by (cases e), fun e => ?_⟩
        have h2 := e i x (Nat.le_refl _) hx
        rw [hs, decide_eq_false (by omega)] at h2
        exact h2
      · rw [if_neg h5]
        obtain ⟨c', h'⟩ := h.next ho hx hp
        rw [nest_all ho hn hroot d (i + 1) _ c' (by omega) h']
        constructor
        · intro e j z hj hz
          rcases Nat.eq_or_lt_of_le hj with rfl | hj
          · rw [hx] at hz
            cases hz
            rw [hs]
            exact decide_eq_true (by omega)
          · exact e j z hj hz
        · intro e j z hj hz
          exact e j z (by omega) hz
theorem itemsF_iff (l : List Item) : ∀ (r : List Item) (k : Nat), itemsF l k r = true ↔ ∀ (j : Nat) x, r[j]? = some x → itemR l (k + j) x = true
  | [], k => by simp [itemsF]
  | a :: r, k => by
    rw [itemsF, Bool.and_eq_true, itemsF_iff l r (k + 1)]
    constructor
    · rintro ⟨h1, h2⟩ j x hx
      cases j with
      | zero =>
        simp only [List.getElem?_cons_zero, Option.some.injEq] at hx
        subst hx
        exact h1
      | succ j =>
        rw [List.getElem?_cons_succ] at hx
        have := h2 j x hx
        rwa [show k + 1 + j = k + (j + 1) by omega] at this
    · intro h
      refine ⟨h 0 a rfl, fun j x hx => ?_⟩
      have := h (j + 1) x (by rw [List.getElem?_cons_succ]; exact hx)
      rwa [show k + 1 + j = k + (j + 1) by omega]
theorem isN_ne {s : BA} (h : isN s = true) : s ≠ e0 := by
  intro e
  rw [e] at h
  revert h
  unfold isN Sp.isB
  simp
theorem is_eq (m : Model) : isR m = isB m := by
  rw [Bool.eq_iff_iff]
  unfold isR isB filesB idsB
  simp only [Bool.and_eq_true, decide_eq_true_eq]
  have root : ∀ {l : List Item}, (∀ (k : Nat) y, l[k]? = some y → y.id ≠ e0) → ∀ x, l[0]? = some x → x.parent = e0 → upZ l 0 = -1 := by
    intro l hn x hx hp
    have h0 : upZ l ((0 : Nat) : Int) = placeZ l x.parent := upZ_at hx
    have h1 : upZ l 0 = placeZ l x.parent := h0
    rw [h1, hp]
    unfold placeZ placeO
    rw [find_none (p := fun y => decide (y.id = e0)) (fun j y hy => decide_eq_false (hn j y hy))]
  have start : ∀ {l : List Item} {x : Item}, l[0]? = some x → x.kind = 1 → Ch l 1 [x.id] [0] := by
    intro l x hx hk
    refine ⟨Nat.le_refl _, rfl, by simp, rfl, fun t q hq => ?_, fun t q q' hq hq' => ?_, x, 0, hx, rfl, .inl ⟨hk, rfl⟩⟩
    · cases t with
      | zero =>
        obtain rfl : 0 = q := Option.some.inj hq
        exact ⟨by omega, x, hx, hk, rfl⟩
      | succ t => simp at hq
    · simp at hq'
  constructor
  · rintro ⟨⟨⟨⟨⟨f1, i1⟩, i2⟩, f2⟩, hit⟩, hb⟩
    have hI := (itemsF_iff m.items m.items 0).1 hit
    have hI' : ∀ (j : Nat) x, m.items[j]? = some x → itemR m.items j x = true := fun j x hx => by have := hI j x hx; rwa [Nat.zero_add] at this
    have parts : ∀ (j : Nat) x, m.items[j]? = some x → isN x.id = true ∧ placeZ m.items x.id = j ∧ kindB x.kind = true ∧ ticksB x = true ∧ waitB x = true ∧ (if j = 0 then planB x else nestedR m.items j x) = true := by
      intro j x hx
      have := hI' j x hx
      unfold itemR at this
      simp only [Bool.and_eq_true, decide_eq_true_eq] at this
      exact ⟨this.1.1.1.1.1, this.1.1.1.1.2, this.1.1.1.2, this.1.1.2, this.1.2, this.2⟩
    have ho : Once m.items := fun i j x y hx hy e => by
      have h1 := (parts i x hx).2.1
      have h2 := (parts j y hy).2.1
      rw [e, h2] at h1
      omega
    have hn : ∀ (k : Nat) y, m.items[k]? = some y → y.id ≠ e0 := fun k y hy => isN_ne (parts k y hy).1
    obtain ⟨x0, hx0⟩ := at_lt (l := m.items) (k := 0) (by omega)
    have hp0 := (parts 0 x0 hx0).2.2.2.2.2
    rw [if_pos rfl] at hp0
    have hcons : m.items = x0 :: m.items.drop 1 := by
      have := drop_at hx0
      rwa [List.drop_zero] at this
    have hpl : x0.kind = 1 ∧ x0.parent = e0 := by
      unfold planB at hp0
      simp only [Bool.and_eq_true, decide_eq_true_eq] at hp0
      exact ⟨hp0.1.1.1.1, hp0.1.1.1.2⟩
    refine ⟨⟨⟨⟨⟨f1, f2⟩, ⟨i1, i2⟩, ?_⟩, ?_⟩, ?_⟩, ?_⟩
    · rw [namesF_iff]
      refine ⟨fun s hs => ?_, fun s hs i hi => by simp at hi, fun i j s hij hi hj => ?_⟩
      · obtain ⟨x, hx, rfl⟩ := List.mem_map.1 hs
        obtain ⟨k, hk⟩ := List.getElem?_of_mem hx
        exact (parts k x hk).1
      · rw [List.getElem?_map] at hi hj
        cases h1 : m.items[i]? with
        | none => rw [h1] at hi; cases hi
        | some x =>
          cases h2 : m.items[j]? with
          | none => rw [h2] at hj; cases hj
          | some y =>
            rw [h1] at hi
            rw [h2] at hj
            have e : x.id = y.id := (Option.some.inj hi).trans (Option.some.inj hj).symm
            have := ho i j x y h1 h2 e
            omega
    · rw [hcons]
      exact hp0
    · have hnest : nestB m.items = nestF [x0.id] (m.items.drop 1) := by
        conv => lhs; rw [hcons]
        rfl
      rw [hnest, nest_all ho hn (root hn x0 hx0 hpl.2) _ 1 _ _ rfl (start hx0 hpl.1)]
      intro j x hj hx
      have := (parts j x hx).2.2.2.2.2
      rwa [if_neg (by omega)] at this
    · rw [List.all_eq_true] at hb ⊢
      intro x hx
      obtain ⟨k, hk⟩ := List.getElem?_of_mem hx
      obtain ⟨_, _, h3, h4, h5, _⟩ := parts k x hk
      have h6 := hb x hx
      unfold bothS at h6
      rw [Bool.and_eq_true] at h6
      unfold itemB
      rw [h3, h4, h5, h6.1, h6.2]
      rfl
  · rintro ⟨⟨⟨⟨⟨f1, f2⟩, ⟨i1, i2⟩, hid⟩, hh⟩, hne⟩, hb⟩
    have ho := once_of hid
    obtain ⟨hnm, _, _⟩ := (namesF_iff _ _).1 hid
    have hN : ∀ (k : Nat) y, m.items[k]? = some y → isN y.id = true := fun k y hy => hnm y.id (List.mem_map.2 ⟨y, List.mem_of_getElem? hy, rfl⟩)
    have hn : ∀ (k : Nat) y, m.items[k]? = some y → y.id ≠ e0 := fun k y hy => isN_ne (hN k y hy)
    obtain ⟨x0, hx0⟩ := at_lt (l := m.items) (k := 0) (by omega)
    have hcons : m.items = x0 :: m.items.drop 1 := by
      have := drop_at hx0
      rwa [List.drop_zero] at this
    have hp0 : planB x0 = true := by
      rw [hcons] at hh
      exact hh
    have hpl : x0.kind = 1 ∧ x0.parent = e0 := by
      unfold planB at hp0
      simp only [Bool.and_eq_true, decide_eq_true_eq] at hp0
      exact ⟨hp0.1.1.1.1, hp0.1.1.1.2⟩
    have hnest : nestB m.items = nestF [x0.id] (m.items.drop 1) := by
      conv => lhs; rw [hcons]
      rfl
    rw [hnest, nest_all ho hn (root hn x0 hx0 hpl.2) _ 1 _ _ rfl (start hx0 hpl.1)] at hne
    rw [List.all_eq_true] at hb
    have itB : ∀ x ∈ m.items, kindB x.kind = true ∧ ticksB x = true ∧ waitB x = true ∧ sentsB m x.entry = true ∧ sentsB m x.exit = true := by
      intro x hx
      have := hb x hx
      unfold itemB at this
      simp only [Bool.and_eq_true] at this
      exact ⟨this.1.1.1.1, this.1.1.1.2, this.1.1.2, this.1.2, this.2⟩
    refine ⟨⟨⟨⟨⟨f1, i1⟩, i2⟩, f2⟩, ?_⟩, ?_⟩
    · rw [itemsF_iff]
      intro j x hx
      rw [Nat.zero_add]
      obtain ⟨h3, h4, h5, _⟩ := itB x (List.mem_of_getElem? hx)
      unfold itemR
      rw [hN j x hx, decide_eq_true (placeZ_at ho hx), h3, h4, h5]
      by_cases h0 : j = 0
      · subst h0
        rw [if_pos rfl]
        obtain rfl := at_inj hx hx0
        rw [hp0]
        rfl
      · rw [if_neg h0, hne j x (by omega) hx]
        rfl
    · rw [List.all_eq_true]
      intro x hx
      obtain ⟨_, _, _, h6, h7⟩ := itB x hx
      unfold bothS
      rw [h6, h7]
      rfl
end Go.Proofs.Ytcfalhgcdffjoaa.Mp
