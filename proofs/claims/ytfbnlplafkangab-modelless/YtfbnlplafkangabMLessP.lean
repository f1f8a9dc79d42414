/-
  PLAIN: a model without its last item.
-/
import Derived.Test.YtfbnlplafkangabMKidsP
set_option linter.unusedVariables false
namespace Go.Proofs.Ytfbnlplafkangab.Mp
def askS (id : BA) (l : List Sent) : Bool := l.any fun s => s.1.any fun o => decide (o.1 = id)
theorem askS_app (id : BA) (a b : List Sent) : askS id (a ++ b) = (askS id a || askS id b) := by unfold askS; rw [List.any_append]
theorem nest_prefix : ∀ (a b : List Item) (op : List BA), nestF op (a ++ b) = true → nestF op a = true
  | [], b, op, _ => by rw [nestF]
  | x :: a, b, op, h => by
    rw [List.cons_append, nestF] at h
    rw [nestF]
    cases hi : idx op x.parent with
    | none => rw [hi] at h; exact h
    | some p =>
      rw [hi] at h
      dsimp only at h ⊢
      by_cases h5 : 5 < p + 1
      · rw [if_pos h5] at h
        cases h
      · rw [if_neg h5] at h ⊢
        exact nest_prefix a b _ h
theorem names_prefix {a b : List BA} (h : namesF [] (a ++ b) = true) : namesF [] a = true := by
  obtain ⟨h1, _, h3⟩ := (namesF_iff _ _).1 h
  refine (namesF_iff _ _).2 ⟨fun s hs => h1 s (List.mem_append_left _ hs), fun s _ i hi => by simp at hi, fun i j s hij hi hj => ?_⟩
  have hil := (List.getElem?_eq_some_iff.1 hi).1
  have hjl := (List.getElem?_eq_some_iff.1 hj).1
  exact h3 i j s hij (by rw [List.getElem?_append_left hil]; exact hi) (by rw [List.getElem?_append_left hjl]; exact hj)
section
variable {l : List Item} {n : Nat} {y : Item}
theorem onLegal_less (ho : Once l) (hl : l.length = n + 1) (hy : l[n]? = some y) (o : On) : onLegal (l.take n) o = (onLegal l o && !decide (o.1 = y.id)) := by
  have tk : ∀ (j : Nat), j < n → (l.take n)[j]? = l[j]? := fun j hj => List.getElem?_take_of_lt hj
  have tn : ∀ (j : Nat) z, (l.take n)[j]? = some z → j < n ∧ l[j]? = some z := by
    intro j z hz
    rw [List.getElem?_take] at hz
    split at hz
    · exact ⟨by assumption, hz⟩
    · cases hz
  unfold onLegal
  cases hp : placeO l o.1 with
  | none =>
    have hq : placeO (l.take n) o.1 = none := find_none (fun j z hz => find_none_inv hp j z (tn j z hz).2)
    rw [hq]
    rfl
  | some k =>
    obtain ⟨x, hx, he, hb⟩ := find_some_inv hp
    have hid := of_decide_eq_true he
    have hkl := (List.getElem?_eq_some_iff.1 hx).1
    by_cases hk : k < n
    · have hne : ¬ o.1 = y.id := fun e => by have := ho k n x y hx hy (hid.trans e); omega
      have hq : placeO (l.take n) o.1 = some k := find_some ((tk k hk).trans hx) he (fun j z hj hz => hb j z hj (tn j z hz).2)
      rw [hq]
      dsimp only
      rw [tk k hk, decide_eq_false hne, Bool.not_false, Bool.and_true]
    · obtain rfl : k = n := by omega
      obtain rfl := at_inj hx hy
      have hq : placeO (l.take k) o.1 = none := find_none (fun j z hz => hb j z (tn j z hz).1 (tn j z hz).2)
      rw [hq]
      dsimp only
      rw [decide_eq_true hid.symm, Bool.not_true, Bool.and_false]
theorem onsF_less (ho : Once l) (hl : l.length = n + 1) (hy : l[n]? = some y) : ∀ (row seen : List On), onsF (l.take n) seen row = (onsF l seen row && !(row.any fun o => decide (o.1 = y.id)))
  | [], seen => rfl
  | o :: row, seen => by
    rw [onsF, onsF, onsF_less ho hl hy row, onLegal_less ho hl hy, List.any_cons]
    cases onLegal l o <;> cases decide (o.1 = y.id) <;> cases has seen o <;> cases onsF l (seen ++ [o]) row <;> cases (row.any fun o => decide (o.1 = y.id)) <;> rfl
end
theorem all_and {α : Type} (p q : α → Bool) : ∀ (l : List α), (l.all fun x => p x && !q x) = (l.all p && !l.any q)
  | [] => rfl
  | a :: l => by
    rw [List.all_cons, List.all_cons, List.any_cons, all_and p q l]
    cases p a <;> cases q a <;> cases l.all p <;> cases l.any q <;> rfl
section
variable {m : Model} {n : Nat} {y : Item}
theorem sentB_less (ho : Once m.items) (hl : m.items.length = n + 1) (hy : m.items[n]? = some y) (s : Sent) : sentB ⟨m.files, m.items.take n⟩ s = (sentB m s && !(s.1.any fun o => decide (o.1 = y.id))) := by
  unfold sentB onB ifB
  dsimp only
  rw [onsF_less ho hl hy]
  cases decide (s.1.length = 0) && decide (s.2.length = 0) <;> cases decide (s.1.length ≤ 3) <;> cases onsF m.items [] s.1 <;> cases (s.1.any fun o => decide (o.1 = y.id)) <;> cases decide (s.2.length ≤ 2) <;> cases s.2.all (condB m.files) <;> rfl
theorem sentsB_less (ho : Once m.items) (hl : m.items.length = n + 1) (hy : m.items[n]? = some y) (l : List Sent) : sentsB ⟨m.files, m.items.take n⟩ l = (sentsB m l && !askS y.id l) := by
  unfold sentsB askS
  rw [show (sentB ⟨m.files, m.items.take n⟩) = fun s => sentB m s && !(s.1.any fun o => decide (o.1 = y.id)) from funext fun s => sentB_less ho hl hy s, all_and, Bool.and_assoc]
theorem less_is (h : isB m = true) (hl : m.items.length = n + 1) (h1 : 1 ≤ n) (hy : m.items[n]? = some y) : isB ⟨m.files, m.items.take n⟩ = !((m.items.take n).any fun x => askS y.id (x.entry ++ x.exit)) := by
  obtain ⟨_, ho, _⟩ := is_parts h
  unfold isB filesB idsB at h
  simp only [Bool.and_eq_true, decide_eq_true_eq] at h
  obtain ⟨⟨⟨⟨⟨f1, f2⟩, ⟨i1, i2⟩, hid⟩, hh⟩, hne⟩, hb⟩ := h
  have hsplit : m.items = m.items.take n ++ m.items.drop n := (List.take_append_drop n m.items).symm
  have htl : (m.items.take n).length = n := by rw [List.length_take]; omega
  obtain ⟨x0, hx0⟩ := at_lt (l := m.items) (k := 0) (by omega)
  have hcons : m.items = x0 :: m.items.drop 1 := by
    have := drop_at hx0
    rwa [List.drop_zero] at this
  have htc : m.items.take n = x0 :: (m.items.drop 1).take (n - 1) := by
    conv => lhs; rw [hcons]
    obtain ⟨k, rfl⟩ : ∃ k, n = k + 1 := ⟨n - 1, by omega⟩
    rw [List.take_succ_cons, Nat.add_sub_cancel]
  have a1 : namesF [] ((m.items.take n).map Item.id) = true := by
    rw [hsplit, List.map_append] at hid
    exact names_prefix hid
  have a2 : headB (m.items.take n) = true := by
    rw [htc]
    rw [hcons] at hh
    exact hh
  have a3 : nestB (m.items.take n) = true := by
    rw [htc]
    rw [hcons] at hne
    have hne' : nestF [x0.id] (m.items.drop 1) = true := hne
    rw [← List.take_append_drop (n - 1) (m.items.drop 1)] at hne'
    exact nest_prefix _ _ _ hne'
  have a4 : (m.items.take n).all (itemB ⟨m.files, m.items.take n⟩) = !((m.items.take n).any fun x => askS y.id (x.entry ++ x.exit)) := by
    have e : (m.items.take n).all (itemB ⟨m.files, m.items.take n⟩) = (m.items.take n).all fun x => itemB m x && !askS y.id (x.entry ++ x.exit) := by
      congr 1
      funext x
      unfold itemB
      rw [sentsB_less ho hl hy, sentsB_less ho hl hy, askS_app]
      cases kindB x.kind && ticksB x && waitB x <;> cases sentsB m x.entry <;> cases sentsB m x.exit <;> cases askS y.id x.entry <;> cases askS y.id x.exit <;> rfl
    have hall : (m.items.take n).all (itemB m) = true := by
      rw [List.all_eq_true] at hb ⊢
      exact fun x hx => hb x (List.mem_of_mem_take hx)
    rw [e, all_and, hall, Bool.true_and]
  unfold isB filesB idsB
  dsimp only
  rw [decide_eq_true f1, f2, htl, decide_eq_true h1, decide_eq_true (p := n ≤ 16) (by omega), a1, a2, a3, a4]
  rfl
end
end Go.Proofs.Ytfbnlplafkangab.Mp
