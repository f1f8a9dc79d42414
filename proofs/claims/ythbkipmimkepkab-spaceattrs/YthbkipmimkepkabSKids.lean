/-
  Trees that are done, while others are made: what stays.
-/
import Derived.Test.YthbkipmimkepkabSNamed
set_option linter.unusedSimpArgs false
set_option linter.unusedVariables false
namespace Go.Proofs.Ythbkipmimkepkab
open Go.RowKit
theorem step_sub {s s' : St} {a : Att} (h : stepP s a = some s') : ∀ p ∈ s'.2.2, p ∈ s.2.2 ∨ p = a := by
  unfold stepP at h
  split at h
  · cases h
    exact fun p hp => .inl hp
  · split at h
    · cases h
      intro p hp
      rcases List.mem_append.1 hp with hp | hp
      · exact .inl hp
      · exact .inr (List.mem_singleton.1 hp)
    · split at h
      · cases h
        exact fun p hp => .inl hp
      · cases h
theorem enter_sub : ∀ {l : List Att} {s s' : St}, enterP s l = some s' → ∀ p ∈ s'.2.2, p ∈ s.2.2 ∨ p ∈ l
  | [], s, s', h => by cases h; exact fun p hp => .inl hp
  | a :: l, s, s', h => by
    cases hs : stepP s a with
    | none => rw [enter_stop l hs] at h; cases h
    | some t =>
      rw [enter_step l hs] at h
      intro p hp
      rcases enter_sub h p hp with h1 | h1
      · rcases step_sub hs p h1 with h2 | h2
        · exact .inl h2
        · exact .inr (by rw [h2]; exact List.mem_cons_self)
      · exact .inr (List.mem_cons_of_mem _ h1)
theorem kids_snoc (f : Tr → Except Int Tr) (K : Tr) : ∀ (l : List Tr) (xs : List Tr), kidsP f l = .ok xs → ∀ N, f K = .ok N → kidsP f (l ++ [K]) = .ok (xs ++ [N])
  | [], xs, h, N, hN => by
    cases h
    simp only [List.nil_append, kidsP, hN]
  | a :: l, xs, h, N, hN => by
    simp only [kidsP] at h
    cases ha : f a with
    | error e => rw [ha] at h; cases h
    | ok x =>
      rw [ha] at h
      cases hl : kidsP f l with
      | error e => rw [hl] at h; cases h
      | ok ys =>
        rw [hl] at h
        cases h
        simp only [List.cons_append, kidsP, ha, kids_snoc f K l ys hl N hN]
theorem kids_err (f : Tr → Except Int Tr) (K : Tr) (q : Int) (hK : f K = .error q) (r : List Tr) : ∀ (l : List Tr) (xs : List Tr), kidsP f l = .ok xs → kidsP f (l ++ K :: r) = .error q
  | [], xs, h => by simp only [List.nil_append, kidsP, hK]
  | a :: l, xs, h => by
    simp only [kidsP] at h
    cases ha : f a with
    | error e => rw [ha] at h; cases h
    | ok x =>
      rw [ha] at h
      cases hl : kidsP f l with
      | error e => rw [hl] at h; cases h
      | ok ys => simp only [List.cons_append, kidsP, ha, kids_err f K q hK r l ys hl]
theorem take_snoc {α : Type} {l : List α} {j : Nat} {a : α} (h : l[j]? = some a) : l.take (j + 1) = l.take j ++ [a] := by
  rw [List.take_add_one, h]
  rfl
theorem take_drop_at {α : Type} {l : List α} {j : Nat} {a : α} (h : l[j]? = some a) : l = l.take j ++ a :: l.drop (j + 1) := by
  rw [← drop_at h, List.take_append_drop]
theorem NRow.turn {w w' : World} {H : Nat} {R R' : Nat → Prop} {n : Nat} {kv : Value} {ks : List Tr} (h : NRow w H R n kv ks) (ho : ∀ g, kv.ownBlock = some g → w'.heap[g]? = w.heap[g]?) (hk : ∀ k, R k → w'.heap[k]? = w.heap[k]?) (hR : ∀ k, R k → R' k) : NRow w' H R' n kv ks := by
  obtain ⟨qs, h1, h2, h3⟩ := h
  exact ⟨qs, own_keep h1 ho, h2, fun i q K e1 e2 => (h3 i q K e1 e2).turn hk hR⟩
/-- Blocks of trees that are done: new since w, and none of the rows' that still grow, nor the answer's. -/
def DoneK (w wr : World) (hv kv : Value) (nb : Nat) (k : Nat) : Prop := w.heap.size + 2 ≤ k ∧ k < wr.heap.size ∧ hv.ownBlock ≠ some k ∧ kv.ownBlock ≠ some k ∧ k ≠ nb
theorem Grew.other {w : World} {v v' : Value} (h : Grew w v v') {k : Nat} (hk : k < w.heap.size) (hv : v.ownBlock ≠ some k) : v'.ownBlock ≠ some k := by
  rcases h with h | ⟨g, h, hg⟩
  · rw [h]; exact hv
  · rw [h]
    intro e
    have := Option.some.inj e
    omega
theorem doneK_call {w wr U w4 : World} {sb mb : Nat} {hv hv' kv : Value} {nb : Nat} (hU : Below wr.heap.size wr U) (k4 : Keep (SS sb mb hv) U w4) (g : Grew U hv hv') (hs : sb < w.heap.size) (hm : mb < w.heap.size) {k : Nat} (h : DoneK w wr hv kv nb k) : w4.heap[k]? = wr.heap[k]? ∧ DoneK w w4 hv' kv nb k := by
  obtain ⟨h1, h2, h3, h4, h5⟩ := h
  have hkU : k < U.heap.size := Nat.lt_of_lt_of_le h2 hU.size
  refine ⟨?_, h1, Nat.lt_of_lt_of_le hkU k4.size, g.other hkU h3, h4, h5⟩
  rw [k4.block k hkU (by rintro (e | e | e); omega; omega; exact h3 e), hU.block k h2]
theorem doneK_append {w w4 w6 w7 X : World} {hv kv kv' : Value} {nb g : Nat} (hB : Below w4.heap.size w4 w6) (hgrow : w6.grownBy w7 kv.ownBlock) (hat : kv.ownBlock = some g ∨ g = w6.heap.size) (hkv' : kv'.ownBlock = some g) (hX : ∀ k, k ≠ nb → X.heap[k]? = w7.heap[k]?) (hXs : w7.heap.size ≤ X.heap.size) {k : Nat} (h : DoneK w w4 hv kv nb k) : X.heap[k]? = w4.heap[k]? ∧ DoneK w X hv kv' nb k := by
  obtain ⟨h1, h2, h3, h4, h5⟩ := h
  have hk6 : k < w6.heap.size := Nat.lt_of_lt_of_le h2 hB.size
  refine ⟨?_, h1, Nat.lt_of_lt_of_le hk6 (Nat.le_trans hgrow.size hXs), h3, ?_, h5⟩
  · rw [hX k h5, hgrow.block k hk6 (fun e => h4 e.symm), hB.block k h2]
  · rw [hkv']
    intro e
    have e := Option.some.inj e
    rcases hat with h6 | h6
    · rw [h6, e] at h4
      exact h4 rfl
    · omega
theorem EIn.form {w : World} : ∀ {n : Nat} {c0 c1 c2 c3 : Value} {T : Tr}, EIn w n c0 c1 c2 c3 T → ∃ nm a an ac k kn kc p, c0 = .string nm ∧ c1 = .slice a an ac ∧ c2 = .slice k kn kc ∧ c3 = .int .i64 p
  | 0, _, _, _, _, _, h => h.elim
  | n + 1, _, _, _, _, _, ⟨nm, p, l, ks, h0, h3, _, _, ⟨_, _, ⟨a, ac, h1, _⟩, _⟩, _, _, ⟨k, kc, h2, _⟩, _⟩ => ⟨nm, a, _, ac, k, _, kc, p, h0, h1, h2, h3⟩
theorem NInR.form {w : World} {R : Nat → Prop} : ∀ {n : Nat} {c0 c1 c2 c3 c4 : Value} {T : Tr}, NInR w R n c0 c1 c2 c3 c4 T → ∃ sp lo a an ac k kn kc p, c0 = .string sp ∧ c1 = .string lo ∧ c2 = .slice a an ac ∧ c3 = .slice k kn kc ∧ c4 = .int .i64 p
  | 0, _, _, _, _, _, _, h => h.elim
  | n + 1, _, _, _, _, _, _, ⟨sp, lo, p, l, ks, h0, h1, h4, _, ⟨_, _, ⟨a, ac, h2, _⟩, _⟩, _, _, ⟨k, kc, h3, _⟩, _⟩ => ⟨sp, lo, a, _, ac, k, _, kc, p, h0, h1, h2, h3, h4⟩
end Go.Proofs.Ythbkipmimkepkab
