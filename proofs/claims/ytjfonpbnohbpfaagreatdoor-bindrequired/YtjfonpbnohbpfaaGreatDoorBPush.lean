/-
  The binder in memory: an item more, a file more.
-/
import Derived.Test.YtjfonpbnohbpfaaGreatDoorBMem
set_option linter.unusedSimpArgs false
set_option linter.unusedVariables false
namespace Go.Proofs.YtjfonpbnohbpfaaGreatDoor
open Go.RowKit
set_option maxRecDepth 100000
/-- All blocks but the binder's own and those of its two rows. -/
def outQ (w : World) (b : Nat) (fv iv : Value) (k : Nat) : Prop := k < w.heap.size ∧ k ≠ b ∧ fv.ownBlock ≠ some k ∧ iv.ownBlock ≠ some k
theorem itemC_len (x : Mp.Item) (v5 v6 : Value) : (itemC x v5 v6).length = 7 := rfl
theorem getElem?_snoc {α : Type} {l : List α} {x y : α} {j : Nat} (h : (l ++ [x])[j]? = some y) : (j < l.length ∧ l[j]? = some y) ∨ (j = l.length ∧ y = x) := by
  by_cases hj : j < l.length
  · rw [List.getElem?_append_left hj] at h
    exact .inl ⟨hj, h⟩
  · rw [List.getElem?_append_right (by omega)] at h
    have h1 := (List.getElem?_eq_some_iff.1 h).1
    simp only [List.length_singleton] at h1
    have hj' : j - l.length = 0 := by omega
    rw [hj'] at h
    simp only [List.getElem?_cons_zero, Option.some.injEq] at h
    exact .inr ⟨by omega, h.symm⟩
theorem BMem.push {B b : Nat} {w X : World} {Q : Nat → Prop} {s : Bp.BS} {fv iv iv' o1 o2 : Value} {at_ : Int} {C : List (List Value)} (h : BMem B b w Q s fv iv o1 o2 at_ C) (x : Mp.Item) (h5 : x.entry = []) (h6 : x.exit = []) (hx : x.id.size ≤ 140737488355328 ∧ x.parent.size ≤ 140737488355328)
    (hl : Lies X b 61 #[fv, iv', .string x.id, o1, o2, .int .i64 at_]) (hi : X.ownsRow B 31 7 iv' (s.items.length + 1) (C.flatten ++ itemC x nilS nilS))
    (hk : ∀ k, outQ w b fv iv k → X.heap[k]? = w.heap[k]?) (hf : ∀ g, fv.ownBlock = some g → X.heap[g]? = w.heap[g]?) (hiv : ∀ k, k < w.heap.size → iv'.ownBlock = some k → iv.ownBlock = some k) (hs : w.heap.size ≤ X.heap.size) (hM : ∀ y ∈ s.items, y.entry.length ≤ 10000000000000 ∧ y.exit.length ≤ 10000000000000) :
    BMem B b X (outQ w b fv iv) ⟨s.files, s.items ++ [x], x.id⟩ fv iv' o1 o2 at_ (C ++ [itemC x nilS nilS]) := by
  have hq : ∀ k, Q k → outQ w b fv iv k := h.quiet
  have hk2 : ∀ k, Q k → X.heap[k]? = w.heap[k]? ∧ outQ w b fv iv k := fun k hh => ⟨hk k (hq k hh), hq k hh⟩
  have hk3 : ∀ k, outQ w b fv iv k → X.heap[k]? = w.heap[k]? ∧ outQ w b fv iv k := fun k hh => ⟨hk k hh, hh⟩
  refine ⟨hl, h.bB, h.so1, h.so2, own_keep h.files hf, h.fz, ?_, by simp [h.len], ?_, fun j y cs h1 h2 h3 => ?_, fun j y cs h1 h2 h3 => ?_, hx.1, fun k hh => ⟨Nat.lt_of_lt_of_le hh.1 hs, hh.2.1, hh.2.2.1, fun e => hh.2.2.2 (hiv k hh.1 e)⟩⟩
  · rw [List.flatten_append, List.length_append]
    simpa using hi
  · intro cs hcs
    rcases List.mem_append.1 hcs with hcs | hcs
    · exact h.seven cs hcs
    · rw [List.mem_singleton.1 hcs]
      rfl
  · simp only [List.length_append, List.length_singleton] at h1
    rw [List.getElem?_append_left (by omega)] at h2
    rw [List.getElem?_append_left (by rw [h.len]; omega)] at h3
    by_cases hj : j + 1 < s.items.length
    · exact (h.done j y cs hj h2 h3).turn hk2
    · obtain ⟨v5, v6, e, hz, g5, g6, f5, f6, hn⟩ := h.last j y cs (by omega) h2 h3
      obtain ⟨C5, q5, _⟩ := id g5
      obtain ⟨C6, q6, _⟩ := id g6
      have ob : ∀ {v : Value} {n : Nat} {xs : List Value}, w.ownsRow B 39 2 v n xs → ∀ g, v.ownBlock = some g → outQ w b fv iv g := fun {v n xs} ho g hg => by
        refine ⟨(own_lt ho hg).1, ?_, ?_, ?_⟩
        · intro e'
          rw [e'] at hg
          exact own_ne ho h.lies (by decide) hg
        · exact own_ne2 ho h.files (by decide) g hg
        · exact own_ne2 ho h.items (by decide) g hg
      have m5 := hM y (List.mem_of_getElem? h2)
      have r5 := ownS_row g5 (Q' := outQ w b fv iv) hq (ob q5) m5.1
      have r6 := ownS_row g6 (Q' := outQ w b fv iv) hq (ob q6) m5.2
      exact ⟨v5, v6, e, hz, r5.turn (fun _ _ _ hh => hh.turn hk3) hk3, r6.turn (fun _ _ _ hh => hh.turn hk3) hk3⟩
  · simp only [List.length_append, List.length_singleton] at h1
    rcases getElem?_snoc h2 with ⟨hj, _⟩ | ⟨hj, rfl⟩
    · omega
    rcases getElem?_snoc h3 with ⟨hj', _⟩ | ⟨_, rfl⟩
    · have := h.len; omega
    refine ⟨nilS, nilS, rfl, hx, ?_, ?_, Noff.nil _, Noff.nil _, fun g hg => by cases hg⟩
    · rw [h5]
      exact OwnS.nil _ _ _
    · rw [h6]
      exact OwnS.nil _ _ _
/-- The binder's parent alone is turned. -/
theorem BMem.parent {B b : Nat} {w : World} {Q : Nat → Prop} {s : Bp.BS} {fv iv o1 o2 : Value} {at_ : Int} {C : List (List Value)} (h : BMem B b w Q s fv iv o1 o2 at_ C) (p : ByteArray) (hp : p.size ≤ 140737488355328) : BMem B b (w.setCell ⟨b, 2, none⟩ (.string p)) Q { s with parent := p } fv iv o1 o2 at_ C := by
  have hne : ∀ k, Q k → (w.setCell ⟨b, 2, none⟩ (.string p)).heap[k]? = w.heap[k]? ∧ Q k := fun k hk => ⟨Below.heap_setCell _ _ _ _ (h.quiet k hk).2.1, hk⟩
  have ho : ∀ {v : Value} {H : Nat} {e : TypeId} {z n : Nat} {xs : List Value}, w.ownsRow H e z v n xs → 61 ≠ e → ∀ g, v.ownBlock = some g → (w.setCell ⟨b, 2, none⟩ (.string p)).heap[g]? = w.heap[g]? := fun ho he g hg => Below.heap_setCell _ _ _ _ (fun e' => own_ne ho h.lies he (hg.trans (by rw [e'])))
  refine ⟨h.lies.set 2 (.string p), h.bB, h.so1, h.so2, own_keep h.files (ho h.files (by decide)), h.fz, own_keep h.items (ho h.items (by decide)), h.len, h.seven, fun j x cs h1 h2 h3 => (h.done j x cs h1 h2 h3).turn hne, fun j x cs h1 h2 h3 => ?_, hp, fun k hk => ?_⟩
  · obtain ⟨v5, v6, e, hz, h5, h6, f5, f6, hn⟩ := h.last j x cs h1 h2 h3
    obtain ⟨C5, g5, _⟩ := id h5
    obtain ⟨C6, g6, _⟩ := id h6
    exact ⟨v5, v6, e, hz, h5.turn (ho g5 (by decide)) hne, h6.turn (ho g6 (by decide)) hne, f5, f6, hn⟩
  · obtain ⟨a1, a2, a3, a4⟩ := h.quiet k hk
    exact ⟨by simpa [World.setCell] using a1, a2, a3, a4⟩
/-- What is bound, as a model. -/
theorem BMem.model {B b : Nat} {w : World} {Q : Nat → Prop} {s : Bp.BS} {fv iv o1 o2 : Value} {at_ : Int} {C : List (List Value)} (h : BMem B b w Q s fv iv o1 o2 at_ C) (hf : s.files.length ≤ 1000000) (hi : s.items.length ≤ 1000000) (hM : ∀ y ∈ s.items, y.entry.length ≤ 10000000000000 ∧ y.exit.length ≤ 10000000000000) :
    ∃ fa fc ia ic, fv = .slice fa s.files.length fc ∧ iv = .slice ia s.items.length ic ∧ ModelAt w fa fc ia ic ⟨s.files, s.items⟩ := by
  obtain ⟨fa, fc, rfl⟩ := slice_form h.files
  obtain ⟨ia, ic, rfl⟩ := slice_form h.items
  refine ⟨fa, fc, ia, ic, rfl, rfl, frow_of_own h.files rfl (by omega) (fun f hf => h.fz f hf), ?_⟩
  rcases h.items.2 with ⟨hv, h0⟩ | ⟨g, cap, cur, hv, g1, g2, g3, g4, g5, g6⟩
  · have h00 : s.items = [] := List.eq_nil_of_length_eq_zero h0
    rw [hv]
    show IRow w _ s.items
    rw [h00]
    exact rowR_nil w
  · simp only [Value.slice.injEq, true_and] at hv
    obtain ⟨rfl, rfl⟩ := hv
    refine ⟨g, 0, ⟨_, _, rfl, g3, fun _ => rfl⟩, by show s.items.length ≤ _; omega, fun j x hx => ?_⟩
    have hj : j < s.items.length := (List.getElem?_eq_some_iff.1 hx).1
    have hC : C[j]? = some (C[j]'(by rw [h.len]; exact hj)) := List.getElem?_eq_getElem _
    refine ⟨_, h.seven _ (List.getElem_mem (by rw [h.len]; exact hj)), ?_, fun i c hc => ?_⟩
    · by_cases hl : j + 1 < s.items.length
      · exact (h.done j x _ hl hx hC).plain
      · obtain ⟨v5, v6, e, hz, h5, h6, f5, f6, hn⟩ := h.last j x _ (by omega) hx hC
        have m5 := hM x (List.mem_of_getElem? hx)
        refine ⟨v5, v6, e, hz, ?_, ?_⟩
        · exact (ownS_row h5 (Q' := fun _ => True) (fun _ _ => trivial) (fun _ _ => trivial) m5.1).plain (fun _ _ hh => hh.plain)
        · exact (ownS_row h6 (Q' := fun _ => True) (fun _ _ => trivial) (fun _ _ => trivial) m5.2).plain (fun _ _ hh => hh.plain)
    · rw [Nat.zero_add]
      exact own_cell h.items (flat_at C h.seven hC hc)
end Go.Proofs.YtjfonpbnohbpfaaGreatDoor
