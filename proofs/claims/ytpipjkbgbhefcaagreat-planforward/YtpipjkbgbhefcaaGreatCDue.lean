/-
  PLAIN: the timers that wait: in the queue just if they are Ready.
-/
import Derived.Test.YtpipjkbgbhefcaaGreatCPlain
import Derived.Test.YtpipjkbgbhefcaaGreatQPlain
set_option linter.unusedVariables false
set_option linter.unusedSimpArgs false
namespace Go.Proofs.YtpipjkbgbhefcaaGreat.Cp
open Mp
open Qp
/-- Each timer that is Ready is in L once, by when it is due; but for those of p. -/
structure TQ (m : Model) (st : St) (p : Nat → Prop) (L : List Thing) : Prop where
  nd : (L.map Prod.snd).Nodup
  mem : ∀ x ∈ L, ∃ k : Nat, k < m.items.length ∧ x.2 = (k : Int) ∧ (itm m k).kind = 5 ∧ x.1 = st.due k ∧ 1 ≤ at0 st.s k
  all : ∀ k, k < m.items.length → (itm m k).kind = 5 → at0 st.s k = 1 → ¬ p k → (st.due k, (k : Int)) ∈ L
theorem nd_len : ∀ (n : Nat) (l : List Int), l.Nodup → (∀ x ∈ l, 0 ≤ x ∧ x < n) → l.length ≤ n
  | 0, l, _, h => by
    cases l with
    | nil => exact Nat.le_refl _
    | cons a l => have := h a List.mem_cons_self; omega
  | n + 1, l, hn, h => by
    have h1 := nd_len n (l.erase n) (hn.erase _) (fun x hx => by
      have hm := (hn.mem_erase_iff).1 hx
      have := h x hm.2
      have := hm.1
      omega)
    by_cases hm : (n : Int) ∈ l
    · rw [List.length_erase_of_mem hm] at h1
      omega
    · rw [List.erase_of_not_mem hm] at h1
      omega
theorem TQ.few {m : Model} {st : St} {p : Nat → Prop} {L : List Thing} (h : TQ m st p L) : L.length ≤ m.items.length := by
  have := nd_len m.items.length (L.map Prod.snd) h.nd (fun x hx => by
    obtain ⟨y, hy, rfl⟩ := List.mem_map.1 hx
    obtain ⟨k, hk, e, _⟩ := h.mem y hy
    omega)
  rwa [List.length_map] at this
theorem TQ.perm {m : Model} {st : St} {p : Nat → Prop} {L L' : List Thing} (h : TQ m st p L) (hp : L'.Perm L) : TQ m st p L' :=
  ⟨(hp.map Prod.snd).nodup_iff.2 h.nd, fun x hx => h.mem x (hp.mem_iff.1 hx), fun k h1 h2 h3 h4 => hp.mem_iff.2 (h.all k h1 h2 h3 h4)⟩
theorem TQ.weak {m : Model} {st : St} {p q : Nat → Prop} {L : List Thing} (h : TQ m st p L) (hq : ∀ k, k < m.items.length → at0 st.s k = 1 → p k → q k) : TQ m st q L :=
  ⟨h.nd, h.mem, fun k h1 h2 h3 h4 => h.all k h1 h2 h3 (fun e => h4 (hq k h1 h3 e))⟩
def dueB (m : Model) (i : Nat) (e : Int) : Bool := decide ((itm m i).kind = 5) && decide (e = 1)
def dueA (m : Model) (st : St) (i : Nat) (e : Int) (L : List Thing) : List Thing := if dueB m i e then (st.now + (itm m i).ticks, (i : Int)) :: L else L
theorem behind_one {e : Int} (h : behind e = 1) : e = 1 := by
  unfold behind at h
  by_cases h1 : e = 1
  · exact h1
  · rw [if_neg h1] at h
    by_cases h2 : e = 2
    · rw [if_pos h2] at h; omega
    · rw [if_neg h2] at h
      by_cases h3 : e = 5
      · rw [if_pos h3] at h; omega
      · rw [if_neg h3] at h; omega
theorem TQ.step {m : Model} {st : St} {p : Nat → Prop} {L L' : List Thing} (h : TQ m st p L) (hn : st.s.length = m.items.length) {k : Nat} (hk : k < m.items.length) {e : Int} (hf : fit (itm m k).kind (at0 st.s k) e) (he : e ≠ 0) (hp : L'.Perm (dueA m st k e L)) :
    TQ m (doE m st k e) (fun j => p j ∧ j ≠ k) L' := by
  have hb := behind_up hf he
  have hs : ∀ j, at0 (doE m st k e).s j = if j = k then behind e else at0 st.s j := fun j => by
    show at0 (st.s.set k _) j = _
    exact at0_set (by omega) _ _
  by_cases hd : (itm m k).kind = 5 ∧ e = 1
  · obtain ⟨hd1, rfl⟩ := hd
    have hdue : ∀ j, (doE m st k 1).due j = if j = k then st.now + (itm m k).ticks else st.due j := fun j => by
      unfold doE
      simp only
      rw [if_pos ⟨hd1, trivial⟩]
    have hA : dueA m st k 1 L = (st.now + (itm m k).ticks, (k : Int)) :: L := by
      unfold dueA dueB
      rw [decide_eq_true hd1]
      rfl
    rw [hA] at hp
    have h0 : at0 st.s k = 0 := by
      unfold fit at hf
      omega
    have hnew : TQ m (doE m st k 1) (fun j => p j ∧ j ≠ k) ((st.now + (itm m k).ticks, (k : Int)) :: L) := by
      refine ⟨?_, fun x hx => ?_, fun j h1 h2 h3 h4 => ?_⟩
      · rw [List.map_cons, List.nodup_cons]
        refine ⟨fun hm => ?_, h.nd⟩
        obtain ⟨y, hy, e2⟩ := List.mem_map.1 hm
        obtain ⟨j, _, e3, _, _, h5⟩ := h.mem y hy
        have : j = k := by simp only at e2; omega
        subst this
        omega
      · rcases List.mem_cons.1 hx with rfl | hx
        · exact ⟨k, hk, rfl, hd1, by rw [hdue, if_pos rfl], by rw [hs, if_pos rfl]; omega⟩
        · obtain ⟨j, h1, h2, h3, h4, h5⟩ := h.mem x hx
          have hjk : j ≠ k := fun e => by subst e; omega
          exact ⟨j, h1, h2, h3, by rw [hdue, if_neg hjk]; exact h4, by rw [hs, if_neg hjk]; exact h5⟩
      · by_cases hjk : j = k
        · subst hjk
          rw [hdue, if_pos rfl]
          exact List.mem_cons_self
        · rw [hs, if_neg hjk] at h3
          rw [hdue, if_neg hjk]
          exact List.mem_cons_of_mem _ (h.all j h1 h2 h3 (fun e => h4 ⟨e, hjk⟩))
    exact hnew.perm hp
  · have hdue : (doE m st k e).due = st.due := by
      unfold doE
      simp only
      rw [if_neg hd]
    have hA : dueA m st k e L = L := by
      unfold dueA
      rw [if_neg]
      unfold dueB
      simp only [Bool.and_eq_true, decide_eq_true_eq]
      exact hd
    rw [hA] at hp
    have hnew : TQ m (doE m st k e) (fun j => p j ∧ j ≠ k) L := by
      refine ⟨h.nd, fun x hx => ?_, fun j h1 h2 h3 h4 => ?_⟩
      · obtain ⟨j, h1, h2, h3, h4, h5⟩ := h.mem x hx
        refine ⟨j, h1, h2, h3, by rw [hdue]; exact h4, ?_⟩
        rw [hs]
        split
        · omega
        · exact h5
      · rw [hdue]
        by_cases hjk : j = k
        · subst hjk
          rw [hs, if_pos rfl] at h3
          exact absurd ⟨h2, behind_one h3⟩ hd
        · rw [hs, if_neg hjk] at h3
          exact h.all j h1 h2 h3 (fun e => h4 ⟨e, hjk⟩)
    exact hnew.perm hp
theorem shut_keep {m : Model} {st : St} {d : List Int} (hl : d.length = m.items.length) {j : Nat} (h1 : at0 st.s j = 1) (h0 : at0 d j ≠ 0) : ∀ k, k ≤ m.items.length → at0 (shutN m st d k) j ≠ 0
  | 0, _ => h0
  | k + 1, hk => by
    have ih := shut_keep hl h1 h0 k (by omega)
    rw [shutN]
    split
    · rw [at0_set (by rw [shut_len, hl]; omega)]
      split
      · rename_i e
        subst e
        rw [if_pos (there_iff.2 (.inl h1))]
        decide
      · exact ih
    · exact ih
theorem hap_le {m : Model} {st : St} {d : List Int} (g : Good m st) (hf : Fits m st d) (k : Nat) (hk : k ≤ m.items.length) : sumS (hapN m d st k).s ≤ 4 * m.items.length := by
  have := sum_le (l := (hapN m d st k).s) (fun i hi => by
    rw [hap_s_len, g.ns] at hi
    rw [hap_s g.ns k hk]
    split
    · rename_i h0
      exact (behind_up (hf.each i hi) h0.2).2.2.1
    · exact (g.rng i hi).2)
  rwa [hap_s_len, g.ns] at this
theorem hap_yes {m : Model} {st : St} {d : List Int} {k : Nat} (h : at0 d k ≠ 0) : hapN m d st (k + 1) = doE m (hapN m d st k) k (at0 d k) := by rw [hapN, if_neg h]
theorem hap_no {m : Model} {st : St} {d : List Int} {k : Nat} (h : at0 d k = 0) : hapN m d st (k + 1) = hapN m d st k := by rw [hapN, if_pos h]
theorem fit_hap {m : Model} {st : St} {d : List Int} (g : Good m st) (hf : Fits m st d) {k : Nat} (hk : k < m.items.length) : fit (itm m k).kind (at0 (hapN m d st k).s k) (at0 d k) := by
  rw [hap_s g.ns k (by omega), if_neg (by omega)]
  exact hf.each k hk
theorem ticks_ok {m : Model} (hl : isB m = true) {k : Nat} (hk : k < m.items.length) : (itm m k).kind = 5 → 1 ≤ (itm m k).ticks ∧ (itm m k).ticks ≤ 100 := by
  intro h5
  unfold isB at hl
  simp only [Bool.and_eq_true] at hl
  have hi := List.all_eq_true.1 hl.2 _ (List.mem_of_getElem? (itm_at hk))
  unfold itemB at hi
  simp only [Bool.and_eq_true] at hi
  have ht := hi.1.1.1.2
  unfold ticksB at ht
  rw [if_pos h5] at ht
  simpa using ht
theorem kind_ok {m : Model} (hl : isB m = true) {k : Nat} (hk : k < m.items.length) : 1 ≤ (itm m k).kind ∧ (itm m k).kind ≤ 5 := by
  unfold isB at hl
  simp only [Bool.and_eq_true] at hl
  have hi := List.all_eq_true.1 hl.2 _ (List.mem_of_getElem? (itm_at hk))
  unfold itemB at hi
  simp only [Bool.and_eq_true] at hi
  have ht := hi.1.1.1.1
  unfold kindB at ht
  simpa using ht
theorem fit_rng {k s e : Int} (h : fit k s e) : 0 ≤ e ∧ e ≤ 5 := by
  unfold fit at h
  omega
end Go.Proofs.YtpipjkbgbhefcaaGreat.Cp
