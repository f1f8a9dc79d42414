/-
  PLAIN: what is there stands in what is Open; what stands in what waits waits.
-/
import Derived.Test.YtpipjkbgbhefcaaGreatCQuiet
set_option linter.unusedVariables false
set_option linter.unusedSimpArgs false
namespace Go.Proofs.YtpipjkbgbhefcaaGreat.Cp
open Mp
/-- Item k and what it stands in. -/
def WithinA (m : Model) (s : List Int) (k : Nat) : Prop := (at0 s k = 1 ∨ at0 s k = 2 → at0 s (parI m k) = 2) ∧ (at0 s (parI m k) = 0 ∨ at0 s (parI m k) = 1 → at0 s k = 0)
def Within (m : Model) (st : St) : Prop := ∀ k, k ≠ 0 → k < m.items.length → WithinA m st.s k
def Born (m : Model) (st : St) (d : List Int) : Prop := ∀ k, k ≠ 0 → k < m.items.length → at0 d k = 1 → at0 st.s (parI m k) = 2
theorem shut_or (m : Model) (st : St) (d : List Int) (hd : d.length = m.items.length) (i : Nat) : ∀ k, k ≤ m.items.length → (at0 (shutN m st d k) i = at0 d i ∨ at0 (shutN m st d k) i = 5 ∨ at0 (shutN m st d k) i = 0)
  | 0, _ => .inl rfl
  | k + 1, hk => by
    have ih := shut_or m st d hd i k (by omega)
    rw [shutN]
    split
    · rw [at0_set (by rw [shut_len]; omega)]
      split
      · split
        · exact .inr (.inl rfl)
        · exact .inr (.inr rfl)
      · exact ih
    · exact ih
theorem shut_ends {m : Model} {st : St} {d : List Int} (hl : isB m = true) (hd : d.length = m.items.length) {k : Nat} (h0 : k ≠ 0) (hk : k < m.items.length) (he : endsB (at0 (shut m st d) (parI m k)) = true) : at0 (shut m st d) k = if thereB (at0 st.s k) then 5 else 0 := by
  have hp := par_below hl h0 hk
  unfold shut at he ⊢
  rw [shut_later m st d hd m.items.length (by omega) (Nat.le_refl _), ← shut_later m st d hd k hp (by omega)] at he
  rw [shut_later m st d hd m.items.length hk (Nat.le_refl _), shutN, if_pos ⟨h0, he⟩, at0_set (by rw [shut_len]; omega), if_pos rfl]
theorem round_s {m : Model} {st : St} (d : List Int) (g : Good m st) (i : Nat) (hi : i < m.items.length) : at0 (roundS m st d).s i = if at0 (shut m st d) i ≠ 0 then behind (at0 (shut m st d) i) else at0 st.s i := by
  have h : at0 (doneR m st d).s i = if i < m.items.length ∧ at0 (shut m st d) i ≠ 0 then behind (at0 (shut m st d) i) else at0 st.s i := hap_s g.ns _ (Nat.le_refl _) i
  have e : (roundS m st d).s = (doneR m st d).s := by
    unfold roundS
    split <;> rfl
  rw [e, h]
  by_cases c : at0 (shut m st d) i ≠ 0
  · rw [if_pos ⟨hi, c⟩, if_pos c]
  · rw [if_neg (fun x => c x.2), if_neg c]
theorem behind_two {e : Int} (h : behind e = 2) : e = 2 := by
  unfold behind at h
  by_cases h1 : e = 1
  · rw [if_pos h1] at h; omega
  · rw [if_neg h1] at h
    by_cases h2 : e = 2
    · exact h2
    · rw [if_neg h2] at h
      by_cases h3 : e = 5
      · rw [if_pos h3] at h; omega
      · rw [if_neg h3] at h; omega
theorem within_round {m : Model} {st : St} {d : List Int} (hl : isB m = true) (g : Good m st) (hf : Fits m st d) (hb : Born m st d) (h : Within m st) : Within m (roundS m st d) := by
  intro k h0 hk
  have hp := par_below hl h0 hk
  have hfs := fits_shutA hf
  have fk := hfs.each k hk
  have fp := hfs.each (parI m k) (by omega)
  have sk := round_s d g k hk
  have sp := round_s d g (parI m k) (by omega)
  obtain ⟨ha, hw⟩ := h k h0 hk
  have hends := fun he => shut_ends (st := st) (d := d) hl hf.len h0 hk he
  have hor := shut_or m st d hf.len k m.items.length (Nat.le_refl _)
  have hbk := hb k h0 hk
  have hborn : at0 (shut m st d) k = 1 → at0 st.s (parI m k) = 2 := fun e => by
    unfold shut at e
    rw [e] at hor
    exact hbk (by omega)
  clear hor hbk hb hfs
  revert sk sp fk fp ha hw hends hborn
  unfold WithinA
  generalize at0 (roundS m st d).s k = s1
  generalize at0 (roundS m st d).s (parI m k) = p1
  generalize at0 (shut m st d) k = e
  generalize at0 (shut m st d) (parI m k) = f
  generalize at0 st.s k = s
  generalize at0 st.s (parI m k) = p
  intro fk fp sk sp ha hw hends hborn
  have hpar : p = 2 → f = 3 ∨ f = 5 → e = if thereB s then 5 else 0 := fun _ hf => hends (ends_iff.2 (by omega))
  have ek : e = 0 ∨ e ≠ 0 := by omega
  have ep : f = 0 ∨ f ≠ 0 := by omega
  refine ⟨fun h12 => ?_, fun h01 => ?_⟩
  · have hp2 : p = 2 ∧ (e = 0 ∧ (s = 1 ∨ s = 2) ∨ e = 1 ∨ e = 2) := by
      rcases ek with ek | ek
      · rw [if_neg (fun x => x ek)] at sk
        rw [sk] at h12
        exact ⟨ha h12, .inl ⟨ek, h12⟩⟩
      · rw [if_pos ek] at sk
        rw [sk] at h12
        rcases h12 with h12 | h12
        · have := behind_one h12
          exact ⟨hborn this, .inr (.inl this)⟩
        · have := behind_two h12
          refine ⟨ha ?_, .inr (.inr this)⟩
          unfold fit at fk
          omega
    have hf0 : f = 0 := by
      rcases ep with ep | ep
      · exact ep
      · exfalso
        have h35 : f = 3 ∨ f = 5 := by
          unfold fit at fp
          omega
        have := hpar hp2.1 h35
        rcases hp2.2 with ⟨x, y⟩ | x
        · rw [if_pos (there_iff.2 y)] at this
          omega
        · revert this
          split <;> omega
    rw [sp, if_neg (fun x => x hf0)]
    exact hp2.1
  · have hp01 : p = 0 ∨ p = 1 := by
      rcases ep with ep | ep
      · rw [if_neg (fun x => x ep)] at sp
        omega
      · rw [if_pos ep] at sp
        have hbu := behind_up fp ep
        have : behind f = 1 := by omega
        have := behind_one this
        unfold fit at fp
        omega
    have hs := hw hp01
    have he0 : e = 0 := by
      rcases ek with ek | ek
      · exact ek
      · exfalso
        have : e = 1 := by
          unfold fit at fk
          omega
        have := hborn this
        omega
    rw [sk, if_neg (fun x => x he0)]
    exact hs
theorem state_par {m : Model} {st : St} {k : Nat} (h : stateN m st (itm m k).parent ≠ 0) : stateN m st (itm m k).parent = at0 st.s (parI m k) := by
  unfold stateN at h ⊢
  cases hp : placeO m.items (itm m k).parent with
  | none => rw [hp] at h; exact absurd rfl h
  | some j =>
    show at0 st.s j = at0 st.s (parI m k)
    unfold parI placeZ
    rw [hp]
    rfl
theorem born_judged (m : Model) (st : St) : Born m st (judged m st) := by
  intro k h0 hk h
  unfold judged at h
  rw [at0_map _ hk] at h
  rcases creates_or m st k with c | ⟨c, _, c2⟩
  · exfalso
    unfold judge or0 at h
    rcases exits_or m st k with e | ⟨e, _⟩ <;> rcases starts_or m st k with g | ⟨g, _⟩ | ⟨g, _⟩ <;> rcases completes_or m st k with b | ⟨b, _⟩ <;> rw [e, g, c, b] at h <;> simp at h
  · rw [← state_par (by omega)]
    exact c2
theorem within_rest {m : Model} (hl : isB m = true) {st : St} (g : Good m st) (h : Within m st) : Within m (rest m st) :=
  (rest_ind (Within m) (fun st h g => within_round hl g (fits_judged m st) (born_judged m st) h) 80 st h g).1
theorem within_goes {m : Model} (hl : isB m = true) {st : St} {d : List Int} (g : Good m st) (hf : Fits m st d) (hb : Born m st d) (h : Within m st) : Within m (goes m st d) :=
  within_rest hl (good_round g hf).1 (within_round hl g hf hb h)
theorem do_within {m : Model} (hl : isB m = true) {st : St} (g : Good m st) (h : Within m st) (a : ActP) : Within m (doP m st a).2 := by
  unfold doP
  split
  · exact h
  split
  · exact h
  split
  · unfold userP
    split
    · exact h
    · rename_i i hi
      split
      · exact h
      split
      · rename_i hm
        obtain ⟨x, hx, _⟩ := find_some_inv hi
        have hil := (List.getElem?_eq_some_iff.1 hx).1
        refine within_goes hl g (one_fits (mayU_fit hm) hil) (fun k _ _ hk => ?_) h
        exfalso
        unfold oneD at hk
        rw [at0_set (by simpa using hil), at0_rep] at hk
        split at hk
        · rw [hk] at hm
          unfold mayU at hm
          simp at hm
        · cases hk
      · exact h
  split
  · unfold writeP
    split
    · exact h
    · split
      · exact h
      · exact within_rest hl (good_file g _ _) h
  · refine within_goes hl (good_tick g) (due_fit m _) (fun k _ hk' hk => ?_) h
    exfalso
    unfold dueD at hk
    rw [at0_map _ hk'] at hk
    split at hk
    · cases hk
    · cases hk
theorem within_new {m : Model} (hl : isB m = true) : Within m (newP m) := by
  have h1 := (is_parts hl).1
  refine within_rest hl (good_st0 h1) (fun k h0 hk => ?_)
  have hs : at0 (st0 m).s k = 0 := by
    show at0 ((List.replicate m.items.length 0).set 0 2) k = 0
    rw [at0_set (by simp; omega), at0_rep, if_neg h0]
  exact ⟨fun h => by omega, fun _ => hs⟩
theorem quiet_born {m : Model} {st : St} (q : Quiet m st) {k : Nat} (hk : k < m.items.length) (hs : at0 st.s k = 0) : stateN m st (itm m k).parent ≠ 2 := by
  intro hp
  have h := q k hk
  have hc : createsI m st k = 1 := if_pos ⟨hs, hp⟩
  have he : exitsI m st k = 0 := by
    rcases exits_or m st k with e | ⟨_, e⟩
    · exact e
    · omega
  have hg : startsI m st k = 0 := by
    rcases starts_or m st k with e | ⟨_, e, _⟩ | ⟨_, e⟩
    · exact e
    · omega
    · omega
  unfold judge or0 at h
  rw [he, hg, hc] at h
  simp at h
/-- All that the law asks of item k. -/
theorem within_all {m : Model} {st : St} (hl : isB m = true) (g : Good m st) (q : Quiet m st) (h : Within m st) {k : Nat} (h0 : k ≠ 0) (hk : k < m.items.length) :
    ∃ s p : Int, stateN m st (itm m k).id = s ∧ stateN m st (itm m k).parent = p ∧ (s = 0 ∨ s = 1 ∨ s = 2 ∨ s = 3 ∨ s = 4) ∧ (p = 0 ∨ p = 1 ∨ p = 2 ∨ p = 3 ∨ p = 4) ∧ (s = 1 ∨ s = 2 → p = 2) ∧ (p = 0 ∨ p = 1 → s = 0) ∧ (p = 2 → s ≠ 0) := by
  obtain ⟨j, hj, hpo⟩ : ∃ j, j < k ∧ placeO m.items (itm m k).parent = some j := by
    obtain ⟨_, _, hp⟩ := is_parts hl
    obtain ⟨_, _, h⟩ := hp k _ (itm_at hk)
    have := h h0
    unfold placeZ at this
    cases hq : placeO m.items (itm m k).parent with
    | none => rw [hq] at this; simp at this
    | some j => rw [hq] at this; exact ⟨j, by simp at this; omega, rfl⟩
  have hpar : parI m k = j := by
    unfold parI placeZ
    rw [hpo]
    rfl
  have hst : stateN m st (itm m k).parent = at0 st.s j := by unfold stateN; rw [hpo]
  have hself : stateN m st (itm m k).id = at0 st.s k := by unfold stateN; rw [place_self hl hk]
  have r1 := g.rng k hk
  have r2 := g.rng j (by omega)
  obtain ⟨ha, hw⟩ := h k h0 hk
  rw [hpar] at ha hw
  refine ⟨_, _, hself, hst, by omega, by omega, ha, hw, fun e hs => ?_⟩
  exact quiet_born q hk hs (by rw [hst]; exact e)
end Go.Proofs.YtpipjkbgbhefcaaGreat.Cp
