/-
  Several texts in one: each opens with its own word.
-/
import Derived.Test.YtpipjkbgbhefcaaGreatCDue
import Derived.Test.YtpipjkbgbhefcaaGreatCLaw
import Derived.Test.YtpipjkbgbhefcaaGreatCJudge
import Derived.Laws.CopyOwn
/-
  PLAIN: behind each act nothing is left to do.
-/
set_option linter.unusedVariables false
set_option linter.unusedSimpArgs false
namespace Go.Proofs.YtpipjkbgbhefcaaGreat.Cp
open Mp
def Quiet (m : Model) (st : St) : Prop := ∀ i, i < m.items.length → judge m st i = 0
theorem par_below {m : Model} (hl : isB m = true) {k : Nat} (h0 : k ≠ 0) (hk : k < m.items.length) : parI m k < k := by
  obtain ⟨_, _, hp⟩ := is_parts hl
  obtain ⟨_, _, h⟩ := hp k _ (itm_at hk)
  have := h h0
  unfold parI
  omega
theorem shut_later (m : Model) (st : St) (d : List Int) (hd : d.length = m.items.length) {i : Nat} : ∀ k, i < k → k ≤ m.items.length → at0 (shutN m st d k) i = at0 (shutN m st d (i + 1)) i
  | 0, h, _ => by omega
  | k + 1, h, hk => by
    by_cases e : i = k
    · rw [e]
    · have ih := shut_later m st d hd (i := i) k (by omega) (by omega)
      rw [← ih, shutN]
      split
      · rw [at0_set (l := shutN m st d k) (i := k) (by rw [shut_len, hd]; omega), if_neg e]
      · rfl
theorem shut_zero {m : Model} {st : St} {d : List Int} (hl : isB m = true) (hd : d.length = m.items.length) (hz : ∀ i, i < m.items.length → at0 (shut m st d) i = 0) : ∀ n i, i < n → i < m.items.length → at0 d i = 0
  | 0, i, h, _ => by omega
  | n + 1, i, h, hi => by
    have ih : ∀ j, j < i → at0 d j = 0 := fun j hj => shut_zero hl hd hz n j (by omega) (by omega)
    have same : ∀ k, k ≤ i + 1 → shutN m st d k = d := by
      intro k
      induction k with
      | zero => intro _; rfl
      | succ k ihk =>
        intro hk
        have e := ihk (by omega)
        rw [shutN, e]
        split
        · rename_i hc
          have hp := par_below hl hc.1 (by omega)
          rw [ih _ (by omega)] at hc
          exact absurd hc.2 (by decide)
        · rfl
    have h1 := hz i hi
    unfold shut at h1
    rw [shut_later m st d hd _ hi (Nat.le_refl _), same (i + 1) (Nat.le_refl _)] at h1
    exact h1
theorem some_none {d : List Int} {n : Nat} (hd : d.length = n) (h : someN d n = false) {i : Nat} (hi : i < n) : at0 d i = 0 := by
  unfold someN at h
  rw [List.take_of_length_le (by omega)] at h
  have := List.any_eq_false.1 h (at0 d i) (List.mem_of_getElem? (at0_get (by omega)))
  simpa using this
theorem quiet_of {m : Model} {st : St} (hl : isB m = true) (h : someR m st (judged m st) = false) : Quiet m st := by
  have hlen : (judged m st).length = m.items.length := (fits_judged m st).len
  have hz := shut_zero hl hlen (fun i hi => some_none (by unfold shut; rw [shut_len, hlen]) h hi) m.items.length
  intro i hi
  have := hz i hi hi
  unfold judged at this
  rwa [at0_map _ hi] at this
theorem items_le {m : Model} (hl : isB m = true) : m.items.length ≤ 16 := by
  unfold isB at hl
  simp only [Bool.and_eq_true] at hl
  have := hl.1.1.1.2
  unfold idsB at this
  simp only [Bool.and_eq_true, decide_eq_true_eq] at this
  omega
theorem quiet_rest {m : Model} {st : St} (hl : isB m = true) (g : Good m st) : Quiet m (rest m st) := quiet_of hl (rest_quiet 80 g (by have := items_le hl; omega))
theorem quiet_goes {m : Model} {st : St} {d : List Int} (hl : isB m = true) (g : Good m st) (hf : Fits m st d) : Quiet m (goes m st d) := quiet_rest hl (good_round g hf).1
theorem round_now (m : Model) (st : St) (d : List Int) : (roundS m st d).now = st.now := by
  unfold roundS
  split
  · exact (hap_rest m _ st _).2.1
  · exact (hap_rest m _ st _).2.1
theorem rest_now (m : Model) : ∀ (k : Nat) (st : St), (restN m k st).now = st.now
  | 0, st => rfl
  | k + 1, st => by
    rw [restN]
    split
    · rw [rest_now m k, round_now]
    · rfl
theorem goes_now (m : Model) (st : St) (d : List Int) : (goes m st d).now = st.now := by
  unfold goes rest
  rw [rest_now, round_now]
theorem one_fits {m : Model} {st : St} {i : Nat} {e : Int} (h : fit (itm m i).kind (at0 st.s i) e) (hi : i < m.items.length) : Fits m st (oneD m.items.length i e) := by
  refine ⟨by unfold oneD; simp, fun j hj => ?_⟩
  unfold oneD
  rw [at0_set (by simpa using hi), at0_rep]
  split
  · rename_i e'
    subst e'
    exact h
  · exact .inl rfl
theorem due_fit (m : Model) (st : St) : Fits m st (dueD m st) := by
  refine ⟨by unfold dueD; simp, fun i hi => ?_⟩
  unfold dueD
  rw [at0_map _ hi]
  unfold fit
  split
  · rename_i h
    omega
  · exact .inl rfl
theorem mayU_fit {k s e : Int} (h : mayU k s e = true) : fit k s e := by
  unfold mayU at h
  unfold fit
  by_cases h3 : e = 3
  · rw [if_pos h3] at h
    simp only [Bool.and_eq_true, decide_eq_true_eq] at h
    omega
  rw [if_neg h3] at h
  by_cases h4 : e = 4
  · rw [if_pos h4] at h
    simp only [Bool.and_eq_true, decide_eq_true_eq] at h
    omega
  rw [if_neg h4] at h
  by_cases h5 : e = 5
  · rw [if_pos h5] at h
    have := there_iff.1 h
    omega
  · rw [if_neg h5] at h
    cases h
/-- What a property of cases must have to hold behind each act. -/
theorem do_ind {m : Model} (hl : isB m = true) (I : St → Prop) (hg : ∀ st d, Good m st → I st → Fits m st d → I (goes m st d)) (hw : ∀ st i n, Good m st → I st → I (rest m { st with f := st.f.set i n })) (ht : ∀ st, Good m st → I st → I (goes m (tick1 st) (dueD m (tick1 st))))
    {st : St} (g : Good m st) (h : I st) (a : ActP) : I (doP m st a).2 ∧ (doP m st a).2.now ≤ st.now + 1 := by
  have same : I st ∧ st.now ≤ st.now + 1 := ⟨h, by omega⟩
  unfold doP
  split
  · exact same
  split
  · exact same
  split
  · unfold userP
    split
    · exact same
    · rename_i i hi
      split
      · exact same
      split
      · rename_i hm
        obtain ⟨x, hx, _⟩ := find_some_inv hi
        have hil := (List.getElem?_eq_some_iff.1 hx).1
        refine ⟨hg st _ g h (one_fits (mayU_fit hm) hil), ?_⟩
        show (goes m st _).now ≤ _
        rw [goes_now]
        omega
      · exact same
  split
  · unfold writeP
    split
    · exact same
    · split
      · exact same
      · refine ⟨hw st _ _ g h, ?_⟩
        show (rest m _).now ≤ _
        unfold rest
        rw [rest_now]
        show st.now ≤ _
        omega
  · refine ⟨ht st g h, ?_⟩
    show (goes m (tick1 st) _).now ≤ _
    rw [goes_now]
    exact Int.le_refl _
theorem good_file {m : Model} {st : St} (g : Good m st) (i : Nat) (n : Int) : Good m { st with f := st.f.set i n } := ⟨g.ns, g.rng, by show (st.f.set i n).length = _; rw [List.length_set]; exact g.nf, g.r0, g.few⟩
theorem good_tick {m : Model} {st : St} (g : Good m st) : Good m (tick1 st) := ⟨g.ns, g.rng, g.nf, g.r0, g.few⟩
theorem do_quiet {m : Model} (hl : isB m = true) {st : St} (g : Good m st) (q : Quiet m st) (a : ActP) : Quiet m (doP m st a).2 ∧ (doP m st a).2.now ≤ st.now + 1 :=
  do_ind hl (Quiet m) (fun st d g _ hf => quiet_goes hl g hf) (fun st i n g _ => quiet_rest hl (good_file g i n)) (fun st g _ => quiet_goes hl (good_tick g) (due_fit m _)) g q a
theorem quiet_new {m : Model} (hl : isB m = true) : Quiet m (newP m) := quiet_rest hl (good_st0 (is_parts hl).1)
theorem new_now (m : Model) : (newP m).now = 0 := by unfold newP rest; rw [rest_now]; rfl
/-- What a quiet case tells of an item. -/
theorem quiet_exit {m : Model} {st : St} (q : Quiet m st) {k : Nat} (hk : k < m.items.length) (hs : at0 st.s k = 1 ∨ at0 st.s k = 2) {x : Sent} (hx : x ∈ (itm m k).exit) : hold m st x = false := by
  have h := q k hk
  cases hh : hold m st x with
  | false => rfl
  | true =>
    exfalso
    have he : exitsI m st k = 5 := by
      unfold exitsI
      rw [there_iff.2 hs, List.any_eq_true.2 ⟨x, hx, hh⟩]
      rfl
    unfold judge or0 at h
    rw [he] at h
    simp at h
theorem quiet_may {m : Model} {st : St} (q : Quiet m st) {k : Nat} (hk : k < m.items.length) (h3 : (itm m k).kind = 1 ∨ (itm m k).kind = 2 ∨ (itm m k).kind = 3) : mayB m st k = false := by
  have h := q k hk
  cases hm : mayB m st k with
  | false => rfl
  | true =>
    exfalso
    have he : exitsI m st k = 0 := by
      unfold mayB at hm
      simp only [Bool.and_eq_true, decide_eq_true_eq] at hm
      exact hm.1.2
    unfold judge at h
    unfold startsI at h
    rw [he, hm] at h
    unfold or0 at h
    rcases h3 with h3 | h3 | h3 <;> rw [h3] at h <;> simp at h
theorem quiet_none {m : Model} {st : St} (q : Quiet m st) {k : Nat} (hk : k < m.items.length) (hs : at0 st.s k = 1) : exitsI m st k = 0 := by
  have h := q k hk
  rcases exits_or m st k with e | ⟨e, _⟩
  · exact e
  · exfalso
    unfold judge or0 at h
    rw [e] at h
    simp at h
theorem quiet_entry {m : Model} {st : St} (hl : isB m = true) (q : Quiet m st) {k : Nat} (hk : k < m.items.length) (hs : at0 st.s k = 1) {x : Sent} (hx : x ∈ (itm m k).entry) : hold m st x = false := by
  cases hh : hold m st x with
  | false => rfl
  | true =>
    exfalso
    have hkd := kind_ok hl hk
    by_cases h45 : (itm m k).kind = 4 ∨ (itm m k).kind = 5
    · unfold isB at hl
      simp only [Bool.and_eq_true] at hl
      have hi := List.all_eq_true.1 hl.2 _ (List.mem_of_getElem? (itm_at hk))
      unfold itemB at hi
      simp only [Bool.and_eq_true] at hi
      have hw := hi.1.1.2
      unfold waitB at hw
      rw [if_pos h45] at hw
      simp only [Bool.and_eq_true, decide_eq_true_eq] at hw
      have : (itm m k).entry = [] := List.eq_nil_of_length_eq_zero hw.2
      rw [this] at hx
      cases hx
    · have hm := quiet_may q hk (by omega)
      unfold mayB at hm
      rw [decide_eq_true hs, decide_eq_true (quiet_none q hk hs), List.any_eq_true.2 ⟨x, hx, hh⟩] at hm
      simp at hm
theorem quiet_free {m : Model} {st : St} (q : Quiet m st) {k : Nat} (hk : k < m.items.length) (hs : at0 st.s k = 1) (h3 : (itm m k).kind ≤ 3) (hk1 : 1 ≤ (itm m k).kind) (he : (itm m k).entry.length = 0) : False := by
  have hm := quiet_may q hk (by omega)
  unfold mayB at hm
  rw [decide_eq_true hs, decide_eq_true (quiet_none q hk hs), decide_eq_true he] at hm
  simp at hm
theorem place_self {m : Model} (hl : isB m = true) {k : Nat} (hk : k < m.items.length) : placeO m.items (itm m k).id = some k := by
  obtain ⟨_, ho, _⟩ := is_parts hl
  refine find_some (itm_at hk) (decide_eq_true rfl) (fun j y hj hy => decide_eq_false fun e => ?_)
  have := ho j k y _ hy (itm_at hk) e
  omega
end Go.Proofs.YtpipjkbgbhefcaaGreat.Cp
/-
  PLAIN: what is there stands in what is Open; what stands in what waits waits.
-/
set_option linter.unusedVariables false
set_option linter.unusedSimpArgs false
namespace Go.Proofs.YtpipjkbgbhefcaaGreat.Cp
open Mp
/-- Item k and what it stands in. -/
def WithinA (m : Model) (s : List Int) (k : Nat) : Prop := (at0 s k = 1 ∨ at0 s k = 2 → at0 s (parI m k) = 2) ∧ (at0 s (parI m k) = 0 ∨ at0 s (parI m k) = 1 → at0 s k = 0)
def Within (m : Model) (st : St) : Prop := ∀ k, k ≠ 0 → k < m.items.length → WithinA m st.s k
def Born (m : Model) (st : St) (d : List Int) : Prop := ∀ k, k ≠ 0 → k < m.items.length → at0 d k = 1 → at0 st.s (parI m k) = 2
theorem shut_or (m : Model) (st : St) (d : List Int) (hd : d.length = m.items.length) (i : Nat) : ∀ k, k ≤ m.items.length → (at0 (shutN m st d k) i = at0 d i ∨ at0 (shutN m st d k) i = 5 ∨ at0 (shutN m st d k) i = 0)
  | 0, _ => .inl rfl
  | k + 1, hk => by
    have ih := shut_or m st d hd i k (by omega)
    rw [shutN]
    split
    · rw [at0_set (by rw [shut_len]; omega)]
      split
      · split
        · exact .inr (.inl rfl)
        · exact .inr (.inr rfl)
      · exact ih
    · exact ih
theorem shut_ends {m : Model} {st : St} {d : List Int} (hl : isB m = true) (hd : d.length = m.items.length) {k : Nat} (h0 : k ≠ 0) (hk : k < m.items.length) (he : endsB (at0 (shut m st d) (parI m k)) = true) : at0 (shut m st d) k = if thereB (at0 st.s k) then 5 else 0 := by
  have hp := par_below hl h0 hk
  unfold shut at he ⊢
  rw [shut_later m st d hd m.items.length (by omega) (Nat.le_refl _), ← shut_later m st d hd k hp (by omega)] at he
  rw [shut_later m st d hd m.items.length hk (Nat.le_refl _), shutN, if_pos ⟨h0, he⟩, at0_set (by rw [shut_len]; omega), if_pos rfl]
theorem round_s {m : Model} {st : St} (d : List Int) (g : Good m st) (i : Nat) (hi : i < m.items.length) : at0 (roundS m st d).s i = if at0 (shut m st d) i ≠ 0 then behind (at0 (shut m st d) i) else at0 st.s i := by
  have h : at0 (doneR m st d).s i = if i < m.items.length ∧ at0 (shut m st d) i ≠ 0 then behind (at0 (shut m st d) i) else at0 st.s i := hap_s g.ns _ (Nat.le_refl _) i
  have e : (roundS m st d).s = (doneR m st d).s := by
    unfold roundS
    split <;> rfl
  rw [e, h]
  by_cases c : at0 (shut m st d) i ≠ 0
  · rw [if_pos ⟨hi, c⟩, if_pos c]
  · rw [if_neg (fun x => c x.2), if_neg c]
theorem behind_two {e : Int} (h : behind e = 2) : e = 2 := by
  unfold behind at h
  by_cases h1 : e = 1
  · rw [if_pos h1] at h; omega
  · rw [if_neg h1] at h
    by_cases h2 : e = 2
    · exact h2
    · rw [if_neg h2] at h
      by_cases h3 : e = 5
      · rw [if_pos h3] at h; omega
      · rw [if_neg h3] at h; omega
theorem within_round {m : Model} {st : St} {d : List Int} (hl : isB m = true) (g : Good m st) (hf : Fits m st d) (hb : Born m st d) (h : Within m st) : Within m (roundS m st d) := by
  intro k h0 hk
  have hp := par_below hl h0 hk
  have hfs := fits_shutA hf
  have fk := hfs.each k hk
  have fp := hfs.each (parI m k) (by omega)
  have sk := round_s d g k hk
  have sp := round_s d g (parI m k) (by omega)
  obtain ⟨ha, hw⟩ := h k h0 hk
  have hends := fun he => shut_ends (st := st) (d := d) hl hf.len h0 hk he
  have hor := shut_or m st d hf.len k m.items.length (Nat.le_refl _)
  have hbk := hb k h0 hk
  have hborn : at0 (shut m st d) k = 1 → at0 st.s (parI m k) = 2 := fun e => by
    unfold shut at e
    rw [e] at hor
    exact hbk (by omega)
  clear hor hbk hb hfs
  revert sk sp fk fp ha hw hends hborn
  unfold WithinA
  generalize at0 (roundS m st d).s k = s1
  generalize at0 (roundS m st d).s (parI m k) = p1
  generalize at0 (shut m st d) k = e
  generalize at0 (shut m st d) (parI m k) = f
  generalize at0 st.s k = s
  generalize at0 st.s (parI m k) = p
  intro fk fp sk sp ha hw hends hborn
  have hpar : p = 2 → f = 3 ∨ f = 5 → e = if thereB s then 5 else 0 := fun _ hf => hends (ends_iff.2 (by omega))
  have ek : e = 0 ∨ e ≠ 0 := by omega
  have ep : f = 0 ∨ f ≠ 0 := by omega
  refine ⟨fun h12 => ?_, fun h01 => ?_⟩
  · have hp2 : p = 2 ∧ (e = 0 ∧ (s = 1 ∨ s = 2) ∨ e = 1 ∨ e = 2) := by
      rcases ek with ek | ek
      · rw [if_neg (fun x => x ek)] at sk
        rw [sk] at h12
        exact ⟨ha h12, .inl ⟨ek, h12⟩⟩
      · rw [if_pos ek] at sk
        rw [sk] at h12
        rcases h12 with h12 | h12
        · have := behind_one h12
          exact ⟨hborn this, .inr (.inl this)⟩
        · have := behind_two h12
          refine ⟨ha ?_, .inr (.inr this)⟩
          unfold fit at fk
          omega
    have hf0 : f = 0 := by
      rcases ep with ep | ep
      · exact ep
      · exfalso
        have h35 : f = 3 ∨ f = 5 := by
          unfold fit at fp
          omega
        have := hpar hp2.1 h35
        rcases hp2.2 with ⟨x, y⟩ | x
        · rw [if_pos (there_iff.2 y)] at this
          omega
        · revert this
          split <;> omega
    rw [sp, if_neg (fun x => x hf0)]
    exact hp2.1
  · have hp01 : p = 0 ∨ p = 1 := by
      rcases ep with ep | ep
      · rw [if_neg (fun x => x ep)] at sp
        omega
      · rw [if_pos ep] at sp
        have hbu := behind_up fp ep
        have : behind f = 1 := by omega
        have := behind_one this
        unfold fit at fp
        omega
    have hs := hw hp01
    have he0 : e = 0 := by
      rcases ek with ek | ek
      · exact ek
      · exfalso
        have : e = 1 := by
          unfold fit at fk
          omega
        have := hborn this
        omega
    rw [sk, if_neg (fun x => x he0)]
    exact hs
theorem state_par {m : Model} {st : St} {k : Nat} (h : stateN m st (itm m k).parent ≠ 0) : stateN m st (itm m k).parent = at0 st.s (parI m k) := by
  unfold stateN at h ⊢
  cases hp : placeO m.items (itm m k).parent with
  | none => rw [hp] at h; exact absurd rfl h
  | some j =>
    show at0 st.s j = at0 st.s (parI m k)
    unfold parI placeZ
    rw [hp]
    rfl
theorem born_judged (m : Model) (st : St) : Born m st (judged m st) := by
  intro k h0 hk h
  unfold judged at h
  rw [at0_map _ hk] at h
  rcases creates_or m st k with c | ⟨c, _, c2⟩
  · exfalso
    unfold judge or0 at h
    rcases exits_or m st k with e | ⟨e, _⟩ <;> rcases starts_or m st k with g | ⟨g, _⟩ | ⟨g, _⟩ <;> rcases completes_or m st k with b | ⟨b, _⟩ <;> rw [e, g, c, b] at h <;> simp at h
  · rw [← state_par (by omega)]
    exact c2
theorem within_rest {m : Model} (hl : isB m = true) {st : St} (g : Good m st) (h : Within m st) : Within m (rest m st) :=
  (rest_ind (Within m) (fun st h g => within_round hl g (fits_judged m st) (born_judged m st) h) 80 st h g).1
theorem within_goes {m : Model} (hl : isB m = true) {st : St} {d : List Int} (g : Good m st) (hf : Fits m st d) (hb : Born m st d) (h : Within m st) : Within m (goes m st d) :=
  within_rest hl (good_round g hf).1 (within_round hl g hf hb h)
theorem do_within {m : Model} (hl : isB m = true) {st : St} (g : Good m st) (h : Within m st) (a : ActP) : Within m (doP m st a).2 := by
  unfold doP
  split
  · exact h
  split
  · exact h
  split
  · unfold userP
    split
    · exact h
    · rename_i i hi
      split
      · exact h
      split
      · rename_i hm
        obtain ⟨x, hx, _⟩ := find_some_inv hi
        have hil := (List.getElem?_eq_some_iff.1 hx).1
        refine within_goes hl g (one_fits (mayU_fit hm) hil) (fun k _ _ hk => ?_) h
        exfalso
        unfold oneD at hk
        rw [at0_set (by simpa using hil), at0_rep] at hk
        split at hk
        · rw [hk] at hm
          unfold mayU at hm
          simp at hm
        · cases hk
      · exact h
  split
  · unfold writeP
    split
    · exact h
    · split
      · exact h
      · exact within_rest hl (good_file g _ _) h
  · refine within_goes hl (good_tick g) (due_fit m _) (fun k _ hk' hk => ?_) h
    exfalso
    unfold dueD at hk
    rw [at0_map _ hk'] at hk
    split at hk
    · cases hk
    · cases hk
theorem within_new {m : Model} (hl : isB m = true) : Within m (newP m) := by
  have h1 := (is_parts hl).1
  refine within_rest hl (good_st0 h1) (fun k h0 hk => ?_)
  have hs : at0 (st0 m).s k = 0 := by
    show at0 ((List.replicate m.items.length 0).set 0 2) k = 0
    rw [at0_set (by simp; omega), at0_rep, if_neg h0]
  exact ⟨fun h => by omega, fun _ => hs⟩
theorem quiet_born {m : Model} {st : St} (q : Quiet m st) {k : Nat} (hk : k < m.items.length) (hs : at0 st.s k = 0) : stateN m st (itm m k).parent ≠ 2 := by
  intro hp
  have h := q k hk
  have hc : createsI m st k = 1 := if_pos ⟨hs, hp⟩
  have he : exitsI m st k = 0 := by
    rcases exits_or m st k with e | ⟨_, e⟩
    · exact e
    · omega
  have hg : startsI m st k = 0 := by
    rcases starts_or m st k with e | ⟨_, e, _⟩ | ⟨_, e⟩
    · exact e
    · omega
    · omega
  unfold judge or0 at h
  rw [he, hg, hc] at h
  simp at h
/-- All that the law asks of item k. -/
theorem within_all {m : Model} {st : St} (hl : isB m = true) (g : Good m st) (q : Quiet m st) (h : Within m st) {k : Nat} (h0 : k ≠ 0) (hk : k < m.items.length) :
    ∃ s p : Int, stateN m st (itm m k).id = s ∧ stateN m st (itm m k).parent = p ∧ (s = 0 ∨ s = 1 ∨ s = 2 ∨ s = 3 ∨ s = 4) ∧ (p = 0 ∨ p = 1 ∨ p = 2 ∨ p = 3 ∨ p = 4) ∧ (s = 1 ∨ s = 2 → p = 2) ∧ (p = 0 ∨ p = 1 → s = 0) ∧ (p = 2 → s ≠ 0) := by
  obtain ⟨j, hj, hpo⟩ : ∃ j, j < k ∧ placeO m.items (itm m k).parent = some j := by
    obtain ⟨_, _, hp⟩ := is_parts hl
    obtain ⟨_, _, h⟩ := hp k _ (itm_at hk)
    have := h h0
    unfold placeZ at this
    cases hq : placeO m.items (itm m k).parent with
    | none => rw [hq] at this; simp at this
    | some j => rw [hq] at this; exact ⟨j, by simp at this; omega, rfl⟩
  have hpar : parI m k = j := by
    unfold parI placeZ
    rw [hpo]
    rfl
  have hst : stateN m st (itm m k).parent = at0 st.s j := by unfold stateN; rw [hpo]
  have hself : stateN m st (itm m k).id = at0 st.s k := by unfold stateN; rw [place_self hl hk]
  have r1 := g.rng k hk
  have r2 := g.rng j (by omega)
  obtain ⟨ha, hw⟩ := h k h0 hk
  rw [hpar] at ha hw
  refine ⟨_, _, hself, hst, by omega, by omega, ha, hw, fun e hs => ?_⟩
  exact quiet_born q hk hs (by rw [hst]; exact e)
end Go.Proofs.YtpipjkbgbhefcaaGreat.Cp
/-
  PLAIN: states only go forward; what is Open is a stage or a task.
-/
set_option linter.unusedVariables false
set_option linter.unusedSimpArgs false
namespace Go.Proofs.YtpipjkbgbhefcaaGreat.Cp
open Mp
def Up (m : Model) (a b : List Int) : Prop := ∀ i, i < m.items.length → at0 a i ≤ at0 b i ∧ (at0 a i = 3 ∨ at0 a i = 4 → at0 b i = at0 a i)
def OpenK (m : Model) (st : St) : Prop := ∀ i, i < m.items.length → at0 st.s i = 2 → (itm m i).kind ≤ 2
def Fwd (m : Model) (a : List Int) (st : St) : Prop := Up m a st.s ∧ OpenK m st
theorem Up.refl (m : Model) (a : List Int) : Up m a a := fun i _ => ⟨Int.le_refl _, fun _ => rfl⟩
theorem fwd_round {m : Model} {st : St} {d a : List Int} (g : Good m st) (hf : Fits m st d) (h : Fwd m a st) : Fwd m a (roundS m st d) := by
  have hfs := fits_shutA hf
  refine ⟨fun i hi => ?_, fun i hi h2 => ?_⟩
  · have fi := hfs.each i hi
    obtain ⟨h1, h3⟩ := h.1 i hi
    rw [round_s d g i hi]
    split
    · rename_i he
      have hb := behind_up fi he
      unfold fit at fi
      exact ⟨by omega, fun x => by have := h3 x; omega⟩
    · exact ⟨h1, h3⟩
  · have fi := hfs.each i hi
    rw [round_s d g i hi] at h2
    split at h2
    · have := behind_two h2
      unfold fit at fi
      omega
    · exact h.2 i hi h2
theorem fwd_rest {m : Model} {st : St} {a : List Int} (g : Good m st) (h : Fwd m a st) : Fwd m a (rest m st) :=
  (rest_ind (Fwd m a) (fun st h g => fwd_round g (fits_judged m st) h) 80 st h g).1
theorem do_fwd {m : Model} (hl : isB m = true) {st : St} (g : Good m st) (h : OpenK m st) (a : ActP) : Fwd m st.s (doP m st a).2 :=
  (do_ind hl (Fwd m st.s) (fun x d gx hx hf => fwd_rest (good_round gx hf).1 (fwd_round gx hf hx)) (fun x i n gx hx => fwd_rest (good_file gx i n) hx) (fun x gx hx => fwd_rest (good_round (good_tick gx) (due_fit m _)).1 (fwd_round (good_tick gx) (due_fit m _) hx)) g ⟨Up.refl m _, h⟩ a).1
theorem open_new {m : Model} (hl : isB m = true) (h0 : (itm m 0).kind ≤ 2) : OpenK m (newP m) := by
  have h1 := (is_parts hl).1
  refine (fwd_rest (a := (st0 m).s) (good_st0 h1) ⟨Up.refl m _, fun i hi h2 => ?_⟩).2
  have hs : at0 (st0 m).s i = if i = 0 then 2 else 0 := by
    show at0 ((List.replicate m.items.length 0).set 0 2) i = _
    rw [at0_set (by simp; omega), at0_rep]
  rw [hs] at h2
  split at h2
  · rename_i e
    rw [e]
    exact h0
  · omega
theorem do_now {m : Model} (hl : isB m = true) {st : St} (g : Good m st) (a : ActP) : (doP m st a).2.now ≤ st.now + 1 :=
  (do_ind hl (fun _ => True) (fun _ _ _ _ _ => trivial) (fun _ _ _ _ _ => trivial) (fun _ _ _ => trivial) g trivial a).2
theorem kind_zero {m : Model} (hl : isB m = true) : (itm m 0).kind ≤ 2 := by
  unfold isB at hl
  simp only [Bool.and_eq_true] at hl
  have h := hl.1.1.2
  unfold headB at h
  unfold itm
  cases hi : m.items with
  | nil => rw [hi] at h; simp at h
  | cons x r =>
    rw [hi] at h
    simp only [planB, Bool.and_eq_true, decide_eq_true_eq] at h
    show x.kind ≤ 2
    omega
end Go.Proofs.YtpipjkbgbhefcaaGreat.Cp
/-
  States: a row of the caller's own.
-/
set_option linter.unusedSimpArgs false
set_option linter.unusedVariables false
namespace Go.Proofs.YtpipjkbgbhefcaaGreat
open Go.RowKit
set_option maxRecDepth 100000
theorem splice_all {α : Type} (Z Y : List α) (h : Z.length = Y.length) : splice Z 0 Y = Y := by
  unfold splice
  rw [List.drop_eq_nil_of_le (by omega)]
  simp
section ST
variable {w : World} {H : Nat} {K : Kc} {m : Mp.Model} {v : Value} {L : List Qp.Thing} {N : Nat} {st : Cp.St}
set_option maxHeartbeats 4000000 in
theorem statesD (h : CIn w H K m v L N st) (hl : OkM m) : Calls Tryz.prog 17 #[cP K] w (RowPost st.s m.items.length w) := by
  have c2 := h.c2
  obtain ⟨n, hn⟩ : ∃ n, m.items.length = n := ⟨_, rfl⟩
  have hn16 : n ≤ 1000 := by have := items16 hl.1; omega
  have hn1 : 1 ≤ n := by rw [← hn]; exact (Mp.is_parts hl.1).1
  have hns : st.s.length = n := by rw [h.ns]; exact hn
  rw [hn] at c2 ⊢
  obtain ⟨W, hr, r1, r2, r3⟩ := madeI w n hn16
  have HC := hideT h.ss
  have d2 := below_cell r2 _ _ c2
  have HR := hideT r1
  have HB := hideT r2
  have HN := hideT hns
  have h0 : ((n : Int) == 0) = false := beq_eq_false_iff_ne.2 (by omega)
  obtain ⟨S, hS⟩ : ∃ S, st.s.map intV = S := ⟨_, rfl⟩
  have HS := hideT hS
  have hSl : S.length = n := by rw [← hS, List.length_map]; exact hns
  have HSL := hideT hSl
  have HSR : Hid (∀ j x, S[j]? = some x → W.cell? (Addr.add ⟨K.sb, 0, none⟩ j) = some x) := by
    intro j x hx
    have hj := (List.getElem?_eq_some_iff.1 hx).1
    have hc := below_cell HB.out _ _ (HC.out.cell (i := j) (by omega))
    rw [← hS, List.getElem?_map, Cp.at0_get (by omega)] at hx
    have e : (Addr.add ⟨K.sb, 0, none⟩ j) = ⟨K.sb, j, none⟩ := by simp [Addr.add]; try omega
    rw [e, hc]
    exact hx
  have HS1 : Hid (∀ x ∈ S, x.oneCell' = true) := by
    intro x hx
    rw [← hS] at hx
    obtain ⟨y, _, rfl⟩ := List.mem_map.1 hx
    rfl
  have HFIN : Hid (∀ w2 : World, w2.heap[w.heap.size]? = some (.cells (splice ((List.replicate n (0 : Int)).map intV) 0 S).toArray 3 (0, 0)) → IR w2 w.heap.size st.s) := by
    intro w2 hw
    rw [splice_all _ _ (by rw [hSl]; simp)] at hw
    show w2.heap[w.heap.size]? = some (.cells (st.s.map intV).toArray 3 (0, 0))
    rw [hS]
    exact hw
  have hsz : (Tryz.prog.info? 3).map (·.size) = some 1 := by kernel_rfl
  have hrun := run_copy_row (P := Tryz.prog) W 44 44 3 3 w.heap.size 0 n n ⟨K.sb, 0, none⟩ n n ((List.replicate n (0 : Int)).map intV).toArray 3 S Tryz.underlying44 hsz HR.out (by rw [hSl]; exact (Nat.min_self n).symm) HSR.out (by rw [hSl]; simp) HS1.out
  obtain ⟨A, hA⟩ : ∃ A, (((List.replicate n (0 : Int)).map intV).toArray.toList.take 0 ++ S ++ ((List.replicate n (0 : Int)).map intV).toArray.toList.drop (0 + S.length)).toArray = A := ⟨_, rfl⟩
  rw [hA] at hrun
  obtain ⟨W2, hW2⟩ : ∃ W2, W.setRow w.heap.size A = W2 := ⟨_, rfl⟩
  rw [hW2, hSl] at hrun
  have hA2 : A = (splice ((List.replicate n (0 : Int)).map intV) 0 S).toArray := by rw [← hA]; simp [splice]
  have hg2 := HFIN.out W2 (by rw [← hW2, ← hA2]; exact setRow_heap _ _ _ _ _ _ HR.out)
  have hb2 : Below w.heap.size w W2 := by rw [← hW2]; exact below_setRow HB.out (Nat.le_refl _) _
  have HG2 := hideT hg2
  have HB2 := hideT hb2
  clear h hl hn hns hS hSl r1 r2 r3 hg2 hb2 HFIN HSR HS1 HS HSL hA hA2 hW2
  go_enter Tryz.func17, Tryz.ntmps17
  go_wp2_with fail
  go_ret
  exact ⟨w.heap.size, rfl, HG2.out, Nat.le_refl _, HB2.out⟩
end ST
/-- A made case, and its states in a row of the caller's own. -/
def LcR (w0 w : World) (K : Kc) (m : Mp.Model) (st : Cp.St) (wb : Nat) : Prop := ∃ (v : Value) (L : List Qp.Thing) (N : Nat), CAll w w0.heap.size K m v L N st noP ∧ Below w0.heap.size w0 w ∧ ¬ CS K v wb ∧ IR w wb st.s
section LR
variable {w0 w w' : World} {K : Kc} {m : Mp.Model} {st : Cp.St} {wb : Nat}
theorem LcR.lc (h : LcR w0 w K m st wb) : Lc w0 w K m st := by
  obtain ⟨v, L, N, a, b, _⟩ := h
  exact ⟨v, L, N, a, b⟩
theorem LcR.row (h : LcR w0 w K m st wb) : IR w wb st.s := by
  obtain ⟨v, L, N, _, _, _, r⟩ := h
  exact r
theorem Lc.states (h : Lc w0 w K m st) : Calls Tryz.prog 17 #[cP K] w fun e w' => ∃ wb, e = .returned (sliceN wb m.items.length) ∧ LcR w0 w' K m st wb ∧ Below w.heap.size w w' := by
  obtain ⟨v, L, N, ha, hb⟩ := h
  refine (statesD ha.c ha.ok).mono ?_
  rintro e w' ⟨wb, rfl, ir, hw, b⟩
  refine ⟨wb, rfl, ⟨v, L, N, ha.below b, belowS hb b, fun e => ?_, ir⟩, b⟩
  have := (ha.c.lt e).1
  omega
theorem LcR.below (h : LcR w0 w K m st wb) (b : Below w.heap.size w w') : LcR w0 w' K m st wb := by
  obtain ⟨v, L, N, ha, hb, hn, r⟩ := h
  exact ⟨v, L, N, ha.below b, belowS hb b, hn, Lies.below r b⟩
theorem LcR.do (h : LcR w0 w K m st wb) (hnow : st.now < 1000000000000) (a : Cp.ActP) (r : Int) (st' : Cp.St) (hp : Hid (Cp.doP m st a = (r, st'))) :
    Calls Tryz.prog 14 #[cP K, actV a] w fun e w' => e = .returned (.int .i64 r) ∧ Lc w0 w' K m st' ∧ IR w' wb st.s := by
  obtain ⟨v, L, N, ha, hb, hn, hr⟩ := h
  refine (doD ha hb.size hnow a).mono ?_
  rintro e w' ⟨rfl, v', L', N', T⟩
  rw [hp.out] at T
  refine ⟨by rw [hp.out], ⟨v', L', N', T.a, ?_⟩, Lies.keep hr T.keep hn⟩
  exact ⟨T.keep.os.trans hb.os, T.keep.tape.trans hb.tape, T.keep.output.trans hb.output, Nat.le_trans hb.size T.keep.size, fun i hi => by
    rw [T.keep.block i (Nat.lt_of_lt_of_le hi hb.size) (fun e => by have := (ha.c.lt e).2; omega)]
    exact hb.block i hi⟩
end LR
end Go.Proofs.YtpipjkbgbhefcaaGreat
