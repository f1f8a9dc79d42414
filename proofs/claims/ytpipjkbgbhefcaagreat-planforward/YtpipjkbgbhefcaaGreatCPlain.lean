/-
  A case that goes on, as plain data: what a round asks, what it does; until nothing is left to do.
-/
import Derived.Test.YtpipjkbgbhefcaaGreatMKidsP
set_option linter.unusedVariables false
set_option linter.unusedSimpArgs false
namespace Go.Proofs.YtpipjkbgbhefcaaGreat.Cp
open Mp
structure St where
  s : List Int
  f : List Int
  hap : On → Bool
  due : Nat → Int
  now : Int
  rounds : Int
structure ActP where
  kind : Int
  item : BA
  ev : Int
  file : BA
  n : Int
def at0 (l : List Int) (i : Nat) : Int := l.getD i 0
def itm (m : Model) (i : Nat) : Mp.Item := m.items.getD i ⟨e0, 0, e0, false, 0, [], []⟩
def thereB (s : Int) : Bool := decide (s = 1) || decide (s = 2)
def pastB (s : Int) : Bool := decide (s = 3) || decide (s = 4)
def behind (e : Int) : Int := if e = 1 then 1 else if e = 2 then 2 else if e = 5 then 4 else 3
def cmpB (a : Int) (op : BA) (b : Int) : Bool :=
  if op = ⟨#[60]⟩ then decide (a < b) else if op = ⟨#[60, 61]⟩ then decide (a ≤ b) else if op = ⟨#[61]⟩ then decide (a = b) else if op = ⟨#[33, 61]⟩ then !decide (a = b) else if op = ⟨#[62, 61]⟩ then decide (b ≤ a) else decide (b < a)
def fileN (m : Model) (st : St) (s : BA) : Int := match idx m.files s with
  | some k => at0 st.f k
  | none => 0
def stateN (m : Model) (st : St) (s : BA) : Int := match placeO m.items s with
  | some k => at0 st.s k
  | none => 0
def notSo (m : Model) (st : St) (c : Cond) : Bool := !cmpB (fileN m st c.1) c.2.1 c.2.2
def toCome (st : St) (o : On) : Bool := !st.hap o
def hold (m : Model) (st : St) (x : Sent) : Bool := !(x.1.any (toCome st)) && !(x.2.any (notSo m st))
def exitsI (m : Model) (st : St) (i : Nat) : Int := if thereB (at0 st.s i) && (itm m i).exit.any (hold m st) then 5 else 0
/-- May it Start or Occur, by what its Entry asks? -/
def mayB (m : Model) (st : St) (i : Nat) : Bool := decide (at0 st.s i = 1) && decide (exitsI m st i = 0) && (decide ((itm m i).entry.length = 0) || (itm m i).entry.any (hold m st))
def startsI (m : Model) (st : St) (i : Nat) : Int := if mayB m st i then (if (itm m i).kind = 1 ∨ (itm m i).kind = 2 then 2 else if (itm m i).kind = 3 then 4 else 0) else 0
def createsI (m : Model) (st : St) (i : Nat) : Int := if at0 st.s i = 0 ∧ stateN m st (itm m i).parent = 2 then 1 else 0
def holdsUp (m : Model) (st : St) (i : Nat) : Bool := if at0 st.s i = 1 then (itm m i).req || !decide (startsI m st i = 0) else !pastB (at0 st.s i)
def completesI (m : Model) (st : St) (i : Nat) : Int :=
  if (itm m i).kind = 1 ∧ at0 st.s i = 2 ∧ exitsI m st i = 0 ∧ (kidsN m.items (itm m i).id m.items.length).any (holdsUp m st) = false then 3 else 0
def or0 (a b : Int) : Int := if a = 0 then b else a
def judge (m : Model) (st : St) (i : Nat) : Int := or0 (or0 (or0 (exitsI m st i) (startsI m st i)) (createsI m st i)) (completesI m st i)
def judged (m : Model) (st : St) : List Int := (List.range m.items.length).map (judge m st)
def parI (m : Model) (i : Nat) : Nat := (placeZ m.items (itm m i).parent).toNat
def endsB (e : Int) : Bool := decide (e = 5) || decide (e = 3)
def shutN (m : Model) (st : St) (d : List Int) : Nat → List Int
  | 0 => d
  | k + 1 => if k ≠ 0 ∧ endsB (at0 (shutN m st d k) (parI m k)) = true then (shutN m st d k).set k (if thereB (at0 st.s k) then 5 else 0) else shutN m st d k
def doE (m : Model) (st : St) (i : Nat) (e : Int) : St :=
  { st with s := st.s.set i (behind e), hap := fun o => if o = ((itm m i).id, e) then true else st.hap o, due := if (itm m i).kind = 5 ∧ e = 1 then fun j => if j = i then st.now + (itm m i).ticks else st.due j else st.due }
def hapN (m : Model) (d : List Int) (st : St) : Nat → St
  | 0 => st
  | k + 1 => if at0 d k = 0 then hapN m d st k else doE m (hapN m d st k) k (at0 d k)
def someN (d : List Int) (k : Nat) : Bool := (d.take k).any fun e => !decide (e = 0)
def shut (m : Model) (st : St) (d : List Int) : List Int := shutN m st d m.items.length
def someR (m : Model) (st : St) (d : List Int) : Bool := someN (shut m st d) m.items.length
def doneR (m : Model) (st : St) (d : List Int) : St := hapN m (shut m st d) st m.items.length
def roundS (m : Model) (st : St) (d : List Int) : St := if someR m st d then { doneR m st d with rounds := st.rounds + 1 } else doneR m st d
def restN (m : Model) : Nat → St → St
  | 0, st => st
  | k + 1, st => if someR m st (judged m st) then restN m k (roundS m st (judged m st)) else st
def rest (m : Model) (st : St) : St := restN m 80 st
def overB (st : St) : Bool := pastB (at0 st.s 0)
def mayU (k s e : Int) : Bool := if e = 3 then decide (k = 2) && decide (s = 2) else if e = 4 then decide (k = 4) && decide (s = 1) else if e = 5 then thereB s else false
def oneD (n i : Nat) (e : Int) : List Int := (List.replicate n 0).set i e
def dueD (m : Model) (st : St) : List Int := (List.range m.items.length).map fun i => if (itm m i).kind = 5 ∧ at0 st.s i = 1 ∧ st.due i ≤ st.now then 4 else 0
def goes (m : Model) (st : St) (d : List Int) : St := rest m (roundS m st d)
def userP (m : Model) (st : St) (id : BA) (e : Int) : Int × St := match placeO m.items id with
  | none => (1, st)
  | some i => if i = 0 then (1, st) else if mayU (itm m i).kind (at0 st.s i) e then (0, goes m st (oneD m.items.length i e)) else (8, st)
def writeP (m : Model) (st : St) (file : BA) (n : Int) : Int × St := match idx m.files file with
  | none => (1, st)
  | some i => if n < -1000000 ∨ 1000000 < n then (1, st) else (0, rest m { st with f := st.f.set i n })
def tick1 (st : St) : St := { st with now := st.now + 1 }
def tickP (m : Model) (st : St) : Int × St := (0, goes m (tick1 st) (dueD m (tick1 st)))
def doP (m : Model) (st : St) (a : ActP) : Int × St :=
  if a.kind < 1 ∨ 3 < a.kind then (1, st) else if overB st then (9, st) else if a.kind = 1 then userP m st a.item a.ev else if a.kind = 2 then writeP m st a.file a.n else tickP m st
def st0 (m : Model) : St := ⟨(List.replicate m.items.length 0).set 0 2, List.replicate m.files.length 0, fun _ => false, fun _ => 0, 0, 0⟩
def newP (m : Model) : St := rest m (st0 m)
/-! ### Rows of numbers -/
theorem at0_set {l : List Int} {i : Nat} (h : i < l.length) (v : Int) (j : Nat) : at0 (l.set i v) j = if j = i then v else at0 l j := by
  unfold at0
  by_cases e : j = i
  · subst e
    rw [if_pos rfl, List.getD_eq_getElem?_getD, List.getElem?_set_self h]
    rfl
  · rw [if_neg e, List.getD_eq_getElem?_getD, List.getElem?_set_ne (fun h => e h.symm), List.getD_eq_getElem?_getD]
theorem at0_get {l : List Int} {i : Nat} (h : i < l.length) : l[i]? = some (at0 l i) := by
  unfold at0
  rw [List.getD_eq_getElem?_getD, List.getElem?_eq_getElem h]
  rfl
theorem at0_out {l : List Int} {i : Nat} (h : l.length ≤ i) : at0 l i = 0 := by
  unfold at0
  rw [List.getD_eq_getElem?_getD, List.getElem?_eq_none h]
  rfl
theorem at0_map {n : Nat} (f : Nat → Int) {i : Nat} (h : i < n) : at0 ((List.range n).map f) i = f i := by
  unfold at0
  rw [List.getD_eq_getElem?_getD, List.getElem?_map, List.getElem?_range h]
  rfl
theorem at0_rep (n i : Nat) : at0 (List.replicate n 0) i = 0 := by
  unfold at0
  rw [List.getD_eq_getElem?_getD, List.getElem?_replicate]
  split <;> rfl
theorem ext0 {l l' : List Int} (hl : l.length = l'.length) (h : ∀ i, i < l.length → at0 l i = at0 l' i) : l = l' := by
  apply List.ext_getElem? 
  intro i
  by_cases hi : i < l.length
  · rw [at0_get hi, at0_get (by omega), h i hi]
  · rw [List.getElem?_eq_none (by omega), List.getElem?_eq_none (by omega)]
def sumS (l : List Int) : Nat := (l.map Int.toNat).sum
theorem sum_set : ∀ {l : List Int} {i : Nat} (v : Int), i < l.length → sumS (l.set i v) + (at0 l i).toNat = sumS l + v.toNat
  | [], i, v, h => by simp at h
  | a :: l, 0, v, _ => by
    show sumS (v :: l) + (at0 (a :: l) 0).toNat = _
    unfold sumS at0
    simp only [List.map_cons, List.sum_cons, List.getD_cons_zero]
    omega
  | a :: l, i + 1, v, h => by
    have := sum_set (l := l) (i := i) v (by simpa using h)
    rw [List.set_cons_succ]
    unfold sumS at0 at *
    simp only [List.map_cons, List.sum_cons, List.getD_cons_succ]
    omega
theorem itm_get {m : Model} {i : Nat} {x : Mp.Item} (h : m.items[i]? = some x) : itm m i = x := by
  unfold itm
  rw [List.getD_eq_getElem?_getD, h]
  rfl
theorem itm_at {m : Model} {i : Nat} (h : i < m.items.length) : m.items[i]? = some (itm m i) := by
  unfold itm
  rw [List.getD_eq_getElem?_getD, List.getElem?_eq_getElem h]
  rfl
/-! ### What fits -/
def fit (k s e : Int) : Prop := e = 0 ∨ (e = 1 ∧ s = 0) ∨ (e = 2 ∧ s = 1 ∧ (k = 1 ∨ k = 2)) ∨ (e = 4 ∧ s = 1) ∨ (e = 3 ∧ s = 2) ∨ (e = 5 ∧ (s = 1 ∨ s = 2))
structure Fits (m : Model) (st : St) (d : List Int) : Prop where
  len : d.length = m.items.length
  each : ∀ i, i < m.items.length → fit (itm m i).kind (at0 st.s i) (at0 d i)
structure Good (m : Model) (st : St) : Prop where
  ns : st.s.length = m.items.length
  rng : ∀ i, i < m.items.length → 0 ≤ at0 st.s i ∧ at0 st.s i ≤ 4
  nf : st.f.length = m.files.length
  r0 : 0 ≤ st.rounds
  few : st.rounds ≤ sumS st.s
theorem there_iff {s : Int} : thereB s = true ↔ (s = 1 ∨ s = 2) := by unfold thereB; simp
theorem past_iff {s : Int} : pastB s = true ↔ (s = 3 ∨ s = 4) := by unfold pastB; simp
theorem ends_iff {s : Int} : endsB s = true ↔ (s = 5 ∨ s = 3) := by unfold endsB; simp
theorem exits_or (m : Model) (st : St) (i : Nat) : exitsI m st i = 0 ∨ (exitsI m st i = 5 ∧ (at0 st.s i = 1 ∨ at0 st.s i = 2)) := by
  unfold exitsI
  by_cases h : (thereB (at0 st.s i) && (itm m i).exit.any (hold m st)) = true
  · rw [if_pos h]
    exact .inr ⟨rfl, there_iff.1 (Bool.and_eq_true_iff.1 h).1⟩
  · rw [if_neg h]
    exact .inl rfl
theorem starts_or (m : Model) (st : St) (i : Nat) : startsI m st i = 0 ∨ (startsI m st i = 2 ∧ at0 st.s i = 1 ∧ ((itm m i).kind = 1 ∨ (itm m i).kind = 2)) ∨ (startsI m st i = 4 ∧ at0 st.s i = 1) := by
  unfold startsI
  by_cases h : mayB m st i = true
  · rw [if_pos h]
    have h1 : at0 st.s i = 1 := by
      unfold mayB at h
      simp only [Bool.and_eq_true, decide_eq_true_eq] at h
      exact h.1.1
    split
    · exact .inr (.inl ⟨rfl, h1, by assumption⟩)
    · split
      · exact .inr (.inr ⟨rfl, h1⟩)
      · exact .inl rfl
  · rw [if_neg h]
    exact .inl rfl
theorem creates_or (m : Model) (st : St) (i : Nat) : createsI m st i = 0 ∨ (createsI m st i = 1 ∧ at0 st.s i = 0 ∧ stateN m st (itm m i).parent = 2) := by
  unfold createsI
  split
  · rename_i h
    exact .inr ⟨rfl, h⟩
  · exact .inl rfl
theorem completes_or (m : Model) (st : St) (i : Nat) : completesI m st i = 0 ∨ (completesI m st i = 3 ∧ at0 st.s i = 2) := by
  unfold completesI
  split
  · rename_i h
    exact .inr ⟨rfl, h.2.1⟩
  · exact .inl rfl
theorem judge_fit (m : Model) (st : St) (i : Nat) : fit (itm m i).kind (at0 st.s i) (judge m st i) := by
  unfold judge or0 fit
  rcases exits_or m st i with h | ⟨h, h'⟩ <;> rcases starts_or m st i with g | ⟨g, g', g''⟩ | ⟨g, g'⟩ <;> rcases creates_or m st i with c | ⟨c, c', _⟩ <;> rcases completes_or m st i with e | ⟨e, e'⟩ <;> rw [h, g, c, e] <;> simp <;> omega
theorem fits_judged (m : Model) (st : St) : Fits m st (judged m st) :=
  ⟨by unfold judged; simp, fun i hi => by unfold judged; rw [at0_map _ hi]; exact judge_fit m st i⟩
theorem shut_len (m : Model) (st : St) (d : List Int) : ∀ k, (shutN m st d k).length = d.length
  | 0 => rfl
  | k + 1 => by
    rw [shutN]
    split
    · rw [List.length_set, shut_len m st d k]
    · exact shut_len m st d k
theorem fits_shut {m : Model} {st : St} {d : List Int} (h : Fits m st d) : ∀ k, k ≤ m.items.length → Fits m st (shutN m st d k)
  | 0, _ => h
  | k + 1, hk => by
    have ih := fits_shut h k (by omega)
    rw [shutN]
    split
    · refine ⟨by rw [List.length_set, ih.len], fun i hi => ?_⟩
      rw [at0_set (by rw [ih.len]; omega)]
      split
      · rename_i e
        subst e
        by_cases t : thereB (at0 st.s i) = true
        · rw [if_pos t]
          have := there_iff.1 t
          unfold fit
          omega
        · rw [if_neg t]
          exact .inl rfl
      · exact ih.each i hi
    · exact ih
theorem fits_shutA {m : Model} {st : St} {d : List Int} (h : Fits m st d) : Fits m st (shut m st d) := fits_shut h _ (Nat.le_refl _)
theorem behind_up {k s e : Int} (h : fit k s e) (he : e ≠ 0) : s < behind e ∧ 1 ≤ behind e ∧ behind e ≤ 4 ∧ 0 ≤ s := by
  unfold behind
  unfold fit at h
  rcases h with h | ⟨rfl, h⟩ | ⟨rfl, h, _⟩ | ⟨rfl, h⟩ | ⟨rfl, h⟩ | ⟨rfl, h⟩
  · exact absurd h he
  all_goals (simp only [if_true, if_false, show ((2 : Int) = 1) = False by decide, show ((4 : Int) = 1) = False by decide, show ((4 : Int) = 2) = False by decide, show ((4 : Int) = 5) = False by decide, show ((3 : Int) = 1) = False by decide, show ((3 : Int) = 2) = False by decide, show ((3 : Int) = 5) = False by decide, show ((5 : Int) = 1) = False by decide, show ((5 : Int) = 2) = False by decide]; omega)
/-! ### All of a round -/
theorem hap_s_len (m : Model) (d : List Int) (st : St) : ∀ k, (hapN m d st k).s.length = st.s.length
  | 0 => rfl
  | k + 1 => by
    rw [hapN]
    split
    · exact hap_s_len m d st k
    · show ((hapN m d st k).s.set k _).length = _
      rw [List.length_set, hap_s_len m d st k]
theorem hap_rest (m : Model) (d : List Int) (st : St) : ∀ k, (hapN m d st k).f = st.f ∧ (hapN m d st k).now = st.now ∧ (hapN m d st k).rounds = st.rounds
  | 0 => ⟨rfl, rfl, rfl⟩
  | k + 1 => by
    rw [hapN]
    split
    · exact hap_rest m d st k
    · exact hap_rest m d st k
theorem hap_s {m : Model} {d : List Int} {st : St} (hn : st.s.length = m.items.length) : ∀ k, k ≤ m.items.length → ∀ i, at0 (hapN m d st k).s i = if i < k ∧ at0 d i ≠ 0 then behind (at0 d i) else at0 st.s i
  | 0, _, i => by rw [if_neg (by omega)]; rfl
  | k + 1, hk, i => by
    have ih := hap_s (d := d) hn k (by omega) i
    rw [hapN]
    split
    · rename_i h0
      rw [ih]
      by_cases hi : i = k
      · subst hi
        rw [if_neg (by omega), if_neg (by omega)]
      · by_cases h1 : i < k ∧ at0 d i ≠ 0
        · rw [if_pos h1, if_pos ⟨by omega, h1.2⟩]
        · rw [if_neg h1, if_neg (by omega)]
    · rename_i h0
      show at0 ((hapN m d st k).s.set k _) i = _
      rw [at0_set (by rw [hap_s_len]; omega), ih]
      by_cases hi : i = k
      · subst hi
        rw [if_pos rfl, if_pos ⟨by omega, h0⟩]
      · rw [if_neg hi]
        by_cases h1 : i < k ∧ at0 d i ≠ 0
        · rw [if_pos h1, if_pos ⟨by omega, h1.2⟩]
        · rw [if_neg h1, if_neg (by omega)]
theorem someN_succ {d : List Int} {k : Nat} (h : k < d.length) : someN d (k + 1) = (someN d k || !decide (at0 d k = 0)) := by
  unfold someN
  rw [List.take_add_one, at0_get h, List.any_append]
  simp
theorem hap_sum {m : Model} {d : List Int} {st : St} (g : Good m st) (hf : Fits m st d) : ∀ k, k ≤ m.items.length → sumS st.s ≤ sumS (hapN m d st k).s ∧ (someN d k = true → sumS st.s < sumS (hapN m d st k).s) ∧ (someN d k = false → hapN m d st k = st)
  | 0, _ => ⟨Nat.le_refl _, fun h => by simp [someN] at h, fun _ => rfl⟩
  | k + 1, hk => by
    obtain ⟨i1, i2, i3⟩ := hap_sum g hf k (by omega)
    rw [someN_succ (by rw [hf.len]; omega), hapN]
    split
    · rename_i h0
      rw [h0]
      simpa using ⟨i1, i2, i3⟩
    · rename_i h0
      have hb := behind_up (hf.each k (by omega)) h0
      have hs := hap_s (d := d) g.ns k (by omega) k
      rw [if_neg (by omega)] at hs
      have hu := sum_set (l := (hapN m d st k).s) (i := k) (behind (at0 d k)) (by rw [hap_s_len, g.ns]; omega)
      rw [hs] at hu
      have hx : sumS (hapN m d st k).s < sumS (doE m (hapN m d st k) k (at0 d k)).s := by
        show _ < sumS ((hapN m d st k).s.set k _)
        omega
      exact ⟨by omega, fun _ => by omega, fun h => by simp [h0] at h⟩
theorem round_none {m : Model} {st : St} {d : List Int} (g : Good m st) (hf : Fits m st d) (h : someR m st d = false) : roundS m st d = st := by
  unfold roundS
  rw [if_neg (by rw [h]; decide)]
  exact (hap_sum g (fits_shutA hf) _ (Nat.le_refl _)).2.2 h
theorem good_round {m : Model} {st : St} {d : List Int} (g : Good m st) (hf : Fits m st d) : Good m (roundS m st d) ∧ (someR m st d = true → sumS st.s < sumS (roundS m st d).s) := by
  cases h : someR m st d with
  | false =>
    rw [round_none g hf h]
    exact ⟨g, fun h => by cases h⟩
  | true =>
    have hfs := fits_shutA hf
    obtain ⟨i1, i2, i3⟩ := hap_sum g hfs _ (Nat.le_refl _)
    have i2 := i2 h
    obtain ⟨h1, h2, h3⟩ := hap_rest m (shut m st d) st m.items.length
    unfold roundS
    rw [if_pos h]
    refine ⟨⟨by show (doneR m st d).s.length = _; unfold doneR; rw [hap_s_len, g.ns], fun i hi => ?_, by show (doneR m st d).f.length = _; unfold doneR; rw [h1, g.nf], by show 0 ≤ st.rounds + 1; have := g.r0; omega, ?_⟩, fun _ => i2⟩
    · show 0 ≤ at0 (hapN m (shut m st d) st m.items.length).s i ∧ at0 (hapN m (shut m st d) st m.items.length).s i ≤ 4
      rw [hap_s g.ns _ (Nat.le_refl _)]
      split
      · rename_i h0
        have := behind_up (hfs.each i hi) h0.2
        omega
      · exact g.rng i hi
    · show st.rounds + 1 ≤ (sumS (hapN m (shut m st d) st m.items.length).s : Int)
      have := g.few
      omega
theorem sum_le {l : List Int} (h : ∀ i, i < l.length → at0 l i ≤ 4) : sumS l ≤ 4 * l.length := by
  induction l with
  | nil => exact Nat.le_refl _
  | cons a l ih =>
    have h0 := h 0 (by simp)
    have := ih (fun i hi => by have := h (i + 1) (by simpa using hi); exact this)
    unfold sumS at *
    unfold at0 at h0
    simp only [List.map_cons, List.sum_cons, List.length_cons, List.getD_cons_zero] at *
    omega
theorem good_sum {m : Model} {st : St} (g : Good m st) : sumS st.s ≤ 4 * m.items.length := by
  have := sum_le (l := st.s) (fun i hi => (g.rng i (by rw [← g.ns]; exact hi)).2)
  rwa [g.ns] at this
theorem rest_more {m : Model} : ∀ (k : Nat) {st : St}, Good m st → 4 * m.items.length - sumS st.s < k → restN m (k + 1) st = restN m k st
  | 0, st, g, h => by omega
  | k + 1, st, g, h => by
    have e1 : ∀ j, restN m (j + 1) st = if someR m st (judged m st) then restN m j (roundS m st (judged m st)) else st := fun _ => rfl
    rw [e1 (k + 1), e1 k]
    split
    · rename_i hs
      obtain ⟨g', hl⟩ := good_round g (fits_judged m st)
      have := hl hs
      have := good_sum g'
      exact rest_more k g' (by omega)
    · rfl
theorem rest_step {m : Model} {st : St} (g : Good m st) (hn : m.items.length ≤ 16) (h : someR m st (judged m st) = true) : rest m st = rest m (roundS m st (judged m st)) := by
  unfold rest
  rw [← rest_more 80 g (by omega), restN, if_pos h]
theorem rest_stop {m : Model} {st : St} (h : someR m st (judged m st) = false) : rest m st = st := by
  unfold rest
  rw [restN, if_neg (by rw [h]; decide)]
/-- What holds of a case and stays so by each round holds when it rests. -/
theorem rest_ind {m : Model} (I : St → Prop) (hI : ∀ st, I st → Good m st → I (roundS m st (judged m st))) : ∀ (k : Nat) (st : St), I st → Good m st → I (restN m k st) ∧ Good m (restN m k st)
  | 0, st, h, g => ⟨h, g⟩
  | k + 1, st, h, g => by
    rw [restN]
    split
    · exact rest_ind I hI k _ (hI st h g) (good_round g (fits_judged m st)).1
    · exact ⟨h, g⟩
theorem rest_good {m : Model} {st : St} (g : Good m st) : Good m (rest m st) := (rest_ind (fun _ => True) (fun _ _ _ => trivial) 80 st trivial g).2
theorem rest_quiet {m : Model} : ∀ (k : Nat) {st : St}, Good m st → 4 * m.items.length - sumS st.s < k → someR m (restN m k st) (judged m (restN m k st)) = false
  | 0, st, g, h => by omega
  | k + 1, st, g, h => by
    rw [restN]
    split
    · rename_i hs
      obtain ⟨g', hl⟩ := good_round g (fits_judged m st)
      have := hl hs
      have := good_sum g'
      exact rest_quiet k g' (by omega)
    · rename_i hs
      simpa using hs
theorem good_st0 {m : Model} (h : 1 ≤ m.items.length) : Good m (st0 m) := by
  refine ⟨by unfold st0; simp, fun i hi => ?_, by unfold st0; simp, Int.le_refl _, by unfold st0; simp⟩
  show 0 ≤ at0 ((List.replicate m.items.length 0).set 0 2) i ∧ at0 ((List.replicate m.items.length 0).set 0 2) i ≤ 4
  rw [at0_set (by simp; omega), at0_rep]
  split <;> omega
end Go.Proofs.YtpipjkbgbhefcaaGreat.Cp
