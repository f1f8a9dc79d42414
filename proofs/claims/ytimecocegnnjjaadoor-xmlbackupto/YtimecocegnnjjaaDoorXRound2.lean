/-
  Plain laws: an element that is written is read as it was, but for places. They say nothing of any program.
-/
import Derived.Test.YtimecocegnnjjaaDoorXRound
set_option linter.unusedSimpArgs false
set_option linter.unusedVariables false
namespace Go.Proofs.YtimecocegnnjjaaDoor
open Go.RowKit
namespace Xp
/-- Names, values, numbers that may be written; none twice; not too deep. -/
def fairT : Nat → Tr → Prop
  | 0, _ => False
  | m + 1, T => ∃ (nm : ByteArray) (l : List Att) (ks : List Tr) (p : Int), T = mkT nm l ks p ∧ Sp.qualB nm.data.toList = true ∧ l.length ≤ 8 ∧ (∀ a ∈ l, Sp.qualB a.1.data.toList = true ∧ Sp.signsB a.2.data.toList = true ∧ a.2.data.toList.length ≤ 60) ∧ (l.map fun a => a.1.data.toList).Nodup ∧ ∀ K ∈ ks, fairT m K
/-- How many elements there are. -/
def cntT : Nat → Tr → Nat
  | 0, _ => 0
  | m + 1, T => 1 + ((ksT T).map (cntT m)).sum
theorem cnt_mk (m : Nat) (nm : ByteArray) (l : List Att) (ks : List Tr) (p : Int) : cntT (m + 1) (mkT nm l ks p) = 1 + (ks.map (cntT m)).sum := rfl
theorem tagF_halt {s : List UInt8} {p : Nat} {l : List Att} (f : Nat) (h : more s p = false) : tagF f s p l = .ok (l, skip s p) := by
  cases f with
  | zero => rfl
  | succ f =>
    unfold tagF
    rw [if_neg (by rw [h]; simp)]
/-- t begins with no blank. -/
def Shut (t : List UInt8) : Prop := ∃ r, t = 47 :: 62 :: r ∨ t = 62 :: r
theorem Shut.skip {t : List UInt8} (h : Shut t) : skipL t = 0 := by
  obtain ⟨r, rfl | rfl⟩ := h
  · rw [skipL, if_neg (by decide)]
  · rw [skipL, if_neg (by decide)]
theorem Shut.ends {t : List UInt8} (h : Shut t) : Ends t := by
  obtain ⟨r, rfl | rfl⟩ := h <;> intro c r' e <;> rw [← (List.cons.inj e).1] <;> decide
theorem tag_at {s t : List UInt8} (ht : Shut t) : ∀ (l l0 : List Att) (p f : Nat), l0.length + f = 9 → l0.length + l.length ≤ 8 → At s p (attrsP (l.map pairD) ++ t) → (∀ a ∈ l, Sp.qualB a.1.data.toList = true ∧ Sp.signsB a.2.data.toList = true ∧ a.2.data.toList.length ≤ 60) → ((l0 ++ l).map fun a => a.1.data.toList).Nodup → tagF f s p l0 = .ok (l0 ++ l, p + (attrsP (l.map pairD)).length)
  | [], l0, p, f, hf, h8, h, _, _ => by
    have hs : skip s p = p := by
      have := At.skip (t := t) h
      rw [ht.skip] at this
      exact this
    have hm : more s p = false := by
      unfold more
      rw [hs, decide_eq_false (by omega)]
      rfl
    rw [tagF_halt f hm, hs, List.append_nil]
    rfl
  | a :: l, l0, p, f, hf, h8, h, ha, hd => by
    obtain ⟨q1, q2, q3⟩ := ha a (List.mem_cons_self ..)
    obtain ⟨hqa, hql⟩ := qualB_all q1
    have hh : At s p (32 :: (a.1.data.toList ++ 61 :: 34 :: (Sp.esc true a.2.data.toList ++ 34 :: (attrsP (l.map pairD) ++ t)))) := by
      have e : attrsP ((a :: l).map pairD) ++ t = 32 :: (a.1.data.toList ++ 61 :: 34 :: (Sp.esc true a.2.data.toList ++ 34 :: (attrsP (l.map pairD) ++ t))) := by
        unfold attrsP
        rw [List.map_cons, List.flatMap_cons, attrP_mk]
        simp
      rw [← e]
      exact h
    have h1 := hh.one
    obtain ⟨c, r, hcr⟩ : ∃ c r, a.1.data.toList = c :: r := by
      cases hx : a.1.data.toList with
      | nil => rw [hx] at hql; exact absurd hql (by decide)
      | cons c r => exact ⟨c, r, rfl⟩
    have hcn := blank_name (hqa c (by rw [hcr]; exact List.mem_cons_self ..))
    have h1' := h1
    rw [hcr] at h1'
    have hsk : skip s p = p + 1 := by
      rw [hh.skip, hcr]
      show p + skipL (32 :: c :: _) = _
      rw [skipL, if_pos (by decide), skipL, if_neg (by rw [hcn.1]; simp)]
    have hm : more s p = true := by
      unfold more
      have e1 : hasL s (p + 1) [47] = false := by
        rw [has1, h1'.get, beq_eq_false_iff_ne]
        intro e
        exact hcn.2.1 (Option.some.inj e)
      have e2 : hasL s (p + 1) [62] = false := by
        rw [has1, h1'.get, beq_eq_false_iff_ne]
        intro e
        exact hcn.2.2 (Option.some.inj e)
      rw [hsk, e1, e2, decide_eq_true (Nat.lt_succ_self p), decide_eq_true h1'.lt]
      rfl
    have hl8 : l0.length < 8 := by simp only [List.length_cons] at h8; omega
    have hat := attr_at (l := l0) h1 q1 q2 q3 hl8 (by
      intro b hb e
      rw [List.map_append, List.nodup_append] at hd
      exact hd.2.2 b.1.data.toList (List.mem_map_of_mem hb) a.1.data.toList (by rw [List.map_cons]; exact List.mem_cons_self ..) e)
    obtain ⟨f', rfl⟩ : ∃ f', f = f' + 1 := ⟨f - 1, by omega⟩
    have h5 : At s (p + 1 + a.1.data.toList.length + 1 + 1 + (Sp.esc true a.2.data.toList).length + 1) (attrsP (l.map pairD) ++ t) := h1.step.one.one.step.one
    have ih := tag_at ht l (l0 ++ [a]) _ f' (by rw [List.length_append]; simp; omega) (by rw [List.length_append]; simp only [List.length_cons, List.length_nil] at h8 ⊢; omega) h5 (fun b hb => ha b (List.mem_cons_of_mem _ hb)) (by rw [List.append_assoc]; exact hd)
    rw [tagF, if_pos hm, hsk, hat]
    dsimp only
    rw [ih, List.append_assoc]
    refine congrArg Except.ok (Prod.ext rfl ?_)
    have e : attrsP ((a :: l).map pairD) = attrP (pairD a) ++ attrsP (l.map pairD) := by
      unfold attrsP
      rw [List.map_cons, List.flatMap_cons]
    show _ = p + (attrsP ((a :: l).map pairD)).length
    rw [e, attrP_mk, List.length_append]
    simp only [List.length_cons, List.length_append, List.length_nil]
    omega
theorem misc_at {s t : List UInt8} {p : Nat} {c : UInt8} (h : At s p (60 :: c :: t)) (hc : c ≠ 33) : misc s p = .ok p := by
  have hs : skip s p = p := by
    rw [h.skip, skipL, if_neg (by decide)]
    rfl
  rw [misc_step, hs, if_neg]
  rw [h.has]
  intro e
  simp only [remB, List.isPrefixOf, Bool.and_eq_true, beq_iff_eq] at e
  exact hc e.2.1.symm
theorem print_head {m : Nat} {T : Tr} (h : fairT m T) : ∃ c r, printT m T = 60 :: c :: r ∧ nameB c = true := by
  cases m with
  | zero => exact h.elim
  | succ m =>
    obtain ⟨nm, l, ks, p, rfl, hq, _⟩ := h
    obtain ⟨hqa, hql⟩ := qualB_all hq
    rw [printT_mk]
    cases hx : nm.data.toList with
    | nil => rw [hx] at hql; exact absurd hql (by decide)
    | cons c r => exact ⟨c, _, rfl, hqa c (by rw [hx]; exact List.mem_cons_self ..)⟩
theorem name_odd {c : UInt8} (h : nameB c = true) : c ≠ 33 ∧ c ≠ 47 := by
  have hd : ∀ k : Fin 256, nameB (UInt8.ofNat k.val) = true → UInt8.ofNat k.val ≠ 33 ∧ UInt8.ofNat k.val ≠ 47 := by decide +kernel
  have := hd ⟨c.toNat, c.toNat_lt⟩
  simp only [UInt8.ofNat_toNat] at this
  exact this h
/-- Two rows of elements are one, but for places. -/
def likes (m : Nat) (ks ks' : List Tr) : Prop := ks.length = ks'.length ∧ ∀ (i : Nat) (x y : Tr), ks[i]? = some x → ks'[i]? = some y → sameT m x y
theorem likes_snoc {m : Nat} {ks ks' : List Tr} {x y : Tr} (h : likes m ks ks') (hxy : sameT m x y) : likes m (ks ++ [x]) (ks' ++ [y]) := by
  obtain ⟨h1, h2⟩ := h
  refine ⟨by rw [List.length_append, List.length_append, h1]; rfl, fun i a b ha hb => ?_⟩
  rcases Nat.lt_or_ge i ks.length with hi | hi
  · rw [List.getElem?_append_left hi] at ha
    rw [List.getElem?_append_left (by omega)] at hb
    exact h2 i a b ha hb
  · rw [List.getElem?_append_right hi] at ha
    rw [List.getElem?_append_right (by omega)] at hb
    have hi0 : i - ks.length = 0 := by
      have := (List.getElem?_eq_some_iff.1 ha).1
      simp at this
      omega
    rw [hi0] at ha
    rw [← h1, hi0] at hb
    simp only [List.getElem?_cons_zero, Option.some.injEq] at ha hb
    rw [← ha, ← hb]
    exact hxy
/-- What reads a kid that was written. -/
def Reads (m : Nat) (s : List UInt8) : Prop := ∀ (T : Tr), fairT m T → ∀ (p n : Nat) (t : List UInt8), At s p (printT m T ++ t) → n + cntT m T ≤ 400 → ∃ T', elem m s p n = .ok (T', p + (printT m T).length, n + cntT m T) ∧ sameT m T T'
theorem kids_at {m : Nat} {s nm t : List UInt8} (hR : Reads m s) (hq : Sp.qualB nm = true) : ∀ (ks done acc : List Tr) (p n : Nat), (∀ K ∈ ks, fairT m K) → likes m done acc → At s p (ks.flatMap (printT m) ++ (60 :: 47 :: (nm ++ 62 :: t))) → n + (ks.map (cntT m)).sum ≤ 400 → p ≤ s.length → ∃ ks', kids m s nm p n acc = .ok (ks', p + (ks.flatMap (printT m)).length + 2 + nm.length + 1, n + (ks.map (cntT m)).sum) ∧ likes m (done ++ ks) ks'
  | [], done, acc, p, n, _, hl, h, hn, hp => by
    have h0 : At s p (60 :: 47 :: (nm ++ 62 :: t)) := h
    have hmi := misc_at h0 (by decide)
    have h2 := h0.one.one
    have hE : Ends (62 :: t) := by
      intro c r e
      rw [← (List.cons.inj e).1]
      decide
    have hqq := qual_at h2 hq hE
    have h3 := h2.step
    refine ⟨acc, ?_, by rw [List.append_nil]; exact hl⟩
    rw [kids_end hmi (by rw [h0.has]; rfl)]
    have hend : endTag s p nm = .ok (p + 2 + nm.length + 1) := by
      unfold endTag
      rw [hqq]
      dsimp only
      rw [show (s.drop (p + 2)).take (p + 1 + 1 + nm.length - (p + 2)) = nm from h2.cut, if_pos rfl]
      have hsk : skip s (p + 1 + 1 + nm.length) = p + 1 + 1 + nm.length := by
        rw [h3.skip, skipL, if_neg (by decide)]
        rfl
      rw [hsk, show hasL s (p + 1 + 1 + nm.length) [62] = true by rw [h3.has]; rfl, if_pos rfl]
    rw [hend]
    simp
  | K :: ks, done, acc, p, n, hf, hl, h, hn, hp => by
    have hK := hf K (List.mem_cons_self ..)
    obtain ⟨c, r, hpr, hc⟩ := print_head hK
    have hco := name_odd hc
    rw [List.map_cons, List.sum_cons] at hn ⊢
    have h0 : At s p (printT m K ++ (ks.flatMap (printT m) ++ (60 :: 47 :: (nm ++ 62 :: t)))) := by
      rw [List.flatMap_cons, List.append_assoc] at h
      exact h
    have h0' := h0
    rw [hpr] at h0'
    have hmi := misc_at (t := r ++ _) h0' hco.1
    obtain ⟨T', he, hsm⟩ := hR K hK p n _ h0 (by omega)
    have hlt : p < s.length := At.lt (t := c :: (r ++ _)) h0'
    have hg := elem_goes s m p n _ _ _ hp he
    obtain ⟨ks', hk, hlk⟩ := kids_at hR hq ks (done ++ [K]) (acc ++ [T']) (p + (printT m K).length) (n + cntT m K) (fun x hx => hf x (List.mem_cons_of_mem _ hx)) (likes_snoc hl hsm) h0.step (by omega) hg.2.1
    refine ⟨ks', ?_, by rw [List.append_assoc] at hlk; exact hlk⟩
    rw [kids_kid hp hmi (by
      rw [At.has (t := 60 :: c :: (r ++ _)) h0']
      simp only [List.isPrefixOf, Bool.and_eq_false_imp, beq_iff_eq]
      intro _ e
      exact absurd e.symm hco.2) (by rw [At.has (t := 60 :: c :: (r ++ _)) h0']; rfl), he]
    dsimp only
    rw [hk, List.flatMap_cons, List.length_append]
    refine congrArg Except.ok (Prod.ext rfl (Prod.ext ?_ ?_))
    · show p + (printT m K).length + (ks.flatMap (printT m)).length + 2 + nm.length + 1 = p + ((printT m K).length + (ks.flatMap (printT m)).length) + 2 + nm.length + 1
      omega
    · show n + cntT m K + (ks.map (cntT m)).sum = n + (cntT m K + (ks.map (cntT m)).sum)
      omega
theorem same_mk {m : Nat} {nm : ByteArray} {l : List Att} {ks ks' : List Tr} {p p' : Int} (h : likes m ks ks') : sameT (m + 1) (mkT nm l ks p) (mkT nm l ks' p') := by
  rw [sameT_succ, nm_mk, nm_mk, as_mk, as_mk, ks_mk, ks_mk]
  exact ⟨rfl, rfl, h.1, h.2⟩
theorem sum_zero_nil : ∀ (l : List Nat), l = [] → l.sum = 0 := fun l h => by rw [h]; rfl
/-- An element that was written is read as it was, but for places. -/
theorem elem_at (s : List UInt8) : ∀ m, Reads m s
  | 0 => fun T h => h.elim
  | m + 1 => by
    rintro T ⟨nm, l, ks, p0, rfl, hq, h8, ha, hd, hk⟩ p n t h hn
    rw [printT_mk] at h ⊢
    rw [cnt_mk] at hn ⊢
    have h60 : hasL s p [60] = true := by rw [At.has (t := 60 :: _) h]; rfl
    by_cases hks : ks = []
    · subst hks
      rw [if_pos rfl] at h ⊢
      have h1 : At s (p + 1) (nm.data.toList ++ (attrsP (l.map pairD) ++ (47 :: 62 :: t))) := by
        have := At.one (t := _) h
        simpa using this
      have hS : Shut (47 :: 62 :: t) := ⟨t, .inl rfl⟩
      have hE : Ends (attrsP (l.map pairD) ++ (47 :: 62 :: t)) := by
        cases l with
        | nil => exact hS.ends
        | cons a l =>
          intro c r e
          have e2 : attrsP ((a :: l).map pairD) ++ (47 :: 62 :: t) = 32 :: (a.1.data.toList ++ (61 :: 34 :: (Sp.esc true a.2.data.toList ++ [34])) ++ (attrsP (l.map pairD) ++ (47 :: 62 :: t))) := by
            unfold attrsP
            rw [List.map_cons, List.flatMap_cons, attrP_mk]
            simp
          rw [e2] at e
          rw [← (List.cons.inj e).1]
          decide
      have hqq := qual_at h1 hq hE
      have h2 := h1.step
      have htg := tag_at hS l [] _ 9 rfl (by simpa using h8) h2 ha (by simpa using hd)
      have h3 := h2.step
      refine ⟨mkT nm l [] p, ?_, same_mk ⟨rfl, fun i x y hx => by simp at hx⟩⟩
      rw [elem_eq, if_pos h60, if_neg (by simp at hn; omega), hqq]
      dsimp only
      rw [htg]
      dsimp only
      rw [show hasL s (p + 1 + nm.data.toList.length + (attrsP (l.map pairD)).length) [47, 62] = true by rw [h3.has]; rfl, if_pos rfl, h1.cut]
      refine congrArg Except.ok (Prod.ext rfl (Prod.ext ?_ ?_))
      · show p + 1 + nm.data.toList.length + (attrsP (l.map pairD)).length + 2 = p + (60 :: (nm.data.toList ++ (attrsP (l.map pairD) ++ [47, 62]))).length
        simp only [List.length_cons, List.length_append, List.length_nil]
        omega
      · rfl
    · rw [if_neg hks] at h ⊢
      have h1 : At s (p + 1) (nm.data.toList ++ (attrsP (l.map pairD) ++ (62 :: (ks.flatMap (printT m) ++ (60 :: 47 :: (nm.data.toList ++ 62 :: t)))))) := by
        have := At.one (t := _) h
        simpa using this
      have hS : Shut (62 :: (ks.flatMap (printT m) ++ (60 :: 47 :: (nm.data.toList ++ 62 :: t)))) := ⟨_, .inr rfl⟩
      have hE : Ends (attrsP (l.map pairD) ++ (62 :: (ks.flatMap (printT m) ++ (60 :: 47 :: (nm.data.toList ++ 62 :: t))))) := by
        cases l with
        | nil => exact hS.ends
        | cons a l =>
          intro c r e
          unfold attrsP at e
          rw [List.map_cons, List.flatMap_cons, attrP_mk] at e
          rw [← (List.cons.inj e).1]
          decide
      have hqq := qual_at h1 hq hE
      have h2 := h1.step
      have htg := tag_at hS l [] _ 9 rfl (by simpa using h8) h2 ha (by simpa using hd)
      have h3 := h2.step
      have h4 := h3.one
      have hlt := h3.lt
      obtain ⟨ks', hkk, hlk⟩ := kids_at (elem_at s m) hq ks [] [] _ (n + 1) hk ⟨rfl, fun i x y hx => by simp at hx⟩ h4 (by omega) (by omega)
      refine ⟨mkT nm l ks' p, ?_, same_mk hlk⟩
      rw [elem_eq, if_pos h60, if_neg (by omega), hqq]
      dsimp only
      rw [htg]
      dsimp only
      rw [show hasL s (p + 1 + nm.data.toList.length + (attrsP (l.map pairD)).length) [47, 62] = false by rw [h3.has]; rfl, if_neg (by simp), show hasL s (p + 1 + nm.data.toList.length + (attrsP (l.map pairD)).length) [62] = true by rw [h3.has]; rfl, if_pos rfl, h1.cut, hkk]
      dsimp only
      refine congrArg Except.ok (Prod.ext rfl (Prod.ext ?_ ?_))
      · show p + 1 + nm.data.toList.length + (attrsP (l.map pairD)).length + 1 + (ks.flatMap (printT m)).length + 2 + nm.data.toList.length + 1 = p + (60 :: (nm.data.toList ++ (attrsP (l.map pairD) ++ 62 :: (ks.flatMap (printT m) ++ 60 :: 47 :: (nm.data.toList ++ [62]))))).length
        simp only [List.length_cons, List.length_append, List.length_nil]
        omega
      · show n + 1 + (ks.map (cntT m)).sum = n + (1 + (ks.map (cntT m)).sum)
        omega
/-- A text that was written is read as it was, but for places. -/
theorem parse_print (T : Tr) (h : fairT 12 T) (hc : cntT 12 T ≤ 400) (hl : (printT 12 T).length ≤ 8000) : ∃ T', parse (printT 12 T) = .ok T' ∧ sameT 12 T T' := by
  obtain ⟨c, r, hpr, hcn⟩ := print_head h
  have h0 : At (printT 12 T) 0 (printT 12 T ++ []) := by
    unfold At
    rw [List.append_nil]
    rfl
  have h0' : At (printT 12 T) 0 (60 :: c :: r) := by
    unfold At
    rw [← hpr]
    rfl
  obtain ⟨T', he, hs⟩ := elem_at (printT 12 T) 12 T h 0 0 [] h0 (by omega)
  refine ⟨T', ?_, hs⟩
  have hm2 : misc (printT 12 T) (printT 12 T).length = .ok (printT 12 T).length := by
    rw [misc_step, skip_far (Nat.le_refl _), if_neg]
    rw [hasL_far (by show _ < _ + 4; omega) (by decide)]
    simp
  unfold parse
  rw [if_neg (by omega), misc_at h0' (name_odd hcn).1]
  dsimp only
  rw [he]
  dsimp only
  rw [Nat.zero_add, hm2]
  dsimp only
  rw [if_neg (by omega)]
end Xp
end Go.Proofs.YtimecocegnnjjaaDoor
