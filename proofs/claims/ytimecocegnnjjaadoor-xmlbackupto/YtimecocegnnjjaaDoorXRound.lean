/-
  Plain laws: what is written is read as it was: names, values, attributes. They say nothing of any program.
-/
import Derived.Test.YtimecocegnnjjaaDoorPartC
import Derived.Test.YtimecocegnnjjaaDoorPlain10
set_option linter.unusedSimpArgs false
set_option linter.unusedVariables false
namespace Go.Proofs.YtimecocegnnjjaaDoor
open Go.RowKit
namespace Xp
/-- From place p on the text goes on as t. -/
def At (s : List UInt8) (p : Nat) (t : List UInt8) : Prop := s.drop p = t
theorem At.step {s t : List UInt8} {p : Nat} {x : List UInt8} (h : At s p (x ++ t)) : At s (p + x.length) t := by
  unfold At at *
  rw [← List.drop_drop, h, List.drop_left]
theorem At.one {s t : List UInt8} {p : Nat} {c : UInt8} (h : At s p (c :: t)) : At s (p + 1) t := At.step (x := [c]) h
theorem At.has {s t x : List UInt8} {p : Nat} (h : At s p t) : hasL s p x = x.isPrefixOf t := by
  unfold hasL At at *
  rw [h]
theorem At.skip {s t : List UInt8} {p : Nat} (h : At s p t) : skip s p = p + skipL t := by
  unfold Xp.skip At at *
  rw [h]
theorem At.cut {s t x : List UInt8} {p : Nat} (h : At s p (x ++ t)) : cut s p (p + x.length) = x := by
  unfold Xp.cut At at *
  rw [h, Nat.add_sub_cancel_left, List.take_left]
theorem At.lt {s t : List UInt8} {p : Nat} {c : UInt8} (h : At s p (c :: t)) : p < s.length := by
  rcases Nat.lt_or_ge p s.length with h' | h'
  · exact h'
  · unfold At at h
    rw [List.drop_eq_nil_iff.2 h'] at h
    cases h
theorem At.get {s t : List UInt8} {p : Nat} {c : UInt8} (h : At s p (c :: t)) : s[p]? = some c := by
  have := h.lt
  unfold At at h
  rw [List.drop_eq_getElem_cons this] at h
  rw [List.getElem?_eq_getElem this, (List.cons.inj h).1]
/-- No byte of a name begins t. -/
def Ends (t : List UInt8) : Prop := ∀ c r, t = c :: r → nameB c = false
theorem runL_at : ∀ (nm t : List UInt8), (∀ c ∈ nm, nameB c = true) → Ends t → runL (nm ++ t) = nm.length
  | [], [], _, _ => rfl
  | [], c :: t, _, h => by
    show runL (c :: t) = 0
    rw [runL, if_neg (by rw [h c t rfl]; simp)]
  | c :: nm, t, h, ht => by
    show runL (c :: (nm ++ t)) = _
    rw [runL, if_pos (h c (List.mem_cons_self ..)), runL_at nm t (fun d hd => h d (List.mem_cons_of_mem _ hd)) ht]
    rfl
theorem isB_all {l : List UInt8} (h : Sp.isB l = true) : ∀ c ∈ l, nameB c = true := by
  intro c hc
  unfold Sp.isB at h
  rw [Bool.and_eq_true, Bool.and_eq_true] at h
  have := List.all_eq_true.1 h.2 c hc
  unfold nameB
  rw [this]
  rfl
theorem isB_pos {l : List UInt8} (h : Sp.isB l = true) : 0 < l.length := by
  unfold Sp.isB at h
  rw [Bool.and_eq_true, Bool.and_eq_true] at h
  have := of_decide_eq_true h.1.1
  omega
theorem qualB_all {l : List UInt8} (h : Sp.qualB l = true) : (∀ c ∈ l, nameB c = true) ∧ 0 < l.length := by
  by_cases h0 : 0 ≤ Lib.indexByte l 58
  · obtain ⟨n, hn⟩ := Int.eq_ofNat_of_zero_le h0
    rw [Sp.qualB_found l n hn, Bool.and_eq_true] at h
    have hg := (Lib.indexByte_some hn).1
    obtain ⟨hlt, he⟩ := List.getElem?_eq_some_iff.1 hg
    refine ⟨fun c hc => ?_, by omega⟩
    rw [← List.take_append_drop n l] at hc
    rcases List.mem_append.1 hc with hc | hc
    · exact isB_all h.1 c hc
    · rw [List.drop_eq_getElem_cons hlt, he] at hc
      rcases List.mem_cons.1 hc with hc | hc
      · rw [hc]; rfl
      · exact isB_all h.2 c hc
  · rw [Sp.qualB_none l (by omega)] at h
    exact ⟨isB_all h, isB_pos h⟩
theorem qual_at {s nm t : List UInt8} {p : Nat} (h : At s p (nm ++ t)) (hq : Sp.qualB nm = true) (ht : Ends t) : qual s p = some (p + nm.length) := by
  have hr : run s p = p + nm.length := by
    unfold run
    rw [show s.drop p = nm ++ t from h, runL_at nm t (qualB_all hq).1 ht]
  unfold qual
  rw [hr, show (s.drop p).take (p + nm.length - p) = nm from h.cut, if_pos hq]
theorem esc1_all : ∀ c : UInt8, (Sp.esc1 true c).all (fun d => d != 34 && d != 60) = true := by
  intro c
  have h : ∀ k : Fin 256, (Sp.esc1 true (UInt8.ofNat k.val)).all (fun d => d != 34 && d != 60) = true := by decide +kernel
  have := h ⟨c.toNat, c.toNat_lt⟩
  simpa using this
theorem esc_all (v : List UInt8) : ∀ d ∈ Sp.esc true v, d ≠ 34 ∧ d ≠ 60 := by
  intro d hd
  unfold Sp.esc at hd
  obtain ⟨c, _, hc⟩ := List.mem_flatMap.1 hd
  have := List.all_eq_true.1 (esc1_all c) d hc
  simpa using this
theorem stopL_at (d : UInt8) : ∀ (x t : List UInt8), (∀ c ∈ x, c ≠ d ∧ c ≠ 60) → stopL d (x ++ d :: t) = x.length
  | [], t, _ => by
    show stopL d (d :: t) = 0
    rw [stopL, if_pos (Or.inl rfl)]
  | c :: x, t, h => by
    show stopL d (c :: (x ++ d :: t)) = _
    have hc := h c (List.mem_cons_self ..)
    rw [stopL, if_neg (by rintro (e | e); exact hc.1 e; exact hc.2 e), stopL_at d x t (fun e he => h e (List.mem_cons_of_mem _ he))]
    rfl
theorem value_at {s v t : List UInt8} {p : Nat} (h : At s p (34 :: (Sp.esc true v ++ 34 :: t))) (hv : Sp.signsB v = true) (h60 : v.length ≤ 60) : value s p = some (v, p + 1 + (Sp.esc true v).length + 1) := by
  have h1 := h.one
  have hst : stop 34 s (p + 1) = p + 1 + (Sp.esc true v).length := by
    unfold stop
    rw [show s.drop (p + 1) = Sp.esc true v ++ 34 :: t from h1, stopL_at 34 _ t (esc_all v)]
  unfold value
  rw [if_pos h.get]
  unfold valueIn
  rw [hst, if_pos h1.step.get, show (s.drop (p + 1)).take (p + 1 + (Sp.esc true v).length - (p + 1)) = Sp.esc true v from h1.cut, Sp.unesc_back true v hv]
  dsimp only
  rw [if_pos h60]
theorem blank_name {c : UInt8} (h : nameB c = true) : blankB c = false ∧ c ≠ 47 ∧ c ≠ 62 := by
  have hd : ∀ k : Fin 256, nameB (UInt8.ofNat k.val) = true → blankB (UInt8.ofNat k.val) = false ∧ UInt8.ofNat k.val ≠ 47 ∧ UInt8.ofNat k.val ≠ 62 := by decide +kernel
  have := hd ⟨c.toNat, c.toNat_lt⟩
  simp only [UInt8.ofNat_toNat] at this
  exact this h
/-- An attribute as it is written is read as it was. -/
theorem attr_at {s t : List UInt8} {p : Nat} {a : Att} {l : List Att} (h : At s p (a.1.data.toList ++ 61 :: 34 :: (Sp.esc true a.2.data.toList ++ 34 :: t))) (hq : Sp.qualB a.1.data.toList = true) (hv : Sp.signsB a.2.data.toList = true) (h60 : a.2.data.toList.length ≤ 60) (h8 : l.length < 8) (hn : ∀ b ∈ l, b.1.data.toList ≠ a.1.data.toList) :
    attr s p l = .ok (a, p + a.1.data.toList.length + 1 + 1 + (Sp.esc true a.2.data.toList).length + 1) := by
  have hE : Ends (61 :: 34 :: (Sp.esc true a.2.data.toList ++ 34 :: t)) := by
    intro c r e
    rw [← (List.cons.inj e).1]
    decide
  have h1 := h.step
  have h2 := h1.one
  unfold attr
  rw [if_neg (by omega), qual_at h hq hE]
  dsimp only
  rw [h.cut, if_neg, show hasL s (p + a.1.data.toList.length) [61] = true by rw [h1.has]; rfl, if_pos rfl, value_at h2 hv h60]
  · have e1 : ba a.1.data.toList = a.1 := rfl
    have e2 : ba a.2.data.toList = a.2 := rfl
    dsimp only
    rw [e1, e2]
  · intro e
    obtain ⟨b, hb, e⟩ := List.any_eq_true.1 e
    exact hn b hb (beq_iff_eq.1 e)
end Xp
end Go.Proofs.YtimecocegnnjjaaDoor
