/-
  name.Unescape, name.Escape: each by its contract.
-/
import Derived.Test.YtbcommnnnfilkaaDoorFirst
set_option linter.unusedSimpArgs false
namespace Go.Proofs.YtbcommnnnfilkaaDoor
open Go.RowKit

theorem first_v (s : ByteArray) (w : World) (hs : s.size ≤ maxLen) (hT : Lib.Utf8Tabs 0 1 w) (h0 : 0 < s.size) (v m : Int) (h : Hid (Sp.pairV (Sp.frst s.data.toList) = .tuple #[.int .i32 v, .int .i64 m])) :
    Calls Tryd.prog 25 #[.string s] w fun e w' => e = .returned (.tuple #[.int .i32 v, .int .i64 m]) ∧ Below w.heap.size w w' := by
  have := first_any s w hs hT h0
  rw [h.out] at this
  exact this
theorem isBuilderF_below {T e B b : Nat} {bs : List Value} {w w' : World} (h : Lib.IsBuilderF T e B b bs w) (hb : Below w.heap.size w w') : Lib.IsBuilderF T e B b bs w' := by
  have old : ∀ (k : Nat) (x : Obj), w.heap[k]? = some x → w'.heap[k]? = some x := fun k x hk => by
    rw [hb.block k (Array.getElem?_eq_some_iff.1 hk).1]
    exact hk
  have one : ∀ p, Lib.BuilderAtF T e B b p bs w → Lib.BuilderAtF T e B b p bs w' := by
    rintro p ⟨hB, v, hbk, hown, hne⟩
    refine ⟨hB, v, old _ _ hbk, ?_, hne⟩
    obtain ⟨h1, h2⟩ := hown
    refine ⟨h1, ?_⟩
    rcases h2 with h2 | ⟨g, cap, cur, fz, hv, hg, hgg, hr⟩
    · exact Or.inl h2
    · exact Or.inr ⟨g, cap, cur, fz, hv, hg, old _ _ hgg, hr⟩
  exact h.elim (fun x => Or.inl (one _ x)) (fun x => Or.inr (one _ x))

set_option maxRecDepth 100000 in
theorem unescape_any (s : ByteArray) (w : World) (hs : s.size ≤ 1000000) (hT : Lib.Utf8Tabs 0 1 w) :
    Calls Tryd.prog 11 #[.string s] w fun e w' => e = .returned (Sp.textV (Sp.unesc s.data.toList)) ∧ Below w.heap.size w w' := by
  have HT : Hid (Lib.Utf8Tabs 0 1 w) := hT
  clear hT
  go_enter Tryd.func11, Tryd.ntmps11
  go_wp2
  go_loopw [5, 6, 7] (fun i _r _n wr => ∃ (pos fuel : Nat) (acc : List UInt8), i = .int .i64 pos ∧ pos ≤ s.size ∧ s.size ≤ pos + fuel ∧ acc.length ≤ 4 * pos ∧ Hid (Lib.IsBuilderF 42 5 w.heap.size w.heap.size (Lib.byteCells acc) wr) ∧ Hid (Below w.heap.size w wr) ∧ w.heap.size < wr.heap.size ∧ Hid (Sp.unesc s.data.toList = (Sp.unes fuel (s.data.toList.drop pos)).map fun t => acc ++ t)) (fun i _ _ _ => s.size - (intOf i).toNat)
  case atStart =>
    refine ⟨0, s.size, [], rfl, by omega, by omega, by simp, (Lib.IsBuilderF.of (Lib.fresh_isBuilder 42 5 w)), (Below.refl _ w).alloc (Nat.le_refl _) _, by simp, ?_⟩
    show Sp.unesc s.data.toList = _
    rw [Sp.unesc, Sp.len_byte, List.drop_zero]
    generalize Sp.unes s.size s.data.toList = o
    cases o <;> rfl
  case round =>
    obtain ⟨pos, fuel, acc, rfl, hp, hfu, hal, HI, HB, hsz, HU⟩ := hrel
    by_cases hlt : pos < s.size
    · obtain ⟨f, rfl⟩ : ∃ f, fuel = f + 1 := ⟨fuel - 1, by omega⟩
      obtain ⟨t, HE⟩ : ∃ t : ByteArray, Hid (s.extract pos s.size = t) := ⟨_, rfl⟩
      have htl : Hid (t.data.toList = s.data.toList.drop pos) := by
        show t.data.toList = _
        rw [← HE.out, Lib.extract_to_end]
      have htz : t.size = s.size - pos := by rw [← Sp.len_byte t, htl.out, List.length_drop, Sp.len_byte]
      have hts : t.size ≤ maxLen := by unfold maxLen; omega
      have ht0 : 0 < t.size := by omega
      have hne : Hid (t.data.toList ≠ []) := fun h => by
        have := congrArg List.length h
        rw [Sp.len_byte, List.length_nil] at this
        omega
      have HTr : Hid (Lib.Utf8Tabs 0 1 wr) := Utf8Tabs_below HT.out HB.out
      clear htz
      cases hf : Sp.frst t.data.toList with
      | none =>
        have HP : Hid (Sp.pairV (Sp.frst t.data.toList) = .tuple #[.int .i32 0, .int .i64 0]) := by rw [hf]; exact rfl
        have HF : Hid (Sp.unesc s.data.toList = none) := by
          show Sp.unesc s.data.toList = none
          rw [HU.out, ← htl.out, Sp.unes_fail f _ hne.out hf]
          rfl
        clear hf
        go_wp2_with fail
        rw [HE.out]
        refine (first_v t _ hts HTr.out ht0 0 0 HP).mono ?_
        rintro e w1 ⟨rfl, hb1⟩
        go_wp2_with fail
        go_ret2
        exact ⟨Sp.text_none HF.out, HB.out.trans (hb1.mono (by omega))⟩
      | some p =>
        obtain ⟨r, n⟩ := p
        have hok := Sp.frst_ok _ hne.out r n hf
        have hrr := Sp.charB_range r hok.1
        have hn1 := hok.2.1
        have hn2 : pos + n ≤ s.size := by
          have := hok.2.2
          rw [htl.out, List.length_drop, Sp.len_byte] at this
          omega
        have HP : Hid (Sp.pairV (Sp.frst t.data.toList) = .tuple #[.int .i32 r, .int .i64 n]) := by rw [hf]; exact rfl
        have HF : Hid (Sp.unesc s.data.toList = (Sp.unes f (s.data.toList.drop (pos + n))).map fun t => (acc ++ Lib.encodeRune r) ++ t) := by
          show Sp.unesc s.data.toList = _
          rw [HU.out, ← htl.out, Sp.unes_step f _ hne.out r n hf, htl.out, List.drop_drop]
          cases Sp.unes f (s.data.toList.drop (pos + n)) <;> simp
        have hr0 := hrr.1
        have hr1 := hrr.2
        clear hf hok hrr
        have n0 : ((n : Int) == 0) = false := by rw [beq_eq_false_iff_ne]; omega
        go_wp2_with fail
        rw [HE.out]
        refine (first_v t _ hts HTr.out ht0 r n HP).mono ?_
        rintro e w1 ⟨rfl, hb1⟩
        have HI1 := isBuilderF_below HI.out hb1
        have hz1 := hb1.size
        go_wp2_with fail
        refine (Tryd.Builder_WriteRune_k w.heap.size w.heap.size _ r (by omega) (by omega) _ HI1 (by rw [Lib.byteCells_length]; omega) (by omega)).mono ?_
        rintro e w2 ⟨rfl, h2, b2, k2⟩
        have hz2 := b2.size
        go_wp2_with fail
        go_roundw
        case rel =>
          have hl4 := Lib.runeCells_le r
          rw [Lib.runeCells_length] at hl4
          refine ⟨pos + n, f, acc ++ Lib.encodeRune r, by go_num, by omega, by omega, by simp; omega, ?_, (HB.out.trans (hb1.mono (by omega))).trans b2, by omega, HF⟩
          show Lib.IsBuilderF _ _ _ _ _ _
          rw [Lib.byteCells_append, Lib.byteCells_encodeRune]
          exact Or.inr h2
        case measure => simp [intOf]; omega
    · have HF : Hid (Sp.unesc s.data.toList = some acc) := by
        show Sp.unesc s.data.toList = some acc
        rw [HU.out, Sp.drop_all s pos (by omega), Sp.unes_nil]
        simp
      go_wp2_with fail
      refine (Tryd.Builder_String_any_k w.heap.size w.heap.size acc _ HI.out (by omega)).mono ?_
      rintro e w2 ⟨rfl, _, b2, _⟩
      go_wp2_with fail
      go_ret2
      exact ⟨Sp.text_some HF.out, HB.out.trans b2⟩
end Go.Proofs.YtbcommnnnfilkaaDoor
