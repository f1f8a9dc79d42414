/-
  Rows of names; the place of an item.
-/
import Derived.Test.YtlgcaklhceekiaaMIndex
import Derived.Test.YtlgcaklhceekiaaIs
set_option linter.unusedSimpArgs false
set_option linter.unusedVariables false
namespace Go.Proofs.Ytlgcaklhceekiaa
open Go.RowKit
theorem isV (s : ByteArray) (w : World) (hs : s.size ≤ 140737488355328) (b : Bool) (h : Hid (Mp.isN s = b)) :
    Calls Try.prog 48 #[.string s] w fun e w' => e = .returned (.bool b) ∧ w' = w := by
  have := is_any s w (by unfold maxLen; omega)
  rw [← h.out]
  exact this
theorem containsSV (w : World) (ao : Option Addr) (n cap : Nat) (l : List ByteArray) (s : ByteArray) (h : FRow w (.slice ao n cap) l) (b : Bool) (hb : Hid (Mp.has l s = b)) :
    Calls Try.prog 49 #[.slice ao n cap, .string s] w fun e w' => e = .returned (.bool b) ∧ w' = w := by
  rw [← hb.out]
  exact containsS w ao n cap l s h
theorem areNamesD (w : World) (ao : Option Addr) (n cap : Nat) (l : List ByteArray) (h : FRow w (.slice ao n cap) l) :
    Calls Try.prog 43 #[.slice ao n cap] w fun e w' => e = .returned (.bool (Mp.namesF [] l)) ∧ w' = w := by
  obtain ⟨hn, hl, hcap, b, o, ha, hc⟩ := frow_at h
  have HN := hideT hn
  have HC := hideT hc
  have HA := hideT ha
  have H := hideT h
  clear hn hc ha h
  go_enter Try.func43, Try.ntmps43
  go_wp2_with fail
  go_loop [7] (fun i => ∃ k : Nat, k ≤ n ∧ i = .int .i64 k ∧ Hid (Mp.namesF (l.take k) (l.drop k) = Mp.namesF [] l)) (fun i => n - (intOf i).toNat)
  case atStart => exact ⟨0, by omega, rfl, rfl⟩
  case round =>
    obtain ⟨k, hk, rfl, HB⟩ := hrel
    by_cases hlt : k < n
    · obtain ⟨t, ht⟩ := Mp.at_lt (l := l) (k := k) (by have := HN.out; omega)
      obtain ⟨hz, c0⟩ := HC.out k t ht
      obtain rfl := HA.out (by omega)
      have HB2 := HB.out
      rw [Mp.drop_at ht, Mp.namesF] at HB2
      have HB2 := hideT HB2
      have HT := hideT (Mp.take_at ht)
      have HR := hideT (rowR_take H.out k cap (by omega) (by omega))
      clear ht
      obtain ⟨b1, H1⟩ : ∃ x, Hid (Mp.isN t = x) := ⟨_, rfl⟩
      obtain ⟨b2, H2⟩ : ∃ x, Hid (Mp.has (l.take k) t = x) := ⟨_, rfl⟩
      cases b1
      · have HF : Hid (Mp.namesF [] l = false) := by show _ = _; rw [← HB2.out, H1.out]; rfl
        go_wp2_with fail
        refine (isV t w hz false H1).mono ?_
        rintro e w1 ⟨rfl, rfl⟩
        go_wp2_with fail
        go_ret
        exact ⟨ret_b HF.out.symm, rfl⟩
      · cases b2
        · have HF : Hid (Mp.namesF (l.take (k + 1)) (l.drop (k + 1)) = Mp.namesF [] l) := by show _ = _; rw [← HB2.out, H1.out, H2.out, HT.out]; rfl
          go_wp2_with fail
          refine (isV t w hz true H1).mono ?_
          rintro e w1 ⟨rfl, rfl⟩
          go_wp2_with fail
          refine (containsSV _ _ k cap _ t HR.out false H2).mono ?_
          rintro e w1 ⟨rfl, rfl⟩
          go_wp2_with fail
          go_round
          case rel => exact ⟨k + 1, by omega, by go_num, HF⟩
          case measure => simp [intOf]; omega
        · have HF : Hid (Mp.namesF [] l = false) := by show _ = _; rw [← HB2.out, H1.out, H2.out]; rfl
          go_wp2_with fail
          refine (isV t w hz true H1).mono ?_
          rintro e w1 ⟨rfl, rfl⟩
          go_wp2_with fail
          refine (containsSV _ _ k cap _ t HR.out true H2).mono ?_
          rintro e w1 ⟨rfl, rfl⟩
          go_wp2_with fail
          go_ret
          exact ⟨ret_b HF.out.symm, rfl⟩
    · have HF : Hid (Mp.namesF [] l = true) := by show _ = _; rw [← HB.out, Mp.drop_all (by have := HN.out; omega)]; rfl
      go_wp2_with fail
      go_ret
      exact ⟨ret_b HF.out.symm, rfl⟩
theorem filesD (w : World) (ao : Option Addr) (n cap : Nat) (l : List ByteArray) (h : FRow w (.slice ao n cap) l) :
    Calls Try.prog 34 #[.slice ao n cap] w fun e w' => e = .returned (.bool (Mp.filesB l)) ∧ w' = w := by
  have HN := hideT (frow_at h).1
  have hl := (frow_at h).2.1
  have H := hideT h
  clear h
  by_cases h6 : n ≤ 6
  · have HF : Hid (Mp.filesB l = Mp.namesF [] l) := by show _ = _; unfold Mp.filesB; rw [decide_eq_true (by have := HN.out; omega)]; rfl
    go_enter Try.func34, Try.ntmps34
    go_wp2_with fail
    refine (areNamesD w ao n cap l H.out).mono ?_
    rintro e w1 ⟨rfl, rfl⟩
    go_wp2_with fail
    go_ret
    exact ⟨ret_b HF.out.symm, rfl⟩
  · have HF : Hid (Mp.filesB l = false) := by show _ = _; unfold Mp.filesB; rw [decide_eq_false (by have := HN.out; omega)]; rfl
    go_enter Try.func34, Try.ntmps34
    go_wp2_with fail
    go_ret
    exact ⟨ret_b HF.out.symm, rfl⟩
theorem placeFnD (x : Mp.Item) (v5 v6 : Value) (q : Nat) (s : ByteArray) (w : World) (hq : w.cell? ⟨q, 0, none⟩ = some (.string s)) :
    Calls Try.prog 58 #[.agg #[.string x.id, .int .i64 x.kind, .string x.parent, .bool x.req, .int .i64 x.ticks, v5, v6], .pointer (some ⟨q, 0, none⟩)] w fun e w' => e = .returned (.bool (decide (x.id = s))) ∧ Below w.heap.size w w' := by
  have hq' := (cell_old w (.cells #[.string x.id, .int .i64 x.kind, .string x.parent, .bool x.req, .int .i64 x.ticks, v5, v6] 29) ⟨q, 0, none⟩ (cell_lt hq)).trans hq
  by_cases e : x.id = s
  · subst e
    have HF : Hid (decide (x.id = x.id) = true) := decide_eq_true rfl
    go_enter Try.func58, Try.ntmps58
    go_wp2_with fail
    go_ret
    exact ⟨rfl, (Below.refl _ _).alloc (Nat.le_refl _) _⟩
  · have e1 : (x.id.toList == s.toList) = false := beq_eq_false_iff_ne.2 fun h => e (toList_inj h)
    have HF : Hid (decide (x.id = s) = false) := decide_eq_false e
    clear e
    go_enter Try.func58, Try.ntmps58
    go_wp2_with fail
    go_ret
    exact ⟨ret_b HF.out.symm, (Below.refl _ _).alloc (Nat.le_refl _) _⟩
end Go.Proofs.Ytlgcaklhceekiaa
