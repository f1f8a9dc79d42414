/-
  The document's Place, File, Op.
-/
import Derived.Test.YtpipjkbgbhefcaaGreatMRefSmall
import Derived.Test.YtpipjkbgbhefcaaGreatPartX
set_option linter.unusedSimpArgs false
set_option linter.unusedVariables false
namespace Go.Proofs.YtpipjkbgbhefcaaGreat
open Go.RowKit
set_option maxRecDepth 100000
set_option maxHeartbeats 1000000 in
theorem placeRef (w : World) (vf : Value) (ao : Option Addr) (n cap : Nat) (l : List Mp.Item) (s : ByteArray) (h : IRow w (.slice ao n cap) l) :
    Calls Tryz.prog 58 #[.agg #[vf, .slice ao n cap], .string s] w fun e w' => e = .returned (.int .i64 (Mp.placeZ l s)) ∧ Below w.heap.size w w' := by
  obtain ⟨hn, hl, hcap, b, o, ha, hc⟩ := irow_at h
  have HN := hideT hn
  have HC := hideT hc
  have HA := hideT ha
  clear hn hc ha h
  go_enter Tryz.func58, Tryz.ntmps58
  go_wp2_with fail
  have B0 := hideT ((Below.refl w.heap.size w).alloc (Nat.le_refl _) (.cells #[vf, .slice ao n cap] 25))
  go_loop [5] (fun i => ∃ k : Nat, k ≤ n ∧ i = .int .i64 k ∧ Hid (∀ (j : Nat) y, j < k → l[j]? = some y → y.id ≠ s)) (fun i => n - (intOf i).toNat)
  case atStart => exact ⟨0, by omega, rfl, fun j y hj => absurd hj (by omega)⟩
  case round =>
    obtain ⟨k, hk, rfl, HB⟩ := hrel
    by_cases hlt : k < n
    · obtain ⟨x, hx⟩ := Mp.at_lt (l := l) (k := k) (by have := HN.out; omega)
      obtain ⟨a5, c5, a6, c6, I0⟩ := HC.out k _ hx
      have d0 := I0.c0
      have d0' := cell_lt d0
      obtain rfl := HA.out (by omega)
      have HX := hideT hx
      clear hx I0
      by_cases e : x.id = s
      · have HF := hideT (placeZ_some HX.out e HB.out)
        subst e
        go_wp2_with fail
        go_ret
        exact ⟨ret_i HF.out.symm, B0.out⟩
      · have e1 : (x.id.toList == s.toList) = false := beq_eq_false_iff_ne.2 fun h => e (toList_inj h)
        have HR : Hid (∀ (j : Nat) y, j < k + 1 → l[j]? = some y → y.id ≠ s) := by
          intro j y hj hy
          by_cases hj' : j < k
          · exact HB.out j y hj' hy
          · obtain rfl : j = k := by omega
            rw [HX.out] at hy
            cases hy
            exact e
        clear e
        go_wp2_with fail
        go_round
        case rel => exact ⟨k + 1, by omega, by go_num, HR⟩
        case measure => simp [intOf]; omega
    · have HF := hideT (placeZ_none (l := l) (s := s) (fun j y hy => HB.out j y (by have := HN.out; have := (List.getElem?_eq_some_iff.1 hy).1; omega) hy))
      go_wp2_with fail
      go_ret
      exact ⟨ret_i HF.out.symm, B0.out⟩
theorem has_some {α : Type} [DecidableEq α] {l : List α} {s : α} {k : Nat} (h : l[k]? = some s) (hb : ∀ (j : Nat) y, j < k → l[j]? = some y → y ≠ s) : Mp.has l s = true := by
  rw [← idxZ_has, idxZ_some h hb]
  exact decide_eq_true (by omega)
theorem has_none {α : Type} [DecidableEq α] {l : List α} {s : α} (hb : ∀ (j : Nat) y, l[j]? = some y → y ≠ s) : Mp.has l s = false := by
  rw [← idxZ_has, idxZ_none hb]
  rfl
theorem fileRef (w : World) (ao : Option Addr) (n cap : Nat) (l : List ByteArray) (s : ByteArray) (h : FRow w (.slice ao n cap) l) :
    Calls Tryz.prog 38 #[.slice ao n cap, .string s] w fun e w' => e = .returned (.bool (Mp.has l s)) ∧ w' = w := by
  obtain ⟨hn, hl, hcap, b, o, ha, hc⟩ := frow_at h
  have HN := hideT hn
  have HC := hideT hc
  have HA := hideT ha
  clear hn hc ha h
  go_enter Tryz.func38, Tryz.ntmps38
  go_wp2_with fail
  go_loop [5] (fun i => ∃ k : Nat, k ≤ n ∧ i = .int .i64 k ∧ Hid (∀ (j : Nat) y, j < k → l[j]? = some y → y ≠ s)) (fun i => n - (intOf i).toNat)
  case atStart => exact ⟨0, by omega, rfl, fun j y hj => absurd hj (by omega)⟩
  case round =>
    obtain ⟨k, hk, rfl, HB⟩ := hrel
    by_cases hlt : k < n
    · obtain ⟨t, ht⟩ := Mp.at_lt (l := l) (k := k) (by have := HN.out; omega)
      obtain ⟨hz, c0⟩ := HC.out k t ht
      obtain rfl := HA.out (by omega)
      have HT := hideT ht
      clear ht
      by_cases e : t = s
      · subst e
        have HF := hideT (has_some HT.out HB.out)
        go_wp2_with fail
        go_ret
        exact ⟨ret_b HF.out.symm, rfl⟩
      · have e1 : (t.toList == s.toList) = false := beq_eq_false_iff_ne.2 fun h => e (toList_inj h)
        have HE := hideT e
        clear e
        go_wp2_with fail
        go_round
        case rel =>
          refine ⟨k + 1, by omega, by go_num, fun j y hj hy => ?_⟩
          by_cases hj' : j < k
          · exact HB.out j y hj' hy
          · obtain rfl : j = k := by omega
            rw [HT.out] at hy
            cases hy
            exact HE.out
        case measure => simp [intOf]; omega
    · have HF := hideT (has_none (l := l) (s := s) (fun j y hy => HB.out j y (by have := HN.out; have := (List.getElem?_eq_some_iff.1 hy).1; omega) hy))
      go_wp2_with fail
      go_ret
      exact ⟨ret_b HF.out.symm, rfl⟩
def opsL : List ByteArray := [⟨#[60]⟩, ⟨#[60, 61]⟩, ⟨#[61]⟩, ⟨#[33, 61]⟩, ⟨#[62, 61]⟩, ⟨#[62]⟩]
theorem op_has (s : ByteArray) : Mp.opB s = Mp.has opsL s := by
  unfold Mp.opB Mp.has Mp.idx opsL
  simp only [List.findIdx?_cons, List.findIdx?_nil]
  simp only [show ∀ a b : ByteArray, decide (a = b) = decide (b = a) from fun a b => by rw [Bool.eq_iff_iff]; simp only [decide_eq_true_eq]; exact eq_comm]
  cases decide (s = ⟨#[60]⟩) <;> cases decide (s = ⟨#[60, 61]⟩) <;> cases decide (s = ⟨#[61]⟩) <;> cases decide (s = ⟨#[33, 61]⟩) <;> cases decide (s = ⟨#[62, 61]⟩) <;> cases decide (s = ⟨#[62]⟩) <;> rfl
end Go.Proofs.YtpipjkbgbhefcaaGreat
