/-
  The document's Place, File, Op.
-/
import Derived.Test.YtkjekohncfhbiaaMRefSmall
import Derived.Test.YtkjekohncfhbiaaPartX
set_option linter.unusedSimpArgs false
set_option linter.unusedVariables false
namespace Go.Proofs.Ytkjekohncfhbiaa
open Go.RowKit
set_option maxRecDepth 100000
theorem has_some {α : Type} [DecidableEq α] {l : List α} {s : α} {k : Nat} (h : l[k]? = some s) (hb : ∀ (j : Nat) y, j < k → l[j]? = some y → y ≠ s) : Mp.has l s = true := by
  rw [← idxZ_has, idxZ_some h hb]
  exact decide_eq_true (by omega)
theorem has_none {α : Type} [DecidableEq α] {l : List α} {s : α} (hb : ∀ (j : Nat) y, l[j]? = some y → y ≠ s) : Mp.has l s = false := by
  rw [← idxZ_has, idxZ_none hb]
  rfl
theorem fileRef (w : World) (ao : Option Addr) (n cap : Nat) (l : List ByteArray) (s : ByteArray) (h : FRow w (.slice ao n cap) l) :
    Calls Try.prog 35 #[.slice ao n cap, .string s] w fun e w' => e = .returned (.bool (Mp.has l s)) ∧ w' = w := by
  obtain ⟨hn, hl, hcap, b, o, ha, hc⟩ := frow_at h
  have HN := hideT hn
  have HC := hideT hc
  have HA := hideT ha
  clear hn hc ha h
  go_enter Try.func35, Try.ntmps35
  go_wp2_with fail
  go_loop [5] (fun i => ∃ k : Nat, k ≤ n ∧ i = .int .i64 k ∧ Hid (∀ (j : Nat) y, j < k → l[j]? = some y → y ≠ s)) (fun i => n - (intOf i).toNat)
  case atStart => exact ⟨0, by omega, rfl, fun j y hj => absurd hj (by omega)⟩
  case round =>
    obtain ⟨k, hk, rfl, HB⟩ := hrel
    by_cases hlt : k < n
    · obtain ⟨t, ht⟩ := Mp.at_lt (l := l) (k := k) (by have := HN.out; omega)
      obtain ⟨hz, c0⟩ := HC.out k t ht
      obtain rfl := HA.out (by omega)
      have HT := hideT ht
      clear ht
      by_cases e : t = s
      · subst e
        have HF := hideT (has_some HT.out HB.out)
        go_wp2_with fail
        go_ret
        exact ⟨ret_b HF.out.symm, rfl⟩
      · have e1 : (t.toList == s.toList) = false := beq_eq_false_iff_ne.2 fun h => e (toList_inj h)
        have HE := hideT e
        clear e
        go_wp2_with fail
        go_round
        case rel =>
          refine ⟨k + 1, by omega, by go_num, fun j y hj hy => ?_⟩
          by_cases hj' : j < k
          · exact HB.out j y hj' hy
          · obtain rfl : j = k := by omega
            rw [HT.out] at hy
            cases hy
            exact HE.out
        case measure => simp [intOf]; omega
    · have HF := hideT (has_none (l := l) (s := s) (fun j y hy => HB.out j y (by have := HN.out; have := (List.getElem?_eq_some_iff.1 hy).1; omega) hy))
      go_wp2_with fail
      go_ret
      exact ⟨ret_b HF.out.symm, rfl⟩
def opsL : List ByteArray := [⟨#[60]⟩, ⟨#[60, 61]⟩, ⟨#[61]⟩, ⟨#[33, 61]⟩, ⟨#[62, 61]⟩, ⟨#[62]⟩]
theorem op_has (s : ByteArray) : Mp.opB s = Mp.has opsL s := by
  unfold Mp.opB Mp.has Mp.idx opsL
  simp only [List.findIdx?_cons, List.findIdx?_nil]
  simp only [show ∀ a b : ByteArray, decide (a = b) = decide (b = a) from fun a b => by rw [Bool.eq_iff_iff]; simp only [decide_eq_true_eq]; exact eq_comm]
  cases decide (s = ⟨#[60]⟩) <;> cases decide (s = ⟨#[60, 61]⟩) <;> cases decide (s = ⟨#[61]⟩) <;> cases decide (s = ⟨#[33, 61]⟩) <;> cases decide (s = ⟨#[62, 61]⟩) <;> cases decide (s = ⟨#[62]⟩) <;> rfl
end Go.Proofs.Ytkjekohncfhbiaa
