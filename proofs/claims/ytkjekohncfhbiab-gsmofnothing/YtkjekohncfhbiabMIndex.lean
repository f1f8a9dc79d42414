/-
  slices.Index and slices.Contains, of texts and of events.
-/
import Derived.Test.YtkjekohncfhbiabMSmall
import Derived.BigQuiet
set_option linter.unusedSimpArgs false
set_option linter.unusedVariables false
namespace Go.Proofs.Ytkjekohncfhbiab
open Go.RowKit
theorem ret_i {k : IntKind} {a v : Int} (h : a = v) : Ending.returned (.int k a) = .returned (.int k v) := by rw [h]
def idxZ {α : Type} [DecidableEq α] (l : List α) (s : α) : Int := match Mp.idx l s with
  | some k => k
  | none => -1
theorem idxZ_some {α : Type} [DecidableEq α] {l : List α} {s : α} {k : Nat} (h : l[k]? = some s) (hb : ∀ (j : Nat) y, j < k → l[j]? = some y → y ≠ s) : idxZ l s = k := by
  unfold idxZ Mp.idx
  rw [Mp.find_some h (decide_eq_true rfl) (fun j y hj hy => decide_eq_false (hb j y hj hy))]
theorem idxZ_none {α : Type} [DecidableEq α] {l : List α} {s : α} (hb : ∀ (j : Nat) y, l[j]? = some y → y ≠ s) : idxZ l s = -1 := by
  unfold idxZ Mp.idx
  rw [Mp.find_none (fun j y hy => decide_eq_false (hb j y hy))]
theorem idxZ_has {α : Type} [DecidableEq α] (l : List α) (s : α) : decide (0 ≤ idxZ l s) = Mp.has l s := by
  unfold idxZ Mp.has
  cases Mp.idx l s with
  | none => rfl
  | some k => exact decide_eq_true (by show (0 : Int) ≤ k; omega)
theorem idxZ_ge {α : Type} [DecidableEq α] (l : List α) (s : α) : -1 ≤ idxZ l s := by
  unfold idxZ
  cases Mp.idx l s with
  | none => exact Int.le_refl _
  | some k => show (-1 : Int) ≤ k; omega
theorem indexS (w : World) (ao : Option Addr) (n cap : Nat) (l : List ByteArray) (s : ByteArray) (h : FRow w (.slice ao n cap) l) :
    Calls Try.prog 21 #[.slice ao n cap, .string s] w fun e w' => e = .returned (.int .i64 (idxZ l s)) ∧ w' = w := by
  obtain ⟨hn, hl, hcap, b, o, ha, hc⟩ := frow_at h
  have HN := hideT hn
  have HC := hideT hc
  have HA := hideT ha
  clear hn hc ha h
  go_enter Try.func21, Try.ntmps21
  go_wp2_with fail
  go_loop [8] (fun i => ∃ k : Nat, k ≤ n ∧ i = .int .i64 k ∧ Hid (∀ (j : Nat) y, j < k → l[j]? = some y → y ≠ s)) (fun i => n - (intOf i).toNat)
  case atStart => exact ⟨0, by omega, rfl, fun j y hj => absurd hj (by omega)⟩
  case round =>
    obtain ⟨k, hk, rfl, HB⟩ := hrel
    by_cases hlt : k < n
    · obtain ⟨t, ht⟩ := Mp.at_lt (l := l) (k := k) (by have := HN.out; omega)
      obtain ⟨hz, c0⟩ := HC.out k t ht
      obtain rfl := HA.out (by omega)
      have HT := hideT ht
      clear ht
      by_cases e : s = t
      · subst e
        have HF := hideT (idxZ_some HT.out HB.out)
        go_wp2_with fail
        go_ret
        exact ⟨ret_i HF.out.symm, rfl⟩
      · have e1 : (s.toList == t.toList) = false := beq_eq_false_iff_ne.2 fun h => e (toList_inj h)
        have HE := hideT e
        clear e
        go_wp2_with fail
        go_round
        case rel =>
          refine ⟨k + 1, by omega, by go_num, fun j y hj hy => ?_⟩
          by_cases hj' : j < k
          · exact HB.out j y hj' hy
          · obtain rfl : j = k := by omega
            rw [HT.out] at hy
            cases hy
            exact fun h => HE.out h.symm
        case measure => simp [intOf]; omega
    · have HF := hideT (idxZ_none (l := l) (s := s) (fun j y hy => HB.out j y (by have := HN.out; have := (List.getElem?_eq_some_iff.1 hy).1; omega) hy))
      go_wp2_with fail
      go_ret
      exact ⟨ret_i HF.out.symm, rfl⟩
theorem containsS (w : World) (ao : Option Addr) (n cap : Nat) (l : List ByteArray) (s : ByteArray) (h : FRow w (.slice ao n cap) l) :
    Calls Try.prog 63 #[.slice ao n cap, .string s] w fun e w' => e = .returned (.bool (Mp.has l s)) ∧ w' = w := by
  have H := hideT h
  clear h
  go_enter Try.func63, Try.ntmps63
  go_wp2_with fail
  refine (indexS w ao n cap l s H.out).mono ?_
  rintro e w1 ⟨rfl, rfl⟩
  go_wp2_with fail
  go_ret
  exact ⟨ret_b (idxZ_has l s), rfl⟩
end Go.Proofs.Ytkjekohncfhbiab
