/-
  The small functions of a case: what a state is, what a number is, State, File.
-/
import Derived.Test.YtpipjkbgbhefcaaGreatCFun
import Derived.Deep.QuietTactic
import Derived.BigQuiet
import Derived.Deep.RegionHeld3
import Derived.RegionTactic
set_option linter.unusedSimpArgs false
set_option linter.unusedVariables false
namespace Go.Proofs.YtpipjkbgbhefcaaGreat
open Go.RowKit
open Qp
set_option maxRecDepth 100000
theorem isThereD (s : Int) (w : World) (b : Bool) (hb : Hid (Cp.thereB s = b)) :
    Calls Tryz.prog 96 #[.int .i64 s] w fun e w' => e = .returned (.bool b) ∧ w' = w := by
  have hb' := hb.out
  subst hb'
  by_cases h1 : s = 1
  · subst h1
    go_enter Tryz.func96, Tryz.ntmps96
    go_wp2_with fail
    go_ret
    exact ⟨rfl, rfl⟩
  · have t1 : (s == (1 : Int)) = false := beq_eq_false_iff_ne.2 h1
    go_enter Tryz.func96, Tryz.ntmps96
    go_wp2_with fail
    go_ret
    exact ⟨ret_b (by unfold Cp.thereB; rw [decide_eq_false h1]; simp; rfl), rfl⟩
theorem isPastD (s : Int) (w : World) (b : Bool) (hb : Hid (Cp.pastB s = b)) :
    Calls Tryz.prog 61 #[.int .i64 s] w fun e w' => e = .returned (.bool b) ∧ w' = w := by
  have hb' := hb.out
  subst hb'
  by_cases h1 : s = 3
  · subst h1
    go_enter Tryz.func61, Tryz.ntmps61
    go_wp2_with fail
    go_ret
    exact ⟨rfl, rfl⟩
  · have t1 : (s == (3 : Int)) = false := beq_eq_false_iff_ne.2 h1
    go_enter Tryz.func61, Tryz.ntmps61
    go_wp2_with fail
    go_ret
    exact ⟨ret_b (by unfold Cp.pastB; rw [decide_eq_false h1]; simp; rfl), rfl⟩
theorem behindD (e : Int) (w : World) :
    Calls Tryz.prog 111 #[.int .i64 e] w fun x w' => x = .returned (.int .i64 (Cp.behind e)) ∧ w' = w := by
  by_cases h1 : e = 1
  · subst h1
    go_enter Tryz.func111, Tryz.ntmps111
    go_wp2_with fail
    go_ret
    exact ⟨rfl, rfl⟩
  have t1 : (e == (1 : Int)) = false := beq_eq_false_iff_ne.2 h1
  by_cases h2 : e = 2
  · subst h2
    go_enter Tryz.func111, Tryz.ntmps111
    go_wp2_with fail
    go_ret
    exact ⟨rfl, rfl⟩
  have t2 : (e == (2 : Int)) = false := beq_eq_false_iff_ne.2 h2
  by_cases h3 : e = 5
  · subst h3
    go_enter Tryz.func111, Tryz.ntmps111
    go_wp2_with fail
    go_ret
    exact ⟨rfl, rfl⟩
  have t3 : (e == (5 : Int)) = false := beq_eq_false_iff_ne.2 h3
  have HB : Hid (Cp.behind e = 3) := by
    show _ = _
    unfold Cp.behind
    rw [if_neg h1, if_neg h2, if_neg h3]
  clear h1 h2 h3
  go_enter Tryz.func111, Tryz.ntmps111
  go_wp2_with fail
  go_ret
  exact ⟨by rw [HB.out]; rfl, rfl⟩
theorem comparesD (a : Int) (op : ByteArray) (b : Int) (w : World) :
    Calls Tryz.prog 102 #[.int .i64 a, .string op, .int .i64 b] w fun x w' => x = .returned (.bool (Cp.cmpB a op b)) ∧ w' = w := by
  have ne : ∀ {x : ByteArray}, op ≠ x → (op.toList == x.toList) = false := fun h => beq_eq_false_iff_ne.2 fun e => h (toList_inj e)
  by_cases h1 : op = ⟨#[60]⟩
  · subst h1
    go_enter Tryz.func102, Tryz.ntmps102
    go_wp2_with fail
    go_ret
    exact ⟨ret_b rfl, rfl⟩
  have t1 : (op.toList == ([60] : List UInt8)) = false := by have := ne h1; rwa [show (⟨#[60]⟩ : ByteArray).toList = [60] by simp [ByteArray.toList_eq]] at this
  by_cases h2 : op = ⟨#[60, 61]⟩
  · subst h2
    go_enter Tryz.func102, Tryz.ntmps102
    go_wp2_with fail
    go_ret
    exact ⟨ret_b rfl, rfl⟩
  have t2 : (op.toList == ([60, 61] : List UInt8)) = false := by have := ne h2; rwa [show (⟨#[60, 61]⟩ : ByteArray).toList = [60, 61] by simp [ByteArray.toList_eq]] at this
  by_cases h3 : op = ⟨#[61]⟩
  · subst h3
    go_enter Tryz.func102, Tryz.ntmps102
    go_wp2_with fail
    go_ret
    exact ⟨ret_b (by show _ = decide (a = b); rfl), rfl⟩
  have t3 : (op.toList == ([61] : List UInt8)) = false := by have := ne h3; rwa [show (⟨#[61]⟩ : ByteArray).toList = [61] by simp [ByteArray.toList_eq]] at this
  by_cases h4 : op = ⟨#[33, 61]⟩
  · subst h4
    go_enter Tryz.func102, Tryz.ntmps102
    go_wp2_with fail
    go_ret
    exact ⟨ret_b (by show _ = !decide (a = b); rfl), rfl⟩
  have t4 : (op.toList == ([33, 61] : List UInt8)) = false := by have := ne h4; rwa [show (⟨#[33, 61]⟩ : ByteArray).toList = [33, 61] by simp [ByteArray.toList_eq]] at this
  by_cases h5 : op = ⟨#[62, 61]⟩
  · subst h5
    go_enter Tryz.func102, Tryz.ntmps102
    go_wp2_with fail
    go_ret
    exact ⟨ret_b rfl, rfl⟩
  have t5 : (op.toList == ([62, 61] : List UInt8)) = false := by have := ne h5; rwa [show (⟨#[62, 61]⟩ : ByteArray).toList = [62, 61] by simp [ByteArray.toList_eq]] at this
  have HB : Hid (Cp.cmpB a op b = decide (b < a)) := by
    show _ = _
    unfold Cp.cmpB
    rw [if_neg h1, if_neg h2, if_neg h3, if_neg h4, if_neg h5]
  clear ne h1 h2 h3 h4 h5
  go_enter Tryz.func102, Tryz.ntmps102
  go_wp2_with fail
  go_ret
  exact ⟨ret_b (by rw [HB.out]), rfl⟩
section
variable {w : World} {H : Nat} {K : Kc} {m : Mp.Model} {v : Value} {L : List Thing} {N : Nat} {st : Cp.St}
abbrev cP (K : Kc) : Value := .pointer (some ⟨K.cb, 0, none⟩)
theorem placeN_cases (l : List Mp.Item) (s : ByteArray) : (Mp.placeO l s = none ∧ Mp.placeZ l s = -1) ∨ ∃ k x, Mp.placeO l s = some k ∧ Mp.placeZ l s = (k : Int) ∧ l[k]? = some x ∧ x.id = s := by
  unfold Mp.placeZ
  cases h : Mp.placeO l s with
  | none => exact .inl ⟨rfl, rfl⟩
  | some k =>
    obtain ⟨x, hx, hp, _⟩ := Mp.find_some_inv h
    exact .inr ⟨k, x, rfl, rfl, hx, of_decide_eq_true hp⟩
set_option maxHeartbeats 1000000 in
theorem stateD (h : CIn w H K m v L N st) (s : ByteArray) :
    Calls Tryz.prog 18 #[cP K, .string s] w fun e w' => e = .returned (.int .i64 (Cp.stateN m st s)) ∧ Below w.heap.size w w' := by
  have c0 := h.c0
  have c1 := h.c1
  have HP := hideT (placeD w (.slice K.af m.files.length K.cf) (some ⟨K.ib, K.io, none⟩) _ K.ci m.items s h.at.items)
  rcases placeN_cases m.items s with ⟨e1, e2⟩ | ⟨k, x, e1, e2, hx, _⟩
  · have HS : Hid (Cp.stateN m st s = 0) := by show _ = _; unfold Cp.stateN; rw [e1]
    clear h e1
    go_enter Tryz.func18, Tryz.ntmps18
    go_wp2_with fail
    refine HP.out.mono ?_
    rintro e w1 ⟨rfl, b1⟩
    have HB := hideT b1
    rw [e2]
    clear b1 e2
    go_wp2_with fail
    go_ret
    exact ⟨by rw [HS.out]; rfl, HB.out⟩
  · have hk := (List.getElem?_eq_some_iff.1 hx).1
    have HS : Hid (Cp.stateN m st s = Cp.at0 st.s k) := by show _ = _; unfold Cp.stateN; rw [e1]
    have HC := hideT h
    have t1 : (0 : Int) ≤ (k : Int) := by omega
    have t2 : (k : Int) < (m.items.length : Int) := by omega
    clear h e1 hx
    go_enter Tryz.func18, Tryz.ntmps18
    go_wp2_with fail
    refine HP.out.mono ?_
    rintro e w1 ⟨rfl, b1⟩
    have HB := hideT b1
    have d2 := (HC.out.below b1).c2
    have ds := (HC.out.below b1).cs hk
    rw [e2]
    clear b1 e2 hk c0 c1
    go_wp2_with fail
    go_ret
    exact ⟨by rw [HS.out]; rfl, HB.out⟩
end
end Go.Proofs.YtpipjkbgbhefcaaGreat
