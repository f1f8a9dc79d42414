/-
  The document's small tests of flags; rows of flags; an operation's place.
-/
import Derived.Test.YtkjekohncfhbiaaRFlags
import Derived.Test.YtkjekohncfhbiaaMRef1
import Derived.Deep.QuietTactic
import Derived.BigQuiet
set_option linter.unusedSimpArgs false
set_option linter.unusedVariables false
namespace Go.Proofs.Ytkjekohncfhbiaa
open Go.RowKit
set_option maxRecDepth 100000
theorem opRefR (s : ByteArray) (w : World) :
    Calls Try.prog 64 #[.string s] w fun e w' => e = .returned (.int .i64 (idxZ opsL s)) ∧ Below w.heap.size w w' := by
  have B0 := hideT ((Below.refl w.heap.size w).alloc (Nat.le_refl _) (.cells #[.string ⟨#[60]⟩, .string ⟨#[60, 61]⟩, .string ⟨#[61]⟩, .string ⟨#[33, 61]⟩, .string ⟨#[62, 61]⟩, .string ⟨#[62]⟩] 9))
  have L0 := Lies.new w 9 #[.string ⟨#[60]⟩, .string ⟨#[60, 61]⟩, .string ⟨#[61]⟩, .string ⟨#[33, 61]⟩, .string ⟨#[62, 61]⟩, .string ⟨#[62]⟩]
  have HC : Hid (∀ (k : Nat) t, opsL[k]? = some t → (w.alloc (.cells #[.string ⟨#[60]⟩, .string ⟨#[60, 61]⟩, .string ⟨#[61]⟩, .string ⟨#[33, 61]⟩, .string ⟨#[62, 61]⟩, .string ⟨#[62]⟩] 9)).cell? ⟨w.heap.size, k, none⟩ = some (.string t)) := by
    intro k t ht
    have hk : k < 6 := (List.getElem?_eq_some_iff.1 ht).1
    rw [L0.cell k]
    have hkc : k = 0 ∨ k = 1 ∨ k = 2 ∨ k = 3 ∨ k = 4 ∨ k = 5 := by omega
    rcases hkc with rfl | rfl | rfl | rfl | rfl | rfl <;> (cases ht; rfl)
  clear L0
  go_enter Try.func64, Try.ntmps64
  go_wp2_with fail
  generalize hW : w.alloc _ = W
  rw [hW] at B0 HC
  go_loop [4] (fun i => ∃ k : Nat, k ≤ 6 ∧ i = .int .i64 k ∧ Hid (∀ (j : Nat) y, j < k → opsL[j]? = some y → y ≠ s)) (fun i => 6 - (intOf i).toNat)
  case atStart => exact ⟨0, by omega, rfl, fun j y hj => absurd hj (by omega)⟩
  case round =>
    obtain ⟨k, hk, rfl, HB⟩ := hrel
    by_cases hlt : k < 6
    · obtain ⟨t, ht⟩ := Mp.at_lt (l := opsL) (k := k) hlt
      have c0 := HC.out k t ht
      have HT := hideT ht
      clear ht
      by_cases e : t = s
      · subst e
        have HF := hideT (idxZ_some HT.out HB.out)
        go_wp2_with fail
        go_ret
        exact ⟨ret_i HF.out.symm, B0.out⟩
      · have e1 : (t.toList == s.toList) = false := beq_eq_false_iff_ne.2 fun h => e (toList_inj h)
        have HE := hideT e
        clear e
        go_wp2_with fail
        go_round
        case rel =>
          refine ⟨k + 1, by omega, by go_num, fun j y hj hy => ?_⟩
          by_cases hj' : j < k
          · exact HB.out j y hj' hy
          · obtain rfl : j = k := by omega
            rw [HT.out] at hy
            cases hy
            exact HE.out
        case measure => simp [intOf]; omega
    · have HF := hideT (idxZ_none (l := opsL) (s := s) (fun j y hy => HB.out j y (by have h6 : j < 6 := (List.getElem?_eq_some_iff.1 hy).1; omega) hy))
      go_wp2_with fail
      go_ret
      exact ⟨ret_i HF.out.symm, B0.out⟩
theorem opRefV (s : ByteArray) (w : World) (b : Bool) (hb : Hid (Mp.opB s = b)) :
    Calls Try.prog 64 #[.string s] w fun e w' => ∃ z : Int, e = .returned (.int .i64 z) ∧ (z < 0 ↔ b = false) ∧ Below w.heap.size w w' := by
  refine (opRefR s w).mono ?_
  rintro e w' ⟨rfl, h⟩
  refine ⟨_, rfl, ?_, h⟩
  have := idxZ_has opsL s
  rw [← op_has, hb.out] at this
  have h2 := idxZ_ge opsL s
  cases b
  · have := of_decide_eq_false this
    simp
    omega
  · have := of_decide_eq_true this
    simp
    omega
/-- What tells whether something holds, and leaves the world as it is. -/
def SPost (P : Prop) (w : World) (e : Ending) (w' : World) : Prop := ∃ b : Bool, e = .returned (.bool b) ∧ (b = true ↔ P) ∧ w' = w
theorem SPost.yes {P : Prop} {w w' : World} {e : Ending} (h : SPost P w e w') (hp : P) : e = .returned (.bool true) ∧ w' = w := by
  obtain ⟨b, rfl, h2, h3⟩ := h
  rw [h2.2 hp]
  exact ⟨rfl, h3⟩
theorem SPost.no {P : Prop} {w w' : World} {e : Ending} (h : SPost P w e w') (hp : ¬ P) : e = .returned (.bool false) ∧ w' = w := by
  obtain ⟨b, rfl, h2, h3⟩ := h
  cases b
  · exact ⟨rfl, h3⟩
  · exact absurd (h2.1 rfl) hp
theorem inYes (w : World) (f n : Int) (h : Rp.InP f n) : Calls Try.prog 62 #[.int .i64 f, .int .i64 n] w fun e w' => e = .returned (.bool true) ∧ w' = w := by
  have h1 : 0 ≤ f := h.1
  have h2 : f < n := h.2
  clear h
  go_enter Try.func62, Try.ntmps62
  go_wp2_with fail
  go_ret
  exact ⟨ret_b (by first | rfl | (simp; done) | (simp; omega)), rfl⟩
theorem inNo (w : World) (f n : Int) (h : ¬ Rp.InP f n) : Calls Try.prog 62 #[.int .i64 f, .int .i64 n] w fun e w' => e = .returned (.bool false) ∧ w' = w := by
  by_cases h1 : 0 ≤ f
  · have h2 : ¬ f < n := fun h' => h ⟨h1, h'⟩
    clear h
    go_enter Try.func62, Try.ntmps62
    go_wp2_with fail
    go_ret
    exact ⟨ret_b (by first | rfl | (simp; done) | (simp; omega)), rfl⟩
  · clear h
    go_enter Try.func62, Try.ntmps62
    go_wp2_with fail
    go_ret
    exact ⟨ret_b (by first | rfl | (simp; done) | (simp; omega)), rfl⟩
set_option maxHeartbeats 2000000 in
theorem litsR (w : World) (a : Option Addr) (n c : Nat) (l : List Rp.Lit) (q : Int) (h : LRow w (.slice a n c) l) :
    Calls Try.prog 63 #[.slice a n c, .int .i64 q] w (SPost (Rp.LitsP l q) w) := by
  obtain ⟨hn, hl, _, b, o, ha, hc⟩ := lrow_at h
  have HN := hideT hn
  have HC := hideT hc
  have HA := hideT ha
  clear hn hc ha h
  go_enter Try.func63, Try.ntmps63
  go_wp2_with fail
  go_loop [5] (fun i => ∃ k : Nat, k ≤ n ∧ i = .int .i64 k ∧ Hid (∀ (j : Nat) x, j < k → l[j]? = some x → Rp.InP x.1 q)) (fun i => n - (intOf i).toNat)
  case atStart => exact ⟨0, by omega, rfl, fun j y hj => absurd hj (by omega)⟩
  case round =>
    obtain ⟨k, hk, rfl, HB⟩ := hrel
    by_cases hlt : k < n
    rotate_left
    · have HF : Hid (Rp.LitsP l q) := Rp.all_of (Rp.all_done HB.out (by have := HN.out; omega))
      go_wp2_with fail
      go_ret
      exact ⟨true, rfl, ⟨fun _ => HF.out, fun _ => rfl⟩, rfl⟩
    obtain ⟨⟨g0, g1⟩, hx⟩ := Mp.at_lt (l := l) (k := k) (by have := HN.out; omega)
    obtain ⟨d0, d1⟩ := HC.out k _ hx
    dsimp only at d0 d1
    obtain rfl := HA.out (by omega)
    have HX := hideT hx
    clear hx
    have t0 : (0 : Int) ≤ (k : Int) := by omega
    have t1 : (k : Int) < (n : Int) := by omega
    by_cases q1 : Rp.InP g0 q
    · have HR : Hid (∀ (j : Nat) x, j < k + 1 → l[j]? = some x → Rp.InP x.1 q) := Rp.all_step HB.out HX.out q1
      have Q1 := hideT q1
      clear q1
      go_wp2_with fail
      refine (inYes _ g0 q Q1.out).mono ?_
      rintro e w1 ⟨rfl, rfl⟩
      go_wp2_with fail
      go_round
      case rel => exact ⟨k + 1, by omega, by go_num, HR⟩
      case measure => simp [intOf]; omega
    · have HF : Hid (¬ Rp.LitsP l q) := fun H => q1 (H _ (List.mem_of_getElem? HX.out))
      have Q1 := hideT q1
      clear q1
      go_wp2_with fail
      refine (inNo _ g0 q Q1.out).mono ?_
      rintro e w1 ⟨rfl, rfl⟩
      go_wp2_with fail
      go_ret
      exact ⟨false, rfl, ⟨fun h => (by cases h), fun h => (HF.out h).elim⟩, rfl⟩
theorem litsYes (w : World) (a : Option Addr) (n c : Nat) (l : List Rp.Lit) (q : Int) (h : LRow w (.slice a n c) l) (hp : Rp.LitsP l q) : Calls Try.prog 63 #[.slice a n c, .int .i64 q] w fun e w' => e = .returned (.bool true) ∧ w' = w := (litsR w a n c l q h).mono fun e w' k => k.yes hp
theorem litsNo (w : World) (a : Option Addr) (n c : Nat) (l : List Rp.Lit) (q : Int) (h : LRow w (.slice a n c) l) (hp : ¬ Rp.LitsP l q) : Calls Try.prog 63 #[.slice a n c, .int .i64 q] w fun e w' => e = .returned (.bool false) ∧ w' = w := (litsR w a n c l q h).mono fun e w' k => k.no hp
set_option maxHeartbeats 4000000 in
theorem risingR (w : World) (a : Option Addr) (n c : Nat) (l : List Int) (q : Int) (h : ZRow w (.slice a n c) l) :
    Calls Try.prog 34 #[.slice a n c, .int .i64 q] w (BPost (Rp.RisP q l) w) := by
  obtain ⟨hn, hl, _, b, o, ha, hc⟩ := zrow_at h
  have HN := hideT hn
  have HC := hideT hc
  have HA := hideT ha
  clear hn hc ha h
  go_enter Try.func34, Try.ntmps34
  go_wp2_with fail
  go_loopw [5] (fun i wr => ∃ k : Nat, k ≤ n ∧ i = .int .i64 k ∧ Hid (∀ (i : Nat) x, i < k → l[i]? = some x → Rp.InP x q ∧ ∀ (j : Nat) y, i = j + 1 → l[j]? = some y → y < x) ∧ Hid (Below w.heap.size w wr)) (fun i _ => n - (intOf i).toNat)
  case atStart => exact ⟨0, by omega, rfl, (fun j y hj => absurd hj (by omega)), Below.refl _ _⟩
  case round =>
    obtain ⟨k, hk, rfl, HB, HW⟩ := hrel
    by_cases hlt : k < n
    rotate_left
    · have HF : Hid (Rp.RisP q l) := Rp.all_done HB.out (by have := HN.out; omega)
      go_wp2_with fail
      go_ret
      exact bpost_yes HF.out HW.out
    obtain ⟨x, hx⟩ := Mp.at_lt (l := l) (k := k) (by have := HN.out; omega)
    have d0 := below_cell HW.out _ _ (HC.out k x hx)
    obtain rfl := HA.out (by omega)
    have HX := hideT hx
    clear hx
    have t0 : (0 : Int) ≤ (k : Int) := by omega
    have t1 : (k : Int) < (n : Int) := by omega
    by_cases q1 : Rp.InP x q
    rotate_left
    · have HF : Hid (¬ Rp.RisP q l) := fun H => q1 (H k x HX.out).1
      have Q := hideT q1
      clear q1
      go_wp2_with fail
      go_quiet ((go_at_call 62; exact Calls.quiet_of_same (inNo _ x q Q.out)))
      go_wp2_with fail
      go_ret
      exact bpost_no HF.out (below_drewN HW.out _)
    have Q := hideT q1
    clear q1
    by_cases h0 : k = 0
    · have HR : Hid (∀ (i : Nat) x, i < k + 1 → l[i]? = some x → Rp.InP x q ∧ ∀ (j : Nat) y, i = j + 1 → l[j]? = some y → y < x) := Rp.all_step HB.out HX.out ⟨Q.out, fun j y hj => absurd hj (by omega)⟩
      have t3 : decide (0 < k) = false := decide_eq_false (by omega)
      clear h0
      go_wp2_with fail
      go_quiet ((go_at_call 62; exact Calls.quiet_of_same (inYes _ x q Q.out)))
      go_wp2_with fail
      refine ⟨⟨k + 1, by omega, by go_num, HR, below_drewN HW.out _⟩, ?_⟩
      first | omega | (simp [intOf]; omega)
    obtain ⟨j, hj⟩ : ∃ j, k = j + 1 := ⟨k - 1, by omega⟩
    obtain ⟨y, hy⟩ := Mp.at_lt (l := l) (k := j) (by have := HN.out; omega)
    have e0 := below_cell HW.out _ _ (HC.out j y hy)
    have HY := hideT hy
    have t3 : (0 : Int) ≤ (j : Int) := by omega
    have t4 : (j : Int) < (n : Int) := by omega
    have t5 : IntKind.i64.wrap ((k : Int) - 1) = (j : Int) := by rw [show (k : Int) - 1 = (j : Int) by omega]; rw [IntKind.wrap_i64]; omega
    have t6 : decide (0 < k) = true := decide_eq_true (by omega)
    have HJ := hideT hj
    clear hy hj h0
    by_cases hyx : y < x
    · have HR : Hid (∀ (i : Nat) x, i < k + 1 → l[i]? = some x → Rp.InP x q ∧ ∀ (j : Nat) y, i = j + 1 → l[j]? = some y → y < x) := Rp.all_step HB.out HX.out ⟨Q.out, fun j' y' hj' hy' => by
        obtain rfl : j' = j := by have := HJ.out; omega
        rw [HY.out] at hy'
        cases hy'
        exact hyx⟩
      have t7 : decide (x ≤ y) = false := decide_eq_false (by omega)
      go_wp2_with fail
      go_quiet ((go_at_call 62; exact Calls.quiet_of_same (inYes _ x q Q.out)))
      go_wp2_with fail
      refine ⟨⟨k + 1, by omega, by go_num, HR, below_drewN HW.out _⟩, ?_⟩
      first | omega | (simp [intOf]; omega)
    · have HF : Hid (¬ Rp.RisP q l) := fun H => hyx ((H k x HX.out).2 j y HJ.out HY.out)
      have t7 : x ≤ y := by omega
      go_wp2_with fail
      go_quiet ((go_at_call 62; exact Calls.quiet_of_same (inYes _ x q Q.out)))
      go_wp2_with fail
      go_ret
      exact bpost_no HF.out (below_drewN HW.out _)
end Go.Proofs.Ytkjekohncfhbiaa
