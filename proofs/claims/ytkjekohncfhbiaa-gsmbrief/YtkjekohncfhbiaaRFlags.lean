/-
  The program's small tests of flags; rows of flags that last.
-/
import Derived.Test.YtkjekohncfhbiaaRMem
import Derived.Test.YtkjekohncfhbiaaMSame1
set_option linter.unusedSimpArgs false
set_option linter.unusedVariables false
namespace Go.Proofs.Ytkjekohncfhbiaa
open Go.RowKit
set_option maxRecDepth 100000
theorem BPost.yes {P : Prop} {w w' : World} {e : Ending} (h : BPost P w e w') (hp : P) : e = .returned (.bool true) ∧ Below w.heap.size w w' := by
  obtain ⟨b, rfl, h2, h3⟩ := h
  rw [h2.2 hp]
  exact ⟨rfl, h3⟩
theorem BPost.no {P : Prop} {w w' : World} {e : Ending} (h : BPost P w e w') (hp : ¬ P) : e = .returned (.bool false) ∧ Below w.heap.size w w' := by
  obtain ⟨b, rfl, h2, h3⟩ := h
  cases b
  · exact ⟨rfl, h3⟩
  · exact absurd (h2.1 rfl) hp
/-- A program's box. -/
def PBox (w : World) (b : Nat) (A : PA) (p : Rp.Prog) : Prop := Lies w b 29 #[.int .i64 p.flags, .int .i64 p.lasting, .slice A.a2 p.first.length A.c2, .slice A.a3 p.over.length A.c3, .int .i64 p.frm, .slice A.a5 p.files.length A.c5, .slice A.a6 p.rules.length A.c6, .slice A.a7 p.ctrs.length A.c7, .slice A.a8 p.users.length A.c8, .slice A.a9 p.notes.length A.c9]
theorem PBox.new (w : World) (A : PA) (p : Rp.Prog) : PBox (w.alloc (.cells #[.int .i64 p.flags, .int .i64 p.lasting, .slice A.a2 p.first.length A.c2, .slice A.a3 p.over.length A.c3, .int .i64 p.frm, .slice A.a5 p.files.length A.c5, .slice A.a6 p.rules.length A.c6, .slice A.a7 p.ctrs.length A.c7, .slice A.a8 p.users.length A.c8, .slice A.a9 p.notes.length A.c9] 29)) w.heap.size A p := Lies.new w _ _
theorem PBox.below {w w' : World} {b : Nat} {A : PA} {p : Rp.Prog} (h : PBox w b A p) (k : Below w.heap.size w w') : PBox w' b A p := Lies.below h k
theorem PBox.cells {w : World} {b : Nat} {A : PA} {p : Rp.Prog} (h : PBox w b A p) : w.cell? ⟨b, 0, none⟩ = some (.int .i64 p.flags) ∧ w.cell? ⟨b, 1, none⟩ = some (.int .i64 p.lasting) ∧ w.cell? ⟨b, 2, none⟩ = some (.slice A.a2 p.first.length A.c2) ∧ w.cell? ⟨b, 3, none⟩ = some (.slice A.a3 p.over.length A.c3) ∧ w.cell? ⟨b, 4, none⟩ = some (.int .i64 p.frm) ∧ w.cell? ⟨b, 5, none⟩ = some (.slice A.a5 p.files.length A.c5) ∧ w.cell? ⟨b, 6, none⟩ = some (.slice A.a6 p.rules.length A.c6) ∧ w.cell? ⟨b, 7, none⟩ = some (.slice A.a7 p.ctrs.length A.c7) ∧ w.cell? ⟨b, 8, none⟩ = some (.slice A.a8 p.users.length A.c8) ∧ w.cell? ⟨b, 9, none⟩ = some (.slice A.a9 p.notes.length A.c9) :=
  ⟨h.cell 0, h.cell 1, h.cell 2, h.cell 3, h.cell 4, h.cell 5, h.cell 6, h.cell 7, h.cell 8, h.cell 9⟩
theorem PBox.cellsC {w : World} {b : Nat} {a2 a3 a5 a6 a7 a8 a9 : Option Addr} {c2 c3 c5 c6 c7 c8 c9 : Nat} {p : Rp.Prog} (h : PBox w b ⟨a2, c2, a3, c3, a5, c5, a6, c6, a7, c7, a8, c8, a9, c9⟩ p) : w.cell? ⟨b, 0, none⟩ = some (.int .i64 p.flags) ∧ w.cell? ⟨b, 1, none⟩ = some (.int .i64 p.lasting) ∧ w.cell? ⟨b, 2, none⟩ = some (.slice a2 p.first.length c2) ∧ w.cell? ⟨b, 3, none⟩ = some (.slice a3 p.over.length c3) ∧ w.cell? ⟨b, 4, none⟩ = some (.int .i64 p.frm) ∧ w.cell? ⟨b, 5, none⟩ = some (.slice a5 p.files.length c5) ∧ w.cell? ⟨b, 6, none⟩ = some (.slice a6 p.rules.length c6) ∧ w.cell? ⟨b, 7, none⟩ = some (.slice a7 p.ctrs.length c7) ∧ w.cell? ⟨b, 8, none⟩ = some (.slice a8 p.users.length c8) ∧ w.cell? ⟨b, 9, none⟩ = some (.slice a9 p.notes.length c9) := h.cells
theorem PBox.newC (w : World) (a2 a3 a5 a6 a7 a8 a9 : Option Addr) (c2 c3 c5 c6 c7 c8 c9 : Nat) (p : Rp.Prog) : PBox (w.alloc (.cells #[.int .i64 p.flags, .int .i64 p.lasting, .slice a2 p.first.length c2, .slice a3 p.over.length c3, .int .i64 p.frm, .slice a5 p.files.length c5, .slice a6 p.rules.length c6, .slice a7 p.ctrs.length c7, .slice a8 p.users.length c8, .slice a9 p.notes.length c9] 29)) w.heap.size ⟨a2, c2, a3, c3, a5, c5, a6, c6, a7, c7, a8, c8, a9, c9⟩ p := Lies.new w _ _
theorem lastsD (w : World) (A : PA) (p : Rp.Prog) (f : Int) : Calls Try.prog 68 #[.agg #[.int .i64 p.flags, .int .i64 p.lasting, .slice A.a2 p.first.length A.c2, .slice A.a3 p.over.length A.c3, .int .i64 p.frm, .slice A.a5 p.files.length A.c5, .slice A.a6 p.rules.length A.c6, .slice A.a7 p.ctrs.length A.c7, .slice A.a8 p.users.length A.c8, .slice A.a9 p.notes.length A.c9], .int .i64 f] w (BPost (Rp.InP f p.lasting) w) := by
  have B0 := hideT ((Below.refl w.heap.size w).alloc (Nat.le_refl _) (.cells #[.int .i64 p.flags, .int .i64 p.lasting, .slice A.a2 p.first.length A.c2, .slice A.a3 p.over.length A.c3, .int .i64 p.frm, .slice A.a5 p.files.length A.c5, .slice A.a6 p.rules.length A.c6, .slice A.a7 p.ctrs.length A.c7, .slice A.a8 p.users.length A.c8, .slice A.a9 p.notes.length A.c9] 29))
  by_cases h1 : 0 ≤ f
  · by_cases h2 : f < p.lasting
    · have HF : Hid (Rp.InP f p.lasting) := ⟨h1, h2⟩
      go_enter Try.func68, Try.ntmps68
      go_wp2_with fail
      go_ret
      exact bpost_yes HF.out B0.out
    · have HF : Hid (¬ Rp.InP f p.lasting) := fun h => h2 h.2
      go_enter Try.func68, Try.ntmps68
      go_wp2_with fail
      go_ret
      exact bpost_no HF.out B0.out
  · have HF : Hid (¬ Rp.InP f p.lasting) := fun h => h1 h.1
    go_enter Try.func68, Try.ntmps68
    go_wp2_with fail
    go_ret
    exact bpost_no HF.out B0.out
theorem passesD (w : World) (A : PA) (p : Rp.Prog) (f : Int) : Calls Try.prog 69 #[.agg #[.int .i64 p.flags, .int .i64 p.lasting, .slice A.a2 p.first.length A.c2, .slice A.a3 p.over.length A.c3, .int .i64 p.frm, .slice A.a5 p.files.length A.c5, .slice A.a6 p.rules.length A.c6, .slice A.a7 p.ctrs.length A.c7, .slice A.a8 p.users.length A.c8, .slice A.a9 p.notes.length A.c9], .int .i64 f] w (BPost (Rp.PassP p f) w) := by
  have B0 := hideT ((Below.refl w.heap.size w).alloc (Nat.le_refl _) (.cells #[.int .i64 p.flags, .int .i64 p.lasting, .slice A.a2 p.first.length A.c2, .slice A.a3 p.over.length A.c3, .int .i64 p.frm, .slice A.a5 p.files.length A.c5, .slice A.a6 p.rules.length A.c6, .slice A.a7 p.ctrs.length A.c7, .slice A.a8 p.users.length A.c8, .slice A.a9 p.notes.length A.c9] 29))
  by_cases h1 : p.lasting ≤ f
  · by_cases h2 : f < p.flags
    · have HF : Hid (Rp.PassP p f) := ⟨h1, h2⟩
      go_enter Try.func69, Try.ntmps69
      go_wp2_with fail
      go_ret
      exact bpost_yes HF.out B0.out
    · have HF : Hid (¬ Rp.PassP p f) := fun h => h2 h.2
      go_enter Try.func69, Try.ntmps69
      go_wp2_with fail
      go_ret
      exact bpost_no HF.out B0.out
  · have HF : Hid (¬ Rp.PassP p f) := fun h => h1 h.1
    go_enter Try.func69, Try.ntmps69
    go_wp2_with fail
    go_ret
    exact bpost_no HF.out B0.out
theorem isStratumD (w : World) (n : Int) : Calls Try.prog 42 #[.int .i64 n] w (BPost (Rp.StratP n) w) := by
  by_cases h1 : 1 ≤ n
  · by_cases h2 : n ≤ 20
    · have HF : Hid (Rp.StratP n) := ⟨h1, h2⟩
      go_enter Try.func42, Try.ntmps42
      go_wp2_with fail
      go_ret
      exact bpost_yes HF.out (Below.refl _ _)
    · have HF : Hid (¬ Rp.StratP n) := fun h => h2 h.2
      go_enter Try.func42, Try.ntmps42
      go_wp2_with fail
      go_ret
      exact bpost_no HF.out (Below.refl _ _)
  · have HF : Hid (¬ Rp.StratP n) := fun h => h1 h.1
    go_enter Try.func42, Try.ntmps42
    go_wp2_with fail
    go_ret
    exact bpost_no HF.out (Below.refl _ _)
set_option maxHeartbeats 2000000 in
theorem areLastingD (w : World) (A : PA) (p : Rp.Prog) (a : Option Addr) (n c : Nat) (l : List Int) (h : ZRow w (.slice a n c) l) :
    Calls Try.prog 65 #[.agg #[.int .i64 p.flags, .int .i64 p.lasting, .slice A.a2 p.first.length A.c2, .slice A.a3 p.over.length A.c3, .int .i64 p.frm, .slice A.a5 p.files.length A.c5, .slice A.a6 p.rules.length A.c6, .slice A.a7 p.ctrs.length A.c7, .slice A.a8 p.users.length A.c8, .slice A.a9 p.notes.length A.c9], .slice a n c] w (BPost (Rp.RisP p.lasting l) w) := by
  obtain ⟨hn, hl, _, b, o, ha, hc⟩ := zrow_at h
  have HN := hideT hn
  have HC := hideT hc
  have HA := hideT ha
  clear hn hc ha h
  have B0 := hideT ((Below.refl w.heap.size w).alloc (Nat.le_refl _) (.cells #[.int .i64 p.flags, .int .i64 p.lasting, .slice A.a2 p.first.length A.c2, .slice A.a3 p.over.length A.c3, .int .i64 p.frm, .slice A.a5 p.files.length A.c5, .slice A.a6 p.rules.length A.c6, .slice A.a7 p.ctrs.length A.c7, .slice A.a8 p.users.length A.c8, .slice A.a9 p.notes.length A.c9] 29))
  have L0 := hideT (PBox.new w A p)
  go_enter Try.func65, Try.ntmps65
  go_wp2_with fail
  go_loopw [9] (fun i wr => ∃ k : Nat, k ≤ n ∧ i = .int .i64 k ∧ Hid (∀ (i : Nat) x, i < k → l[i]? = some x → Rp.InP x p.lasting ∧ ∀ (j : Nat) y, i = j + 1 → l[j]? = some y → y < x) ∧ Hid (Below w.heap.size w wr ∧ PBox wr w.heap.size A p)) (fun i _ => n - (intOf i).toNat)
  case atStart => exact ⟨0, by omega, rfl, (fun j y hj => absurd hj (by omega)), B0.out, L0.out⟩
  case round =>
    obtain ⟨k, hk, rfl, HB, HW⟩ := hrel
    by_cases hlt : k < n
    rotate_left
    · have HF : Hid (Rp.RisP p.lasting l) := Rp.all_done HB.out (by have := HN.out; omega)
      go_wp2_with fail
      go_ret
      exact bpost_yes HF.out HW.out.1
    obtain ⟨x, hx⟩ := Mp.at_lt (l := l) (k := k) (by have := HN.out; omega)
    have d0 := below_cell HW.out.1 _ _ (HC.out k x hx)
    obtain rfl := HA.out (by omega)
    have HX := hideT hx
    clear hx
    obtain ⟨x0, x1, x2, x3, x4, x5, x6, x7, x8, x9⟩ := HW.out.2.cells
    have t0 : (0 : Int) ≤ (k : Int) := by omega
    have t1 : (k : Int) < (n : Int) := by omega
    by_cases q : Rp.InP x p.lasting
    rotate_left
    · have HF : Hid (¬ Rp.RisP p.lasting l) := fun H => q (H k x HX.out).1
      have Q := hideT q
      clear q
      go_wp2_with (go_at_call 68; refine (lastsD _ A p x).mono ?_; rintro e w1 h1; obtain ⟨rfl, b1⟩ := h1.no Q.out; clear h1)
      have HW1 := hideT (HW.out.1.trans (b1.mono HW.out.1.size))
      go_ret
      exact bpost_no HF.out HW1.out
    have Q := hideT q
    clear q
    by_cases h0 : k = 0
    · have HR : Hid (∀ (i : Nat) x, i < k + 1 → l[i]? = some x → Rp.InP x p.lasting ∧ ∀ (j : Nat) y, i = j + 1 → l[j]? = some y → y < x) := Rp.all_step HB.out HX.out ⟨Q.out, fun j y hj => absurd hj (by omega)⟩
      have t3 : ¬ (0 : Int) < (k : Int) := by omega
      clear h0
      go_wp2_with (go_at_call 68; refine (lastsD _ A p x).mono ?_; rintro e w1 h1; obtain ⟨rfl, b1⟩ := h1.yes Q.out; clear h1)
      refine ⟨⟨k + 1, by omega, by go_num, HR, HW.out.1.trans (b1.mono HW.out.1.size), HW.out.2.below b1⟩, ?_⟩
      first | omega | (simp [intOf]; omega)
    obtain ⟨j, hj⟩ : ∃ j, k = j + 1 := ⟨k - 1, by omega⟩
    obtain ⟨y, hy⟩ := Mp.at_lt (l := l) (k := j) (by have := HN.out; omega)
    have e0 := below_cell HW.out.1 _ _ (HC.out j y hy)
    have HY := hideT hy
    have t3 : (0 : Int) ≤ (j : Int) := by omega
    have t4 : (j : Int) < (n : Int) := by omega
    have t5 : IntKind.i64.wrap ((k : Int) - 1) = (j : Int) := by rw [show (k : Int) - 1 = (j : Int) by omega]; rw [IntKind.wrap_i64]; omega
    have t6 : (0 : Int) < (k : Int) := by omega
    have HJ := hideT hj
    clear hy hj h0
    by_cases hyx : y < x
    · have HR : Hid (∀ (i : Nat) x, i < k + 1 → l[i]? = some x → Rp.InP x p.lasting ∧ ∀ (j : Nat) y, i = j + 1 → l[j]? = some y → y < x) := Rp.all_step HB.out HX.out ⟨Q.out, fun j' y' hj' hy' => by
        obtain rfl : j' = j := by have := HJ.out; omega
        rw [HY.out] at hy'
        cases hy'
        exact hyx⟩
      have t7 : ¬ x ≤ y := by omega
      go_wp2_with (go_at_call 68; refine (lastsD _ A p x).mono ?_; rintro e w1 h1; obtain ⟨rfl, b1⟩ := h1.yes Q.out; clear h1; have d0 := below_cell b1 _ _ d0; have e0 := below_cell b1 _ _ e0)
      refine ⟨⟨k + 1, by omega, by go_num, HR, HW.out.1.trans (b1.mono HW.out.1.size), HW.out.2.below b1⟩, ?_⟩
      first | omega | (simp [intOf]; omega)
    · have HF : Hid (¬ Rp.RisP p.lasting l) := fun H => hyx ((H k x HX.out).2 j y HJ.out HY.out)
      have t7 : x ≤ y := by omega
      go_wp2_with (go_at_call 68; refine (lastsD _ A p x).mono ?_; rintro e w1 h1; obtain ⟨rfl, b1⟩ := h1.yes Q.out; clear h1; have d0 := below_cell b1 _ _ d0; have e0 := below_cell b1 _ _ e0)
      have HW1 := hideT (HW.out.1.trans (b1.mono HW.out.1.size))
      go_ret
      exact bpost_no HF.out HW1.out
end Go.Proofs.Ytkjekohncfhbiaa
