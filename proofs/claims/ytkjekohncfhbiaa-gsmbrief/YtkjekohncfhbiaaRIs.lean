/-
  The program's Is. (Written by RIs.py.)
-/
import Derived.Test.YtkjekohncfhbiaaPartR
import Derived.Test.YtkjekohncfhbiaaRRules
import Derived.Test.YtkjekohncfhbiaaRStrata
set_option linter.unusedSimpArgs false
set_option linter.unusedVariables false
namespace Go.Proofs.Ytkjekohncfhbiaa
open Go.RowKit
set_option maxRecDepth 100000
set_option maxHeartbeats 4000000 in
theorem isD (w : World) (A : PA) (p : Rp.Prog) (h : ProgAt w A p) : Calls Try.prog 21 #[.agg #[.int .i64 p.flags, .int .i64 p.lasting, .slice A.a2 p.first.length A.c2, .slice A.a3 p.over.length A.c3, .int .i64 p.frm, .slice A.a5 p.files.length A.c5, .slice A.a6 p.rules.length A.c6, .slice A.a7 p.ctrs.length A.c7, .slice A.a8 p.users.length A.c8, .slice A.a9 p.notes.length A.c9]] w (BPost (Rp.IsP p) w) := by
  have B0 := hideT ((Below.refl w.heap.size w).alloc (Nat.le_refl _) (.cells #[.int .i64 p.flags, .int .i64 p.lasting, .slice A.a2 p.first.length A.c2, .slice A.a3 p.over.length A.c3, .int .i64 p.frm, .slice A.a5 p.files.length A.c5, .slice A.a6 p.rules.length A.c6, .slice A.a7 p.ctrs.length A.c7, .slice A.a8 p.users.length A.c8, .slice A.a9 p.notes.length A.c9] 29))
  have L0 := hideT (PBox.new w A p)
  have HP := hideT h
  clear h
  go_enter Try.func21, Try.ntmps21
  go_wp2_with fail
  refine (flagsMayBeD _ A p (HP.out.below B0.out)).mono ?_
  rintro e w1 k1
  by_cases q : Rp.FlagsP p
  rotate_left
  · have HF : Hid (¬ Rp.IsP p) := fun H => q (H.1)
    obtain ⟨rfl, b1⟩ := k1.no q
    have BN := hideT (B0.out.trans (b1.mono B0.out.size))
    clear k1 b1 q
    go_wp2_with fail
    go_ret
    exact bpost_no HF.out BN.out
  obtain ⟨rfl, b1⟩ := k1.yes q
  have B1 := hideT (B0.out.trans (b1.mono B0.out.size))
  have L1 := hideT (L0.out.below b1)
  have Q0 := hideT q
  clear k1 b1 q
  obtain ⟨x0, x1, x2, x3, x4, x5, x6, x7, x8, x9⟩ := L1.out.cells
  go_wp2_with fail
  refine (isStratumD _ p.frm).mono ?_
  rintro e w2 k1
  by_cases q : Rp.StratP p.frm
  rotate_left
  · have HF : Hid (¬ Rp.IsP p) := fun H => q (H.2.1)
    obtain ⟨rfl, b1⟩ := k1.no q
    have BN := hideT (B1.out.trans (b1.mono B1.out.size))
    clear k1 b1 q x0 x1 x2 x3 x4 x5 x6 x7 x8 x9
    go_wp2_with fail
    go_ret
    exact bpost_no HF.out BN.out
  obtain ⟨rfl, b1⟩ := k1.yes q
  have B2 := hideT (B1.out.trans (b1.mono B1.out.size))
  have L2 := hideT (L1.out.below b1)
  have Q1 := hideT q
  clear k1 b1 q x0 x1 x2 x3 x4 x5 x6 x7 x8 x9
  obtain ⟨x0, x1, x2, x3, x4, x5, x6, x7, x8, x9⟩ := L2.out.cells
  go_wp2_with fail
  refine (filesMayBeD _ _ _ _ p.files (HP.out.below B2.out).files).mono ?_
  rintro e w3 k1
  by_cases q : Rp.FilesP p.files
  rotate_left
  · have HF : Hid (¬ Rp.IsP p) := fun H => q (H.2.2.1)
    obtain ⟨rfl, b1⟩ := k1.no q
    have BN := hideT (B2.out.trans (b1.mono B2.out.size))
    clear k1 b1 q x0 x1 x2 x3 x4 x5 x6 x7 x8 x9
    go_wp2_with fail
    go_ret
    exact bpost_no HF.out BN.out
  obtain ⟨rfl, b1⟩ := k1.yes q
  have B3 := hideT (B2.out.trans (b1.mono B2.out.size))
  have L3 := hideT (L2.out.below b1)
  have Q2 := hideT q
  clear k1 b1 q x0 x1 x2 x3 x4 x5 x6 x7 x8 x9
  obtain ⟨x0, x1, x2, x3, x4, x5, x6, x7, x8, x9⟩ := L3.out.cells
  go_wp2_with fail
  refine (rulesMayBeD _ A p (HP.out.below B3.out) ⟨Q0.out.1, Q0.out.2.1⟩).mono ?_
  rintro e w4 k1
  by_cases q : Rp.RulesP p
  rotate_left
  · have HF : Hid (¬ Rp.IsP p) := fun H => q (H.2.2.2.1)
    obtain ⟨rfl, b1⟩ := k1.no q
    have BN := hideT (B3.out.trans (b1.mono B3.out.size))
    clear k1 b1 q x0 x1 x2 x3 x4 x5 x6 x7 x8 x9
    go_wp2_with fail
    go_ret
    exact bpost_no HF.out BN.out
  obtain ⟨rfl, b1⟩ := k1.yes q
  have B4 := hideT (B3.out.trans (b1.mono B3.out.size))
  have L4 := hideT (L3.out.below b1)
  have Q3 := hideT q
  clear k1 b1 q x0 x1 x2 x3 x4 x5 x6 x7 x8 x9
  obtain ⟨x0, x1, x2, x3, x4, x5, x6, x7, x8, x9⟩ := L4.out.cells
  go_wp2_with fail
  refine (countersMayBeD _ A p (HP.out.below B4.out)).mono ?_
  rintro e w5 k1
  by_cases q : Rp.CtrsP p
  rotate_left
  · have HF : Hid (¬ Rp.IsP p) := fun H => q (H.2.2.2.2.1)
    obtain ⟨rfl, b1⟩ := k1.no q
    have BN := hideT (B4.out.trans (b1.mono B4.out.size))
    clear k1 b1 q x0 x1 x2 x3 x4 x5 x6 x7 x8 x9
    go_wp2_with fail
    go_ret
    exact bpost_no HF.out BN.out
  obtain ⟨rfl, b1⟩ := k1.yes q
  have B5 := hideT (B4.out.trans (b1.mono B4.out.size))
  have L5 := hideT (L4.out.below b1)
  have Q4 := hideT q
  clear k1 b1 q x0 x1 x2 x3 x4 x5 x6 x7 x8 x9
  obtain ⟨x0, x1, x2, x3, x4, x5, x6, x7, x8, x9⟩ := L5.out.cells
  go_wp2_with fail
  refine (usersMayBeD _ A p (HP.out.below B5.out)).mono ?_
  rintro e w6 k1
  by_cases q : Rp.UsersP p
  rotate_left
  · have HF : Hid (¬ Rp.IsP p) := fun H => q (H.2.2.2.2.2.1)
    obtain ⟨rfl, b1⟩ := k1.no q
    have BN := hideT (B5.out.trans (b1.mono B5.out.size))
    clear k1 b1 q x0 x1 x2 x3 x4 x5 x6 x7 x8 x9
    go_wp2_with fail
    go_ret
    exact bpost_no HF.out BN.out
  obtain ⟨rfl, b1⟩ := k1.yes q
  have B6 := hideT (B5.out.trans (b1.mono B5.out.size))
  have L6 := hideT (L5.out.below b1)
  have Q5 := hideT q
  clear k1 b1 q x0 x1 x2 x3 x4 x5 x6 x7 x8 x9
  obtain ⟨x0, x1, x2, x3, x4, x5, x6, x7, x8, x9⟩ := L6.out.cells
  go_wp2_with fail
  refine (strataMayBeD _ A p (HP.out.below B6.out) ⟨Q0.out.1, Q0.out.2.1, Q0.out.2.2.1⟩ Q3.out).mono ?_
  rintro e w7 k1
  by_cases q : Rp.StrataP p
  rotate_left
  · have HF : Hid (¬ Rp.IsP p) := fun H => q (H.2.2.2.2.2.2)
    obtain ⟨rfl, b1⟩ := k1.no q
    have BN := hideT (B6.out.trans (b1.mono B6.out.size))
    clear k1 b1 q x0 x1 x2 x3 x4 x5 x6 x7 x8 x9
    go_wp2_with fail
    go_ret
    exact bpost_no HF.out BN.out
  obtain ⟨rfl, b1⟩ := k1.yes q
  have B7 := hideT (B6.out.trans (b1.mono B6.out.size))
  have L7 := hideT (L6.out.below b1)
  have Q6 := hideT q
  clear k1 b1 q x0 x1 x2 x3 x4 x5 x6 x7 x8 x9
  go_wp2_with fail
  go_ret
  exact bpost_yes ⟨Q0.out, Q1.out, Q2.out, Q3.out, Q4.out, Q5.out, Q6.out⟩ B7.out
end Go.Proofs.Ytkjekohncfhbiaa
