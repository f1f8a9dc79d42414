/-
  Whether a program's counters may be.
-/
import Derived.Test.YtkjekohncfhbiabRFlags
set_option linter.unusedSimpArgs false
set_option linter.unusedVariables false
namespace Go.Proofs.Ytkjekohncfhbiab
open Go.RowKit
set_option maxRecDepth 100000
set_option maxHeartbeats 2000000 in
theorem countersMayBeD (w : World) (A : PA) (p : Rp.Prog) (h : ProgAt w A p) : Calls Try.prog 42 #[.agg #[.int .i64 p.flags, .int .i64 p.lasting, .slice A.a2 p.first.length A.c2, .slice A.a3 p.over.length A.c3, .int .i64 p.frm, .slice A.a5 p.files.length A.c5, .slice A.a6 p.rules.length A.c6, .slice A.a7 p.ctrs.length A.c7, .slice A.a8 p.users.length A.c8, .slice A.a9 p.notes.length A.c9]] w (BPost (Rp.CtrsP p) w) := by
  obtain ⟨a2, c2, a3, c3, a5, c5, a6, c6, a7, c7, a8, c8, a9, c9⟩ := A
  show Calls _ _ #[.agg #[.int .i64 p.flags, .int .i64 p.lasting, .slice a2 p.first.length c2, .slice a3 p.over.length c3, .int .i64 p.frm, .slice a5 p.files.length c5, .slice a6 p.rules.length c6, .slice a7 p.ctrs.length c7, .slice a8 p.users.length c8, .slice a9 p.notes.length c9]] w _
  have B0 := hideT ((Below.refl w.heap.size w).alloc (Nat.le_refl _) (.cells #[.int .i64 p.flags, .int .i64 p.lasting, .slice a2 p.first.length c2, .slice a3 p.over.length c3, .int .i64 p.frm, .slice a5 p.files.length c5, .slice a6 p.rules.length c6, .slice a7 p.ctrs.length c7, .slice a8 p.users.length c8, .slice a9 p.notes.length c9] 53))
  have L0 := hideT (PBox.newC w a2 a3 a5 a6 a7 a8 a9 c2 c3 c5 c6 c7 c8 c9 p)
  obtain ⟨_, hl, _, b, o, ha, hc⟩ := trow_at (show TRow w (.slice a7 p.ctrs.length c7) p.ctrs from h.ctrs)
  have HC := hideT hc
  have HA := hideT ha
  clear hc ha h
  go_enter Try.func42, Try.ntmps42
  go_wp2_with fail
  go_loopw [8] (fun i wr => ∃ k : Nat, k ≤ p.ctrs.length ∧ i = .int .i64 k ∧ Hid (∀ (j : Nat) c, j < k → p.ctrs[j]? = some c → Rp.CtrP p c) ∧ Hid (Below w.heap.size w wr ∧ PBox wr w.heap.size ⟨a2, c2, a3, c3, a5, c5, a6, c6, a7, c7, a8, c8, a9, c9⟩ p)) (fun i _ => p.ctrs.length - (intOf i).toNat)
  case atStart => exact ⟨0, by omega, rfl, (fun j y hj => absurd hj (by omega)), B0.out, L0.out⟩
  case round =>
    obtain ⟨k, hk, rfl, HB, HW⟩ := hrel
    by_cases hlt : k < p.ctrs.length
    rotate_left
    · have HF : Hid (Rp.CtrsP p) := Rp.all_of (Rp.all_done HB.out (by omega))
      go_wp2_with fail
      go_ret
      exact bpost_yes HF.out HW.out.1
    obtain ⟨⟨g0, g1, g2⟩, hx⟩ := Mp.at_lt (l := p.ctrs) (k := k) hlt
    obtain ⟨d0, d1, d2⟩ := HC.out k _ hx
    dsimp only at d0 d1 d2
    have d0 := below_cell HW.out.1 _ _ d0
    have d1 := below_cell HW.out.1 _ _ d1
    have d2 := below_cell HW.out.1 _ _ d2
    obtain rfl := HA.out (by omega)
    have HX := hideT hx
    have HNO : Hid (¬ Rp.CtrP p (g0, g1, g2) → ¬ Rp.CtrsP p) := fun h H => h (H _ (List.mem_of_getElem? HX.out))
    clear hx
    have BA := hideT ((Below.refl wr.heap.size wr).alloc (Nat.le_refl _) (.cells #[.int .i64 g0, .int .i64 g1, .int .i64 g2] 89))
    have LA := hideT (Lies.new wr 89 #[.int .i64 g0, .int .i64 g1, .int .i64 g2])
    have LP := hideT (HW.out.2.below BA.out)
    have BW := hideT (HW.out.1.trans (BA.out.mono HW.out.1.size))
    obtain ⟨x0, x1, x2, x3, x4, x5, x6, x7, x8, x9⟩ := HW.out.2.cellsC
    have t0 : (0 : Int) ≤ (k : Int) := by omega
    have t1 : (k : Int) < (p.ctrs.length : Int) := by omega
    have hz := HW.out.2.lt
    by_cases q1 : Rp.InP g0 p.lasting
    rotate_left
    · have HF : Hid (¬ Rp.CtrsP p) := HNO.out fun H => q1 H.1
      have Q1 := hideT q1
      clear q1
      go_wp2_with fail
      refine (lastsD _ ⟨a2, c2, a3, c3, a5, c5, a6, c6, some ⟨b, o, none⟩, c7, a8, c8, a9, c9⟩ p g0).mono ?_
      rintro e w1 k1
      obtain ⟨rfl, b1⟩ := k1.no Q1.out
      have B1 := hideT (BW.out.trans (b1.mono BW.out.size))
      clear k1 b1
      go_wp2_with fail
      go_ret
      exact bpost_no HF.out B1.out
    have Q1 := hideT q1
    clear q1
    by_cases q2 : 1 ≤ g1
    rotate_left
    · have HF : Hid (¬ Rp.CtrsP p) := HNO.out fun H => q2 H.2.1
      go_wp2_with fail
      refine (lastsD _ ⟨a2, c2, a3, c3, a5, c5, a6, c6, some ⟨b, o, none⟩, c7, a8, c8, a9, c9⟩ p g0).mono ?_
      rintro e w1 k1
      obtain ⟨rfl, b1⟩ := k1.yes Q1.out
      have B1 := hideT (BW.out.trans (b1.mono BW.out.size))
      have e1 : w1.cell? ⟨wr.heap.size, 1, none⟩ = some (.int .i64 g1) := (LA.out.below b1).cell 1
      clear k1 b1
      go_wp2_with fail
      go_ret
      exact bpost_no HF.out B1.out
    by_cases q3 : g1 ≤ 100
    rotate_left
    · have HF : Hid (¬ Rp.CtrsP p) := HNO.out fun H => q3 H.2.2.1
      go_wp2_with fail
      refine (lastsD _ ⟨a2, c2, a3, c3, a5, c5, a6, c6, some ⟨b, o, none⟩, c7, a8, c8, a9, c9⟩ p g0).mono ?_
      rintro e w1 k1
      obtain ⟨rfl, b1⟩ := k1.yes Q1.out
      have B1 := hideT (BW.out.trans (b1.mono BW.out.size))
      have e1 : w1.cell? ⟨wr.heap.size, 1, none⟩ = some (.int .i64 g1) := (LA.out.below b1).cell 1
      clear k1 b1
      go_wp2_with fail
      go_ret
      exact bpost_no HF.out B1.out
    have Q2 : Hid (1 ≤ g1 ∧ g1 ≤ 100) := ⟨q2, q3⟩
    go_wp2_with fail
    refine (lastsD _ ⟨a2, c2, a3, c3, a5, c5, a6, c6, some ⟨b, o, none⟩, c7, a8, c8, a9, c9⟩ p g0).mono ?_
    rintro e w1 k1
    obtain ⟨rfl, b1⟩ := k1.yes Q1.out
    have B1 := hideT (BW.out.trans (b1.mono BW.out.size))
    have L1 := hideT (LP.out.below b1)
    have e1 : w1.cell? ⟨wr.heap.size, 1, none⟩ = some (.int .i64 g1) := (LA.out.below b1).cell 1
    have e2 : w1.cell? ⟨wr.heap.size, 2, none⟩ = some (.int .i64 g2) := (LA.out.below b1).cell 2
    clear k1 b1 x0 x1 x2 x3 x4 x5 x6 x7 x8 x9
    obtain ⟨x0, x1, x2, x3, x4, x5, x6, x7, x8, x9⟩ := L1.out.cellsC
    go_wp2_with fail
    clear x0 x1 x2 x3 x4 x5 x6 x7 x8 x9
    refine (passesD _ ⟨a2, c2, a3, c3, a5, c5, a6, c6, some ⟨b, o, none⟩, c7, a8, c8, a9, c9⟩ p g2).mono ?_
    rintro e w2 k1
    by_cases q4 : Rp.PassP p g2
    · obtain ⟨rfl, b1⟩ := k1.yes q4
      have B2 := hideT (B1.out.trans (b1.mono B1.out.size))
      have L2 := hideT (L1.out.below b1)
      have HR : Hid (∀ (j : Nat) c, j < k + 1 → p.ctrs[j]? = some c → Rp.CtrP p c) := Rp.all_step HB.out HX.out ⟨Q1.out, Q2.out.1, Q2.out.2, q4⟩
      clear k1 b1 q4
      go_wp2_with fail
      refine ⟨⟨k + 1, by omega, by go_num, HR, B2.out, L2.out⟩, ?_⟩
      first | omega | (simp [intOf]; omega)
    · obtain ⟨rfl, b1⟩ := k1.no q4
      have B2 := hideT (B1.out.trans (b1.mono B1.out.size))
      have HF : Hid (¬ Rp.CtrsP p) := HNO.out fun H => q4 H.2.2.2
      clear k1 b1 q4
      go_wp2_with fail
      go_ret
      exact bpost_no HF.out B2.out
end Go.Proofs.Ytkjekohncfhbiab
