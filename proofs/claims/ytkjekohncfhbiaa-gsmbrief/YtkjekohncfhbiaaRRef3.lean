/-
  The document's counters and users: whether they may be.
-/
import Derived.Test.YtkjekohncfhbiaaRRef1
set_option linter.unusedSimpArgs false
set_option linter.unusedVariables false
namespace Go.Proofs.Ytkjekohncfhbiaa
open Go.RowKit
set_option maxRecDepth 100000
theorem pass_of {p : Rp.Prog} {f : Int} (h1 : Rp.InP f p.flags) (h2 : ¬ f < p.lasting) : Rp.PassP p f := ⟨by omega, h1.2⟩
set_option maxHeartbeats 8000000 in
theorem endsD (w : World) (A : PA) (p : Rp.Prog) (h : ProgAt w A p) (hl0 : 0 ≤ p.lasting) : Calls Try.prog 38 #[.agg #[.int .i64 p.flags, .int .i64 p.lasting, .slice A.a2 p.first.length A.c2, .slice A.a3 p.over.length A.c3, .int .i64 p.frm, .slice A.a5 p.files.length A.c5, .slice A.a6 p.rules.length A.c6, .slice A.a7 p.ctrs.length A.c7, .slice A.a8 p.users.length A.c8, .slice A.a9 p.notes.length A.c9]] w (BPost (Rp.CtrsP p ∧ Rp.UsersP p) w) := by
  obtain ⟨a2, c2, a3, c3, a5, c5, a6, c6, a7, c7, a8, c8, a9, c9⟩ := A
  show Calls _ _ #[.agg #[.int .i64 p.flags, .int .i64 p.lasting, .slice a2 p.first.length c2, .slice a3 p.over.length c3, .int .i64 p.frm, .slice a5 p.files.length c5, .slice a6 p.rules.length c6, .slice a7 p.ctrs.length c7, .slice a8 p.users.length c8, .slice a9 p.notes.length c9]] w _
  have B0 := hideT ((Below.refl w.heap.size w).alloc (Nat.le_refl _) (.cells #[.int .i64 p.flags, .int .i64 p.lasting, .slice a2 p.first.length c2, .slice a3 p.over.length c3, .int .i64 p.frm, .slice a5 p.files.length c5, .slice a6 p.rules.length c6, .slice a7 p.ctrs.length c7, .slice a8 p.users.length c8, .slice a9 p.notes.length c9] 29))
  have L0 := hideT (PBox.newC w a2 a3 a5 a6 a7 a8 a9 c2 c3 c5 c6 c7 c8 c9 p)
  obtain ⟨_, hlt, _, b, o, ha, hc⟩ := trow_at (show TRow w (.slice a7 p.ctrs.length c7) p.ctrs from h.ctrs)
  obtain ⟨_, hlu, _, bu, ou, hau, hcu⟩ := urow_at (show URow w (.slice a8 p.users.length c8) p.users from h.users)
  have HC := hideT hc
  have HA := hideT ha
  have HCU := hideT hcu
  have HAU := hideT hau
  have HL := hideT hl0
  clear hc ha hcu hau h hl0
  go_enter Try.func38, Try.ntmps38
  go_wp2_with fail
  go_loopw [3] (fun i wr => ∃ k : Nat, k ≤ p.ctrs.length ∧ i = .int .i64 k ∧ Hid (∀ (j : Nat) c, j < k → p.ctrs[j]? = some c → Rp.CtrP p c) ∧ Hid (Below w.heap.size w wr ∧ PBox wr w.heap.size ⟨a2, c2, a3, c3, a5, c5, a6, c6, a7, c7, a8, c8, a9, c9⟩ p)) (fun i _ => p.ctrs.length - (intOf i).toNat)
  case atStart => exact ⟨0, by omega, rfl, (fun j y hj => absurd hj (by omega)), B0.out, L0.out⟩
  case round =>
    obtain ⟨k, hk, rfl, HB, HW⟩ := hrel
    obtain ⟨x0, x1, x2, x3, x4, x5, x6, x7, x8, x9⟩ := HW.out.2.cellsC
    by_cases hlt2 : k < p.ctrs.length
    · obtain ⟨⟨g0, g1, g2⟩, hx⟩ := Mp.at_lt (l := p.ctrs) (k := k) hlt2
      obtain ⟨d0, d1, d2⟩ := HC.out k _ hx
      dsimp only at d0 d1 d2
      have d0 := below_cell HW.out.1 _ _ d0
      have d1 := below_cell HW.out.1 _ _ d1
      have d2 := below_cell HW.out.1 _ _ d2
      obtain rfl := HA.out (by omega)
      have HX := hideT hx
      have HNO : Hid (¬ Rp.CtrP p (g0, g1, g2) → ¬ (Rp.CtrsP p ∧ Rp.UsersP p)) := fun h H => h (H.1 _ (List.mem_of_getElem? HX.out))
      clear hx
      have BA := hideT ((Below.refl wr.heap.size wr).alloc (Nat.le_refl _) (.cells #[.int .i64 g0, .int .i64 g1, .int .i64 g2] 52))
      have BW := hideT (HW.out.1.trans (BA.out.mono HW.out.1.size))
      have LP := hideT (HW.out.2.below BA.out)
      have t0 : (0 : Int) ≤ (k : Int) := by omega
      have t1 : (k : Int) < (p.ctrs.length : Int) := by omega
      have hz := HW.out.2.lt
      by_cases q1 : Rp.InP g0 p.lasting
      rotate_left
      · have HF := hideT (HNO.out fun H => q1 H.1)
        have Q1 := hideT q1
        clear q1
        go_wp2_with fail
        refine (inNo _ g0 p.lasting Q1.out).mono ?_
        rintro e w1 ⟨rfl, rfl⟩
        go_wp2_with fail
        go_ret
        exact bpost_no HF.out BW.out
      have Q1 := hideT q1
      clear q1
      by_cases q2 : 1 ≤ g1
      rotate_left
      · have HF := hideT (HNO.out fun H => q2 H.2.1)
        go_wp2_with fail
        refine (inYes _ g0 p.lasting Q1.out).mono ?_
        rintro e w1 ⟨rfl, rfl⟩
        go_wp2_with fail
        go_ret
        exact bpost_no HF.out BW.out
      by_cases q3 : g1 ≤ 100
      rotate_left
      · have HF := hideT (HNO.out fun H => q3 H.2.2.1)
        go_wp2_with fail
        refine (inYes _ g0 p.lasting Q1.out).mono ?_
        rintro e w1 ⟨rfl, rfl⟩
        go_wp2_with fail
        go_ret
        exact bpost_no HF.out BW.out
      have Q2 : Hid (1 ≤ g1 ∧ g1 ≤ 100) := ⟨q2, q3⟩
      by_cases q4 : Rp.InP g2 p.flags
      rotate_left
      · have HF := hideT (HNO.out fun H => q4 ⟨Int.le_trans HL.out H.2.2.2.1, H.2.2.2.2⟩)
        have Q4 := hideT q4
        clear q4
        go_wp2_with fail
        refine (inYes _ g0 p.lasting Q1.out).mono ?_
        rintro e w1 ⟨rfl, rfl⟩
        go_wp2_with fail
        refine (inNo _ g2 p.flags Q4.out).mono ?_
        rintro e w1 ⟨rfl, rfl⟩
        go_wp2_with fail
        go_ret
        exact bpost_no HF.out BW.out
      have Q4 := hideT q4
      clear q4
      by_cases q5 : g2 < p.lasting
      · have HF := hideT (HNO.out fun H => absurd H.2.2.2.1 (Int.not_le.2 q5))
        go_wp2_with fail
        refine (inYes _ g0 p.lasting Q1.out).mono ?_
        rintro e w1 ⟨rfl, rfl⟩
        go_wp2_with fail
        refine (inYes _ g2 p.flags Q4.out).mono ?_
        rintro e w1 ⟨rfl, rfl⟩
        go_wp2_with fail
        go_ret
        exact bpost_no HF.out BW.out
      have HR : Hid (∀ (j : Nat) c, j < k + 1 → p.ctrs[j]? = some c → Rp.CtrP p c) := Rp.all_step HB.out HX.out ⟨Q1.out, Q2.out.1, Q2.out.2, pass_of Q4.out q5⟩
      go_wp2_with fail
      refine (inYes _ g0 p.lasting Q1.out).mono ?_
      rintro e w1 ⟨rfl, rfl⟩
      go_wp2_with fail
      refine (inYes _ g2 p.flags Q4.out).mono ?_
      rintro e w1 ⟨rfl, rfl⟩
      go_wp2_with fail
      refine ⟨⟨k + 1, by omega, by go_num, HR, BW.out, LP.out⟩, ?_⟩
      first | omega | (simp [intOf]; omega)
    have HCT : Hid (Rp.CtrsP p) := Rp.all_of (Rp.all_done HB.out (by omega))
    go_wp2_with fail
    clear x0 x1 x2 x3 x4 x5 x6 x7 x8 x9
    go_loopw [5] (fun i wr => ∃ k : Nat, k ≤ p.users.length ∧ i = .int .i64 k ∧ Hid (∀ (j : Nat) c, j < k → p.users[j]? = some c → Rp.UserP p c) ∧ Hid (Below w.heap.size w wr ∧ PBox wr w.heap.size ⟨a2, c2, a3, c3, a5, c5, a6, c6, a7, c7, a8, c8, a9, c9⟩ p)) (fun i _ => p.users.length - (intOf i).toNat)
    case atStart => exact ⟨0, by omega, rfl, (fun j y hj => absurd hj (by omega)), HW.out⟩
    case round =>
      obtain ⟨k, hk, rfl, HB, HW⟩ := hrel
      obtain ⟨x0, x1, x2, x3, x4, x5, x6, x7, x8, x9⟩ := HW.out.2.cellsC
      by_cases hlt2 : k < p.users.length
      rotate_left
      · have HF : Hid (Rp.CtrsP p ∧ Rp.UsersP p) := ⟨HCT.out, Rp.all_of (Rp.all_done HB.out (by omega))⟩
        go_wp2_with fail
        go_ret
        exact bpost_yes HF.out HW.out.1
      obtain ⟨⟨s0, s1, s2, s3⟩, hx⟩ := Mp.at_lt (l := p.users) (k := k) hlt2
      obtain ⟨i1, n1, I0⟩ := HCU.out k _ hx
      obtain ⟨_, r1, d0, d1, d2, d3⟩ := I0.turn (below_cell HW.out.1)
      dsimp only at r1 d0 d1 d2 d3
      obtain rfl := HAU.out (by omega)
      have HX := hideT hx
      have HNO : Hid (¬ Rp.UserP p (s0, s1, s2, s3) → ¬ (Rp.CtrsP p ∧ Rp.UsersP p)) := fun h H => h (H.2 _ (List.mem_of_getElem? HX.out))
      have BA := hideT ((Below.refl wr.heap.size wr).alloc (Nat.le_refl _) (.cells #[.string s0, .int .i64 s1, .slice i1 s2.length n1, .int .i64 s3] 65))
      have BW := hideT (HW.out.1.trans (BA.out.mono HW.out.1.size))
      have LP := hideT (HW.out.2.below BA.out)
      have R1 := hideT (lrow_below r1 BA.out)
      clear hx I0 r1
      have t0 : (0 : Int) ≤ (k : Int) := by omega
      have t1 : (k : Int) < (p.users.length : Int) := by omega
      have hz := HW.out.2.lt
      by_cases q1 : Rp.LitsP s2 p.lasting
      rotate_left
      · have HF := hideT (HNO.out fun H => q1 H.1)
        have Q1 := hideT q1
        clear q1
        go_wp2_with fail
        refine (litsNo _ _ _ _ s2 p.lasting R1.out Q1.out).mono ?_
        rintro e w1 ⟨rfl, rfl⟩
        go_wp2_with fail
        go_ret
        exact bpost_no HF.out BW.out
      have Q1 := hideT q1
      clear q1
      by_cases q4 : Rp.InP s3 p.flags
      rotate_left
      · have HF := hideT (HNO.out fun H => q4 ⟨Int.le_trans HL.out H.2.1, H.2.2⟩)
        have Q4 := hideT q4
        clear q4
        go_wp2_with fail
        refine (litsYes _ _ _ _ s2 p.lasting R1.out Q1.out).mono ?_
        rintro e w1 ⟨rfl, rfl⟩
        go_wp2_with fail
        refine (inNo _ s3 p.flags Q4.out).mono ?_
        rintro e w1 ⟨rfl, rfl⟩
        go_wp2_with fail
        go_ret
        exact bpost_no HF.out BW.out
      have Q4 := hideT q4
      clear q4
      by_cases q5 : s3 < p.lasting
      · have HF := hideT (HNO.out fun H => absurd H.2.1 (Int.not_le.2 q5))
        go_wp2_with fail
        refine (litsYes _ _ _ _ s2 p.lasting R1.out Q1.out).mono ?_
        rintro e w1 ⟨rfl, rfl⟩
        go_wp2_with fail
        refine (inYes _ s3 p.flags Q4.out).mono ?_
        rintro e w1 ⟨rfl, rfl⟩
        go_wp2_with fail
        go_ret
        exact bpost_no HF.out BW.out
      have HR : Hid (∀ (j : Nat) c, j < k + 1 → p.users[j]? = some c → Rp.UserP p c) := Rp.all_step HB.out HX.out ⟨Q1.out, pass_of Q4.out q5⟩
      go_wp2_with fail
      refine (litsYes _ _ _ _ s2 p.lasting R1.out Q1.out).mono ?_
      rintro e w1 ⟨rfl, rfl⟩
      go_wp2_with fail
      refine (inYes _ s3 p.flags Q4.out).mono ?_
      rintro e w1 ⟨rfl, rfl⟩
      go_wp2_with fail
      refine ⟨⟨k + 1, by omega, by go_num, HR, BW.out, LP.out⟩, ?_⟩
      first | omega | (simp [intOf]; omega)
end Go.Proofs.Ytkjekohncfhbiaa
