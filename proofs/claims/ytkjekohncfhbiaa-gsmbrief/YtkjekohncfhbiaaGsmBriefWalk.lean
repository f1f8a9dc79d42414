/-
  GsmBrief's walk (written by GsmBriefWalk.py).
-/
import Derived.Test.YtkjekohncfhbiaaPartW
import Derived.Test.YtkjekohncfhbiaaRRef5
import Derived.Test.YtkjekohncfhbiaaGActs
set_option linter.unusedSimpArgs false
set_option linter.unusedVariables false
namespace Go.Proofs.Ytkjekohncfhbiaa
open Go.RowKit
set_option maxRecDepth 100000
theorem Mach.flags {w0 w : World} {b : Nat} {p : Rp.Prog} {st : Gp.St} {F : Nat} (h : Mach w0 w b p st) (hF : p.flags.toNat = F) : Calls Try.prog 18 #[.pointer (some ⟨b, 0, none⟩)] w (fun e w' => e = .returned (.slice (some ⟨w.heap.size, 0, none⟩) F F) ∧ FlagR w' w.heap.size st.fl ∧ st.fl.length = F ∧ Below w.heap.size w w') := by
  obtain ⟨A, S, fb, nb, cb, h1, _, _⟩ := h
  subst hF
  refine (flagsD h1).mono ?_
  rintro e w' ⟨he, a, k⟩
  exact ⟨he, a, h1.lf, k⟩
set_option maxHeartbeats 8000000 in
theorem gsmBrief_walk {w : World} (A : PA) (p : Rp.Prog) (h : ProgAt w A p) (v : Value) (l : List Gp.Act) (hl : ActRow w v l) : Calls Try.prog 4 #[.agg #[.int .i64 p.flags, .int .i64 p.lasting, .slice A.a2 p.first.length A.c2, .slice A.a3 p.over.length A.c3, .int .i64 p.frm, .slice A.a5 p.files.length A.c5, .slice A.a6 p.rules.length A.c6, .slice A.a7 p.ctrs.length A.c7, .slice A.a8 p.users.length A.c8, .slice A.a9 p.notes.length A.c9], v] w fun e w' => e = .returned (.bool true) ∧ Below w.heap.size w w' := by
  obtain ⟨a2, c2, a3, c3, a5, c5, a6, c6, a7, c7, a8, c8, a9, c9⟩ := A
  show Calls _ _ #[.agg #[.int .i64 p.flags, .int .i64 p.lasting, .slice a2 p.first.length c2, .slice a3 p.over.length c3, .int .i64 p.frm, .slice a5 p.files.length c5, .slice a6 p.rules.length c6, .slice a7 p.ctrs.length c7, .slice a8 p.users.length c8, .slice a9 p.notes.length c9], v] w _
  obtain ⟨ao, cap, rfl⟩ := row_val hl
  obtain ⟨_, hl13, hcap, lb, lo, hla, hlc⟩ := actrow_at hl
  have HLA := hideT hla
  have HLC := hideT hlc
  have HAR := hideT hl
  have B0 := hideT ((Below.refl w.heap.size w).alloc (Nat.le_refl _) (.cells #[.int .i64 p.flags, .int .i64 p.lasting, .slice a2 p.first.length c2, .slice a3 p.over.length c3, .int .i64 p.frm, .slice a5 p.files.length c5, .slice a6 p.rules.length c6, .slice a7 p.ctrs.length c7, .slice a8 p.users.length c8, .slice a9 p.notes.length c9] 29))
  have L0 := hideT (PBox.newC w a2 a3 a5 a6 a7 a8 a9 c2 c3 c5 c6 c7 c8 c9 p)
  have HP := hideT h
  clear h hla hlc hl
  go_enter Try.func4, Try.ntmps4
  go_wp2_with fail
  refine (big11D _ ⟨a2, c2, a3, c3, a5, c5, a6, c6, a7, c7, a8, c8, a9, c9⟩ p (HP.out.below B0.out)).mono ?_
  rintro e w1 ⟨bb, rfl, hsm, b1⟩
  have B1 := hideT (B0.out.trans (b1.mono B0.out.size))
  have L1 := hideT (L0.out.below b1)
  cases bb
  rotate_left
  · clear b1 hsm
    go_wp2_with fail
    go_ret
    exact ⟨rfl, B1.out⟩
  have HSM := hideT (hsm rfl)
  clear hsm b1
  go_wp2_with fail
  refine (textsD w1 ao l.length cap l (actrow_below HAR.out B1.out)).mono ?_
  rintro e w2 ⟨bt, rfl, hlt, b2⟩
  have B2 := hideT (B1.out.trans (b2.mono B1.out.size))
  have L2 := hideT (L1.out.below b2)
  cases bt
  · clear hlt b2
    go_wp2_with fail
    go_ret
    exact ⟨rfl, B2.out⟩
  have hl60 := hlt rfl
  clear hlt b2
  obtain ⟨x0, x1, x2, x3, x4, x5, x6, x7, x8, x9⟩ := L2.out.cellsC
  go_wp2_with fail
  refine (refIsD w2 ⟨a2, c2, a3, c3, a5, c5, a6, c6, a7, c7, a8, c8, a9, c9⟩ p (HP.out.below B2.out)).mono ?_
  rintro e w3 ⟨bi, rfl, his, b3⟩
  have B3 := hideT (B2.out.trans (b3.mono B2.out.size))
  have L3 := hideT (L2.out.below b3)
  clear b3 x0 x1 x2 x3 x4 x5 x6 x7 x8 x9
  cases bi
  · clear his
    go_wp2_with fail
    go_ret
    exact ⟨rfl, B3.out⟩
  have HIS := hideT (his.1 rfl)
  clear his
  obtain ⟨x0, x1, x2, x3, x4, x5, x6, x7, x8, x9⟩ := L3.out.cellsC
  go_wp2_with fail
  refine (newD w3 ⟨a2, c2, a3, c3, a5, c5, a6, c6, a7, c7, a8, c8, a9, c9⟩ p (HP.out.below B3.out) HIS.out HSM.out).mono ?_
  rintro e w4 ⟨b4, hm⟩
  have B4 := hideT (B3.out.trans (b4.mono B3.out.size))
  have L4 := hideT (L3.out.below b4)
  have h3 : w.heap.size < w3.heap.size := Lies.lt L3.out
  clear b4 x0 x1 x2 x3 x4 x5 x6 x7 x8 x9
  cases hnp : Gp.newP p with
  | none =>
    rw [hnp] at hm
    obtain rfl := hm
    go_wp2_with fail
    refine (known11 w4).mono ?_
    rintro e w5 ⟨rfl, b5⟩
    have B5 := hideT (B4.out.trans (b5.mono B4.out.size))
    clear b5
    go_wp2_with fail
    go_ret
    exact ⟨rfl, B5.out⟩
  | some st0 =>
    rw [hnp] at hm
    obtain ⟨mb, rfl, M0⟩ := hm
    have HM4 := hideT M0.mach
    have HBR4 : Hid (Gp.Brief p.lasting.toNat st0.fl) := Gp.newP_brief hnp
    obtain ⟨i1, i2, i3⟩ : 0 ≤ p.lasting ∧ p.lasting ≤ p.flags ∧ p.flags ≤ 800 := ⟨HIS.out.1.1, HIS.out.1.2.1, HIS.out.1.2.2.1⟩
    obtain ⟨F, hF⟩ : ∃ F : Nat, p.flags = (F : Int) := ⟨p.flags.toNat, by omega⟩
    obtain ⟨L, hL⟩ : ∃ L : Nat, p.lasting = (L : Int) := ⟨p.lasting.toNat, by omega⟩
    have hLF : L ≤ F := by omega
    have hF8 : F ≤ 800 := by omega
    have HF : Hid (p.flags.toNat = F) := by show _ = _; omega
    have HLN : Hid (p.lasting.toNat = L) := by show _ = _; omega
    have HFI := hideT hF
    have HLI := hideT hL
    clear M0 hnp i1 i2 i3 hF hL
    go_wp2_with fail
    go_loopw [7] (fun i wr => ∃ (z : Int) (st : Gp.St), -1 ≤ z ∧ z ≤ (l.length : Int) ∧ i = .int .i64 z ∧ Hid (Mach w3 wr mb p st) ∧ Hid (Gp.Brief p.lasting.toNat st.fl) ∧ Hid (Below w.heap.size w wr) ∧ Hid (PBox wr w.heap.size ⟨a2, c2, a3, c3, a5, c5, a6, c6, a7, c7, a8, c8, a9, c9⟩ p)) (fun i _ => ((l.length : Int) - intOf i).toNat)
    case atStart => exact ⟨-1, st0, by omega, by omega, rfl, HM4, HBR4, B4, L4⟩
    case round =>
      obtain ⟨z, st, hz1, hz2, rfl, HM, HB, HBw, HPB⟩ := hrel
      by_cases hlt : z < (l.length : Int)
      rotate_left
      · have t1 : (l.length : Int) ≤ z := by omega
        go_wp2_with fail
        refine (known11 wr).mono ?_
        rintro e w5 ⟨rfl, b5⟩
        have B5 := hideT (HBw.out.trans (b5.mono HBw.out.size))
        clear b5
        go_wp2_with fail
        go_ret
        exact ⟨rfl, B5.out⟩
      by_cases hz0 : 0 ≤ z
      · obtain ⟨k, rfl⟩ : ∃ k : Nat, z = k := ⟨z.toNat, by omega⟩
        obtain ⟨x, hx⟩ := Mp.at_lt (l := l) (k := k) (by omega)
        obtain ⟨_, d0, d1, d2, d3, d4⟩ := HLC.out k _ hx
        have d0 := below_cell HBw.out _ _ d0
        have d1 := below_cell HBw.out _ _ d1
        have d2 := below_cell HBw.out _ _ d2
        have d3 := below_cell HBw.out _ _ d3
        have d4 := below_cell HBw.out _ _ d4
        obtain rfl := HLA.out (by omega)
        clear hx
        go_wp2_with fail
        refine (HM.out.do (r := (Gp.doS (Gp.kept p) st x).1) (st' := (Gp.doS (Gp.kept p) st x).2) x rfl).mono ?_
        rintro e w5 ⟨rfl, m5, k5⟩
        have hb5 : w3.heap.size ≤ mb := by
          obtain ⟨_, _, _, _, _, _, hb, _⟩ := m5
          exact hb
        obtain ⟨s2, hs2⟩ : ∃ s2, (Gp.doS (Gp.kept p) st x).2 = s2 := ⟨_, rfl⟩
        have HBR : Hid (Gp.Brief p.lasting.toNat s2.fl) := by rw [← hs2]; exact Gp.doS_brief (K := Gp.kept p) x HB.out
        rw [hs2] at m5
        have HM2 := hideT m5
        have HB2 : Hid (Below w.heap.size w w5) := Keep.below HBw.out k5 (fun i hi e => by omega)
        have HPB2 : Hid (PBox w5 w.heap.size ⟨a2, c2, a3, c3, a5, c5, a6, c6, a7, c7, a8, c8, a9, c9⟩ p) := Lies.keep HPB.out k5 (by omega)
        clear m5 k5 hs2 d0 d1 d2 d3 d4 HB HM HBw HPB
        go_wp2_with fail
        refine (HM2.out.flags HF.out).mono ?_
        rintro e w6 ⟨rfl, fr, lf, b6⟩
        have HFR := hideT fr
        have HLF := hideT lf
        have HM6 := hideT (HM2.out.below b6)
        have HB6 := hideT (HB2.out.trans (b6.mono HB2.out.size))
        have HPB6 := hideT (HPB2.out.below b6)
        have y0 : w6.cell? ⟨w.heap.size, 0, none⟩ = some (.int .i64 (F : Int)) := by rw [← HFI.out]; exact HPB6.out.cellsC.1
        have y1 : w6.cell? ⟨w.heap.size, 1, none⟩ = some (.int .i64 (L : Int)) := by rw [← HLI.out]; exact HPB6.out.cellsC.2.1
        clear fr lf b6
        go_wp2_with fail
        go_loopw [9] (fun f wr2 => ∃ j : Nat, L ≤ j ∧ j ≤ F ∧ f = .int .i64 (j : Int) ∧ wr2 = w6) (fun f _ => F - (intOf f).toNat)
        case atStart => exact ⟨L, Nat.le_refl _, by omega, rfl, rfl⟩
        case round =>
          obtain ⟨j, hj1, hj2, rfl, rfl⟩ := hrel
          by_cases hj : j < F
          · obtain ⟨v, hv⟩ := Mp.at_lt (l := s2.fl) (k := j) (by have := HLF.out; omega)
            obtain rfl : v = false := HBR.out j v (by have := HLN.out; omega) hv
            have yu : wr.cell? ⟨w5.heap.size, j, none⟩ = some (.bool false) := HFR.out.cell hv
            have u0 : (0 : Int) ≤ (j : Int) := by omega
            have u1 : (j : Int) < (F : Int) := by omega
            clear hv
            go_wp2_with fail
            refine ⟨⟨j + 1, by omega, by omega, by go_num, by first | rfl | trivial⟩, ?_⟩
            first | omega | (simp [intOf]; done) | (simp [intOf]; omega)
          · have u1 : (F : Int) ≤ (j : Int) := by omega
            go_wp2_with fail
            refine ⟨⟨(k : Int) + 1, s2, by omega, by omega, by first | rfl | go_num | (go_num; done), HM6, HBR, HB6, HPB6⟩, ?_⟩
            first | omega | (simp [intOf]; done) | (simp [intOf]; omega)
      · obtain rfl : z = -1 := by omega
        obtain ⟨q5, hq5⟩ : ∃ q, q = wr := ⟨_, rfl⟩
        subst hq5
        have HM2 := HM
        have HB2 := HBw
        have HPB2 := HPB
        have HBR := HB
        clear HB HM HBw HPB
        go_wp2_with fail
        refine (HM2.out.flags HF.out).mono ?_
        rintro e w6 ⟨rfl, fr, lf, b6⟩
        have HFR := hideT fr
        have HLF := hideT lf
        have HM6 := hideT (HM2.out.below b6)
        have HB6 := hideT (HB2.out.trans (b6.mono HB2.out.size))
        have HPB6 := hideT (HPB2.out.below b6)
        have y0 : w6.cell? ⟨w.heap.size, 0, none⟩ = some (.int .i64 (F : Int)) := by rw [← HFI.out]; exact HPB6.out.cellsC.1
        have y1 : w6.cell? ⟨w.heap.size, 1, none⟩ = some (.int .i64 (L : Int)) := by rw [← HLI.out]; exact HPB6.out.cellsC.2.1
        clear fr lf b6
        go_wp2_with fail
        go_loopw [9] (fun f wr2 => ∃ j : Nat, L ≤ j ∧ j ≤ F ∧ f = .int .i64 (j : Int) ∧ wr2 = w6) (fun f _ => F - (intOf f).toNat)
        case atStart => exact ⟨L, Nat.le_refl _, by omega, rfl, rfl⟩
        case round =>
          obtain ⟨j, hj1, hj2, rfl, rfl⟩ := hrel
          by_cases hj : j < F
          · obtain ⟨v, hv⟩ := Mp.at_lt (l := st.fl) (k := j) (by have := HLF.out; omega)
            obtain rfl : v = false := HBR.out j v (by have := HLN.out; omega) hv
            have yu : wr.cell? ⟨q5.heap.size, j, none⟩ = some (.bool false) := HFR.out.cell hv
            have u0 : (0 : Int) ≤ (j : Int) := by omega
            have u1 : (j : Int) < (F : Int) := by omega
            clear hv
            go_wp2_with fail
            refine ⟨⟨j + 1, by omega, by omega, by go_num, by first | rfl | trivial⟩, ?_⟩
            first | omega | (simp [intOf]; done) | (simp [intOf]; omega)
          · have u1 : (F : Int) ≤ (j : Int) := by omega
            go_wp2_with fail
            refine ⟨⟨0, st, by omega, by omega, by first | rfl | go_num | (go_num; done), HM6, HBR, HB6, HPB6⟩, ?_⟩
            first | omega | (simp [intOf]; done) | (simp [intOf]; omega)
end Go.Proofs.Ytkjekohncfhbiaa
