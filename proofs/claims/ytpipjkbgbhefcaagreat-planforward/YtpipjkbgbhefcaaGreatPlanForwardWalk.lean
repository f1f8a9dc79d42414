/-
  The walk of the law: states only go forward.
-/
import Derived.Test.YtpipjkbgbhefcaaGreatCActs
import Derived.Test.YtpipjkbgbhefcaaGreatPartF
import Derived.Test.YtpipjkbgbhefcaaGreatMHeavy
import Derived.Test.YtpipjkbgbhefcaaGreatMLaw
import Derived.Deep.QuietTactic
import Derived.BigQuiet
set_option linter.unusedSimpArgs false
set_option linter.unusedVariables false
namespace Go.Proofs.YtpipjkbgbhefcaaGreat
open Go.RowKit
set_option maxRecDepth 100000
section PW
variable {w0 w w' : World} {K : Kc} {m : Mp.Model} {st : Cp.St}
theorem Lc.good (h : Lc w0 w K m st) : Cp.Good m st := by
  obtain ⟨v, L, N, ha, hb⟩ := h
  exact ha.good
end PW
set_option maxHeartbeats 16000000 in
theorem planForward_walk (af : Option Addr) (cf : Nat) (ai : Option Addr) (ci : Nat) (m : Mp.Model) {w : World} (hm : ModelAt w af cf ai ci m) (v : Value) (l : List Cp.ActP) (hl : ActRow w v l) :
    Calls Tryz.prog 5 #[.agg #[.slice af m.files.length cf, .slice ai m.items.length ci], v] w fun e w' => e = .returned (.bool true) ∧ Below w.heap.size w w' := by
  obtain ⟨aa, ca, rfl⟩ := row_val hl
  obtain ⟨W, hW⟩ : ∃ W, w.alloc (.cells #[.slice af m.files.length cf, .slice ai m.items.length ci] 25) = W := ⟨_, rfl⟩
  obtain ⟨B1, L1, z1⟩ := of_alloc hW
  have x0 : W.cell? ⟨w.heap.size, 0, none⟩ = some (.slice af m.files.length cf) := L1.cell 0
  have x1 : W.cell? ⟨w.heap.size, 1, none⟩ = some (.slice ai m.items.length ci) := L1.cell 1
  have HL1 := hideT L1
  have HB := hideT B1
  have HM := hideT (hm.below B1)
  have HA := hideT (actrow_below hl B1)
  have HH := hideT (heavyD W m af ai cf ci (hm.below B1))
  clear hm hl B1 L1 z1
  go_enter Tryz.func5, Tryz.ntmps5
  go_wp2_with fail
  refine HH.out.mono ?_
  rintro e w1 ⟨b, rfl, hlt, b1⟩
  have HLT := hideT hlt
  have HB1 := hideT b1
  clear hlt b1
  cases b with
  | true =>
    go_wp2_with fail
    go_ret
    exact ⟨rfl, HB.out.trans (HB1.out.mono HB.out.size)⟩
  | false =>
  have HT := hideT (textsD w1 aa _ ca l (actrow_below HA.out HB1.out))
  clear x0 x1
  go_wp2_with fail
  refine HT.out.mono ?_
  rintro e w2 ⟨b, rfl, hlen, b2⟩
  have HLN := hideT hlen
  have HB2 := hideT (belowS HB1.out b2)
  clear hlen b2 HT
  cases b with
  | false =>
    go_wp2_with fail
    go_ret
    exact ⟨rfl, belowS HB.out HB2.out⟩
  | true =>
  have HM2 := hideT (HM.out.below HB2.out)
  have HL2 := hideT (HL1.out.below HB2.out)
  have x0 : w2.cell? ⟨w.heap.size, 0, none⟩ = some (.slice af m.files.length cf) := HL2.out.cell 0
  have x1 : w2.cell? ⟨w.heap.size, 1, none⟩ = some (.slice ai m.items.length ci) := HL2.out.cell 1
  obtain ⟨ib, hib⟩ : ∃ b, Mp.isB m = b := ⟨_, rfl⟩
  have HI := hideT (isRefV w2 m af ai cf ci HM2.out ib hib)
  have HIB := hideT hib
  clear hib
  go_wp2_with fail
  refine HI.out.mono ?_
  rintro e w3 ⟨rfl, b3⟩
  have HB3 := hideT (belowS HB2.out b3)
  clear b3 HI
  cases ib with
  | false =>
    go_wp2_with fail
    go_ret
    exact ⟨rfl, belowS HB.out HB3.out⟩
  | true =>
  have HM3 := hideT (HM.out.below HB3.out)
  have HL3 := hideT (HL1.out.below HB3.out)
  have x0 : w3.cell? ⟨w.heap.size, 0, none⟩ = some (.slice af m.files.length cf) := HL3.out.cell 0
  have x1 : w3.cell? ⟨w.heap.size, 1, none⟩ = some (.slice ai m.items.length ci) := HL3.out.cell 1
  have HNW := hideT (Lc.new (w0 := W) HB3.out m af ai cf ci HM3.out (HLT.out trivial) HIB.out _ _ rfl rfl (Cp.newP m) rfl)
  go_wp2_with fail
  refine HNW.out.mono ?_
  rintro e w4 ⟨K, rfl, c4⟩
  have C4 := hideT c4
  clear c4 HNW x0 x1
  obtain ⟨n, hn⟩ : ∃ n, l.length = n := ⟨_, rfl⟩
  have HLL := hideT hn
  have hn60 : n ≤ 60 := by rw [← hn]; exact HLN.out trivial
  rw [hn]
  clear hn
  have HAn : Hid (ActRow W (.slice aa n ca) l) := by have := HA.out; rw [HLL.out] at this; exact this
  obtain ⟨v1, v2, v3, ab, ao, haa, hac⟩ := actrow_at HAn.out
  clear v1 v2 v3
  have HAA := hideT haa
  have HAC := hideT hac
  obtain ⟨v1, v2, v3, ib, io, hia, hic⟩ := irow_at HM.out.items
  clear v1 v2 v3
  have hn1 := (Mp.is_parts HIB.out).1
  obtain rfl := hia hn1
  have HIC := hideT hic
  have h16 := Cp.items_le HIB.out
  obtain ⟨q, hq⟩ : ∃ q, m.items.length = q := ⟨_, rfl⟩
  have HQL := hideT hq
  have HL1q : Hid (Lies W w.heap.size 25 #[.slice af m.files.length cf, .slice (some ⟨ib, io, none⟩) q ci]) := by have := HL1.out; rw [hq] at this; exact this
  rw [hq] at hn1 h16
  clear haa hac hia hic hq
  have HSA := hideT C4.out.states
  go_wp2_with fail
  refine HSA.out.mono ?_
  rintro e w5 ⟨wb, rfl, c5, b5⟩
  rw [HQL.out]
  have C5 := hideT c5
  clear c5 b5 HSA
  unfold sliceN
  go_wp2_with fail
  go_loopw [7, 8] (fun u i wr => ∃ j : Nat, j ≤ n ∧ i = .int .i64 j ∧ ∃ (st : Cp.St) (wb : Nat), u = .slice (some ⟨wb, 0, none⟩) q q ∧ Hid (LcR W wr K m st wb) ∧ Hid (st.now ≤ j) ∧ Hid (Cp.OpenK m st)) (fun _ i _ => n - (intOf i).toNat)
  case atStart => exact ⟨0, Nat.zero_le _, rfl, _, wb, rfl, C5.out, by show (Cp.newP m).now ≤ _; rw [Cp.new_now]; exact Int.le_refl _, Cp.open_new HIB.out (Cp.kind_zero HIB.out)⟩
  case round =>
    obtain ⟨j, hj, rfl, st, wb, rfl, CR, HNW, HOK⟩ := hrel
    have CJ := hideT CR.out.lc
    by_cases hlt : j < n
    rotate_left
    · have t1 : (n : Int) ≤ (j : Int) := by omega
      have HBJ := hideT CJ.out.base
      go_wp2_with fail
      refine (known9 wr).mono ?_
      rintro e w9 ⟨rfl, b9⟩
      have HB9 := hideT (belowS HB.out (belowS HBJ.out b9))
      clear b9
      go_wp2_with fail
      go_ret
      exact ⟨rfl, HB9.out⟩
    obtain ⟨a, ha⟩ := Mp.at_lt (l := l) (k := j) (by have := HLL.out; omega)
    obtain ⟨_, d0, d1, d2, d3, d4⟩ := HAC.out j a ha
    have HBJ := hideT CJ.out.base
    have d0 := below_cell HBJ.out _ _ d0
    have d1 := below_cell HBJ.out _ _ d1
    have d2 := below_cell HBJ.out _ _ d2
    have d3 := below_cell HBJ.out _ _ d3
    have d4 := below_cell HBJ.out _ _ d4
    obtain rfl := HAA.out (by omega)
    have t0 : (0 : Int) ≤ (j : Int) := by omega
    have t1 : (j : Int) < (n : Int) := by omega
    have HDF := hideT (Cp.do_fwd HIB.out CJ.out.good HOK.out a)
    have HDN := hideT (Cp.do_now HIB.out CJ.out.good a)
    have HDO := hideT (CR.out.do (by have := HNW.out; omega) a (Cp.doP m st a).1 (Cp.doP m st a).2 rfl)
    have HGA := hideT CJ.out.good
    clear ha
    obtain ⟨st5, hst5⟩ : ∃ x, (Cp.doP m st a).2 = x := ⟨_, rfl⟩
    rw [hst5] at HDO HDF HDN
    clear hst5
    go_wp2_with fail
    refine HDO.out.mono ?_
    rintro e w6 ⟨rfl, c6, i6⟩
    have C6 := hideT c6
    have I6 := hideT i6
    clear c6 i6 d0 d1 d2 d3 d4 HDO
    have HSB := hideT C6.out.states
    go_wp2_with fail
    refine HSB.out.mono ?_
    rintro e w7 ⟨nb, rfl, r7, b7⟩
    rw [HQL.out]
    have R7 := hideT r7
    have C7 := hideT r7.lc
    have HIR7 := hideT r7.row
    have I7 : Hid (IR w7 wb st.s) := Lies.below I6.out b7
    clear r7 b7 HSB
    unfold sliceN
    have x1 : w7.cell? ⟨w.heap.size, 1, none⟩ = some (.slice (some ⟨ib, io, none⟩) q ci) := (HL1q.out.below C7.out.base).cell 1
    have HGB := hideT C7.out.good
    go_wp2_with fail
    go_loopw [10] (fun i wk => ∃ k : Nat, k ≤ q ∧ i = .int .i64 k ∧ Hid (Below w7.heap.size w7 wk)) (fun i _ => q - (intOf i).toNat)
    case atStart => exact ⟨0, Nat.zero_le _, rfl, Below.refl _ _⟩
    case round =>
      obtain ⟨k, hk, rfl, HBK⟩ := hrel
      have y1 := below_cell HBK.out _ _ x1
      by_cases hlk : k < q
      rotate_left
      · have t2 : (q : Int) ≤ (k : Int) := by omega
        have CF := hideT (R7.out.below HBK.out)
        go_wp2_with fail
        refine ⟨⟨j + 1, by omega, by go_num, st5, nb, rfl, CF.out, ?_, HDF.out.2⟩, ?_⟩
        · have h1 := HDN.out
          have h2 := HNW.out
          show st5.now ≤ _
          omega
        · first | omega | (simp [intOf]; done) | (simp [intOf]; omega)
      have hkm : k < m.items.length := by have := HQL.out; omega
      obtain ⟨a5, c5, a6, c6, I0⟩ := HIC.out k _ (Cp.itm_at hkm)
      have HI1 := hideT (I0.turn (below_cell (C7.out.below HBK.out).base))
      have d1 := HI1.out.c1
      have t2 : (0 : Int) ≤ (k : Int) := by omega
      have t3 : (k : Int) < (q : Int) := by omega
      have i0 : IR wr wb st.s := Lies.below I7.out HBK.out
      have i1 : IR wr nb st5.s := Lies.below HIR7.out HBK.out
      have p0 := IR.cell i0 (i := k) (by rw [HGA.out.ns]; exact hkm)
      have p1 := IR.cell i1 (i := k) (by rw [HGB.out.ns]; exact hkm)
      obtain ⟨u1, u2⟩ := HDF.out.1 k hkm
      have u3 := HDF.out.2 k hkm
      obtain ⟨A, hA⟩ : ∃ x, Cp.at0 st.s k = x := ⟨_, rfl⟩
      obtain ⟨B, hB⟩ : ∃ x, Cp.at0 st5.s k = x := ⟨_, rfl⟩
      obtain ⟨kd, hkd⟩ : ∃ x, (Cp.itm m k).kind = x := ⟨_, rfl⟩
      rw [hA] at p0 u1 u2
      rw [hB] at p1 u1 u2 u3
      rw [hkd] at d1 u3
      clear I0 hA hB hkd hkm HI1 i0 i1
      have hcase : (A = 3 ∧ B = 3) ∨ (A = 4 ∧ B = 4) ∨ ((A == (3 : Int)) = false ∧ (A == (4 : Int)) = false ∧ A ≤ B) := by
        by_cases h3 : A = 3
        · exact .inl ⟨h3, by have := u2 (.inl h3); omega⟩
        by_cases h4 : A = 4
        · exact .inr (.inl ⟨h4, by have := u2 (.inr h4); omega⟩)
        exact .inr (.inr ⟨beq_eq_false_iff_ne.2 h3, beq_eq_false_iff_ne.2 h4, u1⟩)
      have hcase2 : (B = 2 ∧ kd ≤ 2) ∨ (B == (2 : Int)) = false := by
        by_cases h2 : B = 2
        · exact .inl ⟨h2, u3 h2⟩
        · exact .inr (beq_eq_false_iff_ne.2 h2)
      clear u1 u2 u3
      have HX : ∀ q', Hid (Below w7.heap.size w7 (wr.drewN q')) := fun q' => belowS HBK.out (below_drewN (Below.refl _ wr) q')
      rcases hcase with ⟨rfl, rfl⟩ | ⟨rfl, rfl⟩ | ⟨e3, e4, hAB⟩
      · clear hcase2
        go_wp2_with fail
        go_quiet (fail)
        go_wp2_with fail
        refine ⟨⟨k + 1, by omega, by go_num, HX _⟩, ?_⟩
        first | omega | (simp [intOf]; done) | (simp [intOf]; omega)
      · clear hcase2
        go_wp2_with fail
        go_quiet (fail)
        go_wp2_with fail
        refine ⟨⟨k + 1, by omega, by go_num, HX _⟩, ?_⟩
        first | omega | (simp [intOf]; done) | (simp [intOf]; omega)
      have hgt : decide (B < A) = false := decide_eq_false (by omega)
      clear hAB
      rcases hcase2 with ⟨rfl, hk2⟩ | e2
      · go_wp2_with fail
        go_quiet (fail)
        go_wp2_with fail
        refine ⟨⟨k + 1, by omega, by go_num, HX _⟩, ?_⟩
        first | omega | (simp [intOf]; done) | (simp [intOf]; omega)
      · go_wp2_with fail
        go_quiet (fail)
        go_wp2_with fail
        refine ⟨⟨k + 1, by omega, by go_num, HX _⟩, ?_⟩
        first | omega | (simp [intOf]; done) | (simp [intOf]; omega)
end Go.Proofs.YtpipjkbgbhefcaaGreat
