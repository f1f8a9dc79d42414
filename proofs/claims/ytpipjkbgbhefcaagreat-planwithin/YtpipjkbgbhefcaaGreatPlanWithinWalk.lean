/-
  The walk of the law: what is there stands in what is Open; what stands in what waits waits.
-/
import Derived.Test.YtpipjkbgbhefcaaGreatCActs
import Derived.Test.YtpipjkbgbhefcaaGreatPartW
import Derived.Test.YtpipjkbgbhefcaaGreatMHeavy
import Derived.Test.YtpipjkbgbhefcaaGreatMLaw
set_option linter.unusedSimpArgs false
set_option linter.unusedVariables false
namespace Go.Proofs.YtpipjkbgbhefcaaGreat
open Go.RowKit
set_option maxRecDepth 100000
section PW
variable {w0 w w' : World} {K : Kc} {m : Mp.Model} {st : Cp.St}
theorem Lc.good (h : Lc w0 w K m st) : Cp.Good m st := by
  obtain ⟨v, L, N, ha, hb⟩ := h
  exact ha.good
theorem Lc.stateB (h : Lc w0 w K m st) (s : ByteArray) (x : Int) (hx : Hid (Cp.stateN m st s = x)) :
    Calls Tryz.prog 18 #[cP K, .string s] w fun e w' => e = .returned (.int .i64 x) ∧ Below w.heap.size w w' := by
  obtain ⟨v, L, N, ha, hb⟩ := h
  refine (stateD ha.c s).mono ?_
  rintro e w' ⟨rfl, b⟩
  exact ⟨by rw [hx.out], b⟩
end PW
set_option maxHeartbeats 16000000 in
theorem planWithin_walk (af : Option Addr) (cf : Nat) (ai : Option Addr) (ci : Nat) (m : Mp.Model) {w : World} (hm : ModelAt w af cf ai ci m) (v : Value) (l : List Cp.ActP) (hl : ActRow w v l) :
    Calls Tryz.prog 6 #[.agg #[.slice af m.files.length cf, .slice ai m.items.length ci], v] w fun e w' => e = .returned (.bool true) ∧ Below w.heap.size w w' := by
  obtain ⟨aa, ca, rfl⟩ := row_val hl
  obtain ⟨W, hW⟩ : ∃ W, w.alloc (.cells #[.slice af m.files.length cf, .slice ai m.items.length ci] 25) = W := ⟨_, rfl⟩
  obtain ⟨B1, L1, z1⟩ := of_alloc hW
  have x0 : W.cell? ⟨w.heap.size, 0, none⟩ = some (.slice af m.files.length cf) := L1.cell 0
  have x1 : W.cell? ⟨w.heap.size, 1, none⟩ = some (.slice ai m.items.length ci) := L1.cell 1
  have HL1 := hideT L1
  have HB := hideT B1
  have HM := hideT (hm.below B1)
  have HA := hideT (actrow_below hl B1)
  have HH := hideT (heavyD W m af ai cf ci (hm.below B1))
  clear hm hl B1 L1 z1
  go_enter Tryz.func6, Tryz.ntmps6
  go_wp2_with fail
  refine HH.out.mono ?_
  rintro e w1 ⟨b, rfl, hlt, b1⟩
  have HLT := hideT hlt
  have HB1 := hideT b1
  clear hlt b1
  cases b with
  | true =>
    go_wp2_with fail
    go_ret
    exact ⟨rfl, HB.out.trans (HB1.out.mono HB.out.size)⟩
  | false =>
  have HT := hideT (textsD w1 aa _ ca l (actrow_below HA.out HB1.out))
  clear x0 x1
  go_wp2_with fail
  refine HT.out.mono ?_
  rintro e w2 ⟨b, rfl, hlen, b2⟩
  have HLN := hideT hlen
  have HB2 := hideT (belowS HB1.out b2)
  clear hlen b2 HT
  cases b with
  | false =>
    go_wp2_with fail
    go_ret
    exact ⟨rfl, belowS HB.out HB2.out⟩
  | true =>
  have HM2 := hideT (HM.out.below HB2.out)
  have HL2 := hideT (HL1.out.below HB2.out)
  have x0 : w2.cell? ⟨w.heap.size, 0, none⟩ = some (.slice af m.files.length cf) := HL2.out.cell 0
  have x1 : w2.cell? ⟨w.heap.size, 1, none⟩ = some (.slice ai m.items.length ci) := HL2.out.cell 1
  obtain ⟨ib, hib⟩ : ∃ b, Mp.isB m = b := ⟨_, rfl⟩
  have HI := hideT (isRefV w2 m af ai cf ci HM2.out ib hib)
  have HIB := hideT hib
  clear hib
  go_wp2_with fail
  refine HI.out.mono ?_
  rintro e w3 ⟨rfl, b3⟩
  have HB3 := hideT (belowS HB2.out b3)
  clear b3 HI
  cases ib with
  | false =>
    go_wp2_with fail
    go_ret
    exact ⟨rfl, belowS HB.out HB3.out⟩
  | true =>
  have HM3 := hideT (HM.out.below HB3.out)
  have HL3 := hideT (HL1.out.below HB3.out)
  have x0 : w3.cell? ⟨w.heap.size, 0, none⟩ = some (.slice af m.files.length cf) := HL3.out.cell 0
  have x1 : w3.cell? ⟨w.heap.size, 1, none⟩ = some (.slice ai m.items.length ci) := HL3.out.cell 1
  have HNW := hideT (Lc.new (w0 := W) HB3.out m af ai cf ci HM3.out (HLT.out trivial) HIB.out _ _ rfl rfl (Cp.newP m) rfl)
  go_wp2_with fail
  refine HNW.out.mono ?_
  rintro e w4 ⟨K, rfl, c4⟩
  have C4 := hideT c4
  clear c4 HNW x0 x1
  obtain ⟨n, hn⟩ : ∃ n, l.length = n := ⟨_, rfl⟩
  have HLL := hideT hn
  have hn60 : n ≤ 60 := by rw [← hn]; exact HLN.out trivial
  rw [hn]
  clear hn
  have HAn : Hid (ActRow W (.slice aa n ca) l) := by have := HA.out; rw [HLL.out] at this; exact this
  obtain ⟨v1, v2, v3, ab, ao, haa, hac⟩ := actrow_at HAn.out
  clear v1 v2 v3
  have HAA := hideT haa
  have HAC := hideT hac
  obtain ⟨v1, v2, v3, ib, io, hia, hic⟩ := irow_at HM.out.items
  clear v1 v2 v3
  have hn1 := (Mp.is_parts HIB.out).1
  obtain rfl := hia hn1
  have HIC := hideT hic
  have h16 := Cp.items_le HIB.out
  obtain ⟨q, hq⟩ : ∃ q, m.items.length = q := ⟨_, rfl⟩
  have HQL := hideT hq
  have HL1q : Hid (Lies W w.heap.size 25 #[.slice af m.files.length cf, .slice (some ⟨ib, io, none⟩) q ci]) := by have := HL1.out; rw [hq] at this; exact this
  rw [hq] at hn1 h16
  clear haa hac hia hic hq
  go_wp2_with fail
  go_loopw [7] (fun i wr => ∃ j : Nat, j ≤ n + 1 ∧ ∃ z : Int, z = (j : Int) - 1 ∧ i = .int .i64 z ∧ ∃ st, Hid (Lc W wr K m st) ∧ Hid (Cp.Quiet m st) ∧ Hid (st.now ≤ j) ∧ Hid (Cp.Within m st)) (fun i _ => ((n : Int) - (intOf i)).toNat)
  case atStart => exact ⟨0, Nat.zero_le _, _, rfl, rfl, _, C4.out, Cp.quiet_new HIB.out, by show (Cp.newP m).now ≤ _; rw [Cp.new_now]; exact Int.le_refl _, Cp.within_new HIB.out⟩
  case round =>
    obtain ⟨j, hj, z, hz, rfl, st, CJ, HQ, HNW, HWI⟩ := hrel
    by_cases hlt : z < (n : Int)
    rotate_left
    · have t1 : (n : Int) ≤ z := by omega
      have HBJ := hideT CJ.out.base
      go_wp2_with fail
      refine (known9 wr).mono ?_
      rintro e w9 ⟨rfl, b9⟩
      have HB9 := hideT (belowS HB.out (belowS HBJ.out b9))
      clear b9
      go_wp2_with fail
      go_ret
      exact ⟨rfl, HB9.out⟩
    by_cases hj0 : j = 0
    · have hz1 : z = -1 := by omega
      subst hj0
      subst hz1
      clear hz hlt
      have HALL := hideT (fun (k : Nat) (h0 : k ≠ 0) (hk : k < m.items.length) => Cp.within_all HIB.out CJ.out.good HQ.out HWI.out h0 hk)
      go_wp2_with fail
      go_loopw [8] (fun i wk => ∃ k : Nat, 1 ≤ k ∧ k ≤ q ∧ i = .int .i64 k ∧ Hid (Lc W wk K m st)) (fun i _ => q - (intOf i).toNat)
      case atStart => exact ⟨1, Nat.le_refl _, hn1, rfl, CJ.out⟩
      case round =>
        obtain ⟨k, hk1, hk, rfl, CK⟩ := hrel
        have HBK := hideT CK.out.base
        have y1 : wr.cell? ⟨w.heap.size, 1, none⟩ = some (.slice (some ⟨ib, io, none⟩) q ci) := (HL1q.out.below HBK.out).cell 1
        by_cases hlk : k < q
        rotate_left
        · have t2 : (q : Int) ≤ (k : Int) := by omega
          go_wp2_with fail
          refine ⟨⟨0 + 1, by omega, _, ?_, rfl, st, CK, HQ, ?_, HWI⟩, ?_⟩
          · first | rfl | omega
          · have h2 := HNW.out
            show st.now ≤ _
            omega
          · first | omega | (simp [intOf]; done) | (simp [intOf]; omega)
        have hkm : k < m.items.length := by have := HQL.out; omega
        obtain ⟨a5, c5, a6, c6, I0⟩ := HIC.out k _ (Cp.itm_at hkm)
        have HI1 := hideT (I0.turn (below_cell HBK.out))
        have d0 := HI1.out.c0
        have d2 := HI1.out.c2
        have t2 : (0 : Int) ≤ (k : Int) := by omega
        have t3 : (k : Int) < (q : Int) := by omega
        obtain ⟨s, p, hs, hp, r1, r2, f1, f2, f3⟩ := HALL.out k (by omega) hkm
        obtain ⟨id, hid⟩ : ∃ x, (Cp.itm m k).id = x := ⟨_, rfl⟩
        obtain ⟨pa, hpa⟩ : ∃ x, (Cp.itm m k).parent = x := ⟨_, rfl⟩
        rw [hid] at hs d0
        rw [hpa] at hp d2
        have HR := hideT (And.intro r1 (And.intro r2 (And.intro f1 (And.intro f2 f3))))
        have HS1 := hideT hs
        have HP := hideT hp
        clear I0 hs hid hkm r1 r2 f1 f2 f3 hp hpa HI1
        go_wp2_with fail
        go_region_held3 (fun w' => w'.cell? ⟨w.heap.size, 1, none⟩ = some (.slice (some ⟨ib, io, none⟩) q ci) ∧ w'.cell? ⟨ib, io + k * 7, none⟩ = some (.string id) ∧ w'.cell? ⟨ib, io + k * 7 + 2, none⟩ = some (.string pa)) (go_keep) (first
          | (go_at_call_of 18 (Value.string id); refine ((CK.out.below (below_drewN (Below.refl _ wr) 1)).stateB id s HS1.out).mono ?_; rintro e w6 ⟨rfl, b6⟩; have B6 := hideT ((below_drewN (Below.refl wr.heap.size wr) 1).trans b6); have z0 := below_cell B6.out _ _ y1; have z1 := below_cell B6.out _ _ d0; have z2 := below_cell B6.out _ _ d2; clear b6)
          | (go_at_call_of 18 (Value.string pa); refine ((CK.out.below B6.out).stateB pa p HP.out).mono ?_; rintro e w7 ⟨rfl, b7⟩; have B7 := hideT (belowS B6.out b7); have v0 := below_cell B7.out _ _ y1; have v1 := below_cell B7.out _ _ d0; have v2 := below_cell B7.out _ _ d2; clear b7))
        all_goals have CK7 := hideT (CK.out.below B7.out)
        all_goals clear y1 d0 d2 z0 z1 z2 v0 v1 v2
        all_goals obtain ⟨r1, r2, f1, f2, f3⟩ := HR.out
        all_goals rcases r1 with rfl | rfl | rfl | rfl | rfl <;> rcases r2 with rfl | rfl | rfl | rfl | rfl
        all_goals first
          | (exfalso; omega)
          | (clear f1 f2 f3
             go_wp2_with fail
             first
               | (refine ⟨⟨k + 1, by omega, by omega, by go_num⟩, ?_⟩; first | omega | (simp [intOf]; omega))
               | (refine ⟨⟨k + 1, by omega, by omega, by go_num, CK7.out⟩, ?_⟩; first | omega | (simp [intOf]; omega)))
    obtain ⟨j, rfl⟩ : ∃ i, j = i + 1 := ⟨j - 1, by omega⟩
    obtain rfl : z = (j : Int) := by omega
    have hlt : j < n := by omega
    clear hz hj0
    obtain ⟨a, ha⟩ := Mp.at_lt (l := l) (k := j) (by have := HLL.out; omega)
    obtain ⟨_, d0, d1, d2, d3, d4⟩ := HAC.out j a ha
    have HBJ := hideT CJ.out.base
    have d0 := below_cell HBJ.out _ _ d0
    have d1 := below_cell HBJ.out _ _ d1
    have d2 := below_cell HBJ.out _ _ d2
    have d3 := below_cell HBJ.out _ _ d3
    have d4 := below_cell HBJ.out _ _ d4
    obtain rfl := HAA.out (by omega)
    have t0 : (0 : Int) ≤ (j : Int) := by omega
    have t1 : (j : Int) < (n : Int) := by omega
    have HDQ := hideT (Cp.do_quiet HIB.out CJ.out.good HQ.out a)
    have HDW := hideT (Cp.do_within HIB.out CJ.out.good HWI.out a)
    have HDO := hideT (CJ.out.do (by have := HNW.out; omega) a (Cp.doP m st a).1 (Cp.doP m st a).2 rfl)
    clear ha
    obtain ⟨st5, hst5⟩ : ∃ x, (Cp.doP m st a).2 = x := ⟨_, rfl⟩
    rw [hst5] at HDO HDQ HDW
    have HQ5 : Hid (Cp.Quiet m st5) := HDQ.out.1
    have HN5 : Hid (st5.now ≤ ((j + 1 : Nat) : Int) + 1) := by
      have h1 := HDQ.out.2
      have h2 := HNW.out
      show st5.now ≤ _
      omega
    clear hst5 HDQ HNW HQ HWI
    go_wp2_with fail
    refine HDO.out.mono ?_
    rintro e w5 ⟨rfl, c5⟩
    have C5 := hideT c5
    clear c5 d0 d1 d2 d3 d4 HDO
    have HALL := hideT (fun (k : Nat) (h0 : k ≠ 0) (hk : k < m.items.length) => Cp.within_all HIB.out C5.out.good HQ5.out HDW.out h0 hk)
    go_wp2_with fail
    go_loopw [8] (fun i wk => ∃ k : Nat, 1 ≤ k ∧ k ≤ q ∧ i = .int .i64 k ∧ Hid (Lc W wk K m st5)) (fun i _ => q - (intOf i).toNat)
    case atStart => exact ⟨1, Nat.le_refl _, hn1, rfl, C5.out⟩
    case round =>
      obtain ⟨k, hk1, hk, rfl, CK⟩ := hrel
      have HBK := hideT CK.out.base
      have y1 : wr.cell? ⟨w.heap.size, 1, none⟩ = some (.slice (some ⟨ib, io, none⟩) q ci) := (HL1q.out.below HBK.out).cell 1
      by_cases hlk : k < q
      rotate_left
      · have t2 : (q : Int) ≤ (k : Int) := by omega
        go_wp2_with fail
        refine ⟨⟨(j + 1) + 1, by omega, _, ?_, rfl, st5, CK, HQ5, ?_, HDW⟩, ?_⟩
        · omega
        · have h2 := HN5.out
          show st5.now ≤ _
          omega
        · first | omega | (simp [intOf]; done) | (simp [intOf]; omega)
      have hkm : k < m.items.length := by have := HQL.out; omega
      obtain ⟨a5, c5, a6, c6, I0⟩ := HIC.out k _ (Cp.itm_at hkm)
      have HI1 := hideT (I0.turn (below_cell HBK.out))
      have d0 := HI1.out.c0
      have d2 := HI1.out.c2
      have t2 : (0 : Int) ≤ (k : Int) := by omega
      have t3 : (k : Int) < (q : Int) := by omega
      obtain ⟨s, p, hs, hp, r1, r2, f1, f2, f3⟩ := HALL.out k (by omega) hkm
      obtain ⟨id, hid⟩ : ∃ x, (Cp.itm m k).id = x := ⟨_, rfl⟩
      obtain ⟨pa, hpa⟩ : ∃ x, (Cp.itm m k).parent = x := ⟨_, rfl⟩
      rw [hid] at hs d0
      rw [hpa] at hp d2
      have HR := hideT (And.intro r1 (And.intro r2 (And.intro f1 (And.intro f2 f3))))
      have HS1 := hideT hs
      have HP := hideT hp
      clear I0 hs hid hkm r1 r2 f1 f2 f3 hp hpa HI1
      go_wp2_with fail
      go_region_held3 (fun w' => w'.cell? ⟨w.heap.size, 1, none⟩ = some (.slice (some ⟨ib, io, none⟩) q ci) ∧ w'.cell? ⟨ib, io + k * 7, none⟩ = some (.string id) ∧ w'.cell? ⟨ib, io + k * 7 + 2, none⟩ = some (.string pa)) (go_keep) (first
        | (go_at_call_of 18 (Value.string id); refine ((CK.out.below (below_drewN (Below.refl _ wr) 1)).stateB id s HS1.out).mono ?_; rintro e w6 ⟨rfl, b6⟩; have B6 := hideT ((below_drewN (Below.refl wr.heap.size wr) 1).trans b6); have z0 := below_cell B6.out _ _ y1; have z1 := below_cell B6.out _ _ d0; have z2 := below_cell B6.out _ _ d2; clear b6)
        | (go_at_call_of 18 (Value.string pa); refine ((CK.out.below B6.out).stateB pa p HP.out).mono ?_; rintro e w7 ⟨rfl, b7⟩; have B7 := hideT (belowS B6.out b7); have v0 := below_cell B7.out _ _ y1; have v1 := below_cell B7.out _ _ d0; have v2 := below_cell B7.out _ _ d2; clear b7))
      all_goals have CK7 := hideT (CK.out.below B7.out)
      all_goals clear y1 d0 d2 z0 z1 z2 v0 v1 v2
      all_goals obtain ⟨r1, r2, f1, f2, f3⟩ := HR.out
      all_goals rcases r1 with rfl | rfl | rfl | rfl | rfl <;> rcases r2 with rfl | rfl | rfl | rfl | rfl
      all_goals first
        | (exfalso; omega)
        | (clear f1 f2 f3
           go_wp2_with fail
           first
             | (refine ⟨⟨k + 1, by omega, by omega, by go_num⟩, ?_⟩; first | omega | (simp [intOf]; omega))
             | (refine ⟨⟨k + 1, by omega, by omega, by go_num, CK7.out⟩, ?_⟩; first | omega | (simp [intOf]; omega)))
end Go.Proofs.YtpipjkbgbhefcaaGreat
