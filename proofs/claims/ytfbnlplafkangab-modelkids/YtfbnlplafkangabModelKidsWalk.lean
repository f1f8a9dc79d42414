/-
  ModelKids: each item but the plan is one of its Parent's, and nobody else's.
-/
import Derived.Test.YtfbnlplafkangabMKidsP
import Derived.Test.YtfbnlplafkangabMHeavy
import Derived.Test.YtfbnlplafkangabMLaw
set_option linter.unusedSimpArgs false
set_option linter.unusedVariables false
namespace Go.Proofs.Ytfbnlplafkangab
open Go.RowKit
set_option maxHeartbeats 8000000 in
set_option maxRecDepth 100000 in
theorem modelKids_walk (af : Option Addr) (cf : Nat) (ai : Option Addr) (ci : Nat) (m : Mp.Model) {w : World} (hm : ModelAt w af cf ai ci m) :
    Calls Try.prog 4 #[.agg #[.slice af m.files.length cf, .slice ai m.items.length ci]] w fun e w' => e = .returned (.bool true) ∧ Below w.heap.size w w' := by
  obtain ⟨_, hil, hicap, b, o, ha, hc⟩ := irow_at hm.items
  have HC := hideT hc
  have HA := hideT ha
  have HM := hideT hm
  have M0 := hideT (MR.new w m af ai cf ci)
  clear hc ha hm
  go_enter Try.func4, Try.ntmps4
  go_wp2_with fail
  refine (heavyD _ m af ai cf ci (HM.out.below M0.out.1)).mono ?_
  rintro e w1 ⟨bh, rfl, hlight, p1⟩
  have M1 := hideT (M0.out.below p1)
  clear p1
  cases bh
  rotate_left
  · go_wp2_with fail
    go_ret
    exact ⟨rfl, M1.out.1⟩
  clear hlight
  have x0 : w1.cell? ⟨w.heap.size, 0, none⟩ = some (.slice af m.files.length cf) := M1.out.2.cell 0
  have x1 : w1.cell? ⟨w.heap.size, 1, none⟩ = some (.slice ai m.items.length ci) := M1.out.2.cell 1
  obtain ⟨bi, HI⟩ : ∃ y, Hid (Mp.isB m = y) := ⟨_, rfl⟩
  go_wp2_with fail
  refine (isRefV _ m af ai cf ci (HM.out.below M1.out.1) bi HI).mono ?_
  rintro e w2 ⟨rfl, p2⟩
  have M2 := hideT (M1.out.below p2)
  clear p2 x0 x1
  cases bi
  · go_wp2_with fail
    go_ret
    exact ⟨rfl, M2.out.1⟩
  obtain ⟨hne, honce, _⟩ := Mp.is_parts HI.out
  have HONCE := hideT honce
  obtain rfl := HA.out (by omega)
  clear honce
  go_wp2_with fail
  go_loopw [3, 4] (fun n i wr => ∃ k : Nat, k ≤ m.items.length ∧ i = .int .i64 k ∧ n = .int .i64 (Mp.cnt m.items k) ∧ Mp.cnt m.items k ≤ 100000000000000000 ∧ Hid (MR w m af (some ⟨b, o, none⟩) cf ci wr)) (fun _ i _ => m.items.length - (intOf i).toNat)
  case atStart => exact ⟨0, by omega, rfl, by rw [Mp.cnt_zero]; rfl, by rw [Mp.cnt_zero]; omega, M2⟩
  case round =>
    obtain ⟨k, hk, rfl, rfl, hcb, HW⟩ := hrel
    have x0 : wr.cell? ⟨w.heap.size, 0, none⟩ = some (.slice af m.files.length cf) := HW.out.2.cell 0
    have x1 : wr.cell? ⟨w.heap.size, 1, none⟩ = some (.slice (some ⟨b, o, none⟩) m.items.length ci) := HW.out.2.cell 1
    by_cases hlt : k < m.items.length
    · obtain ⟨x, hx⟩ := Mp.at_lt (l := m.items) (k := k) hlt
      obtain ⟨a5, c5, a6, c6, I0⟩ := HC.out k _ hx
      have HD0 := hideT I0.c0
      have d0 := below_cell HW.out.1 _ _ I0.c0
      have HX := hideT hx
      have HCS := hideT (Mp.cnt_succ HONCE.out hx)
      have hkl := Mp.kidsN_len m.items x.id m.items.length
      clear hx I0
      have t0 : (0 : Int) ≤ (k : Int) := by omega
      have t1 : (k : Int) < (m.items.length : Int) := by omega
      go_wp2_with fail
      go_region_held3 (fun w' => w'.cell? ⟨w.heap.size, 0, none⟩ = some (.slice af m.files.length cf) ∧ w'.cell? ⟨w.heap.size, 1, none⟩ = some (.slice (some ⟨b, o, none⟩) m.items.length ci) ∧ w'.cell? ⟨b, o + k * 7, none⟩ = some (.string x.id)) (go_keep) ((go_at_call 10; refine (kidsD _ _ _ m.items.length ci m.items x.id (irow_below HM.out.items (below_drewN HW.out.1 1))).mono ?_; rintro e w4 ⟨ka, kc, rfl, NR4, q3⟩; have M4 : MR w m af (some ⟨b, o, none⟩) cf ci w4 := HW.out.below ((below_drewN (Below.refl _ wr) 1).trans q3); have u0 := M4.2.cell 0; have u1 := M4.2.cell 1; have u2 := below_cell M4.1 _ _ HD0.out; simp only [List.getElem?_toArray, List.getElem?_cons_zero, List.getElem?_cons_succ] at u0 u1))
      obtain ⟨K, hK⟩ : ∃ K, K = Mp.kidsN m.items x.id m.items.length := ⟨_, rfl⟩
      rw [← hK] at NR4 hkl HCS
      have HK := hideT hK
      rw [← hK]
      obtain ⟨_, hKl, _, kb, ko, hka, hkc⟩ := nrow_at NR4
      have HKA := hideT hka
      have HKC := hideT hkc
      have HM4 := hideT M4
      obtain ⟨WK, hWK⟩ : ∃ WK, WK = w4 := ⟨w4, rfl⟩
      subst hWK
      clear u0 u1 u2 M4 q3 x0 x1 d0 hK hka hkc NR4
      go_wp2_with fail
      go_loopw [3, 6] (fun n i ws => ∃ j : Nat, j ≤ K.length ∧ i = .int .i64 j ∧ n = .int .i64 ((Mp.cnt m.items k + j : Nat) : Int) ∧ Hid (Below WK.heap.size WK ws)) (fun _ i _ => K.length - (intOf i).toNat)
      case atStart => exact ⟨0, by omega, rfl, rfl, Below.refl _ _⟩
      case round =>
        obtain ⟨j, hj, rfl, rfl, HV⟩ := hrel
        by_cases hjl : j < K.length
        · obtain ⟨q, hq⟩ : ∃ q, K[j]? = some q := ⟨K[j], List.getElem?_eq_getElem hjl⟩
          have g0 := below_cell HV.out _ _ (HKC.out j q hq)
          obtain rfl := HKA.out (by omega)
          have hq' := hq
          rw [HK.out] at hq'
          obtain ⟨y, hy, hyp⟩ := Mp.kid_at (Nat.le_refl _) hq'
          have hgt := Mp.kid_gt HI.out HX.out hy hyp
          have hql := (List.getElem?_eq_some_iff.1 hy).1
          obtain ⟨_, _, _, _, J0⟩ := HC.out q y hy
          have MV := HM4.out.below HV.out
          have g1 := below_cell MV.1 _ _ J0.c2
          rw [hyp] at g1
          have g2 := below_cell MV.1 _ _ HD0.out
          have x1 : wr.cell? ⟨w.heap.size, 1, none⟩ = some (.slice (some ⟨b, o, none⟩) m.items.length ci) := MV.2.cell 1
          have s0 : (0 : Int) ≤ (j : Int) := by omega
          have s1 : (j : Int) < (K.length : Int) := by omega
          have s2 : ¬ (q : Int) ≤ (k : Int) := by omega
          have s3 : ¬ (m.items.length : Int) ≤ (q : Int) := by omega
          have s4 : (0 : Int) ≤ (q : Int) := by omega
          have s5 : (q : Int) < (m.items.length : Int) := by omega
          have s6 : (k : Int) < (q : Int) := by omega
          by_cases hj0 : j = 0
          · subst hj0
            have g0' : wr.cell? ⟨kb, ko, none⟩ = some (.int .i64 (q : Int)) := g0
            clear hq hq' hy hyp J0 MV g0
            have D1 : decide (q ≤ k) = false := decide_eq_false (by omega)
            have D2 : decide (m.items.length ≤ q) = false := decide_eq_false (by omega)
            clear s2 s3 s6 hgt HI HX HCS HD0 HK HKA HKC hlt hk HONCE hj
            go_wp2_with fail
            go_quiet (fail)
            go_wp2_with fail
            refine ⟨⟨1, by omega, by first | rfl | go_num, by first | rfl | go_num, below_drewN HV.out _⟩, ?_⟩
            first | omega | (simp [intOf]; omega)
          · obtain ⟨j', rfl⟩ : ∃ j', j = j' + 1 := ⟨j - 1, by omega⟩
            obtain ⟨q', hqq⟩ : ∃ q', K[j']? = some q' := ⟨K[j']'(by omega), List.getElem?_eq_getElem _⟩
            have g3 := below_cell HV.out _ _ (HKC.out j' q' hqq)
            have hqq' := hqq
            rw [HK.out] at hqq'
            have hord := Mp.kid_order hqq' hq'
            have D1 : decide (q ≤ k) = false := decide_eq_false (by omega)
            have D2 : decide (m.items.length ≤ q) = false := decide_eq_false (by omega)
            have D3 : decide (q ≤ q') = false := decide_eq_false (by omega)
            have hjj : j' + 1 ≤ K.length := hj
            clear hq hq' hy hyp J0 MV hqq hqq' hord s2 s3 s6 hgt HI HX HCS HD0 HK HKA HKC hlt hk HONCE hj hj0
            go_wp2_with fail
            go_quiet (fail)
            go_wp2_with fail
            refine ⟨⟨j' + 1 + 1, by omega, by first | rfl | go_num, by first | rfl | go_num, below_drewN HV.out _⟩, ?_⟩
            first | omega | (simp [intOf]; omega)
        · obtain rfl : j = K.length := by omega
          have MV := hideT (HM4.out.below HV.out)
          have hcs := HCS.out
          have HCC : Hid (((Mp.cnt m.items k + K.length : Nat) : Int) = (Mp.cnt m.items (k + 1) : Nat)) := by show _ = _; rw [hcs]
          have hcb2 : Mp.cnt m.items (k + 1) ≤ 100000000000000000 := by
            unfold Mp.cnt
            have := List.length_filter_le (fun j => decide (0 ≤ Mp.placeZ m.items (Mp.parAt m.items j)) && decide (Mp.placeZ m.items (Mp.parAt m.items j) < ((k + 1 : Nat) : Int))) (List.range m.items.length)
            rw [List.length_range] at this
            omega
          clear hcs
          go_wp2_with fail
          refine ⟨⟨k + 1, by omega, by go_num, by rw [HCC.out], hcb2, MV⟩, ?_⟩
          first | omega | (simp [intOf]; omega)
    · obtain rfl : k = m.items.length := by omega
      have HALL := hideT (Mp.cnt_all HI.out)
      have HNK := hideT (Mp.kids_none HI.out)
      have HCA : Hid (((Mp.cnt m.items m.items.length : Nat) : Int) = (m.items.length : Int) - 1) := by show _ = _; rw [HALL.out]; omega
      obtain ⟨cz, hcz⟩ : ∃ cz : Int, cz = ((Mp.cnt m.items m.items.length : Nat) : Int) := ⟨_, rfl⟩
      rw [← hcz]
      have e1 : (cz == (m.items.length : Int) - 1) = true := by rw [hcz, HCA.out]; exact beq_iff_eq.2 rfl
      clear hcz hcb hlt
      go_wp2_with fail
      refine (kidsD _ _ _ m.items.length ci m.items Mp.e0 (irow_below HM.out.items HW.out.1)).mono ?_
      rintro e w4 ⟨ka, kc, rfl, NR4, q3⟩
      rw [HNK.out] at NR4
      rw [HNK.out]
      have HW4 := hideT (HW.out.below q3)
      clear q3 x0 x1
      go_wp2_with fail
      generalize hW5 : w4.alloc _ = W5
      obtain ⟨B5, L5, _⟩ := of_alloc hW5
      refine (sameIntsD W5 _ _ _ _ _ _ [0] (nrow_below NR4 B5) (nrow_of_own (H := 0) (own_of_lies (n := 1) (z := 1) L5 (Nat.zero_le _) rfl (by decide)) rfl (by decide))).mono ?_
      rintro e w6 ⟨rfl, q5⟩
      have HW6 := hideT ((HW4.out.below B5).below q5)
      clear q5 B5 L5 NR4
      go_wp2_with fail
      refine (knownD _).mono ?_
      rintro e w7 ⟨rfl, q6⟩
      go_wp2_with fail
      go_ret
      exact ⟨rfl, (HW6.out.below q6).1⟩
end Go.Proofs.Ytfbnlplafkangab
