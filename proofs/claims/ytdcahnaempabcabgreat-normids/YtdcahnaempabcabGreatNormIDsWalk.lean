/-
  NormIDs: in a model in its order each item's kids rise by ID, and there is the same number of items as before.
-/
import Derived.Test.YtdcahnaempabcabGreatNKnown
import Derived.Test.YtdcahnaempabcabGreatNKidP
import Derived.Test.YtdcahnaempabcabGreatMRef5
import Derived.Test.YtdcahnaempabcabGreatMLaw
set_option linter.unusedSimpArgs false
set_option linter.unusedVariables false
namespace Go.Proofs.YtdcahnaempabcabGreat
open Go.RowKit
set_option maxRecDepth 100000
theorem kidsRefW (w : World) (vf : Value) (ao : Option Addr) (n cap : Nat) (l : List Mp.Item) (s : ByteArray) (h : IRow w (.slice ao n cap) l) (K : List Nat) (hK : Hid (Mp.kidsN l s l.length = K)) :
    Calls Tryz.prog 11 #[.agg #[vf, .slice ao n cap], .string s] w fun e w' => ∃ a c, e = .returned (.slice a K.length c) ∧ NRow w' (.slice a K.length c) K ∧ Below w.heap.size w w' := by
  rw [← hK.out]
  exact kidsRef w vf ao n cap l s h
set_option maxHeartbeats 8000000 in
theorem normIDs_walk (af : Option Addr) (cf : Nat) (ai : Option Addr) (ci : Nat) (m : Mp.Model) {w : World} (hm : ModelAt w af cf ai ci m) :
    Calls Tryz.prog 4 #[.agg #[.slice af m.files.length cf, .slice ai m.items.length ci]] w fun e w' => e = .returned (.bool true) ∧ Below w.heap.size w w' := by
  obtain ⟨V, hV⟩ : ∃ V, w.alloc (.cells #[.slice af m.files.length cf, .slice ai m.items.length ci] 32) = V := ⟨_, rfl⟩
  have BV : Hid (Below w.heap.size w V) := by rw [← hV]; exact (Below.refl _ w).alloc (Nat.le_refl _) _
  have LV : Hid (Lies V w.heap.size 32 #[.slice af m.files.length cf, .slice ai m.items.length ci]) := by rw [← hV]; exact Lies.new _ _ _
  have HM := hideT (hm.below BV.out)
  have v0 : V.cell? ⟨w.heap.size, 0, none⟩ = some (.slice af m.files.length cf) := LV.out.cell 0
  have v1 : V.cell? ⟨w.heap.size, 1, none⟩ = some (.slice ai m.items.length ci) := LV.out.cell 1
  obtain ⟨bI, hI⟩ : ∃ bI, Hid (Mp.isB m = bI) := ⟨_, rfl⟩
  clear hm
  go_enter Tryz.func4, Tryz.ntmps4
  go_wp2_with fail
  refine (heavyD V m af ai cf ci HM.out).mono ?_
  rintro e w1 ⟨bh, rfl, _, p1⟩
  have B1 := hideT p1
  have L1 := hideT (LV.out.below p1)
  have x0 : w1.cell? ⟨w.heap.size, 0, none⟩ = some (.slice af m.files.length cf) := L1.out.cell 0
  have x1 : w1.cell? ⟨w.heap.size, 1, none⟩ = some (.slice ai m.items.length ci) := L1.out.cell 1
  clear p1 v0 v1
  cases bh
  rotate_left
  · go_wp2_with fail
    go_ret
    exact ⟨rfl, BV.out.trans (B1.out.mono BV.out.size)⟩
  go_wp2_with fail
  refine (isRefV w1 m af ai cf ci (HM.out.below B1.out) bI hI).mono ?_
  rintro e w2 ⟨rfl, p2⟩
  have B2 := hideT (B1.out.trans (p2.mono B1.out.size))
  have L2 := hideT (L1.out.below p2)
  have y0 : w2.cell? ⟨w.heap.size, 0, none⟩ = some (.slice af m.files.length cf) := L2.out.cell 0
  have y1 : w2.cell? ⟨w.heap.size, 1, none⟩ = some (.slice ai m.items.length ci) := L2.out.cell 1
  clear p2 x0 x1
  cases bI
  · go_wp2_with fail
    go_ret
    exact ⟨rfl, BV.out.trans (B2.out.mono BV.out.size)⟩
  have HN : Hid (normA m = Np.normB m) := normA_yes hI.out
  have hlen : (Np.normB m).items.length = m.items.length := Np.itemsN_length (Np.parts_of hI.out).2.2.1
  have HRISE : Hid (∀ (x y y' : Mp.Item) (q q' : Nat), x ∈ (Np.normB m).items → (Np.normB m).items[q]? = some y → (Np.normB m).items[q']? = some y' → y.parent = x.id → y'.parent = x.id → q < q' → Np.cmpS y.id y'.id < 0) := fun x y y' q q' a b c d e f => Np.ids_rise hI.out a b c d e f
  have HPLACE : Hid (∀ (x : Mp.Item), x ∈ (Np.normB m).items → ∃ p : Nat, Mp.placeZ m.items x.id = p) := fun x hx => Np.norm_place hI.out hx
  have hl1 := (Np.parts_of hI.out).1
  have hl16 := (Np.parts_of hI.out).2.1
  obtain ⟨N, hNe⟩ : ∃ N, Np.normB m = N := ⟨_, rfl⟩
  rw [hNe] at HN HRISE HPLACE hlen
  have HL1 := hideT hl1
  have HL16 := hideT hl16
  clear hl1 hl16
  go_wp2_with fail
  refine (normalV w2 m af ai cf ci m.files.length m.items.length (HM.out.below B2.out) rfl rfl N HN).mono ?_
  rintro e w3 ⟨a3, c3, a4, c4, rfl, n3, p3⟩
  obtain ⟨nf, hnf⟩ : ∃ nf, N.files.length = nf := ⟨_, rfl⟩
  have N3 := hideT n3.here
  have B3 := hideT (B2.out.trans (p3.mono B2.out.size))
  have N3I : Hid (IRow w3 (.slice a4 m.items.length c4) N.items) := by rw [← hlen]; exact n3.here.items
  rw [hnf, hlen]
  obtain ⟨hnn, hil, hicap, b, o, ha, hc⟩ := irow_at N3I.out
  clear hnn hicap
  obtain rfl := ha (Nat.lt_of_lt_of_le Nat.zero_lt_one HL1.out)
  obtain ⟨U, hU⟩ : ∃ U, w3.alloc (.cells #[.slice a3 nf c3, .slice (some ⟨b, o, none⟩) m.items.length c4] 32) = U := ⟨_, rfl⟩
  have BU : Hid (Below w3.heap.size w3 U) := by rw [← hU]; exact (Below.refl _ _).alloc (Nat.le_refl _) _
  have LU : Lies U w3.heap.size 32 #[.slice a3 nf c3, .slice (some ⟨b, o, none⟩) m.items.length c4] := by rw [← hU]; exact Lies.new _ _ _
  have LM := (L2.out.below p3).below BU.out
  have NUI := hideT (irow_below N3I.out BU.out)
  have MUI := hideT (irow_below HM.out.items (B3.out.trans (BU.out.mono B3.out.size)))
  have HC := hideT hc
  have HS0 := hideT (show U.cell? ⟨w3.heap.size, 0, none⟩ = some (.slice a3 nf c3) from LU.cell 0)
  have HS1 := hideT (show U.cell? ⟨w3.heap.size, 1, none⟩ = some (.slice (some ⟨b, o, none⟩) m.items.length c4) from LU.cell 1)
  have HS2 := hideT (show U.cell? ⟨w.heap.size, 0, none⟩ = some (.slice af m.files.length cf) from LM.cell 0)
  have HS3 := hideT (show U.cell? ⟨w.heap.size, 1, none⟩ = some (.slice ai m.items.length ci) from LM.cell 1)
  have HNF := hideT hnf
  have HNI := hideT hlen
  clear n3 p3 y0 y1 LU LM hnf hlen hNe hc N3 ha
  go_wp2_with fail
  go_loopw [4] (fun i wr => ∃ k : Nat, k ≤ m.items.length ∧ i = .int .i64 k ∧ Hid (Below U.heap.size U wr)) (fun i _ => m.items.length - (intOf i).toNat)
  case atStart => exact ⟨0, by omega, rfl, Below.refl _ _⟩
  case round =>
    obtain ⟨k, hk, rfl, HW⟩ := hrel
    have x0 := below_cell HW.out _ _ HS0.out
    have x1 := below_cell HW.out _ _ HS1.out
    have x2 := below_cell HW.out _ _ HS2.out
    have x3 := below_cell HW.out _ _ HS3.out
    have hle := HL16.out
    have t40 : (m.items.length : Int) ≤ 40 := by omega
    clear hle
    by_cases hlt : k < m.items.length
    · obtain ⟨x, hx⟩ := Mp.at_lt (l := N.items) (k := k) (by rw [HNI.out]; exact hlt)
      obtain ⟨a5, c5, a6, c6, I0⟩ := HC.out k _ hx
      have HD0 := hideT (below_cell BU.out _ _ I0.c0)
      have d0 := below_cell HW.out _ _ HD0.out
      have HX := hideT hx
      obtain ⟨pz, hpz⟩ := HPLACE.out x (List.mem_of_getElem? hx)
      have HPZ := hideT hpz
      obtain ⟨K, hK⟩ : ∃ K, Mp.kidsN N.items x.id N.items.length = K := ⟨_, rfl⟩
      have HK := hideT hK
      clear hx I0 hpz hK
      have t0 : (0 : Int) ≤ (k : Int) := by omega
      have t1 : (k : Int) < (m.items.length : Int) := by omega
      go_wp2_with fail
      go_region_held3 (fun w' => w'.cell? ⟨w3.heap.size, 0, none⟩ = some (.slice a3 nf c3) ∧ w'.cell? ⟨w3.heap.size, 1, none⟩ = some (.slice (some ⟨b, o, none⟩) m.items.length c4) ∧ w'.cell? ⟨b, o + k * 7, none⟩ = some (.string x.id)) (go_keep) ((go_at_call 11; refine (kidsRefW _ _ _ m.items.length c4 N.items x.id (irow_below NUI.out (below_drewN HW.out 1)) K HK).mono ?_; rintro e w4 ⟨ka, kc, rfl, NR4, q3⟩; have M4 : Below wr.heap.size wr w4 := (below_drewN (Below.refl _ wr) 1).trans q3; have u0 := below_cell M4 _ _ x0; have u1 := below_cell M4 _ _ x1; have u2 := below_cell M4 _ _ d0))
      obtain ⟨_, hKl, _, kb, ko, hka, hkc⟩ := nrow_at NR4
      have HKA := hideT hka
      have HKC := hideT hkc
      have HM4 := hideT (HW.out.trans (M4.mono HW.out.size))
      obtain ⟨WK, hWK⟩ : ∃ WK, WK = w4 := ⟨w4, rfl⟩
      subst hWK
      clear u0 u1 u2 M4 q3 x0 x1 x2 x3 d0 hka hkc NR4
      go_wp2_with fail
      go_loopw [6] (fun i ws => ∃ j : Nat, 1 ≤ j ∧ j ≤ K.length + 1 ∧ i = .int .i64 j ∧ Hid (Below WK.heap.size WK ws)) (fun i _ => K.length - (intOf i).toNat)
      case atStart => exact ⟨1, by omega, by omega, rfl, Below.refl _ _⟩
      case round =>
        obtain ⟨j, hj1, hj, rfl, HV⟩ := hrel
        have HUV := hideT (HM4.out.trans (HV.out.mono HM4.out.size))
        by_cases hjl : j < K.length
        · obtain ⟨q, hq⟩ : ∃ q, K[j]? = some q := ⟨K[j], List.getElem?_eq_getElem hjl⟩
          obtain ⟨j', rfl⟩ : ∃ j', j = j' + 1 := ⟨j - 1, by omega⟩
          obtain ⟨q', hqq⟩ : ∃ q', K[j']? = some q' := ⟨K[j']'(by omega), List.getElem?_eq_getElem _⟩
          have g0 := below_cell HV.out _ _ (HKC.out (j' + 1) q hq)
          have g3 := below_cell HV.out _ _ (HKC.out j' q' hqq)
          obtain rfl := HKA.out (by omega)
          rw [← HK.out] at hq hqq
          obtain ⟨y, hy, hyp⟩ := Mp.kid_at (Nat.le_refl _) hq
          obtain ⟨y', hy', hyp'⟩ := Mp.kid_at (Nat.le_refl _) hqq
          have hord := Mp.kid_order hqq hq
          have hless := HRISE.out x y' y q' q (List.mem_of_getElem? HX.out) hy' hy hyp' hyp hord
          have hql := (List.getElem?_eq_some_iff.1 hy).1
          have hql' := (List.getElem?_eq_some_iff.1 hy').1
          rw [HNI.out] at hql hql'
          obtain ⟨_, _, _, _, J0⟩ := HC.out q y hy
          obtain ⟨_, _, _, _, J1⟩ := HC.out q' y' hy'
          have g1 := below_cell HUV.out _ _ (below_cell BU.out _ _ J0.c0)
          have g4 := below_cell HUV.out _ _ (below_cell BU.out _ _ J1.c0)
          have g2 := below_cell HUV.out _ _ HS1.out
          have hb : Op.bytesLess y'.id.toList y.id.toList = true := by rw [less_cmp]; exact decide_eq_true hless
          have s0 : (0 : Int) ≤ (j' : Int) := by omega
          have s1 : (j' : Int) < (K.length : Int) := by omega
          have s2 : (0 : Int) ≤ (j' : Int) + 1 := by omega
          have s3 : (j' : Int) + 1 < (K.length : Int) := by omega
          have s4 : (0 : Int) ≤ (q : Int) := by omega
          have s5 : (q : Int) < (m.items.length : Int) := by omega
          have s6 : (0 : Int) ≤ (q' : Int) := by omega
          have s7 : (q' : Int) < (m.items.length : Int) := by omega
          have hjj : j' + 1 ≤ K.length := by omega
          clear hq hqq hy hyp hy' hyp' hord hless J0 J1 hlt hk hj hj1
          go_wp2_with fail
          go_quiet (fail)
          go_wp2_with fail
          refine ⟨⟨j' + 1 + 1, by omega, by omega, by first | rfl | go_num, below_drewN HV.out _⟩, ?_⟩
          first | omega | (simp [intOf]; omega)
        · have hnl : ¬ (j : Int) < (K.length : Int) := by omega
          have z0 := below_cell HUV.out _ _ HS0.out
          have z1 := below_cell HUV.out _ _ HS1.out
          have z2 := below_cell HUV.out _ _ HS2.out
          have z3 := below_cell HUV.out _ _ HS3.out
          have z4 := below_cell HUV.out _ _ HD0.out
          have pz0 : ¬ (pz : Int) < 0 := by omega
          have hpd : decide ((pz : Int) < 0) = false := decide_eq_false pz0
          clear hj hj1
          go_wp2_with fail
          go_region_held3 (fun w' => w'.cell? ⟨w3.heap.size, 0, none⟩ = some (.slice a3 nf c3) ∧ w'.cell? ⟨w3.heap.size, 1, none⟩ = some (.slice (some ⟨b, o, none⟩) m.items.length c4) ∧ w'.cell? ⟨w.heap.size, 0, none⟩ = some (.slice af m.files.length cf) ∧ w'.cell? ⟨w.heap.size, 1, none⟩ = some (.slice ai m.items.length ci) ∧ w'.cell? ⟨b, o + k * 7, none⟩ = some (.string x.id)) (go_keep) ((go_at_call 12; refine (placeRV _ _ _ m.items.length ci m.items x.id (irow_below MUI.out (below_drewN HUV.out 1)) pz HPZ).mono ?_; rintro e w5 ⟨rfl, q5⟩; have M5 : Below wr.heap.size wr w5 := (below_drewN (Below.refl _ wr) 1).trans q5; have u0 := below_cell M5 _ _ z0; have u1 := below_cell M5 _ _ z1; have u2 := below_cell M5 _ _ z2; have u3 := below_cell M5 _ _ z3; have u4 := below_cell M5 _ _ z4))
          have HW5 := hideT (HUV.out.trans (M5.mono HUV.out.size))
          clear M5 u0 u1 u2 u3 u4 z0 z1 z2 z3 z4 q5
          go_wp2_with fail
          refine ⟨⟨k + 1, by omega, by first | rfl | go_num, HW5⟩, ?_⟩
          first | omega | (simp [intOf]; omega)
    · obtain rfl : k = m.items.length := by omega
      go_wp2_with fail
      refine (known7 _).mono ?_
      rintro e w7 ⟨rfl, q6⟩
      go_wp2_with fail
      go_ret
      exact ⟨rfl, ((BV.out.trans (B3.out.mono BV.out.size)).trans (BU.out.mono (Nat.le_trans BV.out.size B3.out.size))).trans ((HW.out.trans (q6.mono HW.out.size)).mono (Nat.le_trans (Nat.le_trans BV.out.size B3.out.size) BU.out.size))⟩
end Go.Proofs.YtdcahnaempabcabGreat
