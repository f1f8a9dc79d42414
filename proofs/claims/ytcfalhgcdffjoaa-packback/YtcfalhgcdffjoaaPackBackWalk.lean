/-
  PackBack: a model that was packed comes back; cut short, or with more behind, it is none.
-/
import Derived.Test.YtcfalhgcdffjoaaKLaw
set_option linter.unusedSimpArgs false
set_option linter.unusedVariables false
namespace Go.Proofs.Ytcfalhgcdffjoaa
open Go.RowKit
set_option maxRecDepth 100000
theorem brow_take {w : World} {ao : Option Addr} {n cap : Nat} {l : List UInt8} (h : BRow w (.slice ao n cap) l) (k : Nat) (hk : k ≤ l.length) : BRow w (.slice ao k cap) (l.take k) := by
  obtain ⟨g, o, ao', cap', e, h2, h3, h4, h5⟩ := h
  cases e
  have hl : (l.take k).length = k := by rw [List.length_take]; omega
  refine ⟨g, o, ao, cap, by rw [hl], by omega, fun h0 => h3 (by omega), by omega, fun i x hx => ?_⟩
  rw [List.getElem?_take] at hx
  split at hx
  · exact h5 i x hx
  · cases hx
theorem brow_news {w : World} {a : Addr} {n cap : Nat} {l : List UInt8} (h : BRow w (.slice (some a) n cap) l) : ∀ (j : Nat) v, (Lib.byteCells l)[j]? = some v → w.cell? (a.add j) = some v := by
  intro j v hj
  obtain ⟨g, o, ao', cap', e, h2, h3, h4, h5⟩ := h
  cases e
  unfold Lib.byteCells at hj
  rw [List.getElem?_map] at hj
  cases hlj : l[j]? with
  | none => rw [hlj] at hj; cases hj
  | some x =>
    rw [hlj] at hj
    obtain rfl := Option.some.inj hj
    have h0 : 0 < l.length := Nat.lt_of_le_of_lt (Nat.zero_le _) (List.getElem?_eq_some_iff.1 hlj).1
    have e := Option.some.inj (h3 h0)
    rw [e, show (⟨g, o, none⟩ : Addr).add j = ⟨g, o + j, none⟩ by unfold Addr.add; split <;> simp_all]
    exact h5 j x hlj
theorem below_grown {H : Nat} {a W w3 : World} {row : Option Nat} (h : Below H a W) (hH : H ≤ W.heap.size) (hg : W.grownBy w3 row) (hr : ∀ g, row = some g → H ≤ g) : Below H a w3 :=
  ⟨hg.os.trans h.os, hg.tape.trans h.tape, hg.output.trans h.output, Nat.le_trans h.size hg.size, fun k hk => (hg.block k (by omega) (fun e => by have := hr k e.symm; omega)).trans (h.block k hk)⟩
set_option maxHeartbeats 8000000 in
theorem packBack_walk (af : Option Addr) (cf : Nat) (ai : Option Addr) (ci : Nat) (m : Mp.Model) {w : World} (hm : ModelAt w af cf ai ci m) (cut : Int) (h1 : (Lit.int .i64 cut).wf = true) (more : Int) (h2 : (Lit.int .u8 more).wf = true) :
    Calls Try.prog 3 #[.agg #[.slice af m.files.length cf, .slice ai m.items.length ci], .int .i64 cut, .int .u8 more] w fun e w' => e = .returned (.bool true) ∧ Below w.heap.size w w' := by
  obtain ⟨cm, hcm⟩ : ∃ cm : UInt8, more = cm.toNat := by
    simp [Lit.wf] at h2
    have a : IntKind.u8.min = 0 := by decide
    have b : IntKind.u8.max = 255 := by decide
    refine ⟨UInt8.ofNat more.toNat, ?_⟩
    rw [UInt8.toNat_ofNat']
    omega
  subst hcm
  have HM := hideT hm
  obtain ⟨X1, hX1⟩ : ∃ X1, w.alloc (.cells #[.slice af m.files.length cf, .slice ai m.items.length ci] 25) = X1 := ⟨_, rfl⟩
  have T0 : Hid (One w [.slice af m.files.length cf, .slice ai m.items.length ci] X1) := One.new hX1
  have HX1 := hideT hX1
  have x0 : X1.cell? ⟨w.heap.size, 0, none⟩ = some (.slice af m.files.length cf) := T0.out.one.cell 0
  have x1 : X1.cell? ⟨w.heap.size, 1, none⟩ = some (.slice ai m.items.length ci) := T0.out.one.cell 1
  clear hm hX1 h1 h2
  go_enter Try.func3, Try.ntmps3
  go_wp2_with fail
  rw [HX1.out]
  refine (heavyD _ m af ai cf ci (HM.out.below T0.out.below)).mono ?_
  rintro e w1 ⟨bh, rfl, hlight, p1⟩
  have T1 := hideT (T0.out.on p1)
  clear p1 hlight x0 x1
  cases bh
  rotate_left
  · go_wp2_with fail
    go_ret
    exact ⟨rfl, T1.out.below⟩
  have x0 : w1.cell? ⟨w.heap.size, 0, none⟩ = some (.slice af m.files.length cf) := T1.out.one.cell 0
  have x1 : w1.cell? ⟨w.heap.size, 1, none⟩ = some (.slice ai m.items.length ci) := T1.out.one.cell 1
  go_wp2_with fail
  cases hb1 : Mp.isB m
  · refine (isRefV _ m af ai cf ci (HM.out.below T1.out.below) false hb1).mono ?_
    rintro e w3 ⟨rfl, p3⟩
    have T3 := hideT (T1.out.on p3)
    clear p3 x0 x1
    go_wp2_with fail
    go_ret
    exact ⟨rfl, T3.out.below⟩
  refine (isRefV _ m af ai cf ci (HM.out.below T1.out.below) true hb1).mono ?_
  rintro e w3 ⟨rfl, p3⟩
  have T3 := hideT (T1.out.on p3)
  have HB1 := hideT hb1
  clear p3 x0 x1 hb1
  have x0 : w3.cell? ⟨w.heap.size, 0, none⟩ = some (.slice af m.files.length cf) := T3.out.one.cell 0
  have x1 : w3.cell? ⟨w.heap.size, 1, none⟩ = some (.slice ai m.items.length ci) := T3.out.one.cell 1
  go_wp2_with fail
  refine (packD w3 m af ai cf ci (HM.out.below T3.out.below) HB1.out).mono ?_
  rintro e w5 ⟨v1, rfl, o5, p5⟩
  have T5 := hideT (T3.out.on p5)
  obtain ⟨hpp, hpl⟩ := pack_small HB1.out
  obtain ⟨g1, k1, hv1⟩ := own_form o5 hpp
  subst hv1
  have hcap := own_capS o5
  obtain ⟨n, hn⟩ : ∃ n, (Kp.pack m).length = n := ⟨_, rfl⟩
  rw [hn] at o5 hpp hpl hcap
  have T5o := hideT o5
  have HN := hideT hn
  have q0 : ¬ (n : Int) = 0 := by omega
  have hT3 := T3.out.below.size
  have hbr : BRow w5 (.slice (some ⟨g1, 0, none⟩) n k1) (Kp.pack m) := brow_own (by rw [hn]; exact o5) (by omega)
  have HBR := hideT hbr
  have ha16 := and16 cut
  obtain ⟨k, ek⟩ : ∃ k : Nat, cut % 65536 % (n : Int) = k := ⟨(cut % 65536 % (n : Int)).toNat, by
    have := Int.emod_nonneg (cut % 65536) (show (n : Int) ≠ 0 by omega)
    omega⟩
  have hk : k < n := by
    have := Int.emod_lt_of_pos (cut % 65536) (show (0 : Int) < n by omega)
    omega
  have HC1 := hideT (Kp.cut_none HB1.out (k := k) (by omega))
  have HC2 := hideT (Kp.more_none HB1.out cm)
  obtain ⟨hc1, hc2⟩ := hcap
  obtain ⟨i0, hi0, hz0, hz1, hz2⟩ := info_parts infoB
  clear p5 x0 x1 o5 hbr
  go_wp2_with fail
  refine (unpackV w5 _ _ _ (Kp.pack m) HBR.out hc2).mono ?_
  intro e w6 hu
  obtain ⟨⟨qa, qc, ra, rc, rfl, n6⟩, p6⟩ := unpack_ok (Kp.unpack_pack HB1.out) hu
  obtain ⟨W7, hW7⟩ : ∃ W7, w6.alloc (.cells #[.slice qa m.files.length qc, .slice ra m.items.length rc] 25) = W7 := ⟨_, rfl⟩
  obtain ⟨B7, L7, z7⟩ := of_alloc hW7
  have T7 := hideT ((T5.out.on p6).on B7)
  have N7 := hideT (n6.below B7)
  have R7 := hideT (brow_below (brow_below HBR.out p6) B7)
  have L7' := hideT L7
  have HW7 := hideT hW7
  clear hu p6 n6 B7 L7 hW7
  go_wp2_with fail
  rw [HW7.out]
  refine (unpackV W7 _ _ _ _ (brow_take R7.out k (by omega)) hc2).mono ?_
  intro e w8 hu
  obtain ⟨rfl, p8⟩ := unpack_no HC1.out hu
  obtain ⟨W9, hW9⟩ : ∃ W9, w8.alloc (.cells #[.slice none 0 0, .slice none 0 0] 25) = W9 := ⟨_, rfl⟩
  obtain ⟨B9, L9, z9⟩ := of_alloc hW9
  have T9 := hideT ((T7.out.on p8).on B9)
  have N9 := hideT ((N7.out.below p8).below B9)
  have R9 := hideT (brow_below (brow_below R7.out p8) B9)
  have L9' := hideT ((L7'.out.below p8).below B9)
  obtain ⟨WA, hWA⟩ : ∃ WA, W9.alloc (.cells #[] 5) = WA := ⟨_, rfl⟩
  obtain ⟨BA, LA, zA⟩ := of_alloc hWA
  have HO1 : Hid (WA.ownsRow W9.heap.size 5 1 (.slice (some ⟨W9.heap.size, 0, none⟩) 0 0) 0 []) := own_of_lies (z := 1) (n := 0) LA (Nat.le_refl _) rfl (by decide)
  have RA := hideT (brow_below R9.out BA)
  have HBA := hideT BA
  have hzA := BA.size
  have hbl : (Lib.byteCells (Kp.pack m)).length = n * 1 := by rw [Lib.byteCells_length, HN.out, Nat.mul_one]
  have HW9 := hideT hW9
  have HWA := hideT hWA
  clear hu p8 B9 L9 hW9 BA LA hWA
  go_wp2_with (first | (at_builtin; rw [HW9.out, HWA.out]; refine wpList_append_lies _ (by rfl) _ _ _ (by rfl) W9.heap.size 5 i0 _ 1 1 Try.underlying27 hi0 hz0 hz1 hz2 rfl (by omega) (.slice (some ⟨W9.heap.size, 0, none⟩) 0 0) 0 [] (by first | rfl | (simp [Act.eval, ← HW9.out]; done)) HO1.out ⟨g1, 0, none⟩ n k1 (Lib.byteCells (Kp.pack m)) (by rfl) hbl (brow_news RA.out) (Lib.byteCells_one _) (by omega) (by unfold maxLen; omega) (by omega) hzA WA.heap.size rfl ?_; intro gb cap2 wC hown hgrow hat hltC; have hown2 : wC.ownsRow W9.heap.size 5 1 (.slice (some ⟨gb, 0, none⟩) n cap2) n (Lib.byteCells (Kp.pack m)) := (by have h := hown; rw [Nat.zero_add] at h; exact h)) | (at_builtin; refine wpList_append_lies _ (by rfl) _ _ _ (by rfl) W9.heap.size 5 i0 _ 1 1 Try.underlying27 hi0 hz0 hz1 hz2 rfl (by omega) (.slice (some ⟨gb, 0, none⟩) n cap2) n (Lib.byteCells (Kp.pack m)) (by rfl) (hown2.alloc _) ⟨wC.heap.size, 0, none⟩ 1 1 [.int .u8 cm.toNat] (by rfl) (by rfl) (news1 wC #[.int .u8 cm.toNat] 5) (by simp [Value.oneCell']) (by omega) (by unfold maxLen; omega) (by omega) (by have := hgrow.size; simp; omega) (wC.heap.size + 1) (by simp) ?_; intro gb2 cap3 wD hownD hgrowD hatD hltD) | fail)
  have hgb : gb < wC.heap.size ∧ W9.heap.size ≤ gb := own_lt hown2 rfl
  have bC : Below W9.heap.size W9 wC := below_grown HBA.out hzA hgrow (fun g e => by have : W9.heap.size = g := Option.some.inj e; omega)
  have bD : Below W9.heap.size W9 wD := below_grown (bC.alloc bC.size (.cells #[.int .u8 cm.toNat] 5)) (by have := bC.size; simp; omega) hgrowD (fun g e => by have : gb = g := Option.some.inj e; omega)
  have hml : (Kp.pack m ++ [cm]).length = n + 1 := by rw [List.length_append, HN.out]; rfl
  have RD : Hid (BRow wD (.slice (some ⟨gb2, 0, none⟩) (n + 1) cap3) (Kp.pack m ++ [cm])) := brow_own (H := W9.heap.size) (by rw [hml, Lib.byteCells_append]; exact hownD) (by omega)
  have hcD := (own_capS hownD).2
  have TD := hideT (T9.out.on bD)
  have ND := hideT (N9.out.below bD)
  have LD := hideT (L9'.out.below bD)
  clear hown hgrow hat hltC hown2 hownD hgrowD hatD hltD bC bD hml
  refine (unpackV wD _ _ _ _ RD.out hcD).mono ?_
  intro e wE hu
  obtain ⟨rfl, pE⟩ := unpack_no HC2.out hu
  obtain ⟨WF, hWF⟩ : ∃ WF, wE.alloc (.cells #[.slice none 0 0, .slice none 0 0] 25) = WF := ⟨_, rfl⟩
  obtain ⟨BF, _, zF⟩ := of_alloc hWF
  have TF := hideT ((TD.out.on pE).on BF)
  have NF := hideT ((ND.out.below pE).below BF)
  have LF := hideT ((LD.out.below pE).below BF)
  have LE := hideT (LD.out.below pE)
  have TE := hideT (TD.out.on pE)
  have HWF := hideT hWF
  have y0 : wE.cell? ⟨w6.heap.size, 0, none⟩ = some (.slice qa m.files.length qc) := LE.out.cell 0
  have y1 : wE.cell? ⟨w6.heap.size, 1, none⟩ = some (.slice ra m.items.length rc) := LE.out.cell 1
  have x0 : wE.cell? ⟨w.heap.size, 0, none⟩ = some (.slice af m.files.length cf) := TE.out.one.cell 0
  have x1 : wE.cell? ⟨w.heap.size, 1, none⟩ = some (.slice ai m.items.length ci) := TE.out.one.cell 1
  have e1 := LE.out.lt
  have e2 := TE.out.one.lt
  clear hu pE BF hWF
  go_wp2_with fail
  rw [HWF.out]
  refine (refSameD WF qa ra af ai qc rc cf ci m m NF.out.here (HM.out.below TF.out.below) true (eqM_self m)).mono ?_
  rintro e wG ⟨rfl, pG⟩
  have TG := hideT (TF.out.on pG)
  clear pG x0 x1 y0 y1
  go_wp2_with fail
  refine (known6 _).mono ?_
  rintro e wH ⟨rfl, pH⟩
  have TH := hideT (TG.out.on pH)
  clear pH
  go_wp2_with fail
  go_ret
  exact ⟨rfl, TH.out.below⟩
end Go.Proofs.Ytcfalhgcdffjoaa
