/-
  PackOwn: a model that is read hangs no more on the bytes.
-/
import Derived.Test.YtcfalhgcdffjoaaKLaw
set_option linter.unusedSimpArgs false
set_option linter.unusedVariables false
namespace Go.Proofs.Ytcfalhgcdffjoaa
open Go.RowKit
set_option maxRecDepth 100000
set_option maxHeartbeats 8000000 in
theorem packOwn_walk (af : Option Addr) (cf : Nat) (ai : Option Addr) (ci : Nat) (m : Mp.Model) {w : World} (hm : ModelAt w af cf ai ci m) :
    Calls Try.prog 6 #[.agg #[.slice af m.files.length cf, .slice ai m.items.length ci]] w fun e w' => e = .returned (.bool true) ∧ Below w.heap.size w w' := by
  have HM := hideT hm
  obtain ⟨X1, hX1⟩ : ∃ X1, w.alloc (.cells #[.slice af m.files.length cf, .slice ai m.items.length ci] 25) = X1 := ⟨_, rfl⟩
  have T0 : Hid (One w [.slice af m.files.length cf, .slice ai m.items.length ci] X1) := One.new hX1
  have HX1 := hideT hX1
  have x0 : X1.cell? ⟨w.heap.size, 0, none⟩ = some (.slice af m.files.length cf) := T0.out.one.cell 0
  have x1 : X1.cell? ⟨w.heap.size, 1, none⟩ = some (.slice ai m.items.length ci) := T0.out.one.cell 1
  clear hm hX1
  go_enter Try.func6, Try.ntmps6
  go_wp2_with fail
  rw [HX1.out]
  refine (heavyD _ m af ai cf ci (HM.out.below T0.out.below)).mono ?_
  rintro e w1 ⟨bh, rfl, hlight, p1⟩
  have T1 := hideT (T0.out.on p1)
  clear p1 hlight x0 x1
  cases bh
  rotate_left
  · go_wp2_with fail
    go_ret
    exact ⟨rfl, T1.out.below⟩
  have x0 : w1.cell? ⟨w.heap.size, 0, none⟩ = some (.slice af m.files.length cf) := T1.out.one.cell 0
  have x1 : w1.cell? ⟨w.heap.size, 1, none⟩ = some (.slice ai m.items.length ci) := T1.out.one.cell 1
  go_wp2_with fail
  cases hb1 : Mp.isB m
  · refine (isRefV _ m af ai cf ci (HM.out.below T1.out.below) false hb1).mono ?_
    rintro e w3 ⟨rfl, p3⟩
    have T3 := hideT (T1.out.on p3)
    clear p3 x0 x1
    go_wp2_with fail
    go_ret
    exact ⟨rfl, T3.out.below⟩
  refine (isRefV _ m af ai cf ci (HM.out.below T1.out.below) true hb1).mono ?_
  rintro e w3 ⟨rfl, p3⟩
  have T3 := hideT (T1.out.on p3)
  have HB1 := hideT hb1
  clear p3 x0 x1 hb1
  have x0 : w3.cell? ⟨w.heap.size, 0, none⟩ = some (.slice af m.files.length cf) := T3.out.one.cell 0
  have x1 : w3.cell? ⟨w.heap.size, 1, none⟩ = some (.slice ai m.items.length ci) := T3.out.one.cell 1
  go_wp2_with fail
  refine (packD w3 m af ai cf ci (HM.out.below T3.out.below) HB1.out).mono ?_
  rintro e w5 ⟨v1, rfl, o5, p5⟩
  have T5 := hideT (T3.out.on p5)
  obtain ⟨hpp, hpl⟩ := pack_small HB1.out
  obtain ⟨g1, k1, hv1⟩ := own_form o5 hpp
  subst hv1
  have hcap := own_capS o5
  obtain ⟨n, hn⟩ : ∃ n, (Kp.pack m).length = n := ⟨_, rfl⟩
  rw [hn] at o5 hpp hpl hcap
  have T5o := hideT o5
  have HN := hideT hn
  have q0 : ¬ (n : Int) = 0 := by omega
  have hg1 : g1 < w5.heap.size ∧ w3.heap.size ≤ g1 := own_lt o5 rfl
  have hT3 := T3.out.below.size
  have hl3 := T3.out.one.lt
  have hbr : BRow w5 (.slice (some ⟨g1, 0, none⟩) n k1) (Kp.pack m) := brow_own (by rw [hn]; exact o5) (by omega)
  have HBR := hideT hbr
  clear p5 x0 x1 o5 hbr
  go_wp2_with fail
  refine (unpackV w5 _ _ _ (Kp.pack m) HBR.out hcap.2).mono ?_
  intro e w6 hu
  obtain ⟨⟨qa, qc, ra, rc, rfl, n6⟩, p6⟩ := unpack_ok (Kp.unpack_pack HB1.out) hu
  have N6 := hideT n6
  have T6 := hideT (T5.out.on p6)
  have O6 := hideT (own_below T5o.out p6)
  have hs6 := p6.size
  obtain ⟨W7, hW7⟩ : ∃ W7, w6.alloc (.cells #[.slice qa m.files.length qc, .slice ra m.items.length rc] 25) = W7 := ⟨_, rfl⟩
  obtain ⟨B7, L7, z7⟩ := of_alloc hW7
  have T7 := hideT (T6.out.on B7)
  have N7 := hideT (N6.out.below B7)
  have O7 := hideT (own_below O6.out B7)
  have L7' := hideT L7
  have HW7 := hideT hW7
  clear hu p6 n6 B7 L7 hW7
  go_wp2_with fail
  first | rw [HW7.out] | skip
  go_loopw [7] (fun i wr => ∃ (j : Nat) (xs : List Value), j ≤ n ∧ i = .int .i64 j ∧ Hid (One w [.slice af m.files.length cf, .slice ai m.items.length ci] wr) ∧ Hid (Lies wr w6.heap.size 25 #[.slice qa m.files.length qc, .slice ra m.items.length rc]) ∧ Hid (NewR w5.heap.size (fun w => ModelAt w qa qc ra rc m) wr) ∧ Hid (wr.ownsRow w3.heap.size 5 1 (.slice (some ⟨g1, 0, none⟩) n k1) n xs)) (fun i _ => n - (intOf i).toNat)
  case atStart => exact ⟨0, _, Nat.zero_le _, rfl, T7, L7', N7, O7⟩
  case round =>
    obtain ⟨j, xs, hj, rfl, HT, HL, HNW, HO⟩ := hrel
    by_cases hlt : j < n
    · have hxl := HO.out.1
      obtain ⟨u, hu⟩ := Mp.at_lt (l := xs) (k := j) (by omega)
      have c0 := own_cell HO.out hu
      have c0' := own_free HO.out j
      have hgr : g1 < wr.heap.size := (own_lt HO.out rfl).1
      have O2 := hideT (own_set HO.out j (.int .u8 0))
      have k8 := keep_set (keep_refl g1 wr) j (.int .u8 0)
      have T8 : Hid (One w [.slice af m.files.length cf, .slice ai m.items.length ci] (wr.setCell ⟨g1, j, none⟩ (.int .u8 0))) := ⟨HT.out.below.setCell (by show w.heap.size ≤ g1; omega) _, HT.out.one.off _ _ (by show w.heap.size ≠ g1; omega)⟩
      have L8 := hideT (HL.out.off ⟨g1, j, none⟩ (.int .u8 0) (by show w6.heap.size ≠ g1; omega))
      have N8 := hideT (HNW.out.step (fun a c ha hc => k8 a c (by omega) hc))
      clear hu k8
      go_wp2_with fail
      go_roundw
      case rel => exact ⟨j + 1, _, by omega, by go_num, T8, L8, N8, O2⟩
      case measure => simp [intOf]; omega
    · have y0 : wr.cell? ⟨w6.heap.size, 0, none⟩ = some (.slice qa m.files.length qc) := HL.out.cell 0
      have y1 : wr.cell? ⟨w6.heap.size, 1, none⟩ = some (.slice ra m.items.length rc) := HL.out.cell 1
      have x0 : wr.cell? ⟨w.heap.size, 0, none⟩ = some (.slice af m.files.length cf) := HT.out.one.cell 0
      have x1 : wr.cell? ⟨w.heap.size, 1, none⟩ = some (.slice ai m.items.length ci) := HT.out.one.cell 1
      go_wp2_with fail
      refine (refSameD wr qa ra af ai qc rc cf ci m m HNW.out.here (HM.out.below HT.out.below) true (eqM_self m)).mono ?_
      rintro e w9 ⟨rfl, p9⟩
      have T9 := hideT (HT.out.on p9)
      clear p9 x0 x1 y0 y1
      go_wp2_with fail
      refine (known6 _).mono ?_
      rintro e wA ⟨rfl, pA⟩
      have TA := hideT (T9.out.on pA)
      clear pA
      go_wp2_with fail
      go_ret
      exact ⟨rfl, TA.out.below⟩
end Go.Proofs.Ytcfalhgcdffjoaa
