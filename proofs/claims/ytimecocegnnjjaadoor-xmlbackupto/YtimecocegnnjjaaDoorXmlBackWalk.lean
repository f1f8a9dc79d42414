/-
  The law XmlBack, walked.
-/
import Derived.Test.YtimecocegnnjjaaDoorXFair
import Derived.Test.YtimecocegnnjjaaDoorXBackP
import Derived.Test.YtimecocegnnjjaaDoorDKnown
set_option linter.unusedSimpArgs false
set_option linter.unusedVariables false
namespace Go.Proofs.YtimecocegnnjjaaDoor
open Go.RowKit
/-- The element in its box. -/
theorem back_start (w : World) (n : Nat) (nm : ByteArray) (a1 : Option Addr) (n1 k1 : Nat) (a2 : Option Addr) (n2 k2 : Nat) (p : Int) (T : Tr) (h : EIn w n (.string nm) (.slice a1 n1 k1) (.slice a2 n2 k2) (.int .i64 p) T) :
    ∃ W, w.alloc (.cells #[.string nm, .slice a1 n1 k1, .slice a2 n2 k2, .int .i64 p] 25) = W ∧ Below w.heap.size w W ∧ Four W w.heap.size 0 (.string nm) (.slice a1 n1 k1) (.slice a2 n2 k2) (.int .i64 p) ∧ EIn W n (.string nm) (.slice a1 n1 k1) (.slice a2 n2 k2) (.int .i64 p) T := by
  have hb : Below w.heap.size w (w.alloc (.cells #[.string nm, .slice a1 n1 k1, .slice a2 n2 k2, .int .i64 p] 25)) := (Below.refl _ w).alloc (Nat.le_refl _) _
  have l := Lies.new w 25 #[.string nm, .slice a1 n1 k1, .slice a2 n2 k2, .int .i64 p]
  exact ⟨_, rfl, hb, ⟨l.cell 0, l.cell 1, l.cell 2, l.cell 3⟩, EIn.below hb h⟩
set_option maxHeartbeats 4000000 in
theorem xmlBack_walk (n0 : Nat) (c0 c1 c2 c3 : Value) (T : Tr) (w : World) (hE : EIn w n0 c0 c1 c2 c3 T) (hOk : Ok w) :
    Calls Tryd.prog 3 #[.agg #[c0, c1, c2, c3]] w fun e w' => e = .returned (.bool true) ∧ Below w.heap.size w w' := by
  obtain ⟨nm, a1, n1, k1, a2, n2, k2, p, rfl, rfl, rfl, rfl⟩ := elem_form hE
  have HW := hideF hOk
  obtain ⟨W, hW, bW, hF, hE2⟩ := back_start w (n0 + 12) nm a1 n1 k1 a2 n2 k2 p T (hE.more 12)
  have HWq := hideF hW
  have BW := hideF bW
  have HE := hideF hE2
  have HF := hideF hF
  obtain ⟨X, hX⟩ : ∃ X, Xp.heavyT (n0 + 12) T 200 = X := ⟨_, rfl⟩
  have HX := hideF hX
  obtain ⟨f0, f1, f2, f3⟩ := hF
  clear hE hOk hW bW hE2 hX
  by_cases h0 : X ≤ 0
  · go_enter Tryd.func3, Tryd.ntmps3
    go_wp2_with fail
    rw [HWq.out]
    go_wp2_with (go_at_call 4; refine (heavy_v (n0 + 12) W _ _ _ _ T X HE.out HX).mono ?_; rintro e w1 ⟨rfl, b1⟩)
    go_ret
    exact ⟨rfl, BW.out.trans (b1.mono BW.out.size)⟩
  have hsm : Xp.smallT (n0 + 12) T := Xp.heavy_small (n0 + 12) T 200 (by omega) (by rw [HX.out]; omega)
  have hcn := Xp.heavy_cnt (n0 + 12) 12 (by omega) T 200 (by rw [HX.out]; omega)
  rw [HX.out] at hcn
  have HSM := hideF hsm
  have HCN : Hid (Xp.cntT 12 T ≤ 200) := by unfold Hid; omega
  clear hsm hcn
  have h0z : ¬ (X ≤ 0) := h0
  go_enter Tryd.func3, Tryd.ntmps3
  go_wp2_with fail
  rw [HWq.out]
  go_wp2_with (go_at_call 4; refine (heavy_v (n0 + 12) W _ _ _ _ T X HE.out HX).mono ?_; rintro e w1 ⟨rfl, b1⟩; obtain ⟨g0, g1, g2, g3⟩ := HF.out.below b1; have HB1 := hideF b1; have HE1 := hideF (EIn.below b1 HE.out); clear b1)
  refine (fair_law (n0 + 12) w1 _ _ _ _ T 0 HE1.out HSM.out (HW.out.below (BW.out.trans (HB1.out.mono BW.out.size))).1 (by omega)).mono ?_
  rintro e w2 ⟨⟨bb, rfl, hbb⟩, b2⟩
  obtain ⟨u0, u1, u2, u3⟩ := (HF.out.below HB1.out).below b2
  have HB2 := hideF (BW.out.trans ((HB1.out.trans (b2.mono HB1.out.size)).mono BW.out.size))
  have HE2 := hideF (EIn.below b2 HE1.out)
  have b2h := hideF b2
  clear b2 f0 f1 f2 f3 g0 g1 g2 g3
  cases bb with
  | false =>
    clear hbb
    go_wp2_with fail
    go_ret
    exact ⟨rfl, HB2.out⟩
  | true =>
    have hfair : Xp.fairT 12 T := hbb rfl
    have HFA := hideF hfair
    have hlen := Xp.print_len 12 T hfair
    obtain ⟨t, ht⟩ : ∃ t : ByteArray, t = ⟨(Xp.printT 12 T).toArray⟩ := ⟨_, rfl⟩
    have HTT := hideF ht
    have hts : t.size = (Xp.printT 12 T).length := by rw [ht]; show (Xp.printT 12 T).toArray.size = _; rw [List.size_toArray]
    have htd : t.data.toList = Xp.printT 12 T := by rw [ht]
    have HTS := hideF hts
    have HTD := hideF htd
    have hE12 := EIn.fair 12 (n0 + 12) HE2.out hfair
    have HE12 := hideF hE12
    have HL : Hid ((Xp.printT 12 T).length ≤ 1000000) := by
      unfold Hid
      have := HCN.out
      omega
    clear hbb hfair hlen ht hts htd hE12
    go_wp2_with fail
    refine (printD 12 w2 _ _ _ _ T HE12.out HL.out t HTT).mono ?_
    rintro e w3 ⟨rfl, b3⟩
    have HF3 := hideF (((HF.out.below HB1.out).below b2h.out).below b3)
    have HB3 := hideF (HB2.out.trans (b3.mono HB2.out.size))
    have HE3 := hideF (EIn.below b3 HE12.out)
    clear b3 u0 u1 u2 u3
    by_cases h8 : 8000 < t.size
    · have HP : Hid (Xp.parse t.data.toList = .error (0, 3)) := Xp.parse_over (by rw [HTD.out, ← HTS.out]; exact h8)
      have h8z : (8000 : Int) < (t.size : Int) := by omega
      go_wp2_with fail
      refine (parse_err_v t w3 (by have := HTS.out; have := HL.out; omega) (HW.out.below HB3.out) 0 3 HP).mono ?_
      rintro e w4 ⟨rfl, b4⟩
      obtain ⟨V, hV⟩ : ∃ V, w4.alloc (.cells #[.string ⟨#[]⟩, .slice none 0 0, .slice none 0 0, .int .i64 0] 25) = V := ⟨_, rfl⟩
      have HVq := hideF hV
      have HB5 := hideF ((HB3.out.trans (b4.mono HB3.out.size)).trans ((show Below w4.heap.size w4 V by rw [← hV]; exact (Below.refl _ w4).alloc (Nat.le_refl _) _).mono (HB3.out.trans (b4.mono HB3.out.size)).size))
      clear b4 hV
      go_wp2_with fail
      rw [HVq.out]
      go_wp2_with (go_at_call 8; refine (knownD V (HW.out.below HB5.out)).mono ?_; rintro e w6 ⟨rfl, b6⟩)
      go_ret
      exact ⟨rfl, HB5.out.trans (b6.mono HB5.out.size)⟩
    · have h8z : ¬ ((8000 : Int) < (t.size : Int)) := by omega
      obtain ⟨T', hT', hsame⟩ := Xp.parse_print T HFA.out (by have := HCN.out; omega) (by rw [← HTS.out]; omega)
      have HP : Hid (Xp.parse t.data.toList = .ok T') := by
        unfold Hid
        rw [HTD.out]
        exact hT'
      have HSA := hideF (Xp.same_flip 12 T T' hsame)
      clear hT' hsame
      go_wp2_with fail
      refine (parse_ok_v t w3 (by have := HTS.out; have := HL.out; omega) (HW.out.below HB3.out) T' HP).mono ?_
      rintro e w4 ⟨⟨d0, d1, d2, d3, rfl, h4⟩, b4⟩
      obtain ⟨nm', a1', n1', k1', a2', n2', k2', p', rfl, rfl, rfl, rfl⟩ := elem_form h4
      obtain ⟨V, hV, bV, hFV, hEV⟩ := back_start w4 12 nm' a1' n1' k1' a2' n2' k2' p' T' h4
      subst hV
      have HF5 := (HF3.out.below b4).below bV
      have HE5 := hideF (EIn.below bV (EIn.below b4 HE3.out))
      have HEV := hideF hEV
      have HB5 := hideF ((HB3.out.trans (b4.mono HB3.out.size)).trans (bV.mono (HB3.out.trans (b4.mono HB3.out.size)).size))
      obtain ⟨u0, u1, u2, u3⟩ := HF5
      rw [Nat.zero_add] at u1 u2 u3
      clear b4 bV hEV h4 hFV
      go_wp2_with (first
        | (go_at_call 9; refine (same_true 12 _ _ _ _ _ _ _ _ _ T' T HEV.out HE5.out HSA.out).mono ?_; rintro e w6 ⟨rfl, b6⟩; have HB6 := hideF (HB5.out.trans (b6.mono HB5.out.size)); clear b6)
        | (go_at_call 8; refine (knownD w6 (HW.out.below HB6.out)).mono ?_; rintro e w7 ⟨rfl, b7⟩))
      go_ret
      exact ⟨rfl, HB6.out.trans (b7.mono HB6.out.size)⟩
end Go.Proofs.YtimecocegnnjjaaDoor
