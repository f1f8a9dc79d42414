/-
  PackUnlike: of two models that may be the bytes are one just if they are.
-/
import Derived.Test.YtcfalhgcdffjoaaKPack
import Derived.Test.YtcfalhgcdffjoaaMHeavy
import Derived.Test.YtcfalhgcdffjoaaPartW
set_option linter.unusedSimpArgs false
set_option linter.unusedVariables false
namespace Go.Proofs.Ytcfalhgcdffjoaa
open Go.RowKit
set_option maxRecDepth 100000
/-- Bytes as a text. -/
theorem conv_str (w : World) (v : Value) (l : List UInt8) (h : BRow w v l) : (convert 27 9 v).run Try.prog w = .ok (.string ⟨l.toArray⟩) w := by
  obtain ⟨b, o, ao, cap, rfl, h2, h3, h4, h5⟩ := h
  cases l with
  | nil =>
    cases ao with
    | none => exact run_convert_bytes_nil (P := Try.prog) w 27 5 Try.underlying27 Try.underlying5 _ _ 9 Try.underlying9
    | some a => exact run_convert_bytes_back (P := Try.prog) w 27 9 5 a cap [] Try.underlying27 Try.underlying5 Try.underlying9 (fun j hj => by simp at hj)
  | cons x l =>
    obtain rfl := h3 (by simp)
    refine run_convert_bytes_back (P := Try.prog) w 27 9 5 ⟨b, o, none⟩ cap (x :: l) Try.underlying27 Try.underlying5 Try.underlying9 ?_
    intro j hj
    rw [show (⟨b, o, none⟩ : Addr).add j = ⟨b, o + j, none⟩ by unfold Addr.add; split <;> simp_all]
    exact h5 j _ (List.getElem?_eq_getElem hj)
theorem brow_drew {w : World} {v : Value} {l : List UInt8} (n : Nat) (h : BRow w v l) : BRow (w.drewN n) v l := h
theorem pack_inj {a b : Mp.Model} (ha : Mp.isB a = true) (hb : Mp.isB b = true) (h : Kp.pack a = Kp.pack b) : a = b := by
  have h1 : (Kp.pack a).drop 8 = (Kp.pack b).drop 8 := by rw [h]
  rw [Kp.pack_drop, Kp.pack_drop] at h1
  exact (Kp.body_inj (r := []) ha hb (by rw [List.append_nil]; exact h1)).1
/-- Two boxes that a call keeps. -/
structure Two (w : World) (a b : List Value) (wr : World) : Prop where
  below : Below w.heap.size w wr
  one : Lies wr w.heap.size 25 a.toArray
  two : Lies wr (w.heap.size + 1) 25 b.toArray
theorem Two.on {w wr w' : World} {a b : List Value} (h : Two w a b wr) (hb : Below wr.heap.size wr w') : Two w a b w' := ⟨h.below.trans (hb.mono h.below.size), h.one.below hb, h.two.below hb⟩
set_option maxHeartbeats 8000000 in
theorem packUnlike_walk (af1 : Option Addr) (cf1 : Nat) (ai1 : Option Addr) (ci1 : Nat) (m1 : Mp.Model) {w : World} (hm1 : ModelAt w af1 cf1 ai1 ci1 m1) (af2 : Option Addr) (cf2 : Nat) (ai2 : Option Addr) (ci2 : Nat) (m2 : Mp.Model) (hm2 : ModelAt w af2 cf2 ai2 ci2 m2) :
    Calls Try.prog 7 #[.agg #[.slice af1 m1.files.length cf1, .slice ai1 m1.items.length ci1], .agg #[.slice af2 m2.files.length cf2, .slice ai2 m2.items.length ci2]] w fun e w' => e = .returned (.bool true) ∧ Below w.heap.size w w' := by
  have HM1 := hideT hm1
  have HM2 := hideT hm2
  obtain ⟨X1, hX1⟩ : ∃ X1, w.alloc (.cells #[.slice af1 m1.files.length cf1, .slice ai1 m1.items.length ci1] 25) = X1 := ⟨_, rfl⟩
  obtain ⟨X2, hX2⟩ : ∃ X2, X1.alloc (.cells #[.slice af2 m2.files.length cf2, .slice ai2 m2.items.length ci2] 25) = X2 := ⟨_, rfl⟩
  obtain ⟨B1, L1, z1⟩ := of_alloc hX1
  obtain ⟨B2, L2, z2⟩ := of_alloc hX2
  rw [z1] at L2 z2
  have T0 : Hid (Two w [.slice af1 m1.files.length cf1, .slice ai1 m1.items.length ci1] [.slice af2 m2.files.length cf2, .slice ai2 m2.items.length ci2] X2) := ⟨B1.trans (B2.mono B1.size), L1.below B2, L2⟩
  have HX1 := hideT hX1
  have HX2 := hideT hX2
  have x0 : X2.cell? ⟨w.heap.size, 0, none⟩ = some (.slice af1 m1.files.length cf1) := T0.out.one.cell 0
  have x1 : X2.cell? ⟨w.heap.size, 1, none⟩ = some (.slice ai1 m1.items.length ci1) := T0.out.one.cell 1
  clear hm1 hm2 hX1 hX2 B1 B2 L1 L2
  go_enter Try.func7, Try.ntmps7
  go_wp2_with fail
  rw [HX1.out, HX2.out]
  refine (heavyD _ m1 af1 ai1 cf1 ci1 (HM1.out.below T0.out.below)).mono ?_
  rintro e w1 ⟨bh, rfl, hlight, p1⟩
  have T1 := hideT (T0.out.on p1)
  clear p1 hlight x0 x1
  cases bh
  rotate_left
  · go_wp2_with fail
    go_ret
    exact ⟨rfl, T1.out.below⟩
  have x2 : w1.cell? ⟨w.heap.size + 1, 0, none⟩ = some (.slice af2 m2.files.length cf2) := T1.out.two.cell 0
  have x3 : w1.cell? ⟨w.heap.size + 1, 1, none⟩ = some (.slice ai2 m2.items.length ci2) := T1.out.two.cell 1
  go_wp2_with fail
  refine (heavyD _ m2 af2 ai2 cf2 ci2 (HM2.out.below T1.out.below)).mono ?_
  rintro e w2 ⟨bh, rfl, hlight, p2⟩
  have T2 := hideT (T1.out.on p2)
  clear p2 hlight x2 x3
  cases bh
  rotate_left
  · go_wp2_with fail
    go_ret
    exact ⟨rfl, T2.out.below⟩
  have x0 : w2.cell? ⟨w.heap.size, 0, none⟩ = some (.slice af1 m1.files.length cf1) := T2.out.one.cell 0
  have x1 : w2.cell? ⟨w.heap.size, 1, none⟩ = some (.slice ai1 m1.items.length ci1) := T2.out.one.cell 1
  go_wp2_with fail
  cases hb1 : Mp.isB m1
  · refine (isRefV _ m1 af1 ai1 cf1 ci1 (HM1.out.below T2.out.below) false hb1).mono ?_
    rintro e w3 ⟨rfl, p3⟩
    have T3 := hideT (T2.out.on p3)
    clear p3 x0 x1
    go_wp2_with fail
    go_ret
    exact ⟨rfl, T3.out.below⟩
  refine (isRefV _ m1 af1 ai1 cf1 ci1 (HM1.out.below T2.out.below) true hb1).mono ?_
  rintro e w3 ⟨rfl, p3⟩
  have T3 := hideT (T2.out.on p3)
  have HB1 := hideT hb1
  clear p3 x0 x1 hb1
  have x2 : w3.cell? ⟨w.heap.size + 1, 0, none⟩ = some (.slice af2 m2.files.length cf2) := T3.out.two.cell 0
  have x3 : w3.cell? ⟨w.heap.size + 1, 1, none⟩ = some (.slice ai2 m2.items.length ci2) := T3.out.two.cell 1
  go_wp2_with fail
  cases hb2 : Mp.isB m2
  · refine (isRefV _ m2 af2 ai2 cf2 ci2 (HM2.out.below T3.out.below) false hb2).mono ?_
    rintro e w4 ⟨rfl, p4⟩
    have T4 := hideT (T3.out.on p4)
    clear p4 x2 x3
    go_wp2_with fail
    go_ret
    exact ⟨rfl, T4.out.below⟩
  refine (isRefV _ m2 af2 ai2 cf2 ci2 (HM2.out.below T3.out.below) true hb2).mono ?_
  rintro e w4 ⟨rfl, p4⟩
  have T4 := hideT (T3.out.on p4)
  have HB2 := hideT hb2
  clear p4 x2 x3 hb2
  have x0 : w4.cell? ⟨w.heap.size, 0, none⟩ = some (.slice af1 m1.files.length cf1) := T4.out.one.cell 0
  have x1 : w4.cell? ⟨w.heap.size, 1, none⟩ = some (.slice ai1 m1.items.length ci1) := T4.out.one.cell 1
  go_wp2_with fail
  refine (packD w4 m1 af1 ai1 cf1 ci1 (HM1.out.below T4.out.below) HB1.out).mono ?_
  rintro e w5 ⟨v1, rfl, o5, p5⟩
  have T5 := hideT (T4.out.on p5)
  have hpl1 : (Kp.pack m1).length ≤ 40000 := by
    have := body_len (Kp.good_of HB1.out)
    show (Kp.sealed (Kp.body m1)).length ≤ _
    rw [sealed_len]
    omega
  have hpp1 : 0 < (Kp.pack m1).length := by show 0 < (Kp.sealed (Kp.body m1)).length; rw [sealed_len]; omega
  have R5 := hideT (brow_own o5 (by omega))
  obtain ⟨g1, k1, hv1⟩ := own_form o5 hpp1
  subst hv1
  clear p5 x0 x1 o5
  have x2 : w5.cell? ⟨w.heap.size + 1, 0, none⟩ = some (.slice af2 m2.files.length cf2) := T5.out.two.cell 0
  have x3 : w5.cell? ⟨w.heap.size + 1, 1, none⟩ = some (.slice ai2 m2.items.length ci2) := T5.out.two.cell 1
  go_wp2_with fail
  refine (packD w5 m2 af2 ai2 cf2 ci2 (HM2.out.below T5.out.below) HB2.out).mono ?_
  rintro e w6 ⟨v2, rfl, o6, p6⟩
  have T6 := hideT (T5.out.on p6)
  have R6 := hideT (brow_below R5.out p6)
  have hpl2 : (Kp.pack m2).length ≤ 40000 := by
    have := body_len (Kp.good_of HB2.out)
    show (Kp.sealed (Kp.body m2)).length ≤ _
    rw [sealed_len]
    omega
  have hpp2 : 0 < (Kp.pack m2).length := by show 0 < (Kp.sealed (Kp.body m2)).length; rw [sealed_len]; omega
  have Q6 := hideT (brow_own o6 (by omega))
  obtain ⟨g2, k2, hv2⟩ := own_form o6 hpp2
  subst hv2
  clear p6 x2 x3 o6
  have x0 : w6.cell? ⟨w.heap.size, 0, none⟩ = some (.slice af1 m1.files.length cf1) := T6.out.one.cell 0
  have x1 : w6.cell? ⟨w.heap.size, 1, none⟩ = some (.slice ai1 m1.items.length ci1) := T6.out.one.cell 1
  have x2 : w6.cell? ⟨w.heap.size + 1, 0, none⟩ = some (.slice af2 m2.files.length cf2) := T6.out.two.cell 0
  have x3 : w6.cell? ⟨w.heap.size + 1, 1, none⟩ = some (.slice ai2 m2.items.length ci2) := T6.out.two.cell 1
  obtain ⟨s1, E1⟩ : ∃ s1 : ByteArray, Hid (⟨(Kp.pack m1).toArray⟩ = s1) := ⟨_, rfl⟩
  obtain ⟨s2, E2⟩ : ∃ s2 : ByteArray, Hid (⟨(Kp.pack m2).toArray⟩ = s2) := ⟨_, rfl⟩
  have c1 : ∀ w', BRow w' (.slice (some ⟨g1, 0, none⟩) (Kp.pack m1).length k1) (Kp.pack m1) → (convert 27 9 (.slice (some ⟨g1, 0, none⟩) (Kp.pack m1).length k1)).run Try.prog w' = .ok (.string s1) w' := fun w' h => by rw [← E1.out]; exact conv_str w' _ _ h
  have c2 : ∀ w', BRow w' (.slice (some ⟨g2, 0, none⟩) (Kp.pack m2).length k2) (Kp.pack m2) → (convert 27 9 (.slice (some ⟨g2, 0, none⟩) (Kp.pack m2).length k2)).run Try.prog w' = .ok (.string s2) w' := fun w' h => by rw [← E2.out]; exact conv_str w' _ _ h
  obtain ⟨bb, EB⟩ : ∃ bb, Hid (Mp.eqM m1 m2 = bb) := ⟨_, rfl⟩
  have e12 : (s1.toList == s2.toList) = bb := by
    rw [← EB.out, ← E1.out, ← E2.out]
    cases he : Mp.eqM m1 m2
    · refine beq_eq_false_iff_ne.2 fun h => ?_
      have h1 := toList_inj h
      have h2 : (Kp.pack m1).toArray = (Kp.pack m2).toArray := congrArg ByteArray.data h1
      have h3 := pack_inj HB1.out HB2.out (by simpa using congrArg Array.toList h2)
      rw [(Mp.eqM_iff m1 m2).2 h3] at he
      cases he
    · rw [(Mp.eqM_iff m1 m2).1 he]
      exact beq_self_eq_true _
  obtain ⟨n1, EN1⟩ : ∃ n1, (Kp.pack m1).length = n1 := ⟨_, rfl⟩
  obtain ⟨n2, EN2⟩ : ∃ n2, (Kp.pack m2).length = n2 := ⟨_, rfl⟩
  rw [EN1] at R6 c1
  rw [EN2] at Q6 c2
  have r6 := R6.out
  have q6 := Q6.out
  have d1 : ∀ w', BRow w' (.slice (some ⟨g1, 0, none⟩) n1 k1) (Kp.pack m1) → BRow (World.drew w') (.slice (some ⟨g1, 0, none⟩) n1 k1) (Kp.pack m1) := fun _ h => h
  have d2 : ∀ w', BRow w' (.slice (some ⟨g2, 0, none⟩) n2 k2) (Kp.pack m2) → BRow (World.drew w') (.slice (some ⟨g2, 0, none⟩) n2 k2) (Kp.pack m2) := fun _ h => h
  go_wp2_with fail
  clear EN1 EN2 R5 hpp1 hpp2 hpl1 hpl2
  go_region_held3 (fun w' => w'.cell? ⟨w.heap.size, 0, none⟩ = some (.slice af1 m1.files.length cf1) ∧ w'.cell? ⟨w.heap.size, 1, none⟩ = some (.slice ai1 m1.items.length ci1) ∧ w'.cell? ⟨w.heap.size + 1, 0, none⟩ = some (.slice af2 m2.files.length cf2) ∧ w'.cell? ⟨w.heap.size + 1, 1, none⟩ = some (.slice ai2 m2.items.length ci2) ∧ BRow w' (.slice (some ⟨g1, 0, none⟩) n1 k1) (Kp.pack m1) ∧ BRow w' (.slice (some ⟨g2, 0, none⟩) n2 k2) (Kp.pack m2)) (go_keep) (first
    | (go_at_call 13; refine (refSameD _ _ _ _ _ _ _ _ _ m1 m2 (HM1.out.below (T6.out.on (below_drewN (Below.refl _ w6) 1)).below) (HM2.out.below (T6.out.on (below_drewN (Below.refl _ w6) 1)).below) bb EB).mono ?_; rintro e w7 ⟨rfl, p7⟩; have T7 := T6.out.on ((below_drewN (Below.refl _ w6) 1).trans p7); have y0 : w7.cell? ⟨w.heap.size, 0, none⟩ = some (.slice af1 m1.files.length cf1) := T7.one.cell 0; have y1 : w7.cell? ⟨w.heap.size, 1, none⟩ = some (.slice ai1 m1.items.length ci1) := T7.one.cell 1; have y2 : w7.cell? ⟨w.heap.size + 1, 0, none⟩ = some (.slice af2 m2.files.length cf2) := T7.two.cell 0; have y3 : w7.cell? ⟨w.heap.size + 1, 1, none⟩ = some (.slice ai2 m2.items.length ci2) := T7.two.cell 1; have r7 := brow_below r6 ((below_drewN (Below.refl _ w6) 1).trans p7); have q7 := brow_below q6 ((below_drewN (Below.refl _ w6) 1).trans p7))
    | (go_at_call 14; refine (known6 _).mono ?_; rintro e w8 ⟨rfl, p8⟩; have T8 := T7.on p8; have u0 : w8.cell? ⟨w.heap.size, 0, none⟩ = some (.slice af1 m1.files.length cf1) := T8.one.cell 0; have u1 : w8.cell? ⟨w.heap.size, 1, none⟩ = some (.slice ai1 m1.items.length ci1) := T8.one.cell 1; have u2 : w8.cell? ⟨w.heap.size + 1, 0, none⟩ = some (.slice af2 m2.files.length cf2) := T8.two.cell 0; have u3 : w8.cell? ⟨w.heap.size + 1, 1, none⟩ = some (.slice ai2 m2.items.length ci2) := T8.two.cell 1; have r8 := brow_below r7 p8; have q8 := brow_below q7 p8))
  all_goals
    go_wp2_with fail
    go_ret
    exact ⟨rfl, T8.below⟩
end Go.Proofs.Ytcfalhgcdffjoaa
