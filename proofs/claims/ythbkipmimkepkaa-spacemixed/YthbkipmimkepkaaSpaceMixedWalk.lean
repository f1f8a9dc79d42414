/-
  SpaceMixed: elements of two spaces, by prefixes, without, within one another, are resolved as they are written.
-/
import Derived.Test.YthbkipmimkepkaaSKnown
set_option linter.unusedSimpArgs false
set_option linter.unusedVariables false
namespace Go.Proofs.Ythbkipmimkepkaa
open Go.RowKit
theorem below_al {w W : World} (h : Below w.heap.size w W) (o : Obj) : Below w.heap.size w (W.alloc o) := h.alloc h.size o
theorem spm_pa : splitB ⟨#[112, 58, 97]⟩ = (⟨#[112]⟩, ⟨#[97]⟩) := by kernel_rfl
theorem spm_pb : splitB ⟨#[112, 58, 98]⟩ = (⟨#[112]⟩, ⟨#[98]⟩) := by kernel_rfl
theorem spm_qb : splitB ⟨#[113, 58, 98]⟩ = (⟨#[113]⟩, ⟨#[98]⟩) := by kernel_rfl
theorem spm_b : splitB ⟨#[98]⟩ = (⟨#[]⟩, ⟨#[98]⟩) := by kernel_rfl
theorem spm_xp : splitB ⟨#[120, 109, 108, 110, 115, 58, 112]⟩ = (⟨#[120, 109, 108, 110, 115]⟩, ⟨#[112]⟩) := by kernel_rfl
theorem spm_xq : splitB ⟨#[120, 109, 108, 110, 115, 58, 113]⟩ = (⟨#[120, 109, 108, 110, 115]⟩, ⟨#[113]⟩) := by kernel_rfl
theorem may_of {p s : ByteArray} (h : s ≠ e0) (h1 : p ≠ xmlB) (h2 : p ≠ xmlnsB) : mayB p s = true := by
  unfold mayB
  rw [decide_eq_false h, decide_eq_false h1, decide_eq_false h2]
  rfl
theorem may_p {s : ByteArray} (h : s ≠ e0) : mayB ⟨#[112]⟩ s = true := may_of h (by decide) (by decide)
theorem may_q {s : ByteArray} (h : s ≠ e0) : mayB ⟨#[113]⟩ s = true := may_of h (by decide) (by decide)
def miT0 (u v : ByteArray) : Tr := Xp.mkT ⟨#[112, 58, 97]⟩ [(⟨#[120, 109, 108, 110, 115, 58, 112]⟩, u), (⟨#[120, 109, 108, 110, 115, 58, 113]⟩, v), (xmlnsB, v)] [Xp.mkT ⟨#[112, 58, 98]⟩ [] [] 0] 0
def miN0 (u v : ByteArray) : Tr := mkN u ⟨#[97]⟩ [] [mkN u ⟨#[98]⟩ [] [] 0] 0
theorem res_mi0 (u v : ByteArray) (hu : u ≠ e0) (hv : v ≠ e0) : resP 2 G0 (miT0 u v) = .ok (miN0 u v) := by
  unfold miT0 miN0
  simp (decide := true) [resP_mk, resT, enterP, stepP, kidsP, spm_pa, spm_pb, spm_qb, spm_b, spm_xp, spm_xq, upd, may_p hu, may_p hv, may_q hv]
def miT1 (u v : ByteArray) : Tr := Xp.mkT ⟨#[112, 58, 97]⟩ [(⟨#[120, 109, 108, 110, 115, 58, 112]⟩, u), (⟨#[120, 109, 108, 110, 115, 58, 113]⟩, v), (xmlnsB, v)] [Xp.mkT ⟨#[113, 58, 98]⟩ [] [] 0] 0
def miN1 (u v : ByteArray) : Tr := mkN u ⟨#[97]⟩ [] [mkN v ⟨#[98]⟩ [] [] 0] 0
theorem res_mi1 (u v : ByteArray) (hu : u ≠ e0) (hv : v ≠ e0) : resP 2 G0 (miT1 u v) = .ok (miN1 u v) := by
  unfold miT1 miN1
  simp (decide := true) [resP_mk, resT, enterP, stepP, kidsP, spm_pa, spm_pb, spm_qb, spm_b, spm_xp, spm_xq, upd, may_p hu, may_p hv, may_q hv]
def miT2 (u v : ByteArray) : Tr := Xp.mkT ⟨#[112, 58, 97]⟩ [(⟨#[120, 109, 108, 110, 115, 58, 112]⟩, u), (⟨#[120, 109, 108, 110, 115, 58, 113]⟩, v), (xmlnsB, v)] [Xp.mkT ⟨#[98]⟩ [] [] 0] 0
def miN2 (u v : ByteArray) : Tr := mkN u ⟨#[97]⟩ [] [mkN v ⟨#[98]⟩ [] [] 0] 0
theorem res_mi2 (u v : ByteArray) (hu : u ≠ e0) (hv : v ≠ e0) : resP 2 G0 (miT2 u v) = .ok (miN2 u v) := by
  unfold miT2 miN2
  simp (decide := true) [resP_mk, resT, enterP, stepP, kidsP, spm_pa, spm_pb, spm_qb, spm_b, spm_xp, spm_xq, upd, may_p hu, may_p hv, may_q hv]
def miT3 (u v : ByteArray) : Tr := Xp.mkT ⟨#[112, 58, 97]⟩ [(⟨#[120, 109, 108, 110, 115, 58, 112]⟩, u), (⟨#[120, 109, 108, 110, 115, 58, 113]⟩, v), (xmlnsB, v)] [Xp.mkT ⟨#[112, 58, 98]⟩ [(⟨#[120, 109, 108, 110, 115, 58, 112]⟩, v)] [] 0] 0
def miN3 (u v : ByteArray) : Tr := mkN u ⟨#[97]⟩ [] [mkN v ⟨#[98]⟩ [] [] 0] 0
theorem res_mi3 (u v : ByteArray) (hu : u ≠ e0) (hv : v ≠ e0) : resP 2 G0 (miT3 u v) = .ok (miN3 u v) := by
  unfold miT3 miN3
  simp (decide := true) [resP_mk, resT, enterP, stepP, kidsP, spm_pa, spm_pb, spm_qb, spm_b, spm_xp, spm_xq, upd, may_p hu, may_p hv, may_q hv]
theorem att_three {a b c d e f : ByteArray} {n m : Nat} (h1 : a.size ≤ n) (h2 : b.size ≤ m) (h3 : c.size ≤ n) (h4 : d.size ≤ m) (h5 : e.size ≤ n) (h6 : f.size ≤ m) : ∀ p ∈ [(a, b), (c, d), (e, f)], p.1.size ≤ n ∧ p.2.size ≤ m := by
  intro p hp
  simp only [List.mem_cons, List.mem_nil_iff, or_false] at hp
  rcases hp with rfl | rfl | rfl
  · exact ⟨h1, h2⟩
  · exact ⟨h3, h4⟩
  · exact ⟨h5, h6⟩
set_option maxHeartbeats 4000000 in
theorem mixed_0 (u v : ByteArray) (hu : ¬ (u.size : Int) > 50) (hv : ¬ (v.size : Int) > 50) (hu0 : u ≠ e0) (hv0 : v ≠ e0) (w : World) (hok : OkS w) :
    Calls Try.prog 8 #[.string u, .string v, .int .i64 0] w fun e w' => e = .returned (.bool true) ∧ Below w.heap.size w w' := by
  obtain ⟨s1, s2⟩ := tl_empty hu0
  obtain ⟨s3, s4⟩ := tl_empty hv0
  have HU := hideT hu0
  have HV := hideT hv0
  clear hu0 hv0
  go_enter Try.func8, Try.ntmps8
  go_wp2_with fail
  generalize hW1 : w.alloc _ = W1
  obtain ⟨B1, L1, z1⟩ := of_alloc hW1
  generalize hW2 : W1.alloc _ = W2
  obtain ⟨B2, L2, z2⟩ := of_alloc hW2
  generalize hW3 : W2.alloc _ = W3
  obtain ⟨B3, L3, z3⟩ := of_alloc hW3
  generalize hW4 : W3.alloc _ = W4
  obtain ⟨B4, L4, z4⟩ := of_alloc hW4
  generalize hW5 : W4.alloc _ = W5
  obtain ⟨B5, L5, z5⟩ := of_alloc hW5
  generalize hW6 : W5.alloc _ = W6
  obtain ⟨B6, L6, z6⟩ := of_alloc hW6
  rw [z1] at L2 z2
  rw [z2] at L3 z3
  rw [z3] at L4 z4
  rw [z4] at L5 z5
  rw [z5] at L6 z6
  have BT6 := Below.refl W6.heap.size W6
  have BT5 : Below W5.heap.size W5 W6 := B6.trans (BT6.mono B6.size)
  have BT4 : Below W4.heap.size W4 W6 := B5.trans (BT5.mono B5.size)
  have BT3 : Below W3.heap.size W3 W6 := B4.trans (BT4.mono B4.size)
  have BT2 : Below W2.heap.size W2 W6 := B3.trans (BT3.mono B3.size)
  have BT1 : Below W1.heap.size W1 W6 := B2.trans (BT2.mono B2.size)
  have BB : Below w.heap.size w W6 := B1.trans (BT1.mono B1.size)
  have hE : EIn W6 2 (.string ⟨#[112, 58, 97]⟩) (.slice (some ⟨w.heap.size, 0, none⟩) 3 3) (.slice (some ⟨w.heap.size + 1 + 1 + 1 + 1 + 1, 0, none⟩) 1 1) (.int .i64 0) (miT0 u v) := by
    refine EIn.node 1 _ _ _ _ (by decide) (ARow.lies (L1.below BT1) _ rfl (by simp) (att_three (by decide) (by omega) (by decide) (by omega) (by decide) (by omega)) _ _ rfl) L6 [(.string ⟨#[112, 58, 98]⟩, nilS, nilS, .int .i64 0)] _ rfl rfl (by simp) (fun i q K e1 e2 => ?_) _ _ rfl
    match i with
    | 0 =>
      cases e1
      cases e2
      exact EIn.leaf 0 _ _ _ _ (by decide) (ARow.nil _)
    | i + 1 => cases e1
  have hF : fineT 2 (miT0 u v) := by
    refine fine_node (by decide) (att_three (by decide) (by omega) (by decide) (by omega) (by decide) (by omega)) (fun K hK => ?_)
    rw [List.mem_singleton.1 hK]
    exact fine_node (by decide) (by simp) (by simp)
  refine (ResolveD W6 2 _ _ _ _ (miT0 u v) (hok.below BB hok.lt) hE hF (by simp [miT0, attN_mk])).mono ?_
  rintro e w1 ⟨b1, _, eo⟩
  obtain ⟨c0, c1, c2, c3, c4, rfl, t1⟩ := eo _ (res_mi0 u v HU.out HV.out)
  obtain ⟨rfl, rfl, rfl, _, ⟨a, ac, rfl⟩, b, o, ka, kc, rfl, hka, hk⟩ := t1.inv
  obtain rfl := hka (by simp)
  obtain ⟨d0, d1, d2, d3, d4, ⟨f0, f1, f2, f3, f4⟩, t2⟩ := hk 0 _ rfl
  obtain ⟨rfl, rfl, rfl, _, ⟨a2, ac2, rfl⟩, b2, o2, ka2, kc2, rfl, _, _⟩ := t2.inv
  have BY := (Below.refl w1.heap.size w1).alloc (Nat.le_refl _) (.cells #[.string u, .string ⟨#[97]⟩, .slice a 0 ac, .slice (some ⟨b, o, none⟩) 1 kc, .int .i64 0] 25)
  have LY := Lies.new w1 25 #[.string u, .string ⟨#[97]⟩, .slice a 0 ac, .slice (some ⟨b, o, none⟩) 1 kc, .int .i64 0]
  have p0 := LY.cell 0
  have p2 := LY.cell 2
  have p3 := LY.cell 3
  simp only [List.getElem?_toArray, List.getElem?_cons_zero, List.getElem?_cons_succ] at p0 p2 p3
  rw [Nat.mul_zero, Nat.add_zero] at f0 f1
  have f0 := cell_below BY rfl f0
  have f1 := cell_below BY rfl f1
  have BF := hideT (BB.trans ((b1.trans (BY.mono b1.size)).mono BB.size))
  have HOK := hideT (hok.below BF.out hok.lt)
  clear hW1 B1 L1 z1 BT1 hW2 B2 L2 z2 BT2 hW3 B3 L3 z3 BT3 hW4 B4 L4 z4 BT4 hW5 B5 L5 z5 BT5 hW6 B6 L6 z6 BT6 hE hF eo hk t1 t2 BY LY f2 f3 f4 BB b1 hok
  go_wp2_with fail
  refine (knownS _ HOK.out).mono ?_
  rintro e w9 ⟨rfl, b9⟩
  go_wp2_with fail
  go_ret
  exact ⟨rfl, BF.out.trans (b9.mono BF.out.size)⟩
set_option maxHeartbeats 4000000 in
theorem mixed_1 (u v : ByteArray) (hu : ¬ (u.size : Int) > 50) (hv : ¬ (v.size : Int) > 50) (hu0 : u ≠ e0) (hv0 : v ≠ e0) (w : World) (hok : OkS w) :
    Calls Try.prog 8 #[.string u, .string v, .int .i64 1] w fun e w' => e = .returned (.bool true) ∧ Below w.heap.size w w' := by
  obtain ⟨s1, s2⟩ := tl_empty hu0
  obtain ⟨s3, s4⟩ := tl_empty hv0
  have HU := hideT hu0
  have HV := hideT hv0
  clear hu0 hv0
  go_enter Try.func8, Try.ntmps8
  go_wp2_with fail
  generalize hW1 : w.alloc _ = W1
  obtain ⟨B1, L1, z1⟩ := of_alloc hW1
  generalize hW2 : W1.alloc _ = W2
  obtain ⟨B2, L2, z2⟩ := of_alloc hW2
  generalize hW3 : W2.alloc _ = W3
  obtain ⟨B3, L3, z3⟩ := of_alloc hW3
  generalize hW4 : W3.alloc _ = W4
  obtain ⟨B4, L4, z4⟩ := of_alloc hW4
  generalize hW5 : W4.alloc _ = W5
  obtain ⟨B5, L5, z5⟩ := of_alloc hW5
  generalize hW6 : W5.alloc _ = W6
  obtain ⟨B6, L6, z6⟩ := of_alloc hW6
  rw [z1] at L2 z2
  rw [z2] at L3 z3
  rw [z3] at L4 z4
  rw [z4] at L5 z5
  rw [z5] at L6 z6
  have BT6 := Below.refl W6.heap.size W6
  have BT5 : Below W5.heap.size W5 W6 := B6.trans (BT6.mono B6.size)
  have BT4 : Below W4.heap.size W4 W6 := B5.trans (BT5.mono B5.size)
  have BT3 : Below W3.heap.size W3 W6 := B4.trans (BT4.mono B4.size)
  have BT2 : Below W2.heap.size W2 W6 := B3.trans (BT3.mono B3.size)
  have BT1 : Below W1.heap.size W1 W6 := B2.trans (BT2.mono B2.size)
  have BB : Below w.heap.size w W6 := B1.trans (BT1.mono B1.size)
  have hE : EIn W6 2 (.string ⟨#[112, 58, 97]⟩) (.slice (some ⟨w.heap.size, 0, none⟩) 3 3) (.slice (some ⟨w.heap.size + 1 + 1 + 1 + 1 + 1, 0, none⟩) 1 1) (.int .i64 0) (miT1 u v) := by
    refine EIn.node 1 _ _ _ _ (by decide) (ARow.lies (L1.below BT1) _ rfl (by simp) (att_three (by decide) (by omega) (by decide) (by omega) (by decide) (by omega)) _ _ rfl) L6 [(.string ⟨#[113, 58, 98]⟩, nilS, nilS, .int .i64 0)] _ rfl rfl (by simp) (fun i q K e1 e2 => ?_) _ _ rfl
    match i with
    | 0 =>
      cases e1
      cases e2
      exact EIn.leaf 0 _ _ _ _ (by decide) (ARow.nil _)
    | i + 1 => cases e1
  have hF : fineT 2 (miT1 u v) := by
    refine fine_node (by decide) (att_three (by decide) (by omega) (by decide) (by omega) (by decide) (by omega)) (fun K hK => ?_)
    rw [List.mem_singleton.1 hK]
    exact fine_node (by decide) (by simp) (by simp)
  refine (ResolveD W6 2 _ _ _ _ (miT1 u v) (hok.below BB hok.lt) hE hF (by simp [miT1, attN_mk])).mono ?_
  rintro e w1 ⟨b1, _, eo⟩
  obtain ⟨c0, c1, c2, c3, c4, rfl, t1⟩ := eo _ (res_mi1 u v HU.out HV.out)
  obtain ⟨rfl, rfl, rfl, _, ⟨a, ac, rfl⟩, b, o, ka, kc, rfl, hka, hk⟩ := t1.inv
  obtain rfl := hka (by simp)
  obtain ⟨d0, d1, d2, d3, d4, ⟨f0, f1, f2, f3, f4⟩, t2⟩ := hk 0 _ rfl
  obtain ⟨rfl, rfl, rfl, _, ⟨a2, ac2, rfl⟩, b2, o2, ka2, kc2, rfl, _, _⟩ := t2.inv
  have BY := (Below.refl w1.heap.size w1).alloc (Nat.le_refl _) (.cells #[.string u, .string ⟨#[97]⟩, .slice a 0 ac, .slice (some ⟨b, o, none⟩) 1 kc, .int .i64 0] 25)
  have LY := Lies.new w1 25 #[.string u, .string ⟨#[97]⟩, .slice a 0 ac, .slice (some ⟨b, o, none⟩) 1 kc, .int .i64 0]
  have p0 := LY.cell 0
  have p2 := LY.cell 2
  have p3 := LY.cell 3
  simp only [List.getElem?_toArray, List.getElem?_cons_zero, List.getElem?_cons_succ] at p0 p2 p3
  rw [Nat.mul_zero, Nat.add_zero] at f0 f1
  have f0 := cell_below BY rfl f0
  have f1 := cell_below BY rfl f1
  have BF := hideT (BB.trans ((b1.trans (BY.mono b1.size)).mono BB.size))
  have HOK := hideT (hok.below BF.out hok.lt)
  clear hW1 B1 L1 z1 BT1 hW2 B2 L2 z2 BT2 hW3 B3 L3 z3 BT3 hW4 B4 L4 z4 BT4 hW5 B5 L5 z5 BT5 hW6 B6 L6 z6 BT6 hE hF eo hk t1 t2 BY LY f2 f3 f4 BB b1 hok
  go_wp2_with fail
  refine (knownS _ HOK.out).mono ?_
  rintro e w9 ⟨rfl, b9⟩
  go_wp2_with fail
  go_ret
  exact ⟨rfl, BF.out.trans (b9.mono BF.out.size)⟩
set_option maxHeartbeats 4000000 in
theorem mixed_2 (u v : ByteArray) (hu : ¬ (u.size : Int) > 50) (hv : ¬ (v.size : Int) > 50) (hu0 : u ≠ e0) (hv0 : v ≠ e0) (w : World) (hok : OkS w) :
    Calls Try.prog 8 #[.string u, .string v, .int .i64 2] w fun e w' => e = .returned (.bool true) ∧ Below w.heap.size w w' := by
  obtain ⟨s1, s2⟩ := tl_empty hu0
  obtain ⟨s3, s4⟩ := tl_empty hv0
  have HU := hideT hu0
  have HV := hideT hv0
  clear hu0 hv0
  go_enter Try.func8, Try.ntmps8
  go_wp2_with fail
  generalize hW1 : w.alloc _ = W1
  obtain ⟨B1, L1, z1⟩ := of_alloc hW1
  generalize hW2 : W1.alloc _ = W2
  obtain ⟨B2, L2, z2⟩ := of_alloc hW2
  generalize hW3 : W2.alloc _ = W3
  obtain ⟨B3, L3, z3⟩ := of_alloc hW3
  generalize hW4 : W3.alloc _ = W4
  obtain ⟨B4, L4, z4⟩ := of_alloc hW4
  generalize hW5 : W4.alloc _ = W5
  obtain ⟨B5, L5, z5⟩ := of_alloc hW5
  generalize hW6 : W5.alloc _ = W6
  obtain ⟨B6, L6, z6⟩ := of_alloc hW6
  rw [z1] at L2 z2
  rw [z2] at L3 z3
  rw [z3] at L4 z4
  rw [z4] at L5 z5
  rw [z5] at L6 z6
  have BT6 := Below.refl W6.heap.size W6
  have BT5 : Below W5.heap.size W5 W6 := B6.trans (BT6.mono B6.size)
  have BT4 : Below W4.heap.size W4 W6 := B5.trans (BT5.mono B5.size)
  have BT3 : Below W3.heap.size W3 W6 := B4.trans (BT4.mono B4.size)
  have BT2 : Below W2.heap.size W2 W6 := B3.trans (BT3.mono B3.size)
  have BT1 : Below W1.heap.size W1 W6 := B2.trans (BT2.mono B2.size)
  have BB : Below w.heap.size w W6 := B1.trans (BT1.mono B1.size)
  have hE : EIn W6 2 (.string ⟨#[112, 58, 97]⟩) (.slice (some ⟨w.heap.size, 0, none⟩) 3 3) (.slice (some ⟨w.heap.size + 1 + 1 + 1 + 1 + 1, 0, none⟩) 1 1) (.int .i64 0) (miT2 u v) := by
    refine EIn.node 1 _ _ _ _ (by decide) (ARow.lies (L1.below BT1) _ rfl (by simp) (att_three (by decide) (by omega) (by decide) (by omega) (by decide) (by omega)) _ _ rfl) L6 [(.string ⟨#[98]⟩, nilS, nilS, .int .i64 0)] _ rfl rfl (by simp) (fun i q K e1 e2 => ?_) _ _ rfl
    match i with
    | 0 =>
      cases e1
      cases e2
      exact EIn.leaf 0 _ _ _ _ (by decide) (ARow.nil _)
    | i + 1 => cases e1
  have hF : fineT 2 (miT2 u v) := by
    refine fine_node (by decide) (att_three (by decide) (by omega) (by decide) (by omega) (by decide) (by omega)) (fun K hK => ?_)
    rw [List.mem_singleton.1 hK]
    exact fine_node (by decide) (by simp) (by simp)
  refine (ResolveD W6 2 _ _ _ _ (miT2 u v) (hok.below BB hok.lt) hE hF (by simp [miT2, attN_mk])).mono ?_
  rintro e w1 ⟨b1, _, eo⟩
  obtain ⟨c0, c1, c2, c3, c4, rfl, t1⟩ := eo _ (res_mi2 u v HU.out HV.out)
  obtain ⟨rfl, rfl, rfl, _, ⟨a, ac, rfl⟩, b, o, ka, kc, rfl, hka, hk⟩ := t1.inv
  obtain rfl := hka (by simp)
  obtain ⟨d0, d1, d2, d3, d4, ⟨f0, f1, f2, f3, f4⟩, t2⟩ := hk 0 _ rfl
  obtain ⟨rfl, rfl, rfl, _, ⟨a2, ac2, rfl⟩, b2, o2, ka2, kc2, rfl, _, _⟩ := t2.inv
  have BY := (Below.refl w1.heap.size w1).alloc (Nat.le_refl _) (.cells #[.string u, .string ⟨#[97]⟩, .slice a 0 ac, .slice (some ⟨b, o, none⟩) 1 kc, .int .i64 0] 25)
  have LY := Lies.new w1 25 #[.string u, .string ⟨#[97]⟩, .slice a 0 ac, .slice (some ⟨b, o, none⟩) 1 kc, .int .i64 0]
  have p0 := LY.cell 0
  have p2 := LY.cell 2
  have p3 := LY.cell 3
  simp only [List.getElem?_toArray, List.getElem?_cons_zero, List.getElem?_cons_succ] at p0 p2 p3
  rw [Nat.mul_zero, Nat.add_zero] at f0 f1
  have f0 := cell_below BY rfl f0
  have f1 := cell_below BY rfl f1
  have BF := hideT (BB.trans ((b1.trans (BY.mono b1.size)).mono BB.size))
  have HOK := hideT (hok.below BF.out hok.lt)
  clear hW1 B1 L1 z1 BT1 hW2 B2 L2 z2 BT2 hW3 B3 L3 z3 BT3 hW4 B4 L4 z4 BT4 hW5 B5 L5 z5 BT5 hW6 B6 L6 z6 BT6 hE hF eo hk t1 t2 BY LY f2 f3 f4 BB b1 hok
  go_wp2_with fail
  refine (knownS _ HOK.out).mono ?_
  rintro e w9 ⟨rfl, b9⟩
  go_wp2_with fail
  go_ret
  exact ⟨rfl, BF.out.trans (b9.mono BF.out.size)⟩
set_option maxHeartbeats 4000000 in
theorem mixed_3 (u v : ByteArray) (hu : ¬ (u.size : Int) > 50) (hv : ¬ (v.size : Int) > 50) (hu0 : u ≠ e0) (hv0 : v ≠ e0) (w : World) (hok : OkS w) :
    Calls Try.prog 8 #[.string u, .string v, .int .i64 3] w fun e w' => e = .returned (.bool true) ∧ Below w.heap.size w w' := by
  obtain ⟨s1, s2⟩ := tl_empty hu0
  obtain ⟨s3, s4⟩ := tl_empty hv0
  have HU := hideT hu0
  have HV := hideT hv0
  clear hu0 hv0
  go_enter Try.func8, Try.ntmps8
  go_wp2_with fail
  generalize hW1 : w.alloc _ = W1
  obtain ⟨B1, L1, z1⟩ := of_alloc hW1
  generalize hW2 : W1.alloc _ = W2
  obtain ⟨B2, L2, z2⟩ := of_alloc hW2
  generalize hW3 : W2.alloc _ = W3
  obtain ⟨B3, L3, z3⟩ := of_alloc hW3
  generalize hW4 : W3.alloc _ = W4
  obtain ⟨B4, L4, z4⟩ := of_alloc hW4
  generalize hW5 : W4.alloc _ = W5
  obtain ⟨B5, L5, z5⟩ := of_alloc hW5
  generalize hW6 : W5.alloc _ = W6
  obtain ⟨B6, L6, z6⟩ := of_alloc hW6
  generalize hW7 : W6.alloc _ = W7
  obtain ⟨B7, L7, z7⟩ := of_alloc hW7
  rw [z1] at L2 z2
  rw [z2] at L3 z3
  rw [z3] at L4 z4
  rw [z4] at L5 z5
  rw [z5] at L6 z6
  rw [z6] at L7 z7
  have BT7 := Below.refl W7.heap.size W7
  have BT6 : Below W6.heap.size W6 W7 := B7.trans (BT7.mono B7.size)
  have BT5 : Below W5.heap.size W5 W7 := B6.trans (BT6.mono B6.size)
  have BT4 : Below W4.heap.size W4 W7 := B5.trans (BT5.mono B5.size)
  have BT3 : Below W3.heap.size W3 W7 := B4.trans (BT4.mono B4.size)
  have BT2 : Below W2.heap.size W2 W7 := B3.trans (BT3.mono B3.size)
  have BT1 : Below W1.heap.size W1 W7 := B2.trans (BT2.mono B2.size)
  have BB : Below w.heap.size w W7 := B1.trans (BT1.mono B1.size)
  have hE : EIn W7 2 (.string ⟨#[112, 58, 97]⟩) (.slice (some ⟨w.heap.size, 0, none⟩) 3 3) (.slice (some ⟨w.heap.size + 1 + 1 + 1 + 1 + 1 + 1, 0, none⟩) 1 1) (.int .i64 0) (miT3 u v) := by
    refine EIn.node 1 _ _ _ _ (by decide) (ARow.lies (L1.below BT1) _ rfl (by simp) (att_three (by decide) (by omega) (by decide) (by omega) (by decide) (by omega)) _ _ rfl) L7 [(.string ⟨#[112, 58, 98]⟩, .slice (some ⟨w.heap.size + 1 + 1 + 1 + 1 + 1, 0, none⟩) 1 1, nilS, .int .i64 0)] _ rfl rfl (by simp) (fun i q K e1 e2 => ?_) _ _ rfl
    match i with
    | 0 =>
      cases e1
      cases e2
      exact EIn.leaf 0 _ _ _ _ (by decide) (ARow.lies (L6.below BT6) _ rfl (by simp) (att_one (by decide) (by omega)) _ _ rfl)
    | i + 1 => cases e1
  have hF : fineT 2 (miT3 u v) := by
    refine fine_node (by decide) (att_three (by decide) (by omega) (by decide) (by omega) (by decide) (by omega)) (fun K hK => ?_)
    rw [List.mem_singleton.1 hK]
    exact fine_node (by decide) (att_one (by decide) (by omega)) (by simp)
  refine (ResolveD W7 2 _ _ _ _ (miT3 u v) (hok.below BB hok.lt) hE hF (by simp [miT3, attN_mk])).mono ?_
  rintro e w1 ⟨b1, _, eo⟩
  obtain ⟨c0, c1, c2, c3, c4, rfl, t1⟩ := eo _ (res_mi3 u v HU.out HV.out)
  obtain ⟨rfl, rfl, rfl, _, ⟨a, ac, rfl⟩, b, o, ka, kc, rfl, hka, hk⟩ := t1.inv
  obtain rfl := hka (by simp)
  obtain ⟨d0, d1, d2, d3, d4, ⟨f0, f1, f2, f3, f4⟩, t2⟩ := hk 0 _ rfl
  obtain ⟨rfl, rfl, rfl, _, ⟨a2, ac2, rfl⟩, b2, o2, ka2, kc2, rfl, _, _⟩ := t2.inv
  have BY := (Below.refl w1.heap.size w1).alloc (Nat.le_refl _) (.cells #[.string u, .string ⟨#[97]⟩, .slice a 0 ac, .slice (some ⟨b, o, none⟩) 1 kc, .int .i64 0] 25)
  have LY := Lies.new w1 25 #[.string u, .string ⟨#[97]⟩, .slice a 0 ac, .slice (some ⟨b, o, none⟩) 1 kc, .int .i64 0]
  have p0 := LY.cell 0
  have p2 := LY.cell 2
  have p3 := LY.cell 3
  simp only [List.getElem?_toArray, List.getElem?_cons_zero, List.getElem?_cons_succ] at p0 p2 p3
  rw [Nat.mul_zero, Nat.add_zero] at f0 f1
  have f0 := cell_below BY rfl f0
  have f1 := cell_below BY rfl f1
  have BF := hideT (BB.trans ((b1.trans (BY.mono b1.size)).mono BB.size))
  have HOK := hideT (hok.below BF.out hok.lt)
  clear hW1 B1 L1 z1 BT1 hW2 B2 L2 z2 BT2 hW3 B3 L3 z3 BT3 hW4 B4 L4 z4 BT4 hW5 B5 L5 z5 BT5 hW6 B6 L6 z6 BT6 hW7 B7 L7 z7 BT7 hE hF eo hk t1 t2 BY LY f2 f3 f4 BB b1 hok
  go_wp2_with fail
  refine (knownS _ HOK.out).mono ?_
  rintro e w9 ⟨rfl, b9⟩
  go_wp2_with fail
  go_ret
  exact ⟨rfl, BF.out.trans (b9.mono BF.out.size)⟩
set_option maxHeartbeats 4000000 in
theorem spaceMixed_walk (u : ByteArray) (hu : u.size ≤ maxLen) (v : ByteArray) (hv : v.size ≤ maxLen) (way : Int) (hway : (Lit.int .i64 way).wf = true) (w : World) (hok : OkS w) :
    Calls Try.prog 8 #[.string u, .string v, .int .i64 way] w fun e w' => e = .returned (.bool true) ∧ Below w.heap.size w w' := by
  by_cases h1 : u = e0
  · subst h1
    go_enter Try.func8, Try.ntmps8
    go_wp2_with fail
    go_ret
    exact ⟨rfl, Below.refl _ _⟩
  by_cases h2 : v = e0
  · obtain ⟨s1, s2⟩ := tl_empty h1
    clear h1
    subst h2
    go_enter Try.func8, Try.ntmps8
    go_wp2_with fail
    go_ret
    exact ⟨rfl, Below.refl _ _⟩
  obtain ⟨s1, s2⟩ := tl_empty h1
  obtain ⟨s3, s4⟩ := tl_empty h2
  have H1 := hideT h1
  have H2 := hideT h2
  clear h1 h2
  by_cases h3 : (u.size : Int) > 50
  · skip
    go_enter Try.func8, Try.ntmps8
    go_wp2_with fail
    go_ret
    exact ⟨rfl, Below.refl _ _⟩
  by_cases h4 : (v.size : Int) > 50
  · skip
    go_enter Try.func8, Try.ntmps8
    go_wp2_with fail
    go_ret
    exact ⟨rfl, Below.refl _ _⟩
  by_cases h5 : way < 0
  · skip
    go_enter Try.func8, Try.ntmps8
    go_wp2_with fail
    go_ret
    exact ⟨rfl, Below.refl _ _⟩
  by_cases h6 : way > 3
  · skip
    go_enter Try.func8, Try.ntmps8
    go_wp2_with fail
    go_ret
    exact ⟨rfl, Below.refl _ _⟩
  have h7 : way = 0 ∨ way = 1 ∨ way = 2 ∨ way = 3 := by omega
  rcases h7 with rfl | rfl | rfl | rfl
  · exact mixed_0 u v h3 h4 H1.out H2.out w hok
  · exact mixed_1 u v h3 h4 H1.out H2.out w hok
  · exact mixed_2 u v h3 h4 H1.out H2.out w hok
  · exact mixed_3 u v h3 h4 H1.out H2.out w hok
end Go.Proofs.Ythbkipmimkepkaa
