/-
  The document's item.
-/
import Derived.Test.YtpipjkbgbhefcaaGreatMRef3
set_option linter.unusedSimpArgs false
set_option linter.unusedVariables false
namespace Go.Proofs.YtpipjkbgbhefcaaGreat
open Go.RowKit
set_option maxRecDepth 100000
theorem isRV (s : ByteArray) (w : World) (hs : s.size ≤ 140737488355328) (b : Bool) (h : Hid (Mp.isN s = b)) :
    Calls Tryz.prog 37 #[.string s] w fun e w' => e = .returned (.bool b) ∧ w' = w := by
  have := isRef_any s w (by unfold maxLen; omega)
  rw [← h.out]
  exact this
theorem depthRV (w : World) (m : Mp.Model) (af ai : Option Addr) (cf ci : Nat) (hm : ModelAt w af cf ai ci m) (i0 : Nat) (hi0 : i0 < m.items.length) (z : Int) (hz : Hid (Mp.depthZ m.items i0 = z)) :
    Calls Tryz.prog 70 #[.agg #[.slice af m.files.length cf, .slice ai m.items.length ci], .int .i64 i0] w fun e w' => e = .returned (.int .i64 z) ∧ Below w.heap.size w w' := by
  rw [← hz.out]
  exact depthRef w m af ai cf ci hm i0 hi0
theorem withinRV (w : World) (m : Mp.Model) (af ai : Option Addr) (cf ci : Nat) (hm : ModelAt w af cf ai ci m) (i0 : Nat) (hi0 : i0 < m.items.length) (j : Int) (hj : j = i0) (s : ByteArray) (b : Bool) (hb : Hid (Mp.withinZ m.items j s = b)) :
    Calls Tryz.prog 69 #[.agg #[.slice af m.files.length cf, .slice ai m.items.length ci], .int .i64 j, .string s] w fun e w' => e = .returned (.bool b) ∧ Below w.heap.size w w' := by
  rw [← hb.out, hj]
  exact withinRef w m af ai cf ci hm i0 hi0 s
/-- What an item's own fields say. -/
def ownB (x : Mp.Item) : Bool := Mp.kindB x.kind && Mp.ticksB x && Mp.waitB x
/-- The ways in which an item's own fields may be. -/
theorem own_ways {x : Mp.Item} (h : ownB x = true) : ((x.kind == 5) = true ∧ 5 ≤ x.kind ∧ x.kind ≤ 5 ∧ 1 ≤ x.ticks ∧ x.ticks ≤ 100 ∧ x.req = false ∧ x.entry = []) ∨ ((x.kind == 5) = false ∧ 4 ≤ x.kind ∧ x.kind ≤ 4 ∧ (x.ticks == 0) = true ∧ x.req = false ∧ x.entry = []) ∨ ((x.kind == 5) = false ∧ 1 ≤ x.kind ∧ x.kind ≤ 3 ∧ (x.ticks == 0) = true) := by
  unfold ownB Mp.kindB Mp.ticksB Mp.waitB at h
  simp only [Bool.and_eq_true, decide_eq_true_eq] at h
  obtain ⟨⟨⟨h1, h2⟩, h3⟩, h4⟩ := h
  by_cases h5 : x.kind = 5
  · rw [if_pos h5] at h3
    rw [if_pos (.inr h5)] at h4
    simp only [Bool.and_eq_true, decide_eq_true_eq, Bool.not_eq_true'] at h3 h4
    exact .inl ⟨beq_iff_eq.2 h5, by omega, by omega, h3.1, h3.2, h4.1, List.eq_nil_of_length_eq_zero h4.2⟩
  · rw [if_neg h5] at h3
    have h3 := of_decide_eq_true h3
    by_cases h6 : x.kind = 4
    · rw [if_pos (.inl h6)] at h4
      simp only [Bool.and_eq_true, decide_eq_true_eq, Bool.not_eq_true'] at h4
      exact .inr (.inl ⟨beq_eq_false_iff_ne.2 h5, by omega, by omega, beq_iff_eq.2 h3, h4.1, List.eq_nil_of_length_eq_zero h4.2⟩)
    · exact .inr (.inr ⟨beq_eq_false_iff_ne.2 h5, by omega, by omega, beq_iff_eq.2 h3⟩)
/-- The ways in which they may not. -/
theorem own_not {x : Mp.Item} (h : ownB x = false) : x.kind < 1 ∨ 5 < x.kind ∨
    (1 ≤ x.kind ∧ x.kind ≤ 5 ∧ (x.kind == 5) = true ∧ x.ticks < 1) ∨ (1 ≤ x.kind ∧ x.kind ≤ 5 ∧ (x.kind == 5) = true ∧ 1 ≤ x.ticks ∧ 100 < x.ticks) ∨
    (1 ≤ x.kind ∧ x.kind ≤ 5 ∧ (x.kind == 5) = false ∧ (x.ticks == 0) = false) ∨
    (4 ≤ x.kind ∧ x.kind ≤ 5 ∧ (x.kind == 5) = true ∧ 1 ≤ x.ticks ∧ x.ticks ≤ 100 ∧ x.req = true) ∨ (4 ≤ x.kind ∧ x.kind ≤ 5 ∧ (x.kind == 5) = true ∧ 1 ≤ x.ticks ∧ x.ticks ≤ 100 ∧ x.req = false ∧ (0 : Int) < x.entry.length) ∨
    (4 ≤ x.kind ∧ x.kind ≤ 5 ∧ (x.kind == 5) = false ∧ (x.ticks == 0) = true ∧ x.req = true) ∨ (4 ≤ x.kind ∧ x.kind ≤ 5 ∧ (x.kind == 5) = false ∧ (x.ticks == 0) = true ∧ x.req = false ∧ (0 : Int) < x.entry.length) := by
  by_cases k1 : x.kind < 1
  · exact .inl k1
  by_cases k2 : 5 < x.kind
  · exact .inr (.inl k2)
  have hk : Mp.kindB x.kind = true := by unfold Mp.kindB; rw [decide_eq_true (by omega), decide_eq_true (by omega)]; rfl
  unfold ownB at h
  rw [hk, Bool.true_and] at h
  have hlen : (0 : Int) < x.entry.length ∨ x.entry.length = 0 := by omega
  by_cases h5 : x.kind = 5
  · have b5 : (x.kind == 5) = true := beq_iff_eq.2 h5
    by_cases t1 : x.ticks < 1
    · exact .inr (.inr (.inl ⟨by omega, by omega, b5, t1⟩))
    by_cases t2 : 100 < x.ticks
    · exact .inr (.inr (.inr (.inl ⟨by omega, by omega, b5, by omega, t2⟩)))
    have ht : Mp.ticksB x = true := by unfold Mp.ticksB; rw [if_pos h5, decide_eq_true (by omega), decide_eq_true (by omega)]; rfl
    rw [ht, Bool.true_and] at h
    unfold Mp.waitB at h
    rw [if_pos (.inr h5)] at h
    cases hr : x.req with
    | true => exact .inr (.inr (.inr (.inr (.inr (.inl ⟨by omega, by omega, b5, by omega, by omega, rfl⟩)))))
    | false =>
      rw [hr] at h
      rcases hlen with hl | hl
      · exact .inr (.inr (.inr (.inr (.inr (.inr (.inl ⟨by omega, by omega, b5, by omega, by omega, rfl, hl⟩))))))
      · rw [decide_eq_true hl] at h
        cases h
  · have b5 : (x.kind == 5) = false := beq_eq_false_iff_ne.2 h5
    by_cases t0 : x.ticks = 0
    · have c0 : (x.ticks == 0) = true := beq_iff_eq.2 t0
      have ht : Mp.ticksB x = true := by unfold Mp.ticksB; rw [if_neg h5, decide_eq_true t0]
      rw [ht, Bool.true_and] at h
      unfold Mp.waitB at h
      by_cases h4 : x.kind = 4
      · rw [if_pos (.inl h4)] at h
        cases hr : x.req with
        | true => exact .inr (.inr (.inr (.inr (.inr (.inr (.inr (.inl ⟨by omega, by omega, b5, c0, rfl⟩)))))))
        | false =>
          rw [hr] at h
          rcases hlen with hl | hl
          · exact .inr (.inr (.inr (.inr (.inr (.inr (.inr (.inr ⟨by omega, by omega, b5, c0, rfl, hl⟩)))))))
          · rw [decide_eq_true hl] at h
            cases h
      · rw [if_neg (by omega)] at h
        cases h
    · exact .inr (.inr (.inr (.inr (.inl ⟨by omega, by omega, b5, beq_eq_false_iff_ne.2 t0⟩))))
theorem e0_tl : Mp.e0.toList = [] := by rw [ByteArray.toList_eq]
theorem itemR_own (l : List Mp.Item) (i : Nat) (x : Mp.Item) : Mp.itemR l i x = (Mp.isN x.id && decide (Mp.placeZ l x.id = i) && ownB x && (if i = 0 then Mp.planB x else Mp.nestedR l i x)) := by
  unfold Mp.itemR ownB
  cases Mp.isN x.id <;> cases decide (Mp.placeZ l x.id = i) <;> cases Mp.kindB x.kind <;> cases Mp.ticksB x <;> cases Mp.waitB x <;> rfl
set_option maxHeartbeats 8000000 in
set_option maxRecDepth 100000 in
theorem itemRef (w : World) (m : Mp.Model) (af ai : Option Addr) (cf ci : Nat) (hm : ModelAt w af cf ai ci m) (i : Nat) (hi : i < m.items.length) (x : Mp.Item) (hx : m.items[i]? = some x) :
    Calls Tryz.prog 39 #[.agg #[.slice af m.files.length cf, .slice ai m.items.length ci], .int .i64 i] w fun e w' => e = .returned (.bool (Mp.itemR m.items i x)) ∧ Below w.heap.size w w' := by
  obtain ⟨_, hil, hicap, b, o, ha, hc⟩ := irow_at hm.items
  obtain rfl := ha (by omega)
  obtain ⟨a5, c5, a6, c6, I0⟩ := hc i x hx
  obtain ⟨_, hl5, _⟩ := srow_at I0.entry
  obtain ⟨_, hl6, _⟩ := srow_at I0.exit
  have HC := hideT hc
  have HM := hideT hm
  have M0 := hideT (MR.new w m af (some ⟨b, o, none⟩) cf ci)
  have HEQ := hideT (itemR_own m.items i x)
  have HZ := hideT I0.zid
  have t0 : (0 : Int) ≤ (i : Int) := by omega
  have t1 : (i : Int) < (m.items.length : Int) := by omega
  have d0 := I0.c0
  have d1 := I0.c1
  have d2 := I0.c2
  have d3 := I0.c3
  have d4 := I0.c4
  have d5 := I0.c5
  have d6 := I0.c6
  have hbl := cell_lt d0
  have M1 := hideT (M0.out.below ((Below.refl _ _).alloc (Nat.le_refl _) (.cells #[.string x.id, .int .i64 x.kind, .string x.parent, .bool x.req, .int .i64 x.ticks, .slice a5 x.entry.length c5, .slice a6 x.exit.length c6] 48)))
  have LX : Hid (Lies ((w.alloc (.cells #[.slice af m.files.length cf, .slice (some ⟨b, o, none⟩) m.items.length ci] 25)).alloc (.cells #[.string x.id, .int .i64 x.kind, .string x.parent, .bool x.req, .int .i64 x.ticks, .slice a5 x.entry.length c5, .slice a6 x.exit.length c6] 48)) (w.heap.size + 1) 48 #[.string x.id, .int .i64 x.kind, .string x.parent, .bool x.req, .int .i64 x.ticks, .slice a5 x.entry.length c5, .slice a6 x.exit.length c6]) := by
    have := Lies.new (w.alloc (.cells #[.slice af m.files.length cf, .slice (some ⟨b, o, none⟩) m.items.length ci] 25)) 48 #[.string x.id, .int .i64 x.kind, .string x.parent, .bool x.req, .int .i64 x.ticks, .slice a5 x.entry.length c5, .slice a6 x.exit.length c6]
    rwa [show (w.alloc (.cells #[.slice af m.files.length cf, .slice (some ⟨b, o, none⟩) m.items.length ci] 25)).heap.size = w.heap.size + 1 by simp] at this
  clear hc ha hm I0 hx
  obtain ⟨b1, H1⟩ : ∃ y, Hid (Mp.isN x.id = y) := ⟨_, rfl⟩
  obtain ⟨zi, HPI⟩ : ∃ z, Hid (Mp.placeZ m.items x.id = z) := ⟨_, rfl⟩
  obtain ⟨bo, HO⟩ : ∃ y, Hid (ownB x = y) := ⟨_, rfl⟩
  go_enter Tryz.func39, Tryz.ntmps39
  go_wp2_with fail
  refine (isRV x.id _ HZ.out b1 H1).mono ?_
  rintro e w0 ⟨rfl, rfl⟩
  cases b1
  · have HR : Hid (Mp.itemR m.items i x = false) := by show _ = _; rw [HEQ.out, H1.out]; rfl
    go_wp2_with fail
    go_ret
    exact ⟨ret_b HR.out.symm, M1.out.1⟩
  go_wp2_with fail
  refine (placeRV _ _ _ m.items.length ci m.items x.id (irow_below HM.out.items M1.out.1) zi HPI).mono ?_
  rintro e w2 ⟨rfl, p2⟩
  have M2 := hideT (M1.out.below p2)
  have LX2 := hideT (LX.out.below p2)
  clear p2 d0 d1 d2 d3 d4 d5 d6
  have d1 : w2.cell? ⟨w.heap.size + 1, 1, none⟩ = some (.int .i64 x.kind) := LX2.out.cell 1
  have d2 : w2.cell? ⟨w.heap.size + 1, 2, none⟩ = some (.string x.parent) := LX2.out.cell 2
  have d3 : w2.cell? ⟨w.heap.size + 1, 3, none⟩ = some (.bool x.req) := LX2.out.cell 3
  have d4 : w2.cell? ⟨w.heap.size + 1, 4, none⟩ = some (.int .i64 x.ticks) := LX2.out.cell 4
  have d5 : w2.cell? ⟨w.heap.size + 1, 5, none⟩ = some (.slice a5 x.entry.length c5) := LX2.out.cell 5
  have d6 : w2.cell? ⟨w.heap.size + 1, 6, none⟩ = some (.slice a6 x.exit.length c6) := LX2.out.cell 6
  have x0 : w2.cell? ⟨w.heap.size, 0, none⟩ = some (.slice af m.files.length cf) := M2.out.2.cell 0
  have x1 : w2.cell? ⟨w.heap.size, 1, none⟩ = some (.slice (some ⟨b, o, none⟩) m.items.length ci) := M2.out.2.cell 1
  by_cases hzi : zi = (i : Int)
  rotate_left
  · have HR : Hid (Mp.itemR m.items i x = false) := by show _ = _; rw [HEQ.out, H1.out, decide_eq_false (by rw [HPI.out]; exact hzi)]; rfl
    have e1 : (zi != (i : Int)) = true := bne_iff_ne.2 hzi
    clear hzi
    go_wp2_with fail
    go_ret
    exact ⟨ret_b HR.out.symm, M2.out.1⟩
  subst hzi
  cases bo
  · have HR : Hid (Mp.itemR m.items i x = false) := by show _ = _; rw [HEQ.out, HO.out]; simp
    rcases own_not HO.out with k | k | ⟨k1, k2, k3, k4⟩ | ⟨k1, k2, k3, k4, k5⟩ | ⟨k1, k2, k3, k4⟩ | ⟨k1, k2, k3, k4, k5, k6⟩ | ⟨k1, k2, k3, k4, k5, k6, k7⟩ | ⟨k1, k2, k3, k4, k5⟩ | ⟨k1, k2, k3, k4, k5, k6⟩
    all_goals
      go_wp2_with fail
      go_ret
      exact ⟨ret_b HR.out.symm, M2.out.1⟩
  have HR : Hid (Mp.itemR m.items i x = (if i = 0 then Mp.planB x else Mp.nestedR m.items i x)) := by
    show _ = _
    rw [HEQ.out, H1.out, decide_eq_true HPI.out, HO.out]
    rfl
  by_cases hi0 : i = 0
  · subst hi0
    have HR0 : Hid (Mp.itemR m.items 0 x = Mp.planB x) := by show _ = _; rw [HR.out, if_pos rfl]
    rcases own_ways HO.out with ⟨k3, k1, k2, k4, k5, k6, k7⟩ | ⟨k3, k1, k2, k4, k6, k7⟩ | ⟨k3, k1, k2, k4⟩
    · have HP : Hid (Mp.planB x = false) := by show _ = _; unfold Mp.planB; rw [decide_eq_false (by omega)]; rfl
      have k8 : (x.kind == 1) = false := beq_eq_false_iff_ne.2 (by omega)
      go_wp2_with fail
      go_ret
      exact ⟨ret_b (by rw [HR0.out, HP.out]), M2.out.1⟩
    · have HP : Hid (Mp.planB x = false) := by show _ = _; unfold Mp.planB; rw [decide_eq_false (by omega)]; rfl
      have k8 : (x.kind == 1) = false := beq_eq_false_iff_ne.2 (by omega)
      go_wp2_with fail
      go_ret
      exact ⟨ret_b (by rw [HR0.out, HP.out]), M2.out.1⟩
    · go_wp2_with fail
      all_goals go_ret
      all_goals refine ⟨ret_b ?_, M2.out.1⟩
      all_goals rw [HR0.out]
      all_goals clear HR0 HR HO HPI H1 HEQ HZ HM HC M0 M1 LX M2 LX2 d1 d2 d3 d4 d5 d6 x0 x1
      all_goals (simp_all [Mp.planB, ba_eq, len_beq, int_beq])
  have HRN : Hid (Mp.itemR m.items i x = Mp.nestedR m.items i x) := by show _ = _; rw [HR.out, if_neg hi0]
  obtain ⟨z, HPZ⟩ : ∃ z, Hid (Mp.placeZ m.items x.parent = z) := ⟨_, rfl⟩
  have hzz : z = -1 ∨ ∃ p : Nat, ∃ y, z = p ∧ m.items[p]? = some y := by
    rcases placeZ_cases m.items x.parent with ⟨h, _⟩ | ⟨p, y, h, _, hy⟩
    · exact .inl (HPZ.out.symm.trans h)
    · exact .inr ⟨p, y, HPZ.out.symm.trans h, hy⟩
  have HZZ := hideT hzz
  obtain ⟨bw, HBW⟩ : ∃ y, Hid (Mp.withinZ m.items ((i : Int) - 1) x.parent = y) := ⟨_, rfl⟩
  obtain ⟨dz, HDZ⟩ : ∃ y, Hid (Mp.depthZ m.items i = y) := ⟨_, rfl⟩
  have HNE : Hid (Mp.nestedR m.items i x = (!decide (x.parent = Mp.e0) && decide (0 ≤ z) && decide (z < i) && decide (Mp.kindAt m.items z.toNat = 1) && bw && decide (1 ≤ dz) && decide (dz ≤ 5))) := by
    show _ = _
    unfold Mp.nestedR
    rw [HPZ.out, HBW.out, HDZ.out]
  have hi1 : ((i : Int) == 0) = false := beq_eq_false_iff_ne.2 (by omega)
  have HI0 := hideT hi0
  clear hzz hi0 HR
  rcases own_ways HO.out with ⟨k3, k1, k2, k4, k5, k6, k7⟩ | ⟨k3, k1, k2, k4, k6, k7⟩ | ⟨k3, k1, k2, k4⟩
  all_goals
    go_wp2_with fail
    refine (placeRV _ _ _ m.items.length ci m.items x.parent (irow_below HM.out.items M2.out.1) z HPZ).mono ?_
    rintro e w3 ⟨rfl, p3⟩
    have M3 := hideT (M2.out.below p3)
    have LX3 := hideT (LX2.out.below p3)
    clear p3 d1 d2 d3 d4 d5 d6 x0 x1
    have d2 : w3.cell? ⟨w.heap.size + 1, 2, none⟩ = some (.string x.parent) := LX3.out.cell 2
    have x0 : w3.cell? ⟨w.heap.size, 0, none⟩ = some (.slice af m.files.length cf) := M3.out.2.cell 0
    have x1 : w3.cell? ⟨w.heap.size, 1, none⟩ = some (.slice (some ⟨b, o, none⟩) m.items.length ci) := M3.out.2.cell 1
    by_cases hpe : x.parent = Mp.e0
    · have HQ : Hid (Mp.nestedR m.items i x = false) := by show _ = _; rw [HNE.out, decide_eq_true hpe]; rfl
      have e1 : x.parent.toList = [] := by rw [hpe]; exact e0_tl
      clear hpe
      go_wp2_with fail
      go_ret
      exact ⟨ret_b (by rw [HRN.out, HQ.out]), M3.out.1⟩
    have e1 : ¬ x.parent.toList = [] := tl_ne Mp.e0 [] hpe e0_tl
    have e2 : (x.parent.toList == []) = false := tl_beq Mp.e0 [] hpe e0_tl
    have HPE := hideT hpe
    clear hpe
    rcases HZZ.out with hz | ⟨p, y, hz, hy⟩
    · have HQ : Hid (Mp.nestedR m.items i x = false) := by show _ = _; rw [HNE.out, decide_eq_false (p := 0 ≤ z) (by omega)]; simp
      have t2 : ¬ 0 ≤ z := by omega
      clear hz
      go_wp2_with fail
      go_ret
      exact ⟨ret_b (by rw [HRN.out, HQ.out]), M3.out.1⟩
    subst hz
    have hpl : p < m.items.length := (List.getElem?_eq_some_iff.1 hy).1
    by_cases hpi : p < i
    rotate_left
    · have HQ : Hid (Mp.nestedR m.items i x = false) := by show _ = _; rw [HNE.out, decide_eq_false (p := (p : Int) < i) (by omega)]; simp
      have t2 : 0 ≤ (p : Int) := by omega
      have t3 : ¬ (p : Int) < (i : Int) := by omega
      go_wp2_with fail
      go_ret
      exact ⟨ret_b (by rw [HRN.out, HQ.out]), M3.out.1⟩
    obtain ⟨_, _, _, _, J0⟩ := HC.out p y hy
    have g1 := below_cell M3.out.1 _ _ J0.c1
    have HK : Hid (Mp.kindAt m.items (p : Int).toNat = y.kind) := by show _ = _; unfold Mp.kindAt; rw [Int.toNat_natCast, hy]
    clear J0 hy
    have t2 : 0 ≤ (p : Int) := by omega
    have t3 : (p : Int) < (i : Int) := by omega
    have t4 : (p : Int) < (m.items.length : Int) := by omega
    by_cases hk1 : y.kind = 1
    rotate_left
    · have HQ : Hid (Mp.nestedR m.items i x = false) := by show _ = _; rw [HNE.out, HK.out, decide_eq_false hk1]; simp
      have t5 : (y.kind == 1) = false := beq_eq_false_iff_ne.2 hk1
      clear hk1
      go_wp2_with fail
      go_ret
      exact ⟨ret_b (by rw [HRN.out, HQ.out]), M3.out.1⟩
    have t5 : (y.kind == 1) = true := beq_iff_eq.2 hk1
    have HNE2 : Hid (Mp.nestedR m.items i x = (bw && decide (1 ≤ dz) && decide (dz ≤ 5))) := by
      show _ = _
      rw [HNE.out, HK.out, decide_eq_true hk1, decide_eq_true t2, decide_eq_true t3, decide_eq_false HPE.out]
      rfl
    clear hk1
    go_wp2_with fail
    refine (withinRV _ m af _ cf ci (HM.out.below M3.out.1) (i - 1) (by omega) ((i : Int) - 1) (by have := HI0.out; omega) x.parent bw HBW).mono ?_
    rintro e w4 ⟨rfl, p4⟩
    have M4 := hideT (M3.out.below p4)
    clear p4 d2 x0 x1 g1
    have x0 : w4.cell? ⟨w.heap.size, 0, none⟩ = some (.slice af m.files.length cf) := M4.out.2.cell 0
    have x1 : w4.cell? ⟨w.heap.size, 1, none⟩ = some (.slice (some ⟨b, o, none⟩) m.items.length ci) := M4.out.2.cell 1
    cases bw
    · have HQ : Hid (Mp.nestedR m.items i x = false) := by show _ = _; rw [HNE2.out]; rfl
      go_wp2_with fail
      go_ret
      exact ⟨ret_b (by rw [HRN.out, HQ.out]), M4.out.1⟩
    go_wp2_with fail
    refine (depthRV _ m af _ cf ci (HM.out.below M4.out.1) i hi dz HDZ).mono ?_
    rintro e w5 ⟨rfl, p5⟩
    have M5 := hideT (M4.out.below p5)
    clear p5 x0 x1
    have x0 : w5.cell? ⟨w.heap.size, 0, none⟩ = some (.slice af m.files.length cf) := M5.out.2.cell 0
    have x1 : w5.cell? ⟨w.heap.size, 1, none⟩ = some (.slice (some ⟨b, o, none⟩) m.items.length ci) := M5.out.2.cell 1
    by_cases hd1 : 1 ≤ dz
    rotate_left
    · have HQ : Hid (Mp.nestedR m.items i x = false) := by show _ = _; rw [HNE2.out, decide_eq_false hd1]; rfl
      go_wp2_with fail
      go_ret
      exact ⟨ret_b (by rw [HRN.out, HQ.out]), M5.out.1⟩
    have HQ : Hid (Mp.nestedR m.items i x = decide (dz ≤ 5)) := by show _ = _; rw [HNE2.out, decide_eq_true hd1]; rfl
    go_wp2_with fail
    refine (depthRV _ m af _ cf ci (HM.out.below M5.out.1) i hi dz HDZ).mono ?_
    rintro e w6 ⟨rfl, p6⟩
    go_wp2_with fail
    go_ret
    exact ⟨ret_b (by rw [HRN.out, HQ.out]), M5.out.1.trans (p6.mono M5.out.1.size)⟩
end Go.Proofs.YtpipjkbgbhefcaaGreat
