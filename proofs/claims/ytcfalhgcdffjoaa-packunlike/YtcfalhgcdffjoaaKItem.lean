/-
  The writer: sentries, an item.
-/
import Derived.Test.YtcfalhgcdffjoaaKSent
set_option linter.unusedSimpArgs false
set_option linter.unusedVariables false
namespace Go.Proofs.Ytcfalhgcdffjoaa
open Go.RowKit
set_option maxRecDepth 100000
set_option maxHeartbeats 8000000 in
theorem sentriesWr (wB : World) (m : Mp.Model) (af ai : Option Addr) (cf ci : Nat) (hm : ModelAt wB af cf ai ci m) (b : Nat) (ov : Value) (l : List UInt8) (w : World) (hB : Below wB.heap.size wB w) (h : WIn wB.heap.size b w (.slice af m.files.length cf) (.slice ai m.items.length ci) ov l) (s : List Mp.Sent) (a1 : Option Addr) (c1 : Nat) (r1 : SRow wB (.slice a1 s.length c1) s) (hx : Mp.sentsB m s = true) (L : List UInt8) (hL : Hid (l ++ Kp.sentsW m s = L)) (hl : L.length ≤ 1000000) :
    Calls Try.prog 60 #[.pointer (some ⟨b, 0, none⟩), .slice a1 s.length c1] w (WPost wB.heap.size b (.slice af m.files.length cf) (.slice ai m.items.length ci) L w) := by
  unfold Mp.sentsB at hx
  simp only [Bool.and_eq_true, decide_eq_true_eq] at hx
  obtain ⟨hs1, hs2⟩ := hx
  have HS := hideT (List.all_eq_true.1 hs2)
  obtain ⟨_, _, hcap1, ob, oo, oa, oc⟩ := srow_at r1
  have HM := hideT hm
  have HOA := hideT oa
  have HOC := hideT oc
  have HB := hideT hB
  have HI := hideT h
  have hHw : wB.heap.size ≤ w.heap.size := hB.size
  obtain ⟨l1, E1⟩ : ∃ l1, Hid (l ++ Kp.num s.length = l1) := ⟨_, rfl⟩
  have EL1 : Hid (l1 ++ s.flatMap (Kp.sentW m) = L) := by
    show _ = _
    rw [← hL.out, ← E1.out, List.append_assoc]
    rfl
  have hll := le_of_app hL.out hl
  clear r1 oa oc hB h hs2 hm
  go_enter Try.func60, Try.ntmps60
  go_wp2_with fail
  refine (numberD _ b _ _ ov l s.length w HI.out hHw (by omega) hll l1 E1).mono ?_
  rintro e w1 ⟨rfl, ov1, i1, q1⟩
  have I1 := hideT i1
  have Q1 := hideT q1
  clear i1 q1
  go_wp2_with fail
  go_loopw [12] (fun i wr => ∃ (k : Nat) (ov' : Value) (l' : List UInt8), k ≤ s.length ∧ i = .int .i64 k ∧ Hid (WIn wB.heap.size b wr (.slice af m.files.length cf) (.slice ai m.items.length ci) ov' l') ∧ Hid (l' ++ (s.drop k).flatMap (Kp.sentW m) = L) ∧ Hid (Wr wB.heap.size b w wr)) (fun i _ => s.length - (intOf i).toNat)
  case atStart => exact ⟨0, ov1, l1, Nat.zero_le _, rfl, I1, EL1, Q1⟩
  case round =>
    obtain ⟨k, ov', l', hk, rfl, HI2, HE, HW2⟩ := hrel
    have BB := hideT (HB.out.trans HW2.out.1)
    have hHr : wB.heap.size ≤ wr.heap.size := BB.out.size
    by_cases hlt : k < s.length
    · obtain ⟨⟨s1, s2⟩, ho⟩ := Mp.at_lt hlt
      obtain rfl := HOA.out (by omega)
      obtain ⟨p1, d1, p2, d2, ro, rc, e0, e1⟩ := HOC.out k _ ho
      have HSB := hideT (HS.out _ (List.mem_of_getElem? ho))
      dsimp only at ro rc e0 e1
      have f0 := below_cell BB.out _ _ e0
      have f1 := below_cell BB.out _ _ e1
      have HRO := hideT ro
      have HRC := hideT rc
      obtain ⟨l2, E2⟩ : ∃ l2, Hid (l' ++ Kp.sentW m (s1, s2) = l2) := ⟨_, rfl⟩
      have EL3 : Hid (l2 ++ (s.drop (k + 1)).flatMap (Kp.sentW m) = L) := by
        show _ = _
        rw [← HE.out, flatMap_at ho, ← E2.out, List.append_assoc]
      have hl2 := le_of_app EL3.out hl
      obtain ⟨V, hV⟩ : ∃ V, wr.alloc (.cells #[.slice p1 s1.length d1, .slice p2 s2.length d2] 47) = V := ⟨_, rfl⟩
      obtain ⟨BV, LV, zV⟩ := of_alloc hV
      have HBV := hideT BV
      have HVq := hideT hV
      have IV := hideT (HI2.out.below BV)
      have WV := hideT (HW2.out.trans (Wr.of_below (b := b) hHr BV))
      have y0 : V.cell? ⟨wr.heap.size, 0, none⟩ = some (.slice p1 s1.length d1) := LV.cell 0
      have y1 : V.cell? ⟨wr.heap.size, 1, none⟩ = some (.slice p2 s2.length d2) := LV.cell 1
      clear hV BV LV ho e0 e1 ro rc
      go_wp2_with fail
      first | rw [HVq.out] | skip
      refine (sentryD wB m af ai cf ci HM.out b ov' l' V (BB.out.trans (HBV.out.mono hHr)) IV.out s1 s2 p1 p2 d1 d2 HRO.out HRC.out HSB.out l2 E2 hl2).mono ?_
      rintro e w4 ⟨rfl, ov4, i4, q4⟩
      have I4 := hideT i4
      have W4 := hideT (WV.out.trans q4)
      clear i4 q4 y0 y1
      go_wp2_with fail
      go_roundw
      case rel => exact ⟨k + 1, ov4, l2, by omega, by go_num, I4, EL3, W4⟩
      case measure => simp [intOf]; omega
    · have EL9 : Hid (l' = L) := by
        show _ = _
        rw [← HE.out, show k = s.length by omega, List.drop_length, List.flatMap_nil, List.append_nil]
      go_wp2_with fail
      first | go_end0 | refine bodyPost_ret (results_none rfl _ _ _) rfl ?_
      exact ⟨rfl, _, by rw [← EL9.out]; exact HI2.out, HW2.out⟩
theorem numberV (H b : Nat) (fv iv ov : Value) (l : List UInt8) (v n : Int) (w : World) (h : WIn H b w fv iv ov l) (hH : H ≤ w.heap.size) (hn : n < 9223372036854775808) (hl : l.length ≤ 1000000) (L : List UInt8) (hL : Hid (l ++ Kp.num n = L)) (hv : v = n) :
    Calls Try.prog 39 #[.pointer (some ⟨b, 0, none⟩), .int .i64 v] w (WPost H b fv iv L w) := by
  subst hv
  exact numberD H b fv iv ov l v w h hH hn hl L hL
set_option maxHeartbeats 8000000 in
theorem itemWr (wB : World) (m : Mp.Model) (af ai : Option Addr) (cf ci : Nat) (hm : ModelAt wB af cf ai ci m) (b : Nat) (ov : Value) (l : List UInt8) (w : World) (hB : Below wB.heap.size wB w) (h : WIn wB.heap.size b w (.slice af m.files.length cf) (.slice ai m.items.length ci) ov l) (x : Mp.Item) (a5 a6 : Option Addr) (c5 c6 : Nat) (r5 : SRow wB (.slice a5 x.entry.length c5) x.entry) (r6 : SRow wB (.slice a6 x.exit.length c6) x.exit) (hx : Kp.Fine m x) (L : List UInt8) (hL : Hid (l ++ Kp.itemW m x = L)) (hl : L.length ≤ 1000000) :
    Calls Try.prog 41 #[.pointer (some ⟨b, 0, none⟩), .agg #[.string x.id, .int .i64 x.kind, .string x.parent, .bool x.req, .int .i64 x.ticks, .slice a5 x.entry.length c5, .slice a6 x.exit.length c6]] w (WPost wB.heap.size b (.slice af m.files.length cf) (.slice ai m.items.length ci) L w) := by
  obtain ⟨_, hil, _⟩ := irow_at hm.items
  have hkind := hx.kind
  have hticks := hx.ticks
  have HSE := hideT hx.entry
  have HSX := hideT hx.exit
  obtain ⟨id, kind, par, req, ticks, en, ex⟩ := x
  dsimp only at *
  have HM := hideT hm
  have HR5 := hideT r5
  have HR6 := hideT r6
  have HB := hideT hB
  have HI := hideT h
  have hHw : wB.heap.size ≤ w.heap.size := hB.size
  obtain ⟨pz, EP⟩ : ∃ pz, Hid (Mp.placeZ m.items par = pz) := ⟨_, rfl⟩
  have hpz := placeZ_lt63 m.items par hil
  rw [EP.out] at hpz
  obtain ⟨hp1, hp2⟩ := hpz
  obtain ⟨l1, E1⟩ : ∃ l1, Hid (l ++ Kp.num kind = l1) := ⟨_, rfl⟩
  obtain ⟨l2, E2⟩ : ∃ l2, Hid (l1 ++ Kp.num (pz + 1) = l2) := ⟨_, rfl⟩
  obtain ⟨l3, E3⟩ : ∃ l3, Hid (l2 ++ Kp.num (if req = true then 1 else 0) = l3) := ⟨_, rfl⟩
  obtain ⟨l4, E4⟩ : ∃ l4, Hid (l3 ++ Kp.num ticks = l4) := ⟨_, rfl⟩
  obtain ⟨l5, E5⟩ : ∃ l5, Hid (l4 ++ Kp.sentsW m en = l5) := ⟨_, rfl⟩
  have E6 : Hid (l5 ++ Kp.sentsW m ex = L) := by
    show _ = _
    rw [← hL.out, ← E5.out, ← E4.out, ← E3.out, ← E2.out, ← E1.out, ← EP.out]
    unfold Kp.itemW
    simp only [List.append_assoc]
  have h5 := le_of_app E6.out hl
  have h4 := le_of_app E5.out h5
  have h3 := le_of_app E4.out h4
  have h2 := le_of_app E3.out h3
  have h1 := le_of_app E2.out h2
  have h0 := le_of_app E1.out h1
  obtain ⟨W, hW⟩ : ∃ W, w.alloc (.cells #[.string id, .int .i64 kind, .string par, .bool req, .int .i64 ticks, .slice a5 en.length c5, .slice a6 ex.length c6] 41) = W := ⟨_, rfl⟩
  obtain ⟨BW, LW, zW⟩ := of_alloc hW
  have HBW := hideT BW
  have HLW := hideT LW
  have HWq := hideT hW
  have WW := hideT (Wr.of_below (b := b) hHw BW)
  have IW := hideT (HI.out.below BW)
  have hne : w.heap.size ≠ b := by have := HI.out.lies.lt; omega
  have u1 : W.cell? ⟨w.heap.size, 1, none⟩ = some (.int .i64 kind) := LW.cell 1
  have hszW := BW.size
  clear hm r5 r6 hx hB h hW LW BW
  go_enter Try.func41, Try.ntmps41
  go_wp2_with fail
  rw [HWq.out]
  refine (numberD _ b _ _ ov l kind W IW.out (by omega) (by omega) h0 l1 E1).mono ?_
  rintro e w1 ⟨rfl, ov1, i1, q1⟩
  have I1 := hideT i1
  have Q1 := hideT (WW.out.trans q1)
  have L1 := hideT (q1.2 _ _ _ HLW.out hne (by decide))
  have B1 := hideT (HB.out.trans Q1.out.1)
  have y0 : w1.cell? ⟨b, 0, none⟩ = some (.slice af m.files.length cf) := i1.cells.1
  have y1 : w1.cell? ⟨b, 1, none⟩ = some (.slice ai m.items.length ci) := i1.cells.2.1
  have y2 : w1.cell? ⟨w.heap.size, 2, none⟩ = some (.string par) := L1.out.cell 2
  have hs1 := B1.out.size
  clear i1 q1 u1
  go_wp2_with fail
  go_region_held3 (fun w' => w'.cell? ⟨b, 0, none⟩ = some (.slice af m.files.length cf) ∧ w'.cell? ⟨b, 1, none⟩ = some (.slice ai m.items.length ci) ∧ w'.cell? ⟨w.heap.size, 2, none⟩ = some (.string par)) (go_keep) (first
    | (go_at_call 59; refine (placeD _ _ _ _ _ m.items par (irow_below HM.out.items (B1.out.trans (below_drewN (Below.refl _ w1) 1)))).mono ?_; rintro e w2 ⟨rfl, b2⟩; rw [EP.out]; have bV2 : Below w1.heap.size w1 w2 := (below_drewN (Below.refl _ w1) 1).trans b2; have z0 := below_cell bV2 _ _ y0; have z1 := below_cell bV2 _ _ y1; have z2 := below_cell bV2 _ _ y2)
    | (go_at_call 39; refine (numberV _ b _ _ ov1 l1 _ (pz + 1) _ (I1.out.below bV2) (by have := bV2.size; omega) (by omega) h1 l2 E2 (by first | omega | (unfold wrap64; omega) | (simp only [IntKind.wrap_i64]; omega))).mono ?_; rintro e w3 ⟨rfl, ov3, i3, q3⟩; have z0' := i3.cells.1; have z1' := i3.cells.2.1; have z2' : w3.cell? ⟨w.heap.size, 2, none⟩ = some (.string par) := (q3.2 _ _ _ (L1.out.below bV2) hne (by decide)).cell 2))
  all_goals
    have L3 := hideT (q3.2 _ _ _ (L1.out.below bV2) hne (by decide))
    have Q3 := hideT ((Q1.out.trans (Wr.of_below (b := b) hs1 bV2)).trans q3)
    have I3 := hideT i3
    have v3 : w3.cell? ⟨w.heap.size, 3, none⟩ = some (.bool req) := L3.out.cell 3
    have hs3 := (HB.out.trans Q3.out.1).size
    clear i3 q3 z0 z1 z2 z0' z1' z2' y0 y1 y2 bV2 b2
    obtain ⟨rq, ERQ⟩ : ∃ rq, Hid (req = rq) := ⟨_, rfl⟩
    rw [ERQ.out] at v3
    cases rq
    all_goals
      go_wp2_with fail
      refine (numberV _ b _ _ ov3 l2 _ (if req = true then 1 else 0) w3 I3.out hs3 (by split <;> decide) h2 l3 E3 (by rw [ERQ.out]; decide)).mono ?_
      rintro e w4 ⟨rfl, ov4, i4, q4⟩
      have I4 := hideT i4
      have Q4 := hideT (Q3.out.trans q4)
      have L4 := hideT (q4.2 _ _ _ L3.out hne (by decide))
      have hs4 := (HB.out.trans Q4.out.1).size
      have v4 : w4.cell? ⟨w.heap.size, 4, none⟩ = some (.int .i64 ticks) := L4.out.cell 4
      clear i4 q4 v3
      go_wp2_with fail
      refine (numberD _ b _ _ ov4 l3 ticks w4 I4.out hs4 (by omega) h3 l4 E4).mono ?_
      rintro e w5 ⟨rfl, ov5, i5, q5⟩
      have I5 := hideT i5
      have Q5 := hideT (Q4.out.trans q5)
      have L5 := hideT (q5.2 _ _ _ L4.out hne (by decide))
      have v5 : w5.cell? ⟨w.heap.size, 5, none⟩ = some (.slice a5 en.length c5) := L5.out.cell 5
      clear i5 q5 v4
      go_wp2_with fail
      refine (sentriesWr wB m af ai cf ci HM.out b ov5 l4 w5 (HB.out.trans Q5.out.1) I5.out en a5 c5 HR5.out HSE.out l5 E5 h5).mono ?_
      rintro e w6 ⟨rfl, ov6, i6, q6⟩
      have I6 := hideT i6
      have Q6 := hideT (Q5.out.trans q6)
      have L6 := hideT (q6.2 _ _ _ L5.out hne (by decide))
      have v6 : w6.cell? ⟨w.heap.size, 6, none⟩ = some (.slice a6 ex.length c6) := L6.out.cell 6
      clear i6 q6 v5
      go_wp2_with fail
      refine (sentriesWr wB m af ai cf ci HM.out b ov6 l5 w6 (HB.out.trans Q6.out.1) I6.out ex a6 c6 HR6.out HSX.out L E6 hl).mono ?_
      rintro e w7 ⟨rfl, ov7, i7, q7⟩
      have I7 := hideT i7
      have Q7 := hideT (Q6.out.trans q7)
      clear i7 q7 v6
      go_wp2_with fail
      first | go_end0 | refine bodyPost_ret (results_none rfl _ _ _) rfl ?_
      exact ⟨rfl, _, I7.out, Q7.out⟩
end Go.Proofs.Ytcfalhgcdffjoaa
