/-
  The writer: a sentry more.
-/
import Derived.Test.YtcfalhgcdffjoaaKSmall
import Derived.Test.YtcfalhgcdffjoaaKBack
import Derived.Deep.RegionHeld3
set_option linter.unusedSimpArgs false
set_option linter.unusedVariables false
namespace Go.Proofs.Ytcfalhgcdffjoaa
open Go.RowKit
set_option maxRecDepth 100000
theorem flatMap_at {α β : Type} {l : List α} {k : Nat} {x : α} (h : l[k]? = some x) (f : α → List β) : (l.drop k).flatMap f = f x ++ (l.drop (k + 1)).flatMap f := by
  rw [Mp.drop_at h, List.flatMap_cons]
theorem le_of_app {α : Type} {a b L : List α} {n : Nat} (h : a ++ b = L) (hl : L.length ≤ n) : a.length ≤ n := by
  rw [← h, List.length_append] at hl
  omega
theorem placeZ_lt63 (l : List Mp.Item) (s : ByteArray) (h : l.length ≤ 10000000000000) : -1 ≤ Mp.placeZ l s ∧ Mp.placeZ l s < 20000000000000 := by
  have := Mp.placeZ_ge l s
  rcases Mp.placeZ_lt l s with h1 | h1 <;> omega
theorem idxZ_lt63 (l : List ByteArray) (s : ByteArray) (h : l.length ≤ 10000000000000) : idxZ l s < 20000000000000 := by
  unfold idxZ
  cases e : Mp.idx l s with
  | none => show (-1 : Int) < _; omega
  | some k =>
    obtain ⟨x, hx, _⟩ := Mp.find_some_inv e
    have := (List.getElem?_eq_some_iff.1 hx).1
    show (k : Int) < _
    omega
set_option maxHeartbeats 8000000 in
theorem sentryD (wB : World) (m : Mp.Model) (af ai : Option Addr) (cf ci : Nat) (hm : ModelAt wB af cf ai ci m) (b : Nat) (ov : Value) (l : List UInt8) (w : World) (hB : Below wB.heap.size wB w) (h : WIn wB.heap.size b w (.slice af m.files.length cf) (.slice ai m.items.length ci) ov l) (s1 : List Mp.On) (s2 : List Mp.Cond) (a1 a2 : Option Addr) (c1 c2 : Nat) (r1 : ORow wB (.slice a1 s1.length c1) s1) (r2 : CRow wB (.slice a2 s2.length c2) s2) (hx : Mp.sentB m (s1, s2) = true) (L : List UInt8) (hL : Hid (l ++ Kp.sentW m (s1, s2) = L)) (hl : L.length ≤ 1000000) :
    Calls Try.prog 75 #[.pointer (some ⟨b, 0, none⟩), .agg #[.slice a1 s1.length c1, .slice a2 s2.length c2]] w (WPost wB.heap.size b (.slice af m.files.length cf) (.slice ai m.items.length ci) L w) := by
  unfold Mp.sentB Mp.onB Mp.ifB at hx
  simp only [Bool.and_eq_true, decide_eq_true_eq] at hx
  obtain ⟨⟨_, hs1, hs2⟩, hs3, hs4⟩ := hx
  have HO : Hid (∀ o ∈ s1, 0 ≤ o.2 ∧ o.2 ≤ 5) := fun o ho => Kp.on_ev (Kp.onsF_mem _ _ hs2 o ho)
  have HF : Hid (∀ c ∈ s2, -1000000 ≤ c.2.2 ∧ c.2.2 ≤ 1000000) := fun c hc => by
    have := List.all_eq_true.1 hs4 c hc
    unfold Mp.condB at this
    simp only [Bool.and_eq_true, decide_eq_true_eq] at this
    exact ⟨this.1.2, this.2⟩
  obtain ⟨_, _, hcap1, ob, oo, oa, oc⟩ := orow_at r1
  obtain ⟨_, _, hcap2, cb, co, ca, cc⟩ := crow_at r2
  obtain ⟨_, hfl, _⟩ := frow_at hm.files
  obtain ⟨_, hil, _⟩ := irow_at hm.items
  have HM := hideT hm
  have HOA := hideT oa
  have HOC := hideT oc
  have HCA := hideT ca
  have HCC := hideT cc
  have HB := hideT hB
  have HI := hideT h
  have hHw : wB.heap.size ≤ w.heap.size := hB.size
  obtain ⟨Bs, hBs⟩ : ∃ Bs, wB.heap.size = Bs := ⟨_, rfl⟩
  obtain ⟨T2, ET2⟩ : ∃ T2, Hid (Kp.num s2.length ++ s2.flatMap (Kp.condW m) = T2) := ⟨_, rfl⟩
  obtain ⟨l1, E1⟩ : ∃ l1, Hid (l ++ Kp.num s1.length = l1) := ⟨_, rfl⟩
  have EL1 : Hid (l1 ++ (s1.flatMap (Kp.onW m) ++ T2) = L) := by
    show _ = _
    rw [← hL.out, ← E1.out, ← ET2.out, List.append_assoc]
    rfl
  have hll := le_of_app hL.out hl
  clear r1 r2 oa oc ca cc hB h hs2 hs4 hm
  go_enter Try.func75, Try.ntmps75
  go_wp2_with fail
  generalize hW : w.alloc _ = W
  obtain ⟨BW, LW, zW⟩ := of_alloc hW
  have HLW := hideT LW
  have HBW := hideT BW
  have WW := hideT (Wr.of_below (b := b) hHw BW)
  have hne : w.heap.size ≠ b := by have := HI.out.lies.lt; omega
  refine (numberD _ b _ _ ov l s1.length W (HI.out.below BW) (by have := BW.size; omega) (by omega) hll l1 E1).mono ?_
  rintro e w1 ⟨rfl, ov1, i1, q1⟩
  have I1 := hideT i1
  have Q1 := hideT (WW.out.trans q1)
  have L1 := hideT (q1.2 _ _ _ LW hne (by decide))
  have x0 : w1.cell? ⟨w.heap.size, 0, none⟩ = some (.slice a1 s1.length c1) := L1.out.cell 0
  clear i1 q1 LW BW hW
  go_wp2_with fail
  go_loopw [16] (fun i wr => ∃ (k : Nat) (ov' : Value) (l' : List UInt8), k ≤ s1.length ∧ i = .int .i64 k ∧ Hid (WIn wB.heap.size b wr (.slice af m.files.length cf) (.slice ai m.items.length ci) ov' l') ∧ Hid (l' ++ ((s1.drop k).flatMap (Kp.onW m) ++ T2) = L) ∧ Hid (Wr wB.heap.size b w wr) ∧ Hid (Lies wr w.heap.size 47 #[.slice a1 s1.length c1, .slice a2 s2.length c2])) (fun i _ => s1.length - (intOf i).toNat)
  case atStart => exact ⟨0, ov1, l1, Nat.zero_le _, rfl, I1, EL1, Q1, L1⟩
  case round =>
    clear x0
    obtain ⟨k, ov', l', hk, rfl, HI2, HE, HW2, HL2⟩ := hrel
    have BB := hideT (HB.out.trans HW2.out.1)
    have hHr : wB.heap.size ≤ wr.heap.size := BB.out.size
    by_cases hlt : k < s1.length
    · obtain ⟨⟨o1, o2⟩, ho⟩ := Mp.at_lt hlt
      obtain rfl := HOA.out (by omega)
      obtain ⟨hz, e0, e1⟩ := HOC.out k _ ho
      have hev := HO.out _ (List.mem_of_getElem? ho)
      dsimp only at hz e0 e1 hev
      have d0 := below_cell BB.out _ _ e0
      have d1 := below_cell BB.out _ _ e1
      obtain ⟨pz, EP⟩ : ∃ pz, Hid (Mp.placeZ m.items o1 = pz) := ⟨_, rfl⟩
      have hpz := placeZ_lt63 m.items o1 hil
      rw [EP.out] at hpz
      obtain ⟨l2, E2⟩ : ∃ l2, Hid (l' ++ Kp.num pz = l2) := ⟨_, rfl⟩
      obtain ⟨l3, E3⟩ : ∃ l3, Hid (l2 ++ Kp.num o2 = l3) := ⟨_, rfl⟩
      have EL3 : Hid (l3 ++ ((s1.drop (k + 1)).flatMap (Kp.onW m) ++ T2) = L) := by
        show _ = _
        rw [← HE.out, flatMap_at ho, ← E3.out, ← E2.out]
        unfold Kp.onW
        dsimp only
        rw [EP.out]
        simp only [List.append_assoc]
      have hl' := le_of_app HE.out hl
      have hl2 : l2.length ≤ 1000000 := le_of_app (b := Kp.num o2 ++ ((s1.drop (k + 1)).flatMap (Kp.onW m) ++ T2)) (by rw [← EL3.out, ← E3.out, List.append_assoc]) hl
      obtain ⟨V, hV⟩ : ∃ V, wr.alloc (.cells #[.string o1, .int .i64 o2] 87) = V := ⟨_, rfl⟩
      obtain ⟨BV, LV, zV⟩ := of_alloc hV
      have HBV := hideT BV
      have HLV := hideT LV
      have HVq := hideT hV
      have IV := hideT (HI2.out.below BV)
      have WV := hideT (HW2.out.trans (Wr.of_below (b := b) hHr BV))
      have LLV := hideT (HL2.out.below BV)
      have hbr := HI2.out.lies.lt
      have hne2 : wr.heap.size ≠ b := by omega
      have y0 : V.cell? ⟨b, 0, none⟩ = some (.slice af m.files.length cf) := IV.out.cells.1
      have y1 : V.cell? ⟨b, 1, none⟩ = some (.slice ai m.items.length ci) := IV.out.cells.2.1
      have y2 : V.cell? ⟨wr.heap.size, 0, none⟩ = some (.string o1) := LV.cell 0
      clear hV BV LV ho e0 e1
      go_wp2_with fail
      rw [HVq.out]
      go_region_held3 (fun w' => w'.cell? ⟨b, 0, none⟩ = some (.slice af m.files.length cf) ∧ w'.cell? ⟨b, 1, none⟩ = some (.slice ai m.items.length ci) ∧ w'.cell? ⟨wr.heap.size, 0, none⟩ = some (.string o1)) (go_keep) (first
        | (go_at_call 59; refine (placeD _ _ _ _ _ m.items o1 (irow_below HM.out.items (BB.out.trans ((HBV.out.mono hHr).trans (below_drewN (Below.refl _ V) 1))))).mono ?_; rintro e w2 ⟨rfl, b2⟩; rw [EP.out]; have bV2 : Below V.heap.size V w2 := (below_drewN (Below.refl _ V) 1).trans b2; have z0 := below_cell bV2 _ _ y0; have z1 := below_cell bV2 _ _ y1; have z2 := below_cell bV2 _ _ y2)
        | (go_at_call 39; refine (numberD _ b _ _ ov' l' pz _ (IV.out.below bV2) (by have := bV2.size; omega) (by omega) hl' l2 E2).mono ?_; rintro e w3 ⟨rfl, ov3, i3, q3⟩; have z0' := i3.cells.1; have z1' := i3.cells.2.1; have z2' : w3.cell? ⟨wr.heap.size, 0, none⟩ = some (.string o1) := (q3.2 _ _ _ (HLV.out.below bV2) hne2 (by decide)).cell 0))
      all_goals
        have LV3 := hideT (q3.2 _ _ _ (HLV.out.below bV2) hne2 (by decide))
        have LL3 := hideT (q3.2 _ _ _ (LLV.out.below bV2) hne (by decide))
        have W3 := hideT ((WV.out.trans (Wr.of_below (b := b) (by have := HBV.out.size; omega) bV2)).trans q3)
        have I3 := hideT i3
        have v1 : w3.cell? ⟨wr.heap.size, 1, none⟩ = some (.int .i64 o2) := LV3.out.cell 1
        clear i3 q3 z0 z1 z2 z0' z1' z2' y0 y1 y2 d0 d1 bV2 b2
        go_wp2_with fail
        refine (numberD _ b _ _ ov3 l2 o2 w3 I3.out (by have := W3.out.sz; omega) (by omega) hl2 l3 E3).mono ?_
        rintro e w4 ⟨rfl, ov4, i4, q4⟩
        have I4 := hideT i4
        have W4 := hideT (W3.out.trans q4)
        have LL4 := hideT (q4.2 _ _ _ LL3.out hne (by decide))
        clear i4 q4 v1
        go_wp2_with fail
        go_roundw
        case rel => exact ⟨k + 1, ov4, l3, by omega, by go_num, I4, EL3, W4, LL4⟩
        case measure => simp [intOf]; omega
    · have hkk : k = s1.length := by omega
      have EL2 : Hid (l' ++ T2 = L) := by
        show _ = _
        rw [← HE.out, hkk, List.drop_length]
        rfl
      have hl' := le_of_app HE.out hl
      obtain ⟨l4, E4⟩ : ∃ l4, Hid (l' ++ Kp.num s2.length = l4) := ⟨_, rfl⟩
      have EL4 : Hid (l4 ++ s2.flatMap (Kp.condW m) = L) := by
        show _ = _
        rw [← EL2.out, ← E4.out, ← ET2.out, List.append_assoc]
      have u1 : wr.cell? ⟨w.heap.size, 1, none⟩ = some (.slice a2 s2.length c2) := HL2.out.cell 1
      go_wp2_with fail
      refine (numberD _ b _ _ ov' l' s2.length wr HI2.out hHr (by omega) hl' l4 E4).mono ?_
      rintro e w5 ⟨rfl, ov5, i5, q5⟩
      have I5 := hideT i5
      have W5 := hideT (HW2.out.trans q5)
      have LL5 := hideT (q5.2 _ _ _ HL2.out hne (by decide))
      have u2 : w5.cell? ⟨w.heap.size, 1, none⟩ = some (.slice a2 s2.length c2) := LL5.out.cell 1
      clear i5 q5 u1 HI2 HW2 HL2 BB hHr hlt hk hkk hl' HE EL2 E4
      go_wp2_with fail
      go_loopw [42] (fun i wr => ∃ (k : Nat) (ov' : Value) (l' : List UInt8), k ≤ s2.length ∧ i = .int .i64 k ∧ Hid (WIn wB.heap.size b wr (.slice af m.files.length cf) (.slice ai m.items.length ci) ov' l') ∧ Hid (l' ++ (s2.drop k).flatMap (Kp.condW m) = L) ∧ Hid (Wr wB.heap.size b w wr)) (fun i _ => s2.length - (intOf i).toNat)
      case atStart => exact ⟨0, ov5, l4, Nat.zero_le _, rfl, I5, EL4, W5⟩
      case round =>
        clear u2
        obtain ⟨k, ov', l', hk, rfl, HI2, HE, HW2⟩ := hrel
        have BB := hideT (HB.out.trans HW2.out.1)
        have hHr : wB.heap.size ≤ wr.heap.size := BB.out.size
        have hl' := le_of_app HE.out hl
        by_cases hlt : k < s2.length
        · obtain ⟨⟨o1, o2, o3⟩, ho⟩ := Mp.at_lt hlt
          obtain rfl := HCA.out (by omega)
          obtain ⟨hz, e0, e1, e2⟩ := HCC.out k _ ho
          have hev := HF.out _ (List.mem_of_getElem? ho)
          dsimp only at hz e0 e1 e2 hev
          have d0 := below_cell BB.out _ _ e0
          have d1 := below_cell BB.out _ _ e1
          have d2 := below_cell BB.out _ _ e2
          obtain ⟨pz, EP⟩ : ∃ pz, Hid (idxZ m.files o1 = pz) := ⟨_, rfl⟩
          have hpz := idxZ_lt63 m.files o1 hfl
          rw [EP.out] at hpz
          obtain ⟨qz, EQ⟩ : ∃ qz, Hid (idxZ Kp.opsL o2 = qz) := ⟨_, rfl⟩
          have hqz := idxZ_lt63 Kp.opsL o2 (by decide)
          rw [EQ.out] at hqz
          obtain ⟨fz, EF⟩ : ∃ fz, Hid (Kp.fold o3 = fz) := ⟨_, rfl⟩
          have hfz : fz ≤ 2000000 := by
            rw [← EF.out]
            unfold Kp.fold
            split <;> omega
          obtain ⟨l2, E2⟩ : ∃ l2, Hid (l' ++ Kp.num pz = l2) := ⟨_, rfl⟩
          obtain ⟨l3, E3⟩ : ∃ l3, Hid (l2 ++ Kp.num qz = l3) := ⟨_, rfl⟩
          obtain ⟨l4', E4'⟩ : ∃ l4', Hid (l3 ++ Kp.num fz = l4') := ⟨_, rfl⟩
          have EL6 : Hid (l4' ++ (s2.drop (k + 1)).flatMap (Kp.condW m) = L) := by
            show _ = _
            rw [← HE.out, flatMap_at ho, ← E4'.out, ← E3.out, ← E2.out, ← EF.out, ← EQ.out, ← EP.out]
            unfold Kp.condW
            dsimp only
            simp only [List.append_assoc]
            rfl
          have hl4 := le_of_app EL6.out hl
          have hl3 := le_of_app E4'.out hl4
          have hl2 := le_of_app E3.out hl3
          obtain ⟨V, hV⟩ : ∃ V, wr.alloc (.cells #[.string o1, .string o2, .int .i64 o3] 43) = V := ⟨_, rfl⟩
          obtain ⟨BV, LV, zV⟩ := of_alloc hV
          have HBV := hideT BV
          have HLV := hideT LV
          have HVq := hideT hV
          have IV := hideT (HI2.out.below BV)
          have WV := hideT (HW2.out.trans (Wr.of_below (b := b) hHr BV))
          have hbr := HI2.out.lies.lt
          have hne2 : wr.heap.size ≠ b := by omega
          have y0 : V.cell? ⟨b, 0, none⟩ = some (.slice af m.files.length cf) := IV.out.cells.1
          have y2 : V.cell? ⟨wr.heap.size, 0, none⟩ = some (.string o1) := LV.cell 0
          clear hV BV LV ho e0 e1 e2
          go_wp2_with fail
          rw [HVq.out]
          go_region_held3 (fun w' => w'.cell? ⟨b, 0, none⟩ = some (.slice af m.files.length cf) ∧ w'.cell? ⟨wr.heap.size, 0, none⟩ = some (.string o1)) (go_keep) (first
            | (go_at_call 54; refine (indexS _ _ _ _ m.files o1 (frow_below HM.out.files (BB.out.trans ((HBV.out.mono hHr).trans (below_drewN (Below.refl _ V) 1))))).mono ?_; rintro e w2 ⟨rfl, rfl⟩; rw [EP.out]; have bV2 : Below V.heap.size V (V.drewN 1) := (below_drewN (Below.refl _ V) 1); have z0 := below_cell bV2 _ _ y0; have z2 := below_cell bV2 _ _ y2)
            | (go_at_call 39; refine (numberD _ b _ _ ov' l' pz _ (IV.out.below bV2) (by have := bV2.size; omega) (by omega) hl' l2 E2).mono ?_; rintro e w3 ⟨rfl, ov3, i3, q3⟩; have z0' := i3.cells.1; have z2' : w3.cell? ⟨wr.heap.size, 0, none⟩ = some (.string o1) := (q3.2 _ _ _ (HLV.out.below bV2) hne2 (by decide)).cell 0))
          all_goals
            have LV3 := hideT (q3.2 _ _ _ (HLV.out.below bV2) hne2 (by decide))
            have W3 := hideT ((WV.out.trans (Wr.of_below (b := b) (by have := HBV.out.size; omega) bV2)).trans q3)
            have I3 := hideT i3
            have v1 : w3.cell? ⟨wr.heap.size, 1, none⟩ = some (.string o2) := LV3.out.cell 1
            clear i3 q3 z0 z2 z0' z2' y0 y2 d0 d1 d2 bV2
            go_wp2_with fail
            go_region_held3 (fun w' => w'.cell? ⟨wr.heap.size, 1, none⟩ = some (.string o2)) (go_keep) (first
              | (go_at_call 89; refine (opsD _).mono ?_; rintro e w4 ⟨og, rfl, of4, b4⟩; have bV4 : Below w3.heap.size w3 w4 := (below_drewN (Below.refl _ w3) 1).trans b4; have OF4 := hideT of4; have z4 := below_cell bV4 _ _ v1)
              | (go_at_call 54; refine (indexS _ _ _ _ Kp.opsL o2 (by first | exact OF4.out | exact frow_below OF4.out (below_drewN (Below.refl _ w4) 1))).mono ?_; rintro e w5 ⟨rfl, rfl⟩; rw [EQ.out])
              | (go_at_call 39; refine (numberD _ b _ _ ov3 l2 qz _ (I3.out.below bV4) (by have := bV4.size; have := W3.out.sz; omega) (by omega) hl2 l3 E3).mono ?_; rintro e w6 ⟨rfl, ov6, i6, q6⟩; have z6 : w6.cell? ⟨wr.heap.size, 1, none⟩ = some (.string o2) := (q6.2 _ _ _ (LV3.out.below bV4) hne2 (by decide)).cell 1))
            all_goals
              have LV6 := hideT (q6.2 _ _ _ (LV3.out.below bV4) hne2 (by decide))
              have W6 := hideT ((W3.out.trans (Wr.of_below (b := b) (by have := W3.out.sz; omega) bV4)).trans q6)
              have I6 := hideT i6
              have v2 : w6.cell? ⟨wr.heap.size, 2, none⟩ = some (.int .i64 o3) := LV6.out.cell 2
              clear i6 q6 v1 bV4 b4 of4 OF4
              go_wp2_with fail
              refine (foldD o3 w6 hev fz EF).mono ?_
              rintro e w7 ⟨rfl, rfl⟩
              go_wp2_with fail
              refine (numberD _ b _ _ ov6 l3 fz _ I6.out (by have := W6.out.sz; omega) (by omega) hl3 l4' E4').mono ?_
              rintro e w8 ⟨rfl, ov8, i8, q8⟩
              have I8 := hideT i8
              have W8 := hideT (W6.out.trans q8)
              clear i8 q8 v2
              go_wp2_with fail
              go_roundw
              case rel => exact ⟨k + 1, ov8, l4', by omega, by go_num, I8, EL6, W8⟩
              case measure => simp [intOf]; omega
        · have EL9 : Hid (l' = L) := by
            show _ = _
            rw [← HE.out, show k = s2.length by omega, List.drop_length, List.flatMap_nil, List.append_nil]
          go_wp2_with fail
          first | go_end0 | refine bodyPost_ret (results_none rfl _ _ _) rfl ?_
          exact ⟨rfl, _, by rw [← EL9.out]; exact HI2.out, HW2.out⟩
end Go.Proofs.Ytcfalhgcdffjoaa
