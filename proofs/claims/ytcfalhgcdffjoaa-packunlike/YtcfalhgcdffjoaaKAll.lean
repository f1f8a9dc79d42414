/-
  The writer: a whole model; its head; Pack.
-/
import Derived.Test.YtcfalhgcdffjoaaKItem
set_option linter.unusedSimpArgs false
set_option linter.unusedVariables false
namespace Go.Proofs.Ytcfalhgcdffjoaa
open Go.RowKit
set_option maxRecDepth 100000
set_option maxHeartbeats 8000000 in
theorem allWr (wB : World) (m : Mp.Model) (af ai : Option Addr) (cf ci : Nat) (hm : ModelAt wB af cf ai ci m) (b : Nat) (ov : Value) (l : List UInt8) (w : World) (hB : Below wB.heap.size wB w) (h : WIn wB.heap.size b w (.slice af m.files.length cf) (.slice ai m.items.length ci) ov l) (hx : Kp.Good m) (L : List UInt8) (hL : Hid (l ++ Kp.body m = L)) (hl : L.length ≤ 1000000) :
    Calls Try.prog 21 #[.pointer (some ⟨b, 0, none⟩)] w (WPost wB.heap.size b (.slice af m.files.length cf) (.slice ai m.items.length ci) L w) := by
  obtain ⟨_, hfl, hfcap, fb, fo, fa, fc⟩ := frow_at hm.files
  obtain ⟨_, hil, hicap, ib, io, ia, ic⟩ := irow_at hm.items
  have HM := hideT hm
  have HG := hideT hx
  have HFA := hideT fa
  have HFC := hideT fc
  have HIA := hideT ia
  have HIC := hideT ic
  have HB := hideT hB
  have HI := hideT h
  have hHw : wB.heap.size ≤ w.heap.size := hB.size
  obtain ⟨T5, E5⟩ : ∃ T5, Hid (m.items.flatMap (Kp.itemW m) = T5) := ⟨_, rfl⟩
  obtain ⟨T4, E4⟩ : ∃ T4, Hid (Kp.num m.files.length ++ T5 = T4) := ⟨_, rfl⟩
  obtain ⟨T3, E3⟩ : ∃ T3, Hid (m.items.flatMap (fun x => Kp.text x.id) ++ T4 = T3) := ⟨_, rfl⟩
  obtain ⟨l1, E1⟩ : ∃ l1, Hid (l ++ Kp.num ((m.files.length : Int) + m.items.length) = l1) := ⟨_, rfl⟩
  have EL1 : Hid (l1 ++ (m.files.flatMap Kp.text ++ T3) = L) := by
    show _ = _
    rw [← hL.out, ← E1.out, ← E3.out, ← E4.out, ← E5.out, List.append_assoc]
    rfl
  have hll := le_of_app hL.out hl
  have y0 : w.cell? ⟨b, 0, none⟩ = some (.slice af m.files.length cf) := h.cells.1
  have y1 : w.cell? ⟨b, 1, none⟩ = some (.slice ai m.items.length ci) := h.cells.2.1
  clear hm hx fa fc ia ic hB h
  go_enter Try.func21, Try.ntmps21
  go_wp2_with fail
  go_region_held3 (fun w' => w'.cell? ⟨b, 0, none⟩ = some (.slice af m.files.length cf) ∧ w'.cell? ⟨b, 1, none⟩ = some (.slice ai m.items.length ci)) (go_keep) (first
    | (go_at_call 39; refine (numberV _ b _ _ ov l _ ((m.files.length : Int) + m.items.length) _ (HI.out.below (below_drewN (Below.refl _ w) 1)) (by first | exact hHw | (have := (below_drewN (Below.refl _ w) 1).size; omega)) (by omega) hll l1 E1 (by first | omega | (rw [IntKind.wrap_i64]; omega))).mono ?_; rintro e w1 ⟨rfl, ov1, i1, q1⟩; have z0 := i1.cells.1; have z1 := i1.cells.2.1))
  all_goals
    have Q1 := hideT ((Wr.of_below (b := b) hHw (below_drewN (Below.refl _ w) 1)).trans q1)
    have I1 := hideT i1
    clear i1 q1 z1 y0 y1
    go_wp2_with fail
    go_loopw [29] (fun i wr => ∃ (k : Nat) (ov' : Value) (l' : List UInt8), k ≤ m.files.length ∧ i = .int .i64 k ∧ Hid (WIn wB.heap.size b wr (.slice af m.files.length cf) (.slice ai m.items.length ci) ov' l') ∧ Hid (l' ++ ((m.files.drop k).flatMap Kp.text ++ T3) = L) ∧ Hid (Wr wB.heap.size b w wr)) (fun i _ => m.files.length - (intOf i).toNat)
    case atStart => exact ⟨0, ov1, l1, Nat.zero_le _, rfl, I1, EL1, Q1⟩
    case round =>
      clear z0
      obtain ⟨k, ov', l', hk, rfl, HI2, HE, HW2⟩ := hrel
      have BB := hideT (HB.out.trans HW2.out.1)
      have hHr : wB.heap.size ≤ wr.heap.size := BB.out.size
      by_cases hlt : k < m.files.length
      · obtain ⟨s, ho⟩ := Mp.at_lt hlt
        obtain rfl := HFA.out (by omega)
        obtain ⟨hz, e0⟩ := HFC.out k _ ho
        have hz12 := (HG.out.fz s (List.mem_of_getElem? ho)).2
        have d0 := below_cell BB.out _ _ e0
        obtain ⟨l2, E2⟩ : ∃ l2, Hid (l' ++ Kp.text s = l2) := ⟨_, rfl⟩
        have EL3 : Hid (l2 ++ ((m.files.drop (k + 1)).flatMap Kp.text ++ T3) = L) := by
          show _ = _
          rw [← HE.out, flatMap_at ho, ← E2.out]
          simp only [List.append_assoc]
        have hl2 := le_of_app EL3.out hl
        clear ho e0
        go_wp2_with fail
        refine (textD _ b _ _ ov' l' s wr HI2.out hHr (by omega) l2 E2 hl2).mono ?_
        rintro e w4 ⟨rfl, ov4, i4, q4⟩
        have I4 := hideT i4
        have W4 := hideT (HW2.out.trans q4)
        clear i4 q4
        go_wp2_with fail
        go_roundw
        case rel => exact ⟨k + 1, ov4, l2, by omega, by go_num, I4, EL3, W4⟩
        case measure => simp [intOf]; omega
      · have EL9 : Hid (l' ++ T3 = L) := by
          show _ = _
          rw [← HE.out, show k = m.files.length by omega, List.drop_length]
          rfl
        have EL10 : Hid (l' ++ (m.items.flatMap (fun x => Kp.text x.id) ++ T4) = L) := by
          show _ = _
          rw [E3.out]
          exact EL9.out
        have u1 : wr.cell? ⟨b, 1, none⟩ = some (.slice ai m.items.length ci) := HI2.out.cells.2.1
        go_wp2_with fail
        go_loopw [43] (fun i wr => ∃ (k : Nat) (ov' : Value) (l' : List UInt8), k ≤ m.items.length ∧ i = .int .i64 k ∧ Hid (WIn wB.heap.size b wr (.slice af m.files.length cf) (.slice ai m.items.length ci) ov' l') ∧ Hid (l' ++ ((m.items.drop k).flatMap (fun x => Kp.text x.id) ++ T4) = L) ∧ Hid (Wr wB.heap.size b w wr)) (fun i _ => m.items.length - (intOf i).toNat)
        case atStart => exact ⟨0, ov', l', Nat.zero_le _, rfl, HI2, EL10, HW2⟩
        case round =>
          clear u1 EL9 EL10 HI2 HW2 BB hHr HE hk hlt
          obtain ⟨k2, ov2, l2, hk2, rfl, HI2, HE, HW2⟩ := hrel
          have BB := hideT (HB.out.trans HW2.out.1)
          have hHr : wB.heap.size ≤ wr.heap.size := BB.out.size
          by_cases hlt : k2 < m.items.length
          · obtain ⟨x, ho⟩ := Mp.at_lt hlt
            obtain rfl := HIA.out (by omega)
            obtain ⟨a5, c5, a6, c6, T0⟩ := HIC.out k2 _ ho
            have T1 := T0.turn (below_cell BB.out)
            have hz12 := (HG.out.ids x (List.mem_of_getElem? ho)).2
            obtain ⟨l3, E3'⟩ : ∃ l3, Hid (l2 ++ Kp.text x.id = l3) := ⟨_, rfl⟩
            have EL3 : Hid (l3 ++ ((m.items.drop (k2 + 1)).flatMap (fun x => Kp.text x.id) ++ T4) = L) := by
              show _ = _
              rw [← HE.out, flatMap_at ho, ← E3'.out]
              simp only [List.append_assoc]
            have hl3 := le_of_app EL3.out hl
            obtain ⟨id, kind, par, req, ticks, en, ex⟩ := x
            have d0 := T1.c0
            have d1 := T1.c1
            have d2 := T1.c2
            have d3 := T1.c3
            have d4 := T1.c4
            have d5 := T1.c5
            have d6 := T1.c6
            dsimp only at d0 d1 d2 d3 d4 d5 d6 hz12 E3'
            obtain ⟨V, hV⟩ : ∃ V, wr.alloc (.cells #[.string id, .int .i64 kind, .string par, .bool req, .int .i64 ticks, .slice a5 en.length c5, .slice a6 ex.length c6] 41) = V := ⟨_, rfl⟩
            obtain ⟨BV, LV, zV⟩ := of_alloc hV
            have HBV := hideT BV
            have HVq := hideT hV
            have IV := hideT (HI2.out.below BV)
            have WV := hideT (HW2.out.trans (Wr.of_below (b := b) hHr BV))
            have y2 : V.cell? ⟨wr.heap.size, 0, none⟩ = some (.string id) := LV.cell 0
            have hsV := BV.size
            clear hV BV LV ho T0 T1
            go_wp2_with fail
            first | rw [HVq.out] | skip
            refine (textD _ b _ _ ov2 l2 id V IV.out (by omega) (by omega) l3 E3' hl3).mono ?_
            rintro e w4 ⟨rfl, ov4, i4, q4⟩
            have I4 := hideT i4
            have W4 := hideT (WV.out.trans q4)
            clear i4 q4 y2 d0 d1 d2 d3 d4 d5 d6
            go_wp2_with fail
            go_roundw
            case rel => exact ⟨k2 + 1, ov4, l3, by omega, by go_num, I4, EL3, W4⟩
            case measure => simp [intOf]; omega
          · have EL9 : Hid (l2 ++ T4 = L) := by
              show _ = _
              rw [← HE.out, show k2 = m.items.length by omega, List.drop_length]
              rfl
            obtain ⟨l5, E5'⟩ : ∃ l5, Hid (l2 ++ Kp.num m.files.length = l5) := ⟨_, rfl⟩
            have EL10 : Hid (l5 ++ m.items.flatMap (Kp.itemW m) = L) := by
              show _ = _
              rw [← EL9.out, ← E4.out, ← E5'.out, E5.out, List.append_assoc]
            have hl2 := le_of_app EL9.out hl
            have u0 : wr.cell? ⟨b, 0, none⟩ = some (.slice af m.files.length cf) := HI2.out.cells.1
            go_wp2_with fail
            refine (numberD _ b _ _ ov2 l2 m.files.length wr HI2.out hHr (by omega) hl2 l5 E5').mono ?_
            rintro e w5 ⟨rfl, ov5, i5, q5⟩
            have I5 := hideT i5
            have W5 := hideT (HW2.out.trans q5)
            have u1 : w5.cell? ⟨b, 1, none⟩ = some (.slice ai m.items.length ci) := i5.cells.2.1
            clear i5 q5 u0
            go_wp2_with fail
            go_loopw [66] (fun i wr => ∃ (k : Nat) (ov' : Value) (l' : List UInt8), k ≤ m.items.length ∧ i = .int .i64 k ∧ Hid (WIn wB.heap.size b wr (.slice af m.files.length cf) (.slice ai m.items.length ci) ov' l') ∧ Hid (l' ++ (m.items.drop k).flatMap (Kp.itemW m) = L) ∧ Hid (Wr wB.heap.size b w wr)) (fun i _ => m.items.length - (intOf i).toNat)
            case atStart => exact ⟨0, ov5, l5, Nat.zero_le _, rfl, I5, EL10, W5⟩
            case round =>
              clear u1 EL9 EL10 HI2 HW2 BB hHr HE hk2 hlt I5 W5
              obtain ⟨k3, ov3, l3, hk3, rfl, HI2, HE, HW2⟩ := hrel
              have BB := hideT (HB.out.trans HW2.out.1)
              have hHr : wB.heap.size ≤ wr.heap.size := BB.out.size
              by_cases hlt : k3 < m.items.length
              · obtain ⟨x, ho⟩ := Mp.at_lt hlt
                obtain rfl := HIA.out (by omega)
                obtain ⟨a5, c5, a6, c6, T0⟩ := HIC.out k3 _ ho
                have T1 := T0.turn (below_cell BB.out)
                have HFi := hideT (HG.out.fine x (List.mem_of_getElem? ho))
                obtain ⟨l4, E4'⟩ : ∃ l4, Hid (l3 ++ Kp.itemW m x = l4) := ⟨_, rfl⟩
                have EL3 : Hid (l4 ++ (m.items.drop (k3 + 1)).flatMap (Kp.itemW m) = L) := by
                  show _ = _
                  rw [← HE.out, flatMap_at ho, ← E4'.out]
                  simp only [List.append_assoc]
                have hl4 := le_of_app EL3.out hl
                obtain ⟨id, kind, par, req, ticks, en, ex⟩ := x
                have HR5 := hideT T0.entry
                have HR6 := hideT T0.exit
                have d0 := T1.c0
                have d1 := T1.c1
                have d2 := T1.c2
                have d3 := T1.c3
                have d4 := T1.c4
                have d5 := T1.c5
                have d6 := T1.c6
                dsimp only at d0 d1 d2 d3 d4 d5 d6 HR5 HR6
                obtain ⟨V, hV⟩ : ∃ V, wr.alloc (.cells #[.string id, .int .i64 kind, .string par, .bool req, .int .i64 ticks, .slice a5 en.length c5, .slice a6 ex.length c6] 41) = V := ⟨_, rfl⟩
                obtain ⟨BV, LV, zV⟩ := of_alloc hV
                have HBV := hideT BV
                have HVq := hideT hV
                have IV := hideT (HI2.out.below BV)
                have WV := hideT (HW2.out.trans (Wr.of_below (b := b) hHr BV))
                have y0 : V.cell? ⟨wr.heap.size, 0, none⟩ = some (.string id) := LV.cell 0
                have y1 : V.cell? ⟨wr.heap.size, 1, none⟩ = some (.int .i64 kind) := LV.cell 1
                have y2 : V.cell? ⟨wr.heap.size, 2, none⟩ = some (.string par) := LV.cell 2
                have y3 : V.cell? ⟨wr.heap.size, 3, none⟩ = some (.bool req) := LV.cell 3
                have y4 : V.cell? ⟨wr.heap.size, 4, none⟩ = some (.int .i64 ticks) := LV.cell 4
                have y5 : V.cell? ⟨wr.heap.size, 5, none⟩ = some (.slice a5 en.length c5) := LV.cell 5
                have y6 : V.cell? ⟨wr.heap.size, 6, none⟩ = some (.slice a6 ex.length c6) := LV.cell 6
                clear hV BV LV ho T0 T1
                go_wp2_with fail
                first | rw [HVq.out] | skip
                refine (itemWr wB m _ _ cf ci HM.out b ov3 l3 V (BB.out.trans (HBV.out.mono hHr)) IV.out ⟨id, kind, par, req, ticks, en, ex⟩ a5 a6 c5 c6 HR5.out HR6.out HFi.out l4 E4' hl4).mono ?_
                rintro e w6 ⟨rfl, ov6, i6, q6⟩
                have I6 := hideT i6
                have W6 := hideT (WV.out.trans q6)
                clear i6 q6 y0 y1 y2 y3 y4 y5 y6 d0 d1 d2 d3 d4 d5 d6
                go_wp2_with fail
                go_roundw
                case rel => exact ⟨k3 + 1, ov6, l4, by omega, by go_num, I6, EL3, W6⟩
                case measure => simp [intOf]; omega
              · have EL9 : Hid (l3 = L) := by
                  show _ = _
                  rw [← HE.out, show k3 = m.items.length by omega, List.drop_length, List.flatMap_nil, List.append_nil]
                go_wp2_with fail
                first | go_end0 | refine bodyPost_ret (results_none rfl _ _ _) rfl ?_
                exact ⟨rfl, _, by rw [← EL9.out]; exact HI2.out, HW2.out⟩
end Go.Proofs.Ytcfalhgcdffjoaa
