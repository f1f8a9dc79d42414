/-
  The document's Is.
-/
import Derived.Test.YtpipjkbgbhefcaaGreatMRef4
set_option linter.unusedSimpArgs false
set_option linter.unusedVariables false
namespace Go.Proofs.YtpipjkbgbhefcaaGreat
open Go.RowKit
set_option maxRecDepth 100000
theorem itemRV (w : World) (m : Mp.Model) (af ai : Option Addr) (cf ci : Nat) (hm : ModelAt w af cf ai ci m) (i : Nat) (hi : i < m.items.length) (x : Mp.Item) (hx : m.items[i]? = some x) (b : Bool) (hb : Hid (Mp.itemR m.items i x = b)) :
    Calls Tryz.prog 39 #[.agg #[.slice af m.files.length cf, .slice ai m.items.length ci], .int .i64 i] w fun e w' => e = .returned (.bool b) ∧ Below w.heap.size w w' := by
  rw [← hb.out]
  exact itemRef w m af ai cf ci hm i hi x hx
theorem sentriesRV (w : World) (m : Mp.Model) (af ai : Option Addr) (cf ci : Nat) (hm : ModelAt w af cf ai ci m) (ao : Option Addr) (n cap : Nat) (l : List Mp.Sent) (h : SRow w (.slice ao n cap) l) (b : Bool) (hb : Hid (Mp.sentsB m l = b)) :
    Calls Tryz.prog 40 #[.agg #[.slice af m.files.length cf, .slice ai m.items.length ci], .slice ao n cap] w fun e w' => e = .returned (.bool b) ∧ Below w.heap.size w w' := by
  rw [← hb.out]
  exact sentriesRef w m af ai cf ci hm ao n cap l h
set_option maxHeartbeats 8000000 in
set_option maxRecDepth 100000 in
theorem isRef (w : World) (m : Mp.Model) (af ai : Option Addr) (cf ci : Nat) (hm : ModelAt w af cf ai ci m) :
    Calls Tryz.prog 16 #[.agg #[.slice af m.files.length cf, .slice ai m.items.length ci]] w fun e w' => e = .returned (.bool (Mp.isR m)) ∧ Below w.heap.size w w' := by
  obtain ⟨_, hfl, hfcap, bf, of_, hfa, hfc⟩ := frow_at hm.files
  obtain ⟨_, hil, hicap, b, o, ha, hc⟩ := irow_at hm.items
  have HFC := hideT hfc
  have HFA := hideT hfa
  have HC := hideT hc
  have HA := hideT ha
  have HM := hideT hm
  have M0 := hideT (MR.new w m af ai cf ci)
  clear hc ha hm hfc hfa
  by_cases h6 : 6 < m.files.length
  · have HR : Hid (Mp.isR m = false) := by show _ = _; unfold Mp.isR; rw [decide_eq_false (by omega)]; rfl
    go_enter Tryz.func16, Tryz.ntmps16
    go_wp2_with fail
    go_ret
    exact ⟨ret_b HR.out.symm, M0.out.1⟩
  by_cases h1 : m.items.length < 1
  · have HR : Hid (Mp.isR m = false) := by show _ = _; unfold Mp.isR; rw [decide_eq_false (p := 1 ≤ m.items.length) (by omega)]; simp
    go_enter Tryz.func16, Tryz.ntmps16
    go_wp2_with fail
    go_ret
    exact ⟨ret_b HR.out.symm, M0.out.1⟩
  by_cases h16 : 16 < m.items.length
  · have HR : Hid (Mp.isR m = false) := by show _ = _; unfold Mp.isR; rw [decide_eq_false (p := m.items.length ≤ 16) (by omega)]; simp
    go_enter Tryz.func16, Tryz.ntmps16
    go_wp2_with fail
    go_ret
    exact ⟨ret_b HR.out.symm, M0.out.1⟩
  have HR : Hid (Mp.isR m = (Mp.namesF [] m.files && Mp.itemsF m.items 0 m.items && m.items.all (Mp.bothS m))) := by
    show _ = _
    unfold Mp.isR
    rw [decide_eq_true (p := m.files.length ≤ 6) (by omega), decide_eq_true (p := 1 ≤ m.items.length) (by omega), decide_eq_true (p := m.items.length ≤ 16) (by omega)]
    rfl
  obtain rfl := HA.out (by omega)
  go_enter Tryz.func16, Tryz.ntmps16
  go_wp2_with fail
  go_loopw [3] (fun i wr => ∃ k : Nat, k ≤ m.files.length ∧ i = .int .i64 k ∧ Hid (Mp.namesF (m.files.take k) (m.files.drop k) = Mp.namesF [] m.files) ∧ Hid (MR w m af (some ⟨b, o, none⟩) cf ci wr)) (fun i _ => m.files.length - (intOf i).toNat)
  case atStart => exact ⟨0, by omega, rfl, rfl, M0⟩
  case round =>
    obtain ⟨k, hk, rfl, HB, HW⟩ := hrel
    have x0 : wr.cell? ⟨w.heap.size, 0, none⟩ = some (.slice af m.files.length cf) := HW.out.2.cell 0
    by_cases hlt : k < m.files.length
    · obtain ⟨t, ht⟩ := Mp.at_lt (l := m.files) (k := k) hlt
      obtain ⟨hz, c0⟩ := HFC.out k t ht
      have c0 := below_cell HW.out.1 _ _ c0
      obtain rfl := HFA.out (by omega)
      have hB2 := HB.out
      rw [Mp.drop_at ht, Mp.namesF] at hB2
      have HB2 := hideT hB2
      have HT := hideT (Mp.take_at ht)
      have HRT := hideT (rowR_take HM.out.files k cf (by omega) (by omega))
      clear ht hB2
      obtain ⟨b1, H1⟩ : ∃ x, Hid (Mp.isN t = x) := ⟨_, rfl⟩
      obtain ⟨b2, H2⟩ : ∃ x, Hid (Mp.has (m.files.take k) t = x) := ⟨_, rfl⟩
      have t0 : (0 : Int) ≤ (k : Int) := by omega
      have t1 : (k : Int) < (m.files.length : Int) := by omega
      have t2 : (k : Int) ≤ (cf : Int) := by omega
      cases b1
      · have HF : Hid (Mp.namesF [] m.files = false) := by show _ = _; rw [← HB2.out, H1.out]; rfl
        go_wp2_with fail
        go_quiet ((go_at_call 37; exact Calls.quiet_of_same (isRV t _ hz false H1)))
        go_wp2_with fail
        go_ret
        exact ⟨ret_b (by rw [HR.out, HF.out]; rfl), below_drewN HW.out.1 _⟩
      · cases b2
        · have HF : Hid (Mp.namesF (m.files.take (k + 1)) (m.files.drop (k + 1)) = Mp.namesF [] m.files) := by show _ = _; rw [← HB2.out, H1.out, H2.out, HT.out]; rfl
          go_wp2_with fail
          go_quiet ((first | (go_at_call 37; exact Calls.quiet_of_same (isRV t _ hz true H1)) | (go_at_call 38; exact Calls.quiet_of_same (fileRV _ _ k cf _ t (frow_below (frow_below HRT.out HW.out.1) (below_drewN (Below.refl _ _) _)) false H2))))
          go_wp2_with fail
          refine ⟨⟨k + 1, by omega, by go_num, HF, HW.out.below (below_drewN (Below.refl _ _) _)⟩, ?_⟩
          first | omega | (simp [intOf]; omega)
        · have HF : Hid (Mp.namesF [] m.files = false) := by show _ = _; rw [← HB2.out, H1.out, H2.out]; rfl
          go_wp2_with fail
          go_quiet ((first | (go_at_call 37; exact Calls.quiet_of_same (isRV t _ hz true H1)) | (go_at_call 38; exact Calls.quiet_of_same (fileRV _ _ k cf _ t (frow_below (frow_below HRT.out HW.out.1) (below_drewN (Below.refl _ _) _)) true H2))))
          go_wp2_with fail
          go_ret
          exact ⟨ret_b (by rw [HR.out, HF.out]; rfl), below_drewN HW.out.1 _⟩
    · have HNF : Hid (Mp.isR m = (Mp.itemsF m.items 0 m.items && m.items.all (Mp.bothS m))) := by
        show _ = _
        rw [HR.out, ← HB.out, Mp.drop_all (by omega), Mp.namesF]
        rfl
      have HVV := HW
      go_wp2_with fail
      clear x0 HW HB hlt
      go_loopw [4] (fun i ws => ∃ k : Nat, k ≤ m.items.length ∧ i = .int .i64 k ∧ Hid (Mp.itemsF m.items k (m.items.drop k) = Mp.itemsF m.items 0 m.items) ∧ Hid (MR w m af (some ⟨b, o, none⟩) cf ci ws)) (fun i _ => m.items.length - (intOf i).toNat)
      case atStart => exact ⟨0, by omega, rfl, rfl, HVV⟩
      case round =>
        obtain ⟨k, hk, rfl, HB, HW⟩ := hrel
        have x0 : wr.cell? ⟨w.heap.size, 0, none⟩ = some (.slice af m.files.length cf) := HW.out.2.cell 0
        have x1 : wr.cell? ⟨w.heap.size, 1, none⟩ = some (.slice (some ⟨b, o, none⟩) m.items.length ci) := HW.out.2.cell 1
        by_cases hlt : k < m.items.length
        · obtain ⟨x, hx⟩ := Mp.at_lt (l := m.items) (k := k) hlt
          have hB2 := HB.out
          rw [Mp.drop_at hx, Mp.itemsF] at hB2
          have HB2 := hideT hB2
          have HX := hideT hx
          clear hx hB2
          obtain ⟨b1, H1⟩ : ∃ y, Hid (Mp.itemR m.items k x = y) := ⟨_, rfl⟩
          go_wp2_with fail
          refine (itemRV _ m af _ cf ci (HM.out.below HW.out.1) k hlt x HX.out b1 H1).mono ?_
          rintro e w1 ⟨rfl, p1⟩
          have HW1 := hideT (HW.out.below p1)
          clear p1 x0 x1
          cases b1
          · have HF : Hid (Mp.itemsF m.items 0 m.items = false) := by show _ = _; rw [← HB2.out, H1.out]; rfl
            go_wp2_with fail
            go_ret
            exact ⟨ret_b (by rw [HNF.out, HF.out]; rfl), HW1.out.1⟩
          · have HF : Hid (Mp.itemsF m.items (k + 1) (m.items.drop (k + 1)) = Mp.itemsF m.items 0 m.items) := by show _ = _; rw [← HB2.out, H1.out]; rfl
            go_wp2_with fail
            refine ⟨⟨k + 1, by omega, by go_num, HF, HW1⟩, ?_⟩
            first | omega | (simp [intOf]; omega)
        · have HNG : Hid (Mp.isR m = m.items.all (Mp.bothS m)) := by
            show _ = _
            rw [HNF.out, ← HB.out, Mp.drop_all (by omega), Mp.itemsF]
            rfl
          have HV2 := HW
          go_wp2_with fail
          clear x0 x1 HW HB hlt
          go_loopw [5] (fun i ws => ∃ k : Nat, k ≤ m.items.length ∧ i = .int .i64 k ∧ Hid ((m.items.drop k).all (Mp.bothS m) = m.items.all (Mp.bothS m)) ∧ Hid (MR w m af (some ⟨b, o, none⟩) cf ci ws)) (fun i _ => m.items.length - (intOf i).toNat)
          case atStart => exact ⟨0, by omega, rfl, rfl, HV2⟩
          case round =>
            obtain ⟨k, hk, rfl, HB, HW⟩ := hrel
            have x0 : wr.cell? ⟨w.heap.size, 0, none⟩ = some (.slice af m.files.length cf) := HW.out.2.cell 0
            have x1 : wr.cell? ⟨w.heap.size, 1, none⟩ = some (.slice (some ⟨b, o, none⟩) m.items.length ci) := HW.out.2.cell 1
            by_cases hlt : k < m.items.length
            · obtain ⟨x, hx⟩ := Mp.at_lt (l := m.items) (k := k) hlt
              obtain ⟨a5, c5, a6, c6, I0⟩ := HC.out k _ hx
              have hB2 := HB.out
              rw [Mp.drop_at hx, List.all_cons] at hB2
              have HB2 := hideT hB2
              have d5 := below_cell HW.out.1 _ _ I0.c5
              have d6 := below_cell HW.out.1 _ _ I0.c6
              have SE := hideT (srow_below I0.entry (below_drewN HW.out.1 1))
              have SX := hideT I0.exit
              clear hx hB2 I0
              have HMW := hideT (HM.out.below (below_drewN HW.out.1 1))
              have t0 : (0 : Int) ≤ (k : Int) := by omega
              have t1 : (k : Int) < (m.items.length : Int) := by omega
              obtain ⟨b1, H1⟩ : ∃ y, Hid (Mp.sentsB m x.entry = y) := ⟨_, rfl⟩
              obtain ⟨b2, H2⟩ : ∃ y, Hid (Mp.sentsB m x.exit = y) := ⟨_, rfl⟩
              cases b1
              · have HF : Hid (m.items.all (Mp.bothS m) = false) := by show _ = _; rw [← HB2.out]; unfold Mp.bothS; rw [H1.out]; rfl
                go_wp2_with fail
                first | (go_region_with (go_at_call 40; refine (sentriesRV _ m af _ cf ci HMW.out a5 _ c5 _ SE.out false H1).mono ?_; rintro e w1 ⟨rfl, q2⟩)) | fail
                all_goals
                  go_wp2_with fail
                  go_ret
                  exact ⟨ret_b (by rw [HNG.out, HF.out]), (below_drewN HW.out.1 1).trans (q2.mono (below_drewN HW.out.1 1).size)⟩
              · go_wp2_with fail
                go_region_held3 (fun w' => w'.cell? ⟨w.heap.size, 0, none⟩ = some (.slice af m.files.length cf) ∧ w'.cell? ⟨w.heap.size, 1, none⟩ = some (.slice (some ⟨b, o, none⟩) m.items.length ci) ∧ w'.cell? ⟨b, o + k * 7 + 5, none⟩ = some (.slice a5 x.entry.length c5) ∧ w'.cell? ⟨b, o + k * 7 + 6, none⟩ = some (.slice a6 x.exit.length c6)) (go_keep) (first
                  | (go_at_call_of 40 (Value.slice a5 x.entry.length c5); refine (sentriesRV _ m af _ cf ci HMW.out a5 _ c5 _ SE.out true H1).mono ?_; rintro e w1 ⟨rfl, q2⟩; have q3 : Below wr.heap.size wr w1 := (below_drewN (Below.refl _ wr) 1).trans q2; have z0 := below_cell q3 _ _ x0; have z1 := below_cell q3 _ _ x1; have z2 := below_cell q3 _ _ d5; have z3 := below_cell q3 _ _ d6)
                  | (go_at_call_of 40 (Value.slice a6 x.exit.length c6); refine (sentriesRV _ m af _ cf ci (HM.out.below (HW.out.below q3).1) a6 _ c6 _ (srow_below SX.out (HW.out.below q3).1) b2 H2).mono ?_; rintro e w2 ⟨rfl, q4⟩; have y0 := below_cell q4 _ _ z0; have y1 := below_cell q4 _ _ z1; have y2 := below_cell q4 _ _ z2; have y3 := below_cell q4 _ _ z3))
                have HW2 := hideT ((HW.out.below q3).below q4)
                clear q2 q3 q4 z0 z1 z2 z3 y0 y1 y2 y3 x0 x1 d5 d6
                cases b2
                · have HF : Hid (m.items.all (Mp.bothS m) = false) := by show _ = _; rw [← HB2.out]; unfold Mp.bothS; rw [H1.out, H2.out]; rfl
                  go_wp2_with fail
                  go_ret
                  exact ⟨ret_b (by rw [HNG.out, HF.out]), HW2.out.1⟩
                · have HF : Hid ((m.items.drop (k + 1)).all (Mp.bothS m) = m.items.all (Mp.bothS m)) := by show _ = _; rw [← HB2.out]; unfold Mp.bothS; rw [H1.out, H2.out]; rfl
                  go_wp2_with fail
                  refine ⟨⟨k + 1, by omega, by go_num, HF, HW2⟩, ?_⟩
                  first | omega | (simp [intOf]; omega)
            · have HF : Hid (m.items.all (Mp.bothS m) = true) := by show _ = _; rw [← HB.out, Mp.drop_all (by omega)]; rfl
              go_wp2_with fail
              go_ret
              exact ⟨ret_b (by rw [HNG.out, HF.out]), HW.out.1⟩
end Go.Proofs.YtpipjkbgbhefcaaGreat
