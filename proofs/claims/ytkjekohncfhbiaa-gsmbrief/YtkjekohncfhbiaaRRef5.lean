/-
  The document's Is. (Written by RRef5.py.)
-/
import Derived.Test.YtkjekohncfhbiaaRRef3
import Derived.Test.YtkjekohncfhbiaaRRef4
import Derived.Test.YtkjekohncfhbiaaPartR
set_option linter.unusedSimpArgs false
set_option linter.unusedVariables false
namespace Go.Proofs.Ytkjekohncfhbiaa
open Go.RowKit
set_option maxRecDepth 100000
def RuleAtQ (p : Rp.Prog) (i : Nat) (r : Rp.Rule) : Prop := RuleQ p r ∧ ∀ (j : Nat) q, i = j + 1 → p.rules[j]? = some q → q.1 ≤ r.1
set_option maxHeartbeats 16000000 in
theorem refIsD (w : World) (A : PA) (p : Rp.Prog) (h : ProgAt w A p) : Calls Try.prog 17 #[.agg #[.int .i64 p.flags, .int .i64 p.lasting, .slice A.a2 p.first.length A.c2, .slice A.a3 p.over.length A.c3, .int .i64 p.frm, .slice A.a5 p.files.length A.c5, .slice A.a6 p.rules.length A.c6, .slice A.a7 p.ctrs.length A.c7, .slice A.a8 p.users.length A.c8, .slice A.a9 p.notes.length A.c9]] w (BPost (Rp.IsP p) w) := by
  obtain ⟨a2, c2, a3, c3, a5, c5, a6, c6, a7, c7, a8, c8, a9, c9⟩ := A
  show Calls _ _ #[.agg #[.int .i64 p.flags, .int .i64 p.lasting, .slice a2 p.first.length c2, .slice a3 p.over.length c3, .int .i64 p.frm, .slice a5 p.files.length c5, .slice a6 p.rules.length c6, .slice a7 p.ctrs.length c7, .slice a8 p.users.length c8, .slice a9 p.notes.length c9]] w _
  have B0 := hideT ((Below.refl w.heap.size w).alloc (Nat.le_refl _) (.cells #[.int .i64 p.flags, .int .i64 p.lasting, .slice a2 p.first.length c2, .slice a3 p.over.length c3, .int .i64 p.frm, .slice a5 p.files.length c5, .slice a6 p.rules.length c6, .slice a7 p.ctrs.length c7, .slice a8 p.users.length c8, .slice a9 p.notes.length c9] 29))
  have L0 := hideT (PBox.newC w a2 a3 a5 a6 a7 a8 a9 c2 c3 c5 c6 c7 c8 c9 p)
  have HP := hideT h
  have RF := hideT (show ZRow w (.slice a2 p.first.length c2) p.first from h.first)
  have RO := hideT (show ZRow w (.slice a3 p.over.length c3) p.over from h.over)
  have HFI := hideT (show FRow w (.slice a5 p.files.length c5) p.files from h.files)
  obtain ⟨_, hl, _, b, o, ha, hc⟩ := rrow_at (show RRow w (.slice a6 p.rules.length c6) p.rules from h.rules)
  obtain ⟨_, hlf, hcapf, bf, of, haf, hcf⟩ := frow_at (show FRow w (.slice a5 p.files.length c5) p.files from h.files)
  have HC := hideT hc
  have HA := hideT ha
  have HCF := hideT hcf
  have HAF := hideT haf
  clear hc ha hcf haf h
  by_cases g1 : 0 ≤ p.flags
  rotate_left
  · have HF : Hid (¬ Rp.IsP p) := fun H => g1 (Int.le_trans H.1.1 H.1.2.1)
    go_enter Try.func17, Try.ntmps17
    go_wp2_with fail
    go_ret
    exact bpost_no HF.out B0.out
  by_cases g2 : p.flags ≤ 800
  rotate_left
  · have HF : Hid (¬ Rp.IsP p) := fun H => g2 H.1.2.2.1
    go_enter Try.func17, Try.ntmps17
    go_wp2_with fail
    go_ret
    exact bpost_no HF.out B0.out
  by_cases g3 : 0 ≤ p.lasting
  rotate_left
  · have HF : Hid (¬ Rp.IsP p) := fun H => g3 H.1.1
    go_enter Try.func17, Try.ntmps17
    go_wp2_with fail
    go_ret
    exact bpost_no HF.out B0.out
  by_cases g4 : p.lasting ≤ p.flags
  rotate_left
  · have HF : Hid (¬ Rp.IsP p) := fun H => g4 H.1.2.1
    go_enter Try.func17, Try.ntmps17
    go_wp2_with fail
    go_ret
    exact bpost_no HF.out B0.out
  by_cases g5 : Rp.RisP p.lasting p.first
  rotate_left
  · have G5 := hideT g5
    have HF : Hid (¬ Rp.IsP p) := fun H => G5.out H.1.2.2.2.1
    clear g5
    go_enter Try.func17, Try.ntmps17
    go_wp2_with fail
    refine (risingR _ _ _ _ p.first p.lasting (zrow_below RF.out B0.out)).mono ?_
    rintro e w1 k1
    obtain ⟨rfl, b1⟩ := k1.no G5.out
    have B1 := hideT (B0.out.trans (b1.mono B0.out.size))
    have L1 := hideT (L0.out.below b1)
    obtain ⟨x0, x1, x2, x3, x4, x5, x6, x7, x8, x9⟩ := L1.out.cellsC
    clear k1 b1
    go_wp2_with fail
    go_ret
    exact bpost_no HF.out B1.out
  have G5 := hideT g5
  clear g5
  by_cases g6 : Rp.RisP p.lasting p.over
  rotate_left
  · have G6 := hideT g6
    have HF : Hid (¬ Rp.IsP p) := fun H => G6.out H.1.2.2.2.2
    clear g6
    go_enter Try.func17, Try.ntmps17
    go_wp2_with fail
    refine (risingR _ _ _ _ p.first p.lasting (zrow_below RF.out B0.out)).mono ?_
    rintro e w1 k1
    obtain ⟨rfl, b1⟩ := k1.yes G5.out
    have B1 := hideT (B0.out.trans (b1.mono B0.out.size))
    have L1 := hideT (L0.out.below b1)
    obtain ⟨x0, x1, x2, x3, x4, x5, x6, x7, x8, x9⟩ := L1.out.cellsC
    clear k1 b1
    go_wp2_with fail
    refine (risingR _ _ _ _ p.over p.lasting (zrow_below RO.out B1.out)).mono ?_
    rintro e w2 k1
    obtain ⟨rfl, b1⟩ := k1.no G6.out
    have B2 := hideT (B1.out.trans (b1.mono B1.out.size))
    have L2 := hideT (L1.out.below b1)
    obtain ⟨x0, x1, x2, x3, x4, x5, x6, x7, x8, x9⟩ := L2.out.cellsC
    clear k1 b1
    go_wp2_with fail
    go_ret
    exact bpost_no HF.out B2.out
  have G6 := hideT g6
  clear g6
  by_cases g7 : 1 ≤ p.frm
  rotate_left
  · have HF : Hid (¬ Rp.IsP p) := fun H => g7 H.2.1.1
    go_enter Try.func17, Try.ntmps17
    go_wp2_with fail
    refine (risingR _ _ _ _ p.first p.lasting (zrow_below RF.out B0.out)).mono ?_
    rintro e w1 k1
    obtain ⟨rfl, b1⟩ := k1.yes G5.out
    have B1 := hideT (B0.out.trans (b1.mono B0.out.size))
    have L1 := hideT (L0.out.below b1)
    obtain ⟨x0, x1, x2, x3, x4, x5, x6, x7, x8, x9⟩ := L1.out.cellsC
    clear k1 b1
    go_wp2_with fail
    refine (risingR _ _ _ _ p.over p.lasting (zrow_below RO.out B1.out)).mono ?_
    rintro e w2 k1
    obtain ⟨rfl, b1⟩ := k1.yes G6.out
    have B2 := hideT (B1.out.trans (b1.mono B1.out.size))
    have L2 := hideT (L1.out.below b1)
    obtain ⟨x0, x1, x2, x3, x4, x5, x6, x7, x8, x9⟩ := L2.out.cellsC
    clear k1 b1
    go_wp2_with fail
    go_ret
    exact bpost_no HF.out B2.out
  by_cases g8 : p.frm ≤ 20
  rotate_left
  · have HF : Hid (¬ Rp.IsP p) := fun H => g8 H.2.1.2
    go_enter Try.func17, Try.ntmps17
    go_wp2_with fail
    refine (risingR _ _ _ _ p.first p.lasting (zrow_below RF.out B0.out)).mono ?_
    rintro e w1 k1
    obtain ⟨rfl, b1⟩ := k1.yes G5.out
    have B1 := hideT (B0.out.trans (b1.mono B0.out.size))
    have L1 := hideT (L0.out.below b1)
    obtain ⟨x0, x1, x2, x3, x4, x5, x6, x7, x8, x9⟩ := L1.out.cellsC
    clear k1 b1
    go_wp2_with fail
    refine (risingR _ _ _ _ p.over p.lasting (zrow_below RO.out B1.out)).mono ?_
    rintro e w2 k1
    obtain ⟨rfl, b1⟩ := k1.yes G6.out
    have B2 := hideT (B1.out.trans (b1.mono B1.out.size))
    have L2 := hideT (L1.out.below b1)
    obtain ⟨x0, x1, x2, x3, x4, x5, x6, x7, x8, x9⟩ := L2.out.cellsC
    clear k1 b1
    go_wp2_with fail
    go_ret
    exact bpost_no HF.out B2.out
  by_cases g9 : p.rules.length ≤ 1500
  rotate_left
  · have HF : Hid (¬ Rp.IsP p) := fun H => g9 H.2.2.2.1.1
    go_enter Try.func17, Try.ntmps17
    go_wp2_with fail
    refine (risingR _ _ _ _ p.first p.lasting (zrow_below RF.out B0.out)).mono ?_
    rintro e w1 k1
    obtain ⟨rfl, b1⟩ := k1.yes G5.out
    have B1 := hideT (B0.out.trans (b1.mono B0.out.size))
    have L1 := hideT (L0.out.below b1)
    obtain ⟨x0, x1, x2, x3, x4, x5, x6, x7, x8, x9⟩ := L1.out.cellsC
    clear k1 b1
    go_wp2_with fail
    refine (risingR _ _ _ _ p.over p.lasting (zrow_below RO.out B1.out)).mono ?_
    rintro e w2 k1
    obtain ⟨rfl, b1⟩ := k1.yes G6.out
    have B2 := hideT (B1.out.trans (b1.mono B1.out.size))
    have L2 := hideT (L1.out.below b1)
    obtain ⟨x0, x1, x2, x3, x4, x5, x6, x7, x8, x9⟩ := L2.out.cellsC
    clear k1 b1
    go_wp2_with fail
    go_ret
    exact bpost_no HF.out B2.out
  by_cases g10 : p.files.length ≤ 6
  rotate_left
  · have HF : Hid (¬ Rp.IsP p) := fun H => g10 H.2.2.1.1
    go_enter Try.func17, Try.ntmps17
    go_wp2_with fail
    refine (risingR _ _ _ _ p.first p.lasting (zrow_below RF.out B0.out)).mono ?_
    rintro e w1 k1
    obtain ⟨rfl, b1⟩ := k1.yes G5.out
    have B1 := hideT (B0.out.trans (b1.mono B0.out.size))
    have L1 := hideT (L0.out.below b1)
    obtain ⟨x0, x1, x2, x3, x4, x5, x6, x7, x8, x9⟩ := L1.out.cellsC
    clear k1 b1
    go_wp2_with fail
    refine (risingR _ _ _ _ p.over p.lasting (zrow_below RO.out B1.out)).mono ?_
    rintro e w2 k1
    obtain ⟨rfl, b1⟩ := k1.yes G6.out
    have B2 := hideT (B1.out.trans (b1.mono B1.out.size))
    have L2 := hideT (L1.out.below b1)
    obtain ⟨x0, x1, x2, x3, x4, x5, x6, x7, x8, x9⟩ := L2.out.cellsC
    clear k1 b1
    go_wp2_with fail
    go_ret
    exact bpost_no HF.out B2.out
  have HFL : Hid (Rp.FlagsP p ∧ Rp.StratP p.frm) := ⟨⟨g3, g4, g2, G5.out, G6.out⟩, g7, g8⟩
  go_enter Try.func17, Try.ntmps17
  go_wp2_with fail
  refine (risingR _ _ _ _ p.first p.lasting (zrow_below RF.out B0.out)).mono ?_
  rintro e w1 k1
  obtain ⟨rfl, b1⟩ := k1.yes G5.out
  have B1 := hideT (B0.out.trans (b1.mono B0.out.size))
  have L1 := hideT (L0.out.below b1)
  obtain ⟨x0, x1, x2, x3, x4, x5, x6, x7, x8, x9⟩ := L1.out.cellsC
  clear k1 b1
  go_wp2_with fail
  refine (risingR _ _ _ _ p.over p.lasting (zrow_below RO.out B1.out)).mono ?_
  rintro e w2 k1
  obtain ⟨rfl, b1⟩ := k1.yes G6.out
  have B2 := hideT (B1.out.trans (b1.mono B1.out.size))
  have L2 := hideT (L1.out.below b1)
  obtain ⟨x0, x1, x2, x3, x4, x5, x6, x7, x8, x9⟩ := L2.out.cellsC
  clear k1 b1
  go_wp2_with fail
  clear x0 x1 x2 x3 x4 x5 x6 x7 x8 x9
  go_loopw [3] (fun i wr => ∃ k : Nat, k ≤ p.files.length ∧ i = .int .i64 k ∧ Hid (∀ (j : Nat) s, j < k → p.files[j]? = some s → Mp.has (p.files.take j) s = false) ∧ Hid (Below w.heap.size w wr ∧ PBox wr w.heap.size ⟨a2, c2, a3, c3, a5, c5, a6, c6, a7, c7, a8, c8, a9, c9⟩ p)) (fun i _ => p.files.length - (intOf i).toNat)
  case atStart => exact ⟨0, by omega, rfl, (fun j s hj => absurd hj (by omega)), B2.out, L2.out⟩
  case round =>
    obtain ⟨k, hk, rfl, HB, HW⟩ := hrel
    obtain ⟨x0, x1, x2, x3, x4, x5, x6, x7, x8, x9⟩ := HW.out.2.cellsC
    by_cases hlt : k < p.files.length
    · obtain ⟨t, ht⟩ := Mp.at_lt (l := p.files) (k := k) hlt
      obtain ⟨hz, c0⟩ := HCF.out k t ht
      have c0 := below_cell HW.out.1 _ _ c0
      obtain rfl := HAF.out (by omega)
      have HT := hideT ht
      have HR := hideT (rowR_take HFI.out k c5 (by omega) (by omega))
      clear ht
      have t0 : (0 : Int) ≤ (k : Int) := by omega
      have t1 : (k : Int) < (p.files.length : Int) := by omega
      have t2 : (k : Int) ≤ (p.files.length : Int) := by omega
      have t3 : (k : Int) ≤ (c5 : Int) := by omega
      obtain ⟨b2, H2⟩ : ∃ x, Hid (Mp.has (p.files.take k) t = x) := ⟨_, rfl⟩
      cases b2
      · have HF : Hid (∀ (j : Nat) s, j < k + 1 → p.files[j]? = some s → Mp.has (p.files.take j) s = false) := Rp.all_step HB.out HT.out H2.out
        go_wp2_with fail
        go_quiet ((go_at_call 35; exact Calls.quiet_of_same (fileV _ _ k c5 _ t (frow_below (frow_below HR.out HW.out.1) (below_drewN (Below.refl _ _) _)) false H2)))
        go_wp2_with fail
        refine ⟨⟨k + 1, by omega, by go_num, HF, below_drewN HW.out.1 _, HW.out.2.below (below_drewN (Below.refl _ _) _)⟩, ?_⟩
        first | omega | (simp [intOf]; omega)
      · have HF : Hid (¬ Rp.IsP p) := fun H => by
          have := (once_iff p.files).1 H.2.2.1.2 k t HT.out
          rw [H2.out] at this
          cases this
        go_wp2_with fail
        go_quiet ((go_at_call 35; exact Calls.quiet_of_same (fileV _ _ k c5 _ t (frow_below (frow_below HR.out HW.out.1) (below_drewN (Below.refl _ _) _)) true H2)))
        go_wp2_with fail
        go_ret
        exact bpost_no HF.out (below_drewN HW.out.1 _)
    have HFF : Hid (Rp.FilesP p.files) := ⟨g10, (once_iff p.files).2 (Rp.all_done HB.out (by omega))⟩
    go_wp2_with fail
    clear x0 x1 x2 x3 x4 x5 x6 x7 x8 x9
    go_loopw [4] (fun i wr => ∃ k : Nat, k ≤ p.rules.length ∧ i = .int .i64 k ∧ Hid (∀ (j : Nat) r, j < k → p.rules[j]? = some r → RuleAtQ p j r) ∧ Hid (Below w.heap.size w wr ∧ PBox wr w.heap.size ⟨a2, c2, a3, c3, a5, c5, a6, c6, a7, c7, a8, c8, a9, c9⟩ p)) (fun i _ => p.rules.length - (intOf i).toNat)
    case atStart => exact ⟨0, by omega, rfl, (fun j s hj => absurd hj (by omega)), HW.out⟩
    case round =>
      obtain ⟨k, hk, rfl, HB2, HW⟩ := hrel
      obtain ⟨x0, x1, x2, x3, x4, x5, x6, x7, x8, x9⟩ := HW.out.2.cellsC
      by_cases hlt : k < p.rules.length
      rotate_left
      · have HRU : Hid (∀ (j : Nat) r, p.rules[j]? = some r → RuleAtQ p j r) := Rp.all_done HB2.out (by omega)
        have HRP : Hid (Rp.RulesP p) := ⟨g9, fun i r hi => ⟨(HRU.out i r hi).1.1, (HRU.out i r hi).1.2, (HRU.out i r hi).2⟩⟩
        have HRQ : Hid (∀ r ∈ p.rules, RuleQ p r) := fun r hr => by
          obtain ⟨i, hi⟩ := List.getElem?_of_mem hr
          exact (HRU.out i r hi).1
        go_wp2_with fail
        refine (refStrataD _ ⟨a2, c2, a3, c3, a5, c5, a6, c6, a7, c7, a8, c8, a9, c9⟩ p (HP.out.below HW.out.1) ⟨HFL.out.1.1, HFL.out.1.2.1, HFL.out.1.2.2.1⟩ HRQ.out).mono ?_
        rintro e w3 k1
        by_cases q : Rp.StrataP p
        rotate_left
        · have HF : Hid (¬ Rp.IsP p) := fun H => q H.2.2.2.2.2.2
          obtain ⟨rfl, b1⟩ := k1.no q
          have BT := hideT (HW.out.1.trans (b1.mono HW.out.1.size))
          clear k1 b1 q x0 x1 x2 x3 x4 x5 x6 x7 x8 x9
          go_wp2_with fail
          go_ret
          exact bpost_no HF.out BT.out
        obtain ⟨rfl, b1⟩ := k1.yes q
        have BT := hideT (HW.out.1.trans (b1.mono HW.out.1.size))
        have LT := hideT (HW.out.2.below b1)
        have HSP := hideT q
        clear k1 b1 q x0 x1 x2 x3 x4 x5 x6 x7 x8 x9
        obtain ⟨x0, x1, x2, x3, x4, x5, x6, x7, x8, x9⟩ := LT.out.cellsC
        go_wp2_with fail
        refine (endsD _ ⟨a2, c2, a3, c3, a5, c5, a6, c6, a7, c7, a8, c8, a9, c9⟩ p (HP.out.below BT.out) HFL.out.1.1).mono ?_
        clear x0 x1 x2 x3 x4 x5 x6 x7 x8 x9
        rintro e w4 k1
        by_cases q : Rp.CtrsP p ∧ Rp.UsersP p
        · have HF : Hid (Rp.IsP p) := ⟨HFL.out.1, HFL.out.2, HFF.out, HRP.out, q.1, q.2, HSP.out⟩
          obtain ⟨rfl, b1⟩ := k1.yes q
          have BT2 := hideT (BT.out.trans (b1.mono BT.out.size))
          clear k1 b1 q
          go_wp2_with fail
          go_ret
          exact bpost_yes HF.out BT2.out
        · have HF : Hid (¬ Rp.IsP p) := fun H => q ⟨H.2.2.2.2.1, H.2.2.2.2.2.1⟩
          obtain ⟨rfl, b1⟩ := k1.no q
          have BT2 := hideT (BT.out.trans (b1.mono BT.out.size))
          clear k1 b1 q
          go_wp2_with fail
          go_ret
          exact bpost_no HF.out BT2.out
      obtain ⟨⟨s, l1, l2, l3⟩, hx⟩ := Mp.at_lt (l := p.rules) (k := k) hlt
      obtain ⟨i1, n1, i2, n2, i3, n3, I0⟩ := HC.out k _ hx
      obtain ⟨r1, r2, r3, d0, d1, d2, d3⟩ := I0.turn (below_cell HW.out.1)
      dsimp only at r1 r2 r3 d0 d1 d2 d3
      obtain rfl := HA.out (by omega)
      have HX := hideT hx
      have R1 := hideT r1
      have R2 := hideT r2
      have R3 := hideT r3
      have HNO : Hid (¬ RuleAtQ p k (s, l1, l2, l3) → ¬ Rp.IsP p) := fun h H => h ⟨⟨(H.2.2.2.1.2 k _ HX.out).1, (H.2.2.2.1.2 k _ HX.out).2.1⟩, (H.2.2.2.1.2 k _ HX.out).2.2⟩
      clear hx I0 r1 r2 r3
      have t0 : (0 : Int) ≤ (k : Int) := by omega
      have t1 : (k : Int) < (p.rules.length : Int) := by omega
      have BD := hideT (show Below wr.heap.size wr wr.drew from below_drewN (Below.refl _ _) 1)
      have BWD := hideT (HW.out.1.trans (BD.out.mono HW.out.1.size))
      have LWD := hideT (HW.out.2.below BD.out)
      by_cases q1 : RuleQ p (s, l1, l2, l3)
      rotate_left
      · have HF := hideT (HNO.out fun H => q1 H.1)
        have Q := hideT q1
        clear q1
        go_wp2_with fail
        refine wp_region_held_drew (S := (fun w' => w'.cell? ⟨w.heap.size, 0, none⟩ = some (.int .i64 p.flags) ∧ w'.cell? ⟨w.heap.size, 1, none⟩ = some (.int .i64 p.lasting) ∧ w'.cell? ⟨w.heap.size, 2, none⟩ = some (.slice a2 p.first.length c2) ∧ w'.cell? ⟨w.heap.size, 3, none⟩ = some (.slice a3 p.over.length c3) ∧ w'.cell? ⟨w.heap.size, 4, none⟩ = some (.int .i64 p.frm) ∧ w'.cell? ⟨w.heap.size, 5, none⟩ = some (.slice a5 p.files.length c5) ∧ w'.cell? ⟨w.heap.size, 6, none⟩ = some (.slice (some ⟨b, o, none⟩) p.rules.length c6) ∧ w'.cell? ⟨w.heap.size, 7, none⟩ = some (.slice a7 p.ctrs.length c7) ∧ w'.cell? ⟨w.heap.size, 8, none⟩ = some (.slice a8 p.users.length c8) ∧ w'.cell? ⟨w.heap.size, 9, none⟩ = some (.slice a9 p.notes.length c9) ∧ w'.cell? ⟨b, o + k * 4, none⟩ = some (.int .i64 s) ∧ w'.cell? ⟨b, o + k * 4 + 1, none⟩ = some (.slice i1 l1.length n1) ∧ w'.cell? ⟨b, o + k * 4 + 2, none⟩ = some (.slice i2 l2.length n2) ∧ w'.cell? ⟨b, o + k * 4 + 3, none⟩ = some (.slice i3 l3.length n3))) (by kernel_rfl) ?_ (fun hHeld => ?_)
        · try dsimp only
          go_keep
        refine wpAnyH_take (i := 0) (oi := { dst := some 87, op := Go.Op.load 29 (Go.Operand.tmp 1), type := 29, pos := "rules.go:148", after := #[], guard := none }) (v := ?va0) rfl (by kernel_rfl) (by kernel_rfl) (by kernel_rfl) (fun _ _ _ h => h) (Or.inl ⟨by rfl, ?hya0⟩) (by assumption) ?resta0
        case hya0 => first | (intro w hSw; (try dsimp only at hSw); go_simp; done) | (intro w hSw; (try dsimp only at hSw); go_simp; with_reducible rfl)
        try simp only [Act.put, List.setIfInBounds_toArray, List.set_cons_zero, List.set_cons_succ]
        refine wpAnyH_take (i := 1) (oi := { dst := some 88, op := Go.Op.fieldAddr 29 (Go.Operand.tmp 1) 6, type := 0, pos := "rules.go:148", after := #[], guard := none }) (v := ?va1) rfl (by kernel_rfl) (by kernel_rfl) (by kernel_rfl) (fun _ _ _ h => h) (Or.inl ⟨by rfl, ?hya1⟩) (by assumption) ?resta1
        case hya1 => first | (intro w hSw; (try dsimp only at hSw); go_simp; done) | (intro w hSw; (try dsimp only at hSw); go_simp; with_reducible rfl)
        try simp only [Act.put, List.setIfInBounds_toArray, List.set_cons_zero, List.set_cons_succ]
        refine wpAnyH_take (i := 2) (oi := { dst := some 89, op := Go.Op.load 24 (Go.Operand.tmp 88), type := 24, pos := "rules.go:148", after := #[{ on := 1, ground := Go.Ground.data }], guard := none }) (v := ?va2) rfl (by kernel_rfl) (by kernel_rfl) (by kernel_rfl) (fun _ _ _ h => h) (Or.inl ⟨by rfl, ?hya2⟩) (by assumption) ?resta2
        case hya2 => first | (intro w hSw; (try dsimp only at hSw); go_simp; done) | (intro w hSw; (try dsimp only at hSw); go_simp; with_reducible rfl)
        try simp only [Act.put, List.setIfInBounds_toArray, List.set_cons_zero, List.set_cons_succ]
        refine wpAnyH_take (i := 3) (oi := { dst := some 90, op := Go.Op.move (Go.Operand.tmp 4), type := 3, pos := "rules.go:148", after := #[], guard := none }) (v := ?va3) rfl (by kernel_rfl) (by kernel_rfl) (by kernel_rfl) (fun _ _ _ h => h) (Or.inl ⟨by rfl, ?hya3⟩) (by assumption) ?resta3
        case hya3 => first | (intro w hSw; (try dsimp only at hSw); go_simp; done) | (intro w hSw; (try dsimp only at hSw); go_simp; with_reducible rfl)
        try simp only [Act.put, List.setIfInBounds_toArray, List.set_cons_zero, List.set_cons_succ]
        refine wpAnyH_take (i := 4) (oi := { dst := some 91, op := Go.Op.indexAddr 24 (Go.Operand.tmp 89) (Go.Operand.tmp 90), type := 0, pos := "rules.go:148", after := #[{ on := 2, ground := Go.Ground.data }, { on := 3, ground := Go.Ground.data }], guard := none }) (v := ?va4) rfl (by kernel_rfl) (by kernel_rfl) (by kernel_rfl) (fun _ _ _ h => h) (Or.inl ⟨by rfl, ?hya4⟩) (by assumption) ?resta4
        case hya4 => first | (intro w hSw; (try dsimp only at hSw); go_simp; done) | (intro w hSw; (try dsimp only at hSw); go_simp; with_reducible rfl)
        try simp only [Act.put, List.setIfInBounds_toArray, List.set_cons_zero, List.set_cons_succ]
        refine wpAnyH_take (i := 5) (oi := { dst := some 92, op := Go.Op.load 61 (Go.Operand.tmp 91), type := 61, pos := "rules.go:148", after := #[{ on := 4, ground := Go.Ground.data }], guard := none }) (v := ?va5) rfl (by kernel_rfl) (by kernel_rfl) (by kernel_rfl) (fun _ _ _ h => h) (Or.inl ⟨by rfl, ?hya5⟩) (by assumption) ?resta5
        case hya5 => first | (intro w hSw; (try dsimp only at hSw); go_simp; done) | (intro w hSw; (try dsimp only at hSw); go_simp; with_reducible rfl)
        try simp only [Act.put, List.setIfInBounds_toArray, List.set_cons_zero, List.set_cons_succ]
        refine wpAnyH_ready (rs := [6]) (by kernel_rfl) (by simp) ?_
        refine AllReadyH.cons (o := { dst := some 93, op := Go.Op.call { callee := Go.Callee.value (Go.Operand.func 36), args := #[Go.Operand.tmp 87, Go.Operand.tmp 92], argTypes := #[29, 61] }, type := 4, pos := "rules.go:148", after := #[{ on := 0, ground := Go.Ground.data }, { on := 5, ground := Go.Ground.data }], guard := none }) rfl (fun Kx hK => ?_) AllReadyH.nil
        rw [if_pos (by rfl)]
        go_simp
        go_at_call 36
        refine (refRuleD _ ⟨a2, c2, a3, c3, a5, c5, some ⟨b, o, none⟩, c6, a7, c7, a8, c8, a9, c9⟩ p (frow_below HFI.out BWD.out) s l1 l2 l3 i1 i2 i3 n1 n2 n3 (lrow_below R1.out BD.out) (crow_below R2.out BD.out) (lrow_below R3.out BD.out)).mono ?_
        rintro e w1 h1
        obtain ⟨rfl, b1⟩ := h1.no Q.out
        clear h1
        have HB1 := hideT b1
        refine hK.out _ _ ?_ (fun hHeld6 => ?_)
        · exact ⟨below_cell b1 _ _ x0, below_cell b1 _ _ x1, below_cell b1 _ _ x2, below_cell b1 _ _ x3, below_cell b1 _ _ x4, below_cell b1 _ _ x5, below_cell b1 _ _ x6, below_cell b1 _ _ x7, below_cell b1 _ _ x8, below_cell b1 _ _ x9, below_cell b1 _ _ d0, below_cell b1 _ _ d1, below_cell b1 _ _ d2, below_cell b1 _ _ d3⟩
        clear hK Kx
        try simp only [Act.put, List.setIfInBounds_toArray, List.set_cons_zero, List.set_cons_succ]
        refine wpAnyH_take (i := 7) (oi := { dst := some 94, op := Go.Op.unOp Go.UnOp.not 4 (Go.Operand.tmp 93), type := 4, pos := "rules.go:148", after := #[{ on := 6, ground := Go.Ground.data }], guard := none }) (v := ?va7) rfl (by kernel_rfl) (by kernel_rfl) (by kernel_rfl) (fun _ _ _ h => h) (Or.inl ⟨by rfl, ?hya7⟩) (by assumption) ?resta7
        case hya7 => first | (intro w hSw; (try dsimp only at hSw); go_simp; done) | (intro w hSw; (try dsimp only at hSw); go_simp; with_reducible rfl)
        try simp only [Act.put, List.setIfInBounds_toArray, List.set_cons_zero, List.set_cons_succ]
        refine wpAnyH_take (i := 8) (oi := { dst := some 95, op := Go.Op.move (Go.Operand.tmp 94), type := 4, pos := "rules.go:148", after := #[{ on := 7, ground := Go.Ground.data }, { on := 6, ground := Go.Ground.chain }], guard := none }) (v := ?va8) rfl (by kernel_rfl) (by kernel_rfl) (by kernel_rfl) (fun _ _ _ h => h) (Or.inl ⟨by rfl, ?hya8⟩) (by assumption) ?resta8
        case hya8 => first | (intro w hSw; (try dsimp only at hSw); go_simp; done) | (intro w hSw; (try dsimp only at hSw); go_simp; with_reducible rfl)
        try simp only [Act.put, List.setIfInBounds_toArray, List.set_cons_zero, List.set_cons_succ]
        refine wpAnyH_take (i := 9) (oi := { dst := some 96, op := Go.Op.move (Go.Operand.tmp 4), type := 3, pos := "rules.go:148", after := #[{ on := 8, ground := Go.Ground.guard }], guard := some (8, false) }) (v := undef) rfl (by kernel_rfl) (by kernel_rfl) (by kernel_rfl) (fun _ _ _ h => h) (Or.inr ⟨by rfl, rfl⟩) (by assumption) ?_
        try simp only [Act.put, List.setIfInBounds_toArray, List.set_cons_zero, List.set_cons_succ]
        refine wpAnyH_take (i := 10) (oi := { dst := some 97, op := Go.Op.binOp Go.BinOp.gtr 3 (Go.Operand.tmp 96) (Go.Operand.const (Go.Value.int Go.IntKind.i64 0)) 3, type := 4, pos := "rules.go:148", after := #[{ on := 9, ground := Go.Ground.data }, { on := 8, ground := Go.Ground.guard }], guard := some (8, false) }) (v := undef) rfl (by kernel_rfl) (by kernel_rfl) (by kernel_rfl) (fun _ _ _ h => h) (Or.inr ⟨by rfl, rfl⟩) (by assumption) ?_
        try simp only [Act.put, List.setIfInBounds_toArray, List.set_cons_zero, List.set_cons_succ]
        refine wpAnyH_take (i := 11) (oi := { dst := some 98, op := Go.Op.move (Go.Operand.tmp 97), type := 4, pos := "rules.go:148", after := #[{ on := 10, ground := Go.Ground.data }, { on := 8, ground := Go.Ground.chain }, { on := 8, ground := Go.Ground.guard }], guard := some (8, false) }) (v := undef) rfl (by kernel_rfl) (by kernel_rfl) (by kernel_rfl) (fun _ _ _ h => h) (Or.inr ⟨by rfl, rfl⟩) (by assumption) ?_
        try simp only [Act.put, List.setIfInBounds_toArray, List.set_cons_zero, List.set_cons_succ]
        refine wpAnyH_take (i := 12) (oi := { dst := some 99, op := Go.Op.fieldAddr 29 (Go.Operand.tmp 1) 6, type := 0, pos := "rules.go:148", after := #[{ on := 11, ground := Go.Ground.guard }], guard := some (11, true) }) (v := undef) rfl (by kernel_rfl) (by kernel_rfl) (by kernel_rfl) (fun _ _ _ h => h) (Or.inr ⟨by rfl, rfl⟩) (by assumption) ?_
        try simp only [Act.put, List.setIfInBounds_toArray, List.set_cons_zero, List.set_cons_succ]
        refine wpAnyH_take (i := 13) (oi := { dst := some 100, op := Go.Op.load 24 (Go.Operand.tmp 99), type := 24, pos := "rules.go:148", after := #[{ on := 12, ground := Go.Ground.data }, { on := 11, ground := Go.Ground.guard }], guard := some (11, true) }) (v := undef) rfl (by kernel_rfl) (by kernel_rfl) (by kernel_rfl) (fun _ _ _ h => h) (Or.inr ⟨by rfl, rfl⟩) (by assumption) ?_
        try simp only [Act.put, List.setIfInBounds_toArray, List.set_cons_zero, List.set_cons_succ]
        refine wpAnyH_take (i := 14) (oi := { dst := some 101, op := Go.Op.move (Go.Operand.tmp 4), type := 3, pos := "rules.go:148", after := #[{ on := 11, ground := Go.Ground.guard }], guard := some (11, true) }) (v := undef) rfl (by kernel_rfl) (by kernel_rfl) (by kernel_rfl) (fun _ _ _ h => h) (Or.inr ⟨by rfl, rfl⟩) (by assumption) ?_
        try simp only [Act.put, List.setIfInBounds_toArray, List.set_cons_zero, List.set_cons_succ]
        refine wpAnyH_take (i := 15) (oi := { dst := some 102, op := Go.Op.binOp Go.BinOp.sub 3 (Go.Operand.tmp 101) (Go.Operand.const (Go.Value.int Go.IntKind.i64 1)) 3, type := 3, pos := "rules.go:148", after := #[{ on := 14, ground := Go.Ground.data }, { on := 11, ground := Go.Ground.guard }], guard := some (11, true) }) (v := undef) rfl (by kernel_rfl) (by kernel_rfl) (by kernel_rfl) (fun _ _ _ h => h) (Or.inr ⟨by rfl, rfl⟩) (by assumption) ?_
        try simp only [Act.put, List.setIfInBounds_toArray, List.set_cons_zero, List.set_cons_succ]
        refine wpAnyH_take (i := 16) (oi := { dst := some 103, op := Go.Op.indexAddr 24 (Go.Operand.tmp 100) (Go.Operand.tmp 102), type := 0, pos := "rules.go:148", after := #[{ on := 13, ground := Go.Ground.data }, { on := 15, ground := Go.Ground.data }, { on := 11, ground := Go.Ground.guard }], guard := some (11, true) }) (v := undef) rfl (by kernel_rfl) (by kernel_rfl) (by kernel_rfl) (fun _ _ _ h => h) (Or.inr ⟨by rfl, rfl⟩) (by assumption) ?_
        try simp only [Act.put, List.setIfInBounds_toArray, List.set_cons_zero, List.set_cons_succ]
        refine wpAnyH_take (i := 17) (oi := { dst := some 104, op := Go.Op.fieldAddr 61 (Go.Operand.tmp 103) 0, type := 0, pos := "rules.go:148", after := #[{ on := 16, ground := Go.Ground.data }, { on := 11, ground := Go.Ground.guard }], guard := some (11, true) }) (v := undef) rfl (by kernel_rfl) (by kernel_rfl) (by kernel_rfl) (fun _ _ _ h => h) (Or.inr ⟨by rfl, rfl⟩) (by assumption) ?_
        try simp only [Act.put, List.setIfInBounds_toArray, List.set_cons_zero, List.set_cons_succ]
        refine wpAnyH_take (i := 18) (oi := { dst := some 105, op := Go.Op.load 3 (Go.Operand.tmp 104), type := 3, pos := "rules.go:148", after := #[{ on := 17, ground := Go.Ground.data }, { on := 11, ground := Go.Ground.guard }], guard := some (11, true) }) (v := undef) rfl (by kernel_rfl) (by kernel_rfl) (by kernel_rfl) (fun _ _ _ h => h) (Or.inr ⟨by rfl, rfl⟩) (by assumption) ?_
        try simp only [Act.put, List.setIfInBounds_toArray, List.set_cons_zero, List.set_cons_succ]
        refine wpAnyH_take (i := 19) (oi := { dst := some 106, op := Go.Op.fieldAddr 29 (Go.Operand.tmp 1) 6, type := 0, pos := "rules.go:148", after := #[{ on := 11, ground := Go.Ground.guard }], guard := some (11, true) }) (v := undef) rfl (by kernel_rfl) (by kernel_rfl) (by kernel_rfl) (fun _ _ _ h => h) (Or.inr ⟨by rfl, rfl⟩) (by assumption) ?_
        try simp only [Act.put, List.setIfInBounds_toArray, List.set_cons_zero, List.set_cons_succ]
        refine wpAnyH_take (i := 20) (oi := { dst := some 107, op := Go.Op.load 24 (Go.Operand.tmp 106), type := 24, pos := "rules.go:148", after := #[{ on := 19, ground := Go.Ground.data }, { on := 11, ground := Go.Ground.guard }], guard := some (11, true) }) (v := undef) rfl (by kernel_rfl) (by kernel_rfl) (by kernel_rfl) (fun _ _ _ h => h) (Or.inr ⟨by rfl, rfl⟩) (by assumption) ?_
        try simp only [Act.put, List.setIfInBounds_toArray, List.set_cons_zero, List.set_cons_succ]
        refine wpAnyH_take (i := 21) (oi := { dst := some 108, op := Go.Op.move (Go.Operand.tmp 4), type := 3, pos := "rules.go:148", after := #[{ on := 11, ground := Go.Ground.guard }], guard := some (11, true) }) (v := undef) rfl (by kernel_rfl) (by kernel_rfl) (by kernel_rfl) (fun _ _ _ h => h) (Or.inr ⟨by rfl, rfl⟩) (by assumption) ?_
        try simp only [Act.put, List.setIfInBounds_toArray, List.set_cons_zero, List.set_cons_succ]
        refine wpAnyH_take (i := 22) (oi := { dst := some 109, op := Go.Op.indexAddr 24 (Go.Operand.tmp 107) (Go.Operand.tmp 108), type := 0, pos := "rules.go:148", after := #[{ on := 20, ground := Go.Ground.data }, { on := 21, ground := Go.Ground.data }, { on := 11, ground := Go.Ground.guard }], guard := some (11, true) }) (v := undef) rfl (by kernel_rfl) (by kernel_rfl) (by kernel_rfl) (fun _ _ _ h => h) (Or.inr ⟨by rfl, rfl⟩) (by assumption) ?_
        try simp only [Act.put, List.setIfInBounds_toArray, List.set_cons_zero, List.set_cons_succ]
        refine wpAnyH_take (i := 23) (oi := { dst := some 110, op := Go.Op.fieldAddr 61 (Go.Operand.tmp 109) 0, type := 0, pos := "rules.go:148", after := #[{ on := 22, ground := Go.Ground.data }, { on := 11, ground := Go.Ground.guard }], guard := some (11, true) }) (v := undef) rfl (by kernel_rfl) (by kernel_rfl) (by kernel_rfl) (fun _ _ _ h => h) (Or.inr ⟨by rfl, rfl⟩) (by assumption) ?_
        try simp only [Act.put, List.setIfInBounds_toArray, List.set_cons_zero, List.set_cons_succ]
        refine wpAnyH_take (i := 24) (oi := { dst := some 111, op := Go.Op.load 3 (Go.Operand.tmp 110), type := 3, pos := "rules.go:148", after := #[{ on := 23, ground := Go.Ground.data }, { on := 11, ground := Go.Ground.guard }], guard := some (11, true) }) (v := undef) rfl (by kernel_rfl) (by kernel_rfl) (by kernel_rfl) (fun _ _ _ h => h) (Or.inr ⟨by rfl, rfl⟩) (by assumption) ?_
        try simp only [Act.put, List.setIfInBounds_toArray, List.set_cons_zero, List.set_cons_succ]
        refine wpAnyH_take (i := 25) (oi := { dst := some 112, op := Go.Op.binOp Go.BinOp.gtr 3 (Go.Operand.tmp 105) (Go.Operand.tmp 111) 3, type := 4, pos := "rules.go:148", after := #[{ on := 18, ground := Go.Ground.data }, { on := 24, ground := Go.Ground.data }, { on := 11, ground := Go.Ground.guard }], guard := some (11, true) }) (v := undef) rfl (by kernel_rfl) (by kernel_rfl) (by kernel_rfl) (fun _ _ _ h => h) (Or.inr ⟨by rfl, rfl⟩) (by assumption) ?_
        try simp only [Act.put, List.setIfInBounds_toArray, List.set_cons_zero, List.set_cons_succ]
        refine wpAnyH_take (i := 26) (oi := { dst := some 113, op := Go.Op.pick (Go.Operand.tmp 98) (Go.Operand.tmp 112) (Go.Operand.const (Go.Value.bool false)), type := 4, pos := "rules.go:148", after := #[{ on := 11, ground := Go.Ground.data }, { on := 25, ground := Go.Ground.data }, { on := 8, ground := Go.Ground.guard }], guard := some (8, false) }) (v := undef) rfl (by kernel_rfl) (by kernel_rfl) (by kernel_rfl) (fun _ _ _ h => h) (Or.inr ⟨by rfl, rfl⟩) (by assumption) ?_
        try simp only [Act.put, List.setIfInBounds_toArray, List.set_cons_zero, List.set_cons_succ]
        refine wpAnyH_take (i := 27) (oi := { dst := some 114, op := Go.Op.pick (Go.Operand.tmp 95) (Go.Operand.const (Go.Value.bool true)) (Go.Operand.tmp 113), type := 4, pos := "rules.go:148", after := #[{ on := 8, ground := Go.Ground.data }, { on := 26, ground := Go.Ground.data }], guard := none }) (v := ?va27) rfl (by kernel_rfl) (by kernel_rfl) (by kernel_rfl) (fun _ _ _ h => h) (Or.inl ⟨by rfl, ?hya27⟩) (by assumption) ?resta27
        case hya27 => first | (intro w hSw; (try dsimp only at hSw); go_simp; done) | (intro w hSw; (try dsimp only at hSw); go_simp; with_reducible rfl)
        try simp only [Act.put, List.setIfInBounds_toArray, List.set_cons_zero, List.set_cons_succ]
        refine wpAnyH_done (by kernel_rfl) ?_ _
        have BT := hideT (BWD.out.trans (HB1.out.mono BWD.out.size))
        all_goals go_wp2_with fail
        all_goals go_ret
        all_goals exact bpost_no HF.out BT.out
      have Q := hideT q1
      clear q1
      by_cases h0 : k = 0
      · have HR : Hid (∀ (j : Nat) r, j < k + 1 → p.rules[j]? = some r → RuleAtQ p j r) := Rp.all_step HB2.out HX.out ⟨Q.out, fun j y hj => absurd hj (by omega)⟩
        have t3 : ¬ (0 : Int) < (k : Int) := by omega
        have t4 : decide (0 < k) = false := decide_eq_false (by omega)
        have t5 : decide ((0 : Int) < (k : Int)) = false := decide_eq_false (by omega)
        clear h0
        go_wp2_with fail
        refine wp_region_held_drew (S := (fun w' => w'.cell? ⟨w.heap.size, 0, none⟩ = some (.int .i64 p.flags) ∧ w'.cell? ⟨w.heap.size, 1, none⟩ = some (.int .i64 p.lasting) ∧ w'.cell? ⟨w.heap.size, 2, none⟩ = some (.slice a2 p.first.length c2) ∧ w'.cell? ⟨w.heap.size, 3, none⟩ = some (.slice a3 p.over.length c3) ∧ w'.cell? ⟨w.heap.size, 4, none⟩ = some (.int .i64 p.frm) ∧ w'.cell? ⟨w.heap.size, 5, none⟩ = some (.slice a5 p.files.length c5) ∧ w'.cell? ⟨w.heap.size, 6, none⟩ = some (.slice (some ⟨b, o, none⟩) p.rules.length c6) ∧ w'.cell? ⟨w.heap.size, 7, none⟩ = some (.slice a7 p.ctrs.length c7) ∧ w'.cell? ⟨w.heap.size, 8, none⟩ = some (.slice a8 p.users.length c8) ∧ w'.cell? ⟨w.heap.size, 9, none⟩ = some (.slice a9 p.notes.length c9) ∧ w'.cell? ⟨b, o + k * 4, none⟩ = some (.int .i64 s) ∧ w'.cell? ⟨b, o + k * 4 + 1, none⟩ = some (.slice i1 l1.length n1) ∧ w'.cell? ⟨b, o + k * 4 + 2, none⟩ = some (.slice i2 l2.length n2) ∧ w'.cell? ⟨b, o + k * 4 + 3, none⟩ = some (.slice i3 l3.length n3))) (by kernel_rfl) ?_ (fun hHeld => ?_)
        · try dsimp only
          go_keep
        refine wpAnyH_take (i := 0) (oi := { dst := some 87, op := Go.Op.load 29 (Go.Operand.tmp 1), type := 29, pos := "rules.go:148", after := #[], guard := none }) (v := ?vb0) rfl (by kernel_rfl) (by kernel_rfl) (by kernel_rfl) (fun _ _ _ h => h) (Or.inl ⟨by rfl, ?hyb0⟩) (by assumption) ?restb0
        case hyb0 => first | (intro w hSw; (try dsimp only at hSw); go_simp; done) | (intro w hSw; (try dsimp only at hSw); go_simp; with_reducible rfl)
        try simp only [Act.put, List.setIfInBounds_toArray, List.set_cons_zero, List.set_cons_succ]
        refine wpAnyH_take (i := 1) (oi := { dst := some 88, op := Go.Op.fieldAddr 29 (Go.Operand.tmp 1) 6, type := 0, pos := "rules.go:148", after := #[], guard := none }) (v := ?vb1) rfl (by kernel_rfl) (by kernel_rfl) (by kernel_rfl) (fun _ _ _ h => h) (Or.inl ⟨by rfl, ?hyb1⟩) (by assumption) ?restb1
        case hyb1 => first | (intro w hSw; (try dsimp only at hSw); go_simp; done) | (intro w hSw; (try dsimp only at hSw); go_simp; with_reducible rfl)
        try simp only [Act.put, List.setIfInBounds_toArray, List.set_cons_zero, List.set_cons_succ]
        refine wpAnyH_take (i := 2) (oi := { dst := some 89, op := Go.Op.load 24 (Go.Operand.tmp 88), type := 24, pos := "rules.go:148", after := #[{ on := 1, ground := Go.Ground.data }], guard := none }) (v := ?vb2) rfl (by kernel_rfl) (by kernel_rfl) (by kernel_rfl) (fun _ _ _ h => h) (Or.inl ⟨by rfl, ?hyb2⟩) (by assumption) ?restb2
        case hyb2 => first | (intro w hSw; (try dsimp only at hSw); go_simp; done) | (intro w hSw; (try dsimp only at hSw); go_simp; with_reducible rfl)
        try simp only [Act.put, List.setIfInBounds_toArray, List.set_cons_zero, List.set_cons_succ]
        refine wpAnyH_take (i := 3) (oi := { dst := some 90, op := Go.Op.move (Go.Operand.tmp 4), type := 3, pos := "rules.go:148", after := #[], guard := none }) (v := ?vb3) rfl (by kernel_rfl) (by kernel_rfl) (by kernel_rfl) (fun _ _ _ h => h) (Or.inl ⟨by rfl, ?hyb3⟩) (by assumption) ?restb3
        case hyb3 => first | (intro w hSw; (try dsimp only at hSw); go_simp; done) | (intro w hSw; (try dsimp only at hSw); go_simp; with_reducible rfl)
        try simp only [Act.put, List.setIfInBounds_toArray, List.set_cons_zero, List.set_cons_succ]
        refine wpAnyH_take (i := 4) (oi := { dst := some 91, op := Go.Op.indexAddr 24 (Go.Operand.tmp 89) (Go.Operand.tmp 90), type := 0, pos := "rules.go:148", after := #[{ on := 2, ground := Go.Ground.data }, { on := 3, ground := Go.Ground.data }], guard := none }) (v := ?vb4) rfl (by kernel_rfl) (by kernel_rfl) (by kernel_rfl) (fun _ _ _ h => h) (Or.inl ⟨by rfl, ?hyb4⟩) (by assumption) ?restb4
        case hyb4 => first | (intro w hSw; (try dsimp only at hSw); go_simp; done) | (intro w hSw; (try dsimp only at hSw); go_simp; with_reducible rfl)
        try simp only [Act.put, List.setIfInBounds_toArray, List.set_cons_zero, List.set_cons_succ]
        refine wpAnyH_take (i := 5) (oi := { dst := some 92, op := Go.Op.load 61 (Go.Operand.tmp 91), type := 61, pos := "rules.go:148", after := #[{ on := 4, ground := Go.Ground.data }], guard := none }) (v := ?vb5) rfl (by kernel_rfl) (by kernel_rfl) (by kernel_rfl) (fun _ _ _ h => h) (Or.inl ⟨by rfl, ?hyb5⟩) (by assumption) ?restb5
        case hyb5 => first | (intro w hSw; (try dsimp only at hSw); go_simp; done) | (intro w hSw; (try dsimp only at hSw); go_simp; with_reducible rfl)
        try simp only [Act.put, List.setIfInBounds_toArray, List.set_cons_zero, List.set_cons_succ]
        refine wpAnyH_ready (rs := [6]) (by kernel_rfl) (by simp) ?_
        refine AllReadyH.cons (o := { dst := some 93, op := Go.Op.call { callee := Go.Callee.value (Go.Operand.func 36), args := #[Go.Operand.tmp 87, Go.Operand.tmp 92], argTypes := #[29, 61] }, type := 4, pos := "rules.go:148", after := #[{ on := 0, ground := Go.Ground.data }, { on := 5, ground := Go.Ground.data }], guard := none }) rfl (fun Kx hK => ?_) AllReadyH.nil
        rw [if_pos (by rfl)]
        go_simp
        go_at_call 36
        refine (refRuleD _ ⟨a2, c2, a3, c3, a5, c5, some ⟨b, o, none⟩, c6, a7, c7, a8, c8, a9, c9⟩ p (frow_below HFI.out BWD.out) s l1 l2 l3 i1 i2 i3 n1 n2 n3 (lrow_below R1.out BD.out) (crow_below R2.out BD.out) (lrow_below R3.out BD.out)).mono ?_
        rintro e w1 h1
        obtain ⟨rfl, b1⟩ := h1.yes Q.out
        clear h1
        have HB1 := hideT b1
        refine hK.out _ _ ?_ (fun hHeld6 => ?_)
        · exact ⟨below_cell b1 _ _ x0, below_cell b1 _ _ x1, below_cell b1 _ _ x2, below_cell b1 _ _ x3, below_cell b1 _ _ x4, below_cell b1 _ _ x5, below_cell b1 _ _ x6, below_cell b1 _ _ x7, below_cell b1 _ _ x8, below_cell b1 _ _ x9, below_cell b1 _ _ d0, below_cell b1 _ _ d1, below_cell b1 _ _ d2, below_cell b1 _ _ d3⟩
        clear hK Kx
        try simp only [Act.put, List.setIfInBounds_toArray, List.set_cons_zero, List.set_cons_succ]
        refine wpAnyH_take (i := 7) (oi := { dst := some 94, op := Go.Op.unOp Go.UnOp.not 4 (Go.Operand.tmp 93), type := 4, pos := "rules.go:148", after := #[{ on := 6, ground := Go.Ground.data }], guard := none }) (v := ?vb7) rfl (by kernel_rfl) (by kernel_rfl) (by kernel_rfl) (fun _ _ _ h => h) (Or.inl ⟨by rfl, ?hyb7⟩) (by assumption) ?restb7
        case hyb7 => first | (intro w hSw; (try dsimp only at hSw); go_simp; done) | (intro w hSw; (try dsimp only at hSw); go_simp; with_reducible rfl)
        try simp only [Act.put, List.setIfInBounds_toArray, List.set_cons_zero, List.set_cons_succ]
        refine wpAnyH_take (i := 8) (oi := { dst := some 95, op := Go.Op.move (Go.Operand.tmp 94), type := 4, pos := "rules.go:148", after := #[{ on := 7, ground := Go.Ground.data }, { on := 6, ground := Go.Ground.chain }], guard := none }) (v := ?vb8) rfl (by kernel_rfl) (by kernel_rfl) (by kernel_rfl) (fun _ _ _ h => h) (Or.inl ⟨by rfl, ?hyb8⟩) (by assumption) ?restb8
        case hyb8 => first | (intro w hSw; (try dsimp only at hSw); go_simp; done) | (intro w hSw; (try dsimp only at hSw); go_simp; with_reducible rfl)
        try simp only [Act.put, List.setIfInBounds_toArray, List.set_cons_zero, List.set_cons_succ]
        refine wpAnyH_take (i := 9) (oi := { dst := some 96, op := Go.Op.move (Go.Operand.tmp 4), type := 3, pos := "rules.go:148", after := #[{ on := 8, ground := Go.Ground.guard }], guard := some (8, false) }) (v := ?vb9) rfl (by kernel_rfl) (by kernel_rfl) (by kernel_rfl) (fun _ _ _ h => h) (Or.inl ⟨by rfl, ?hyb9⟩) (by assumption) ?restb9
        case hyb9 => first | (intro w hSw; (try dsimp only at hSw); go_simp; done) | (intro w hSw; (try dsimp only at hSw); go_simp; with_reducible rfl)
        try simp only [Act.put, List.setIfInBounds_toArray, List.set_cons_zero, List.set_cons_succ]
        refine wpAnyH_take (i := 10) (oi := { dst := some 97, op := Go.Op.binOp Go.BinOp.gtr 3 (Go.Operand.tmp 96) (Go.Operand.const (Go.Value.int Go.IntKind.i64 0)) 3, type := 4, pos := "rules.go:148", after := #[{ on := 9, ground := Go.Ground.data }, { on := 8, ground := Go.Ground.guard }], guard := some (8, false) }) (v := ?vb10) rfl (by kernel_rfl) (by kernel_rfl) (by kernel_rfl) (fun _ _ _ h => h) (Or.inl ⟨by rfl, ?hyb10⟩) (by assumption) ?restb10
        case hyb10 => first | (intro w hSw; (try dsimp only at hSw); go_simp; done) | (intro w hSw; (try dsimp only at hSw); go_simp; with_reducible rfl)
        try simp only [Act.put, List.setIfInBounds_toArray, List.set_cons_zero, List.set_cons_succ]
        refine wpAnyH_take (i := 11) (oi := { dst := some 98, op := Go.Op.move (Go.Operand.tmp 97), type := 4, pos := "rules.go:148", after := #[{ on := 10, ground := Go.Ground.data }, { on := 8, ground := Go.Ground.chain }, { on := 8, ground := Go.Ground.guard }], guard := some (8, false) }) (v := ?vb11) rfl (by kernel_rfl) (by kernel_rfl) (by kernel_rfl) (fun _ _ _ h => h) (Or.inl ⟨by rfl, ?hyb11⟩) (by assumption) ?restb11
        case hyb11 => first | (intro w hSw; (try dsimp only at hSw); go_simp; done) | (intro w hSw; (try dsimp only at hSw); go_simp; with_reducible rfl)
        try simp only [Act.put, List.setIfInBounds_toArray, List.set_cons_zero, List.set_cons_succ]
        refine wpAnyH_take (i := 12) (oi := { dst := some 99, op := Go.Op.fieldAddr 29 (Go.Operand.tmp 1) 6, type := 0, pos := "rules.go:148", after := #[{ on := 11, ground := Go.Ground.guard }], guard := some (11, true) }) (v := undef) rfl (by kernel_rfl) (by kernel_rfl) (by kernel_rfl) (fun _ _ _ h => h) (Or.inr ⟨by rfl, rfl⟩) (by assumption) ?_
        try simp only [Act.put, List.setIfInBounds_toArray, List.set_cons_zero, List.set_cons_succ]
        refine wpAnyH_take (i := 13) (oi := { dst := some 100, op := Go.Op.load 24 (Go.Operand.tmp 99), type := 24, pos := "rules.go:148", after := #[{ on := 12, ground := Go.Ground.data }, { on := 11, ground := Go.Ground.guard }], guard := some (11, true) }) (v := undef) rfl (by kernel_rfl) (by kernel_rfl) (by kernel_rfl) (fun _ _ _ h => h) (Or.inr ⟨by rfl, rfl⟩) (by assumption) ?_
        try simp only [Act.put, List.setIfInBounds_toArray, List.set_cons_zero, List.set_cons_succ]
        refine wpAnyH_take (i := 14) (oi := { dst := some 101, op := Go.Op.move (Go.Operand.tmp 4), type := 3, pos := "rules.go:148", after := #[{ on := 11, ground := Go.Ground.guard }], guard := some (11, true) }) (v := undef) rfl (by kernel_rfl) (by kernel_rfl) (by kernel_rfl) (fun _ _ _ h => h) (Or.inr ⟨by rfl, rfl⟩) (by assumption) ?_
        try simp only [Act.put, List.setIfInBounds_toArray, List.set_cons_zero, List.set_cons_succ]
        refine wpAnyH_take (i := 15) (oi := { dst := some 102, op := Go.Op.binOp Go.BinOp.sub 3 (Go.Operand.tmp 101) (Go.Operand.const (Go.Value.int Go.IntKind.i64 1)) 3, type := 3, pos := "rules.go:148", after := #[{ on := 14, ground := Go.Ground.data }, { on := 11, ground := Go.Ground.guard }], guard := some (11, true) }) (v := undef) rfl (by kernel_rfl) (by kernel_rfl) (by kernel_rfl) (fun _ _ _ h => h) (Or.inr ⟨by rfl, rfl⟩) (by assumption) ?_
        try simp only [Act.put, List.setIfInBounds_toArray, List.set_cons_zero, List.set_cons_succ]
        refine wpAnyH_take (i := 16) (oi := { dst := some 103, op := Go.Op.indexAddr 24 (Go.Operand.tmp 100) (Go.Operand.tmp 102), type := 0, pos := "rules.go:148", after := #[{ on := 13, ground := Go.Ground.data }, { on := 15, ground := Go.Ground.data }, { on := 11, ground := Go.Ground.guard }], guard := some (11, true) }) (v := undef) rfl (by kernel_rfl) (by kernel_rfl) (by kernel_rfl) (fun _ _ _ h => h) (Or.inr ⟨by rfl, rfl⟩) (by assumption) ?_
        try simp only [Act.put, List.setIfInBounds_toArray, List.set_cons_zero, List.set_cons_succ]
        refine wpAnyH_take (i := 17) (oi := { dst := some 104, op := Go.Op.fieldAddr 61 (Go.Operand.tmp 103) 0, type := 0, pos := "rules.go:148", after := #[{ on := 16, ground := Go.Ground.data }, { on := 11, ground := Go.Ground.guard }], guard := some (11, true) }) (v := undef) rfl (by kernel_rfl) (by kernel_rfl) (by kernel_rfl) (fun _ _ _ h => h) (Or.inr ⟨by rfl, rfl⟩) (by assumption) ?_
        try simp only [Act.put, List.setIfInBounds_toArray, List.set_cons_zero, List.set_cons_succ]
        refine wpAnyH_take (i := 18) (oi := { dst := some 105, op := Go.Op.load 3 (Go.Operand.tmp 104), type := 3, pos := "rules.go:148", after := #[{ on := 17, ground := Go.Ground.data }, { on := 11, ground := Go.Ground.guard }], guard := some (11, true) }) (v := undef) rfl (by kernel_rfl) (by kernel_rfl) (by kernel_rfl) (fun _ _ _ h => h) (Or.inr ⟨by rfl, rfl⟩) (by assumption) ?_
        try simp only [Act.put, List.setIfInBounds_toArray, List.set_cons_zero, List.set_cons_succ]
        refine wpAnyH_take (i := 19) (oi := { dst := some 106, op := Go.Op.fieldAddr 29 (Go.Operand.tmp 1) 6, type := 0, pos := "rules.go:148", after := #[{ on := 11, ground := Go.Ground.guard }], guard := some (11, true) }) (v := undef) rfl (by kernel_rfl) (by kernel_rfl) (by kernel_rfl) (fun _ _ _ h => h) (Or.inr ⟨by rfl, rfl⟩) (by assumption) ?_
        try simp only [Act.put, List.setIfInBounds_toArray, List.set_cons_zero, List.set_cons_succ]
        refine wpAnyH_take (i := 20) (oi := { dst := some 107, op := Go.Op.load 24 (Go.Operand.tmp 106), type := 24, pos := "rules.go:148", after := #[{ on := 19, ground := Go.Ground.data }, { on := 11, ground := Go.Ground.guard }], guard := some (11, true) }) (v := undef) rfl (by kernel_rfl) (by kernel_rfl) (by kernel_rfl) (fun _ _ _ h => h) (Or.inr ⟨by rfl, rfl⟩) (by assumption) ?_
        try simp only [Act.put, List.setIfInBounds_toArray, List.set_cons_zero, List.set_cons_succ]
        refine wpAnyH_take (i := 21) (oi := { dst := some 108, op := Go.Op.move (Go.Operand.tmp 4), type := 3, pos := "rules.go:148", after := #[{ on := 11, ground := Go.Ground.guard }], guard := some (11, true) }) (v := undef) rfl (by kernel_rfl) (by kernel_rfl) (by kernel_rfl) (fun _ _ _ h => h) (Or.inr ⟨by rfl, rfl⟩) (by assumption) ?_
        try simp only [Act.put, List.setIfInBounds_toArray, List.set_cons_zero, List.set_cons_succ]
        refine wpAnyH_take (i := 22) (oi := { dst := some 109, op := Go.Op.indexAddr 24 (Go.Operand.tmp 107) (Go.Operand.tmp 108), type := 0, pos := "rules.go:148", after := #[{ on := 20, ground := Go.Ground.data }, { on := 21, ground := Go.Ground.data }, { on := 11, ground := Go.Ground.guard }], guard := some (11, true) }) (v := undef) rfl (by kernel_rfl) (by kernel_rfl) (by kernel_rfl) (fun _ _ _ h => h) (Or.inr ⟨by rfl, rfl⟩) (by assumption) ?_
        try simp only [Act.put, List.setIfInBounds_toArray, List.set_cons_zero, List.set_cons_succ]
        refine wpAnyH_take (i := 23) (oi := { dst := some 110, op := Go.Op.fieldAddr 61 (Go.Operand.tmp 109) 0, type := 0, pos := "rules.go:148", after := #[{ on := 22, ground := Go.Ground.data }, { on := 11, ground := Go.Ground.guard }], guard := some (11, true) }) (v := undef) rfl (by kernel_rfl) (by kernel_rfl) (by kernel_rfl) (fun _ _ _ h => h) (Or.inr ⟨by rfl, rfl⟩) (by assumption) ?_
        try simp only [Act.put, List.setIfInBounds_toArray, List.set_cons_zero, List.set_cons_succ]
        refine wpAnyH_take (i := 24) (oi := { dst := some 111, op := Go.Op.load 3 (Go.Operand.tmp 110), type := 3, pos := "rules.go:148", after := #[{ on := 23, ground := Go.Ground.data }, { on := 11, ground := Go.Ground.guard }], guard := some (11, true) }) (v := undef) rfl (by kernel_rfl) (by kernel_rfl) (by kernel_rfl) (fun _ _ _ h => h) (Or.inr ⟨by rfl, rfl⟩) (by assumption) ?_
        try simp only [Act.put, List.setIfInBounds_toArray, List.set_cons_zero, List.set_cons_succ]
        refine wpAnyH_take (i := 25) (oi := { dst := some 112, op := Go.Op.binOp Go.BinOp.gtr 3 (Go.Operand.tmp 105) (Go.Operand.tmp 111) 3, type := 4, pos := "rules.go:148", after := #[{ on := 18, ground := Go.Ground.data }, { on := 24, ground := Go.Ground.data }, { on := 11, ground := Go.Ground.guard }], guard := some (11, true) }) (v := undef) rfl (by kernel_rfl) (by kernel_rfl) (by kernel_rfl) (fun _ _ _ h => h) (Or.inr ⟨by rfl, rfl⟩) (by assumption) ?_
        try simp only [Act.put, List.setIfInBounds_toArray, List.set_cons_zero, List.set_cons_succ]
        refine wpAnyH_take (i := 26) (oi := { dst := some 113, op := Go.Op.pick (Go.Operand.tmp 98) (Go.Operand.tmp 112) (Go.Operand.const (Go.Value.bool false)), type := 4, pos := "rules.go:148", after := #[{ on := 11, ground := Go.Ground.data }, { on := 25, ground := Go.Ground.data }, { on := 8, ground := Go.Ground.guard }], guard := some (8, false) }) (v := ?vb26) rfl (by kernel_rfl) (by kernel_rfl) (by kernel_rfl) (fun _ _ _ h => h) (Or.inl ⟨by rfl, ?hyb26⟩) (by assumption) ?restb26
        case hyb26 => first | (intro w hSw; (try dsimp only at hSw); go_simp; done) | (intro w hSw; (try dsimp only at hSw); go_simp; with_reducible rfl)
        try simp only [Act.put, List.setIfInBounds_toArray, List.set_cons_zero, List.set_cons_succ]
        refine wpAnyH_take (i := 27) (oi := { dst := some 114, op := Go.Op.pick (Go.Operand.tmp 95) (Go.Operand.const (Go.Value.bool true)) (Go.Operand.tmp 113), type := 4, pos := "rules.go:148", after := #[{ on := 8, ground := Go.Ground.data }, { on := 26, ground := Go.Ground.data }], guard := none }) (v := ?vb27) rfl (by kernel_rfl) (by kernel_rfl) (by kernel_rfl) (fun _ _ _ h => h) (Or.inl ⟨by rfl, ?hyb27⟩) (by assumption) ?restb27
        case hyb27 => first | (intro w hSw; (try dsimp only at hSw); go_simp; done) | (intro w hSw; (try dsimp only at hSw); go_simp; with_reducible rfl)
        try simp only [Act.put, List.setIfInBounds_toArray, List.set_cons_zero, List.set_cons_succ]
        refine wpAnyH_done (by kernel_rfl) ?_ _
        have BT := hideT (BWD.out.trans (HB1.out.mono BWD.out.size))
        have LT := hideT (LWD.out.below HB1.out)
        all_goals go_wp2_with fail
        all_goals (refine ⟨⟨k + 1, by omega, by go_num, HR, BT.out, LT.out⟩, ?_⟩; first | omega | (simp [intOf]; omega))
      obtain ⟨j, hj⟩ : ∃ j, k = j + 1 := ⟨k - 1, by omega⟩
      obtain ⟨y, hy⟩ := Mp.at_lt (l := p.rules) (k := j) (by omega)
      obtain ⟨u1, v1, u2, v2, u3, v3, Iq⟩ := HC.out j _ hy
      have e0 := below_cell HW.out.1 _ _ Iq.c0
      obtain ⟨z, hz⟩ : ∃ z, y.1 = z := ⟨_, rfl⟩
      rw [hz] at e0
      have HZ := hideT hz
      have HY := hideT hy
      have t3 : (0 : Int) ≤ (j : Int) := by omega
      have t4 : (j : Int) < (p.rules.length : Int) := by omega
      have t5 : IntKind.i64.wrap ((k : Int) - 1) = (j : Int) := by rw [show (k : Int) - 1 = (j : Int) by omega]; rw [IntKind.wrap_i64]; omega
      have t6 : (0 : Int) < (k : Int) := by omega
      have t7 : decide (0 < k) = true := decide_eq_true (by omega)
      have HJ := hideT hj
      clear hy hj h0 hz Iq
      by_cases hzs : z ≤ s
      · have HR : Hid (∀ (j : Nat) r, j < k + 1 → p.rules[j]? = some r → RuleAtQ p j r) := Rp.all_step HB2.out HX.out ⟨Q.out, fun j' y' hj' hy' => by
          obtain rfl : j' = j := by have := HJ.out; omega
          rw [HY.out] at hy'
          cases hy'
          rw [HZ.out]
          exact hzs⟩
        have t8 : ¬ s < z := by omega
        have t9 : decide (s < z) = false := decide_eq_false (by omega)
        go_wp2_with fail
        refine wp_region_held_drew (S := (fun w' => w'.cell? ⟨w.heap.size, 0, none⟩ = some (.int .i64 p.flags) ∧ w'.cell? ⟨w.heap.size, 1, none⟩ = some (.int .i64 p.lasting) ∧ w'.cell? ⟨w.heap.size, 2, none⟩ = some (.slice a2 p.first.length c2) ∧ w'.cell? ⟨w.heap.size, 3, none⟩ = some (.slice a3 p.over.length c3) ∧ w'.cell? ⟨w.heap.size, 4, none⟩ = some (.int .i64 p.frm) ∧ w'.cell? ⟨w.heap.size, 5, none⟩ = some (.slice a5 p.files.length c5) ∧ w'.cell? ⟨w.heap.size, 6, none⟩ = some (.slice (some ⟨b, o, none⟩) p.rules.length c6) ∧ w'.cell? ⟨w.heap.size, 7, none⟩ = some (.slice a7 p.ctrs.length c7) ∧ w'.cell? ⟨w.heap.size, 8, none⟩ = some (.slice a8 p.users.length c8) ∧ w'.cell? ⟨w.heap.size, 9, none⟩ = some (.slice a9 p.notes.length c9) ∧ w'.cell? ⟨b, o + k * 4, none⟩ = some (.int .i64 s) ∧ w'.cell? ⟨b, o + k * 4 + 1, none⟩ = some (.slice i1 l1.length n1) ∧ w'.cell? ⟨b, o + k * 4 + 2, none⟩ = some (.slice i2 l2.length n2) ∧ w'.cell? ⟨b, o + k * 4 + 3, none⟩ = some (.slice i3 l3.length n3) ∧ w'.cell? ⟨b, o + j * 4, none⟩ = some (.int .i64 z))) (by kernel_rfl) ?_ (fun hHeld => ?_)
        · try dsimp only
          go_keep
        refine wpAnyH_take (i := 0) (oi := { dst := some 87, op := Go.Op.load 29 (Go.Operand.tmp 1), type := 29, pos := "rules.go:148", after := #[], guard := none }) (v := ?vc0) rfl (by kernel_rfl) (by kernel_rfl) (by kernel_rfl) (fun _ _ _ h => h) (Or.inl ⟨by rfl, ?hyc0⟩) (by assumption) ?restc0
        case hyc0 => first | (intro w hSw; (try dsimp only at hSw); go_simp; done) | (intro w hSw; (try dsimp only at hSw); go_simp; with_reducible rfl)
        try simp only [Act.put, List.setIfInBounds_toArray, List.set_cons_zero, List.set_cons_succ]
        refine wpAnyH_take (i := 1) (oi := { dst := some 88, op := Go.Op.fieldAddr 29 (Go.Operand.tmp 1) 6, type := 0, pos := "rules.go:148", after := #[], guard := none }) (v := ?vc1) rfl (by kernel_rfl) (by kernel_rfl) (by kernel_rfl) (fun _ _ _ h => h) (Or.inl ⟨by rfl, ?hyc1⟩) (by assumption) ?restc1
        case hyc1 => first | (intro w hSw; (try dsimp only at hSw); go_simp; done) | (intro w hSw; (try dsimp only at hSw); go_simp; with_reducible rfl)
        try simp only [Act.put, List.setIfInBounds_toArray, List.set_cons_zero, List.set_cons_succ]
        refine wpAnyH_take (i := 2) (oi := { dst := some 89, op := Go.Op.load 24 (Go.Operand.tmp 88), type := 24, pos := "rules.go:148", after := #[{ on := 1, ground := Go.Ground.data }], guard := none }) (v := ?vc2) rfl (by kernel_rfl) (by kernel_rfl) (by kernel_rfl) (fun _ _ _ h => h) (Or.inl ⟨by rfl, ?hyc2⟩) (by assumption) ?restc2
        case hyc2 => first | (intro w hSw; (try dsimp only at hSw); go_simp; done) | (intro w hSw; (try dsimp only at hSw); go_simp; with_reducible rfl)
        try simp only [Act.put, List.setIfInBounds_toArray, List.set_cons_zero, List.set_cons_succ]
        refine wpAnyH_take (i := 3) (oi := { dst := some 90, op := Go.Op.move (Go.Operand.tmp 4), type := 3, pos := "rules.go:148", after := #[], guard := none }) (v := ?vc3) rfl (by kernel_rfl) (by kernel_rfl) (by kernel_rfl) (fun _ _ _ h => h) (Or.inl ⟨by rfl, ?hyc3⟩) (by assumption) ?restc3
        case hyc3 => first | (intro w hSw; (try dsimp only at hSw); go_simp; done) | (intro w hSw; (try dsimp only at hSw); go_simp; with_reducible rfl)
        try simp only [Act.put, List.setIfInBounds_toArray, List.set_cons_zero, List.set_cons_succ]
        refine wpAnyH_take (i := 4) (oi := { dst := some 91, op := Go.Op.indexAddr 24 (Go.Operand.tmp 89) (Go.Operand.tmp 90), type := 0, pos := "rules.go:148", after := #[{ on := 2, ground := Go.Ground.data }, { on := 3, ground := Go.Ground.data }], guard := none }) (v := ?vc4) rfl (by kernel_rfl) (by kernel_rfl) (by kernel_rfl) (fun _ _ _ h => h) (Or.inl ⟨by rfl, ?hyc4⟩) (by assumption) ?restc4
        case hyc4 => first | (intro w hSw; (try dsimp only at hSw); go_simp; done) | (intro w hSw; (try dsimp only at hSw); go_simp; with_reducible rfl)
        try simp only [Act.put, List.setIfInBounds_toArray, List.set_cons_zero, List.set_cons_succ]
        refine wpAnyH_take (i := 5) (oi := { dst := some 92, op := Go.Op.load 61 (Go.Operand.tmp 91), type := 61, pos := "rules.go:148", after := #[{ on := 4, ground := Go.Ground.data }], guard := none }) (v := ?vc5) rfl (by kernel_rfl) (by kernel_rfl) (by kernel_rfl) (fun _ _ _ h => h) (Or.inl ⟨by rfl, ?hyc5⟩) (by assumption) ?restc5
        case hyc5 => first | (intro w hSw; (try dsimp only at hSw); go_simp; done) | (intro w hSw; (try dsimp only at hSw); go_simp; with_reducible rfl)
        try simp only [Act.put, List.setIfInBounds_toArray, List.set_cons_zero, List.set_cons_succ]
        refine wpAnyH_ready (rs := [6]) (by kernel_rfl) (by simp) ?_
        refine AllReadyH.cons (o := { dst := some 93, op := Go.Op.call { callee := Go.Callee.value (Go.Operand.func 36), args := #[Go.Operand.tmp 87, Go.Operand.tmp 92], argTypes := #[29, 61] }, type := 4, pos := "rules.go:148", after := #[{ on := 0, ground := Go.Ground.data }, { on := 5, ground := Go.Ground.data }], guard := none }) rfl (fun Kx hK => ?_) AllReadyH.nil
        rw [if_pos (by rfl)]
        go_simp
        go_at_call 36
        refine (refRuleD _ ⟨a2, c2, a3, c3, a5, c5, some ⟨b, o, none⟩, c6, a7, c7, a8, c8, a9, c9⟩ p (frow_below HFI.out BWD.out) s l1 l2 l3 i1 i2 i3 n1 n2 n3 (lrow_below R1.out BD.out) (crow_below R2.out BD.out) (lrow_below R3.out BD.out)).mono ?_
        rintro e w1 h1
        obtain ⟨rfl, b1⟩ := h1.yes Q.out
        clear h1
        have HB1 := hideT b1
        refine hK.out _ _ ?_ (fun hHeld6 => ?_)
        · exact ⟨below_cell b1 _ _ x0, below_cell b1 _ _ x1, below_cell b1 _ _ x2, below_cell b1 _ _ x3, below_cell b1 _ _ x4, below_cell b1 _ _ x5, below_cell b1 _ _ x6, below_cell b1 _ _ x7, below_cell b1 _ _ x8, below_cell b1 _ _ x9, below_cell b1 _ _ d0, below_cell b1 _ _ d1, below_cell b1 _ _ d2, below_cell b1 _ _ d3, below_cell b1 _ _ e0⟩
        clear hK Kx
        try simp only [Act.put, List.setIfInBounds_toArray, List.set_cons_zero, List.set_cons_succ]
        refine wpAnyH_take (i := 7) (oi := { dst := some 94, op := Go.Op.unOp Go.UnOp.not 4 (Go.Operand.tmp 93), type := 4, pos := "rules.go:148", after := #[{ on := 6, ground := Go.Ground.data }], guard := none }) (v := ?vc7) rfl (by kernel_rfl) (by kernel_rfl) (by kernel_rfl) (fun _ _ _ h => h) (Or.inl ⟨by rfl, ?hyc7⟩) (by assumption) ?restc7
        case hyc7 => first | (intro w hSw; (try dsimp only at hSw); go_simp; done) | (intro w hSw; (try dsimp only at hSw); go_simp; with_reducible rfl)
        try simp only [Act.put, List.setIfInBounds_toArray, List.set_cons_zero, List.set_cons_succ]
        refine wpAnyH_take (i := 8) (oi := { dst := some 95, op := Go.Op.move (Go.Operand.tmp 94), type := 4, pos := "rules.go:148", after := #[{ on := 7, ground := Go.Ground.data }, { on := 6, ground := Go.Ground.chain }], guard := none }) (v := ?vc8) rfl (by kernel_rfl) (by kernel_rfl) (by kernel_rfl) (fun _ _ _ h => h) (Or.inl ⟨by rfl, ?hyc8⟩) (by assumption) ?restc8
        case hyc8 => first | (intro w hSw; (try dsimp only at hSw); go_simp; done) | (intro w hSw; (try dsimp only at hSw); go_simp; with_reducible rfl)
        try simp only [Act.put, List.setIfInBounds_toArray, List.set_cons_zero, List.set_cons_succ]
        refine wpAnyH_take (i := 9) (oi := { dst := some 96, op := Go.Op.move (Go.Operand.tmp 4), type := 3, pos := "rules.go:148", after := #[{ on := 8, ground := Go.Ground.guard }], guard := some (8, false) }) (v := ?vc9) rfl (by kernel_rfl) (by kernel_rfl) (by kernel_rfl) (fun _ _ _ h => h) (Or.inl ⟨by rfl, ?hyc9⟩) (by assumption) ?restc9
        case hyc9 => first | (intro w hSw; (try dsimp only at hSw); go_simp; done) | (intro w hSw; (try dsimp only at hSw); go_simp; with_reducible rfl)
        try simp only [Act.put, List.setIfInBounds_toArray, List.set_cons_zero, List.set_cons_succ]
        refine wpAnyH_take (i := 10) (oi := { dst := some 97, op := Go.Op.binOp Go.BinOp.gtr 3 (Go.Operand.tmp 96) (Go.Operand.const (Go.Value.int Go.IntKind.i64 0)) 3, type := 4, pos := "rules.go:148", after := #[{ on := 9, ground := Go.Ground.data }, { on := 8, ground := Go.Ground.guard }], guard := some (8, false) }) (v := ?vc10) rfl (by kernel_rfl) (by kernel_rfl) (by kernel_rfl) (fun _ _ _ h => h) (Or.inl ⟨by rfl, ?hyc10⟩) (by assumption) ?restc10
        case hyc10 => first | (intro w hSw; (try dsimp only at hSw); go_simp; done) | (intro w hSw; (try dsimp only at hSw); go_simp; with_reducible rfl)
        try simp only [Act.put, List.setIfInBounds_toArray, List.set_cons_zero, List.set_cons_succ]
        refine wpAnyH_take (i := 11) (oi := { dst := some 98, op := Go.Op.move (Go.Operand.tmp 97), type := 4, pos := "rules.go:148", after := #[{ on := 10, ground := Go.Ground.data }, { on := 8, ground := Go.Ground.chain }, { on := 8, ground := Go.Ground.guard }], guard := some (8, false) }) (v := ?vc11) rfl (by kernel_rfl) (by kernel_rfl) (by kernel_rfl) (fun _ _ _ h => h) (Or.inl ⟨by rfl, ?hyc11⟩) (by assumption) ?restc11
        case hyc11 => first | (intro w hSw; (try dsimp only at hSw); go_simp; done) | (intro w hSw; (try dsimp only at hSw); go_simp; with_reducible rfl)
        try simp only [Act.put, List.setIfInBounds_toArray, List.set_cons_zero, List.set_cons_succ]
        refine wpAnyH_take (i := 12) (oi := { dst := some 99, op := Go.Op.fieldAddr 29 (Go.Operand.tmp 1) 6, type := 0, pos := "rules.go:148", after := #[{ on := 11, ground := Go.Ground.guard }], guard := some (11, true) }) (v := ?vc12) rfl (by kernel_rfl) (by kernel_rfl) (by kernel_rfl) (fun _ _ _ h => h) (Or.inl ⟨by rfl, ?hyc12⟩) (by assumption) ?restc12
        case hyc12 => first | (intro w hSw; (try dsimp only at hSw); go_simp; done) | (intro w hSw; (try dsimp only at hSw); go_simp; with_reducible rfl)
        try simp only [Act.put, List.setIfInBounds_toArray, List.set_cons_zero, List.set_cons_succ]
        refine wpAnyH_take (i := 13) (oi := { dst := some 100, op := Go.Op.load 24 (Go.Operand.tmp 99), type := 24, pos := "rules.go:148", after := #[{ on := 12, ground := Go.Ground.data }, { on := 11, ground := Go.Ground.guard }], guard := some (11, true) }) (v := ?vc13) rfl (by kernel_rfl) (by kernel_rfl) (by kernel_rfl) (fun _ _ _ h => h) (Or.inl ⟨by rfl, ?hyc13⟩) (by assumption) ?restc13
        case hyc13 => first | (intro w hSw; (try dsimp only at hSw); go_simp; done) | (intro w hSw; (try dsimp only at hSw); go_simp; with_reducible rfl)
        try simp only [Act.put, List.setIfInBounds_toArray, List.set_cons_zero, List.set_cons_succ]
        refine wpAnyH_take (i := 14) (oi := { dst := some 101, op := Go.Op.move (Go.Operand.tmp 4), type := 3, pos := "rules.go:148", after := #[{ on := 11, ground := Go.Ground.guard }], guard := some (11, true) }) (v := ?vc14) rfl (by kernel_rfl) (by kernel_rfl) (by kernel_rfl) (fun _ _ _ h => h) (Or.inl ⟨by rfl, ?hyc14⟩) (by assumption) ?restc14
        case hyc14 => first | (intro w hSw; (try dsimp only at hSw); go_simp; done) | (intro w hSw; (try dsimp only at hSw); go_simp; with_reducible rfl)
        try simp only [Act.put, List.setIfInBounds_toArray, List.set_cons_zero, List.set_cons_succ]
        refine wpAnyH_take (i := 15) (oi := { dst := some 102, op := Go.Op.binOp Go.BinOp.sub 3 (Go.Operand.tmp 101) (Go.Operand.const (Go.Value.int Go.IntKind.i64 1)) 3, type := 3, pos := "rules.go:148", after := #[{ on := 14, ground := Go.Ground.data }, { on := 11, ground := Go.Ground.guard }], guard := some (11, true) }) (v := ?vc15) rfl (by kernel_rfl) (by kernel_rfl) (by kernel_rfl) (fun _ _ _ h => h) (Or.inl ⟨by rfl, ?hyc15⟩) (by assumption) ?restc15
        case hyc15 => first | (intro w hSw; (try dsimp only at hSw); go_simp; done) | (intro w hSw; (try dsimp only at hSw); go_simp; with_reducible rfl)
        try simp only [Act.put, List.setIfInBounds_toArray, List.set_cons_zero, List.set_cons_succ]
        refine wpAnyH_take (i := 16) (oi := { dst := some 103, op := Go.Op.indexAddr 24 (Go.Operand.tmp 100) (Go.Operand.tmp 102), type := 0, pos := "rules.go:148", after := #[{ on := 13, ground := Go.Ground.data }, { on := 15, ground := Go.Ground.data }, { on := 11, ground := Go.Ground.guard }], guard := some (11, true) }) (v := ?vc16) rfl (by kernel_rfl) (by kernel_rfl) (by kernel_rfl) (fun _ _ _ h => h) (Or.inl ⟨by rfl, ?hyc16⟩) (by assumption) ?restc16
        case hyc16 => first | (intro w hSw; (try dsimp only at hSw); go_simp; done) | (intro w hSw; (try dsimp only at hSw); go_simp; with_reducible rfl)
        try simp only [Act.put, List.setIfInBounds_toArray, List.set_cons_zero, List.set_cons_succ]
        refine wpAnyH_take (i := 17) (oi := { dst := some 104, op := Go.Op.fieldAddr 61 (Go.Operand.tmp 103) 0, type := 0, pos := "rules.go:148", after := #[{ on := 16, ground := Go.Ground.data }, { on := 11, ground := Go.Ground.guard }], guard := some (11, true) }) (v := ?vc17) rfl (by kernel_rfl) (by kernel_rfl) (by kernel_rfl) (fun _ _ _ h => h) (Or.inl ⟨by rfl, ?hyc17⟩) (by assumption) ?restc17
        case hyc17 => first | (intro w hSw; (try dsimp only at hSw); go_simp; done) | (intro w hSw; (try dsimp only at hSw); go_simp; with_reducible rfl)
        try simp only [Act.put, List.setIfInBounds_toArray, List.set_cons_zero, List.set_cons_succ]
        refine wpAnyH_take (i := 18) (oi := { dst := some 105, op := Go.Op.load 3 (Go.Operand.tmp 104), type := 3, pos := "rules.go:148", after := #[{ on := 17, ground := Go.Ground.data }, { on := 11, ground := Go.Ground.guard }], guard := some (11, true) }) (v := ?vc18) rfl (by kernel_rfl) (by kernel_rfl) (by kernel_rfl) (fun _ _ _ h => h) (Or.inl ⟨by rfl, ?hyc18⟩) (by assumption) ?restc18
        case hyc18 => first | (intro w hSw; (try dsimp only at hSw); go_simp; done) | (intro w hSw; (try dsimp only at hSw); go_simp; with_reducible rfl)
        try simp only [Act.put, List.setIfInBounds_toArray, List.set_cons_zero, List.set_cons_succ]
        refine wpAnyH_take (i := 19) (oi := { dst := some 106, op := Go.Op.fieldAddr 29 (Go.Operand.tmp 1) 6, type := 0, pos := "rules.go:148", after := #[{ on := 11, ground := Go.Ground.guard }], guard := some (11, true) }) (v := ?vc19) rfl (by kernel_rfl) (by kernel_rfl) (by kernel_rfl) (fun _ _ _ h => h) (Or.inl ⟨by rfl, ?hyc19⟩) (by assumption) ?restc19
        case hyc19 => first | (intro w hSw; (try dsimp only at hSw); go_simp; done) | (intro w hSw; (try dsimp only at hSw); go_simp; with_reducible rfl)
        try simp only [Act.put, List.setIfInBounds_toArray, List.set_cons_zero, List.set_cons_succ]
        refine wpAnyH_take (i := 20) (oi := { dst := some 107, op := Go.Op.load 24 (Go.Operand.tmp 106), type := 24, pos := "rules.go:148", after := #[{ on := 19, ground := Go.Ground.data }, { on := 11, ground := Go.Ground.guard }], guard := some (11, true) }) (v := ?vc20) rfl (by kernel_rfl) (by kernel_rfl) (by kernel_rfl) (fun _ _ _ h => h) (Or.inl ⟨by rfl, ?hyc20⟩) (by assumption) ?restc20
        case hyc20 => first | (intro w hSw; (try dsimp only at hSw); go_simp; done) | (intro w hSw; (try dsimp only at hSw); go_simp; with_reducible rfl)
        try simp only [Act.put, List.setIfInBounds_toArray, List.set_cons_zero, List.set_cons_succ]
        refine wpAnyH_take (i := 21) (oi := { dst := some 108, op := Go.Op.move (Go.Operand.tmp 4), type := 3, pos := "rules.go:148", after := #[{ on := 11, ground := Go.Ground.guard }], guard := some (11, true) }) (v := ?vc21) rfl (by kernel_rfl) (by kernel_rfl) (by kernel_rfl) (fun _ _ _ h => h) (Or.inl ⟨by rfl, ?hyc21⟩) (by assumption) ?restc21
        case hyc21 => first | (intro w hSw; (try dsimp only at hSw); go_simp; done) | (intro w hSw; (try dsimp only at hSw); go_simp; with_reducible rfl)
        try simp only [Act.put, List.setIfInBounds_toArray, List.set_cons_zero, List.set_cons_succ]
        refine wpAnyH_take (i := 22) (oi := { dst := some 109, op := Go.Op.indexAddr 24 (Go.Operand.tmp 107) (Go.Operand.tmp 108), type := 0, pos := "rules.go:148", after := #[{ on := 20, ground := Go.Ground.data }, { on := 21, ground := Go.Ground.data }, { on := 11, ground := Go.Ground.guard }], guard := some (11, true) }) (v := ?vc22) rfl (by kernel_rfl) (by kernel_rfl) (by kernel_rfl) (fun _ _ _ h => h) (Or.inl ⟨by rfl, ?hyc22⟩) (by assumption) ?restc22
        case hyc22 => first | (intro w hSw; (try dsimp only at hSw); go_simp; done) | (intro w hSw; (try dsimp only at hSw); go_simp; with_reducible rfl)
        try simp only [Act.put, List.setIfInBounds_toArray, List.set_cons_zero, List.set_cons_succ]
        refine wpAnyH_take (i := 23) (oi := { dst := some 110, op := Go.Op.fieldAddr 61 (Go.Operand.tmp 109) 0, type := 0, pos := "rules.go:148", after := #[{ on := 22, ground := Go.Ground.data }, { on := 11, ground := Go.Ground.guard }], guard := some (11, true) }) (v := ?vc23) rfl (by kernel_rfl) (by kernel_rfl) (by kernel_rfl) (fun _ _ _ h => h) (Or.inl ⟨by rfl, ?hyc23⟩) (by assumption) ?restc23
        case hyc23 => first | (intro w hSw; (try dsimp only at hSw); go_simp; done) | (intro w hSw; (try dsimp only at hSw); go_simp; with_reducible rfl)
        try simp only [Act.put, List.setIfInBounds_toArray, List.set_cons_zero, List.set_cons_succ]
        refine wpAnyH_take (i := 24) (oi := { dst := some 111, op := Go.Op.load 3 (Go.Operand.tmp 110), type := 3, pos := "rules.go:148", after := #[{ on := 23, ground := Go.Ground.data }, { on := 11, ground := Go.Ground.guard }], guard := some (11, true) }) (v := ?vc24) rfl (by kernel_rfl) (by kernel_rfl) (by kernel_rfl) (fun _ _ _ h => h) (Or.inl ⟨by rfl, ?hyc24⟩) (by assumption) ?restc24
        case hyc24 => first | (intro w hSw; (try dsimp only at hSw); go_simp; done) | (intro w hSw; (try dsimp only at hSw); go_simp; with_reducible rfl)
        try simp only [Act.put, List.setIfInBounds_toArray, List.set_cons_zero, List.set_cons_succ]
        refine wpAnyH_take (i := 25) (oi := { dst := some 112, op := Go.Op.binOp Go.BinOp.gtr 3 (Go.Operand.tmp 105) (Go.Operand.tmp 111) 3, type := 4, pos := "rules.go:148", after := #[{ on := 18, ground := Go.Ground.data }, { on := 24, ground := Go.Ground.data }, { on := 11, ground := Go.Ground.guard }], guard := some (11, true) }) (v := ?vc25) rfl (by kernel_rfl) (by kernel_rfl) (by kernel_rfl) (fun _ _ _ h => h) (Or.inl ⟨by rfl, ?hyc25⟩) (by assumption) ?restc25
        case hyc25 => first | (intro w hSw; (try dsimp only at hSw); go_simp; done) | (intro w hSw; (try dsimp only at hSw); go_simp; with_reducible rfl)
        try simp only [Act.put, List.setIfInBounds_toArray, List.set_cons_zero, List.set_cons_succ]
        refine wpAnyH_take (i := 26) (oi := { dst := some 113, op := Go.Op.pick (Go.Operand.tmp 98) (Go.Operand.tmp 112) (Go.Operand.const (Go.Value.bool false)), type := 4, pos := "rules.go:148", after := #[{ on := 11, ground := Go.Ground.data }, { on := 25, ground := Go.Ground.data }, { on := 8, ground := Go.Ground.guard }], guard := some (8, false) }) (v := ?vc26) rfl (by kernel_rfl) (by kernel_rfl) (by kernel_rfl) (fun _ _ _ h => h) (Or.inl ⟨by rfl, ?hyc26⟩) (by assumption) ?restc26
        case hyc26 => first | (intro w hSw; (try dsimp only at hSw); go_simp; done) | (intro w hSw; (try dsimp only at hSw); go_simp; with_reducible rfl)
        try simp only [Act.put, List.setIfInBounds_toArray, List.set_cons_zero, List.set_cons_succ]
        refine wpAnyH_take (i := 27) (oi := { dst := some 114, op := Go.Op.pick (Go.Operand.tmp 95) (Go.Operand.const (Go.Value.bool true)) (Go.Operand.tmp 113), type := 4, pos := "rules.go:148", after := #[{ on := 8, ground := Go.Ground.data }, { on := 26, ground := Go.Ground.data }], guard := none }) (v := ?vc27) rfl (by kernel_rfl) (by kernel_rfl) (by kernel_rfl) (fun _ _ _ h => h) (Or.inl ⟨by rfl, ?hyc27⟩) (by assumption) ?restc27
        case hyc27 => first | (intro w hSw; (try dsimp only at hSw); go_simp; done) | (intro w hSw; (try dsimp only at hSw); go_simp; with_reducible rfl)
        try simp only [Act.put, List.setIfInBounds_toArray, List.set_cons_zero, List.set_cons_succ]
        refine wpAnyH_done (by kernel_rfl) ?_ _
        have BT := hideT (BWD.out.trans (HB1.out.mono BWD.out.size))
        have LT := hideT (LWD.out.below HB1.out)
        all_goals go_wp2_with fail
        all_goals (refine ⟨⟨k + 1, by omega, by go_num, HR, BT.out, LT.out⟩, ?_⟩; first | omega | (simp [intOf]; omega))
      · have HF := hideT (HNO.out fun H => hzs (by rw [← HZ.out]; exact H.2 j y HJ.out HY.out))
        have t8 : s < z := by omega
        go_wp2_with fail
        refine wp_region_held_drew (S := (fun w' => w'.cell? ⟨w.heap.size, 0, none⟩ = some (.int .i64 p.flags) ∧ w'.cell? ⟨w.heap.size, 1, none⟩ = some (.int .i64 p.lasting) ∧ w'.cell? ⟨w.heap.size, 2, none⟩ = some (.slice a2 p.first.length c2) ∧ w'.cell? ⟨w.heap.size, 3, none⟩ = some (.slice a3 p.over.length c3) ∧ w'.cell? ⟨w.heap.size, 4, none⟩ = some (.int .i64 p.frm) ∧ w'.cell? ⟨w.heap.size, 5, none⟩ = some (.slice a5 p.files.length c5) ∧ w'.cell? ⟨w.heap.size, 6, none⟩ = some (.slice (some ⟨b, o, none⟩) p.rules.length c6) ∧ w'.cell? ⟨w.heap.size, 7, none⟩ = some (.slice a7 p.ctrs.length c7) ∧ w'.cell? ⟨w.heap.size, 8, none⟩ = some (.slice a8 p.users.length c8) ∧ w'.cell? ⟨w.heap.size, 9, none⟩ = some (.slice a9 p.notes.length c9) ∧ w'.cell? ⟨b, o + k * 4, none⟩ = some (.int .i64 s) ∧ w'.cell? ⟨b, o + k * 4 + 1, none⟩ = some (.slice i1 l1.length n1) ∧ w'.cell? ⟨b, o + k * 4 + 2, none⟩ = some (.slice i2 l2.length n2) ∧ w'.cell? ⟨b, o + k * 4 + 3, none⟩ = some (.slice i3 l3.length n3) ∧ w'.cell? ⟨b, o + j * 4, none⟩ = some (.int .i64 z))) (by kernel_rfl) ?_ (fun hHeld => ?_)
        · try dsimp only
          go_keep
        refine wpAnyH_take (i := 0) (oi := { dst := some 87, op := Go.Op.load 29 (Go.Operand.tmp 1), type := 29, pos := "rules.go:148", after := #[], guard := none }) (v := ?vd0) rfl (by kernel_rfl) (by kernel_rfl) (by kernel_rfl) (fun _ _ _ h => h) (Or.inl ⟨by rfl, ?hyd0⟩) (by assumption) ?restd0
        case hyd0 => first | (intro w hSw; (try dsimp only at hSw); go_simp; done) | (intro w hSw; (try dsimp only at hSw); go_simp; with_reducible rfl)
        try simp only [Act.put, List.setIfInBounds_toArray, List.set_cons_zero, List.set_cons_succ]
        refine wpAnyH_take (i := 1) (oi := { dst := some 88, op := Go.Op.fieldAddr 29 (Go.Operand.tmp 1) 6, type := 0, pos := "rules.go:148", after := #[], guard := none }) (v := ?vd1) rfl (by kernel_rfl) (by kernel_rfl) (by kernel_rfl) (fun _ _ _ h => h) (Or.inl ⟨by rfl, ?hyd1⟩) (by assumption) ?restd1
        case hyd1 => first | (intro w hSw; (try dsimp only at hSw); go_simp; done) | (intro w hSw; (try dsimp only at hSw); go_simp; with_reducible rfl)
        try simp only [Act.put, List.setIfInBounds_toArray, List.set_cons_zero, List.set_cons_succ]
        refine wpAnyH_take (i := 2) (oi := { dst := some 89, op := Go.Op.load 24 (Go.Operand.tmp 88), type := 24, pos := "rules.go:148", after := #[{ on := 1, ground := Go.Ground.data }], guard := none }) (v := ?vd2) rfl (by kernel_rfl) (by kernel_rfl) (by kernel_rfl) (fun _ _ _ h => h) (Or.inl ⟨by rfl, ?hyd2⟩) (by assumption) ?restd2
        case hyd2 => first | (intro w hSw; (try dsimp only at hSw); go_simp; done) | (intro w hSw; (try dsimp only at hSw); go_simp; with_reducible rfl)
        try simp only [Act.put, List.setIfInBounds_toArray, List.set_cons_zero, List.set_cons_succ]
        refine wpAnyH_take (i := 3) (oi := { dst := some 90, op := Go.Op.move (Go.Operand.tmp 4), type := 3, pos := "rules.go:148", after := #[], guard := none }) (v := ?vd3) rfl (by kernel_rfl) (by kernel_rfl) (by kernel_rfl) (fun _ _ _ h => h) (Or.inl ⟨by rfl, ?hyd3⟩) (by assumption) ?restd3
        case hyd3 => first | (intro w hSw; (try dsimp only at hSw); go_simp; done) | (intro w hSw; (try dsimp only at hSw); go_simp; with_reducible rfl)
        try simp only [Act.put, List.setIfInBounds_toArray, List.set_cons_zero, List.set_cons_succ]
        refine wpAnyH_take (i := 4) (oi := { dst := some 91, op := Go.Op.indexAddr 24 (Go.Operand.tmp 89) (Go.Operand.tmp 90), type := 0, pos := "rules.go:148", after := #[{ on := 2, ground := Go.Ground.data }, { on := 3, ground := Go.Ground.data }], guard := none }) (v := ?vd4) rfl (by kernel_rfl) (by kernel_rfl) (by kernel_rfl) (fun _ _ _ h => h) (Or.inl ⟨by rfl, ?hyd4⟩) (by assumption) ?restd4
        case hyd4 => first | (intro w hSw; (try dsimp only at hSw); go_simp; done) | (intro w hSw; (try dsimp only at hSw); go_simp; with_reducible rfl)
        try simp only [Act.put, List.setIfInBounds_toArray, List.set_cons_zero, List.set_cons_succ]
        refine wpAnyH_take (i := 5) (oi := { dst := some 92, op := Go.Op.load 61 (Go.Operand.tmp 91), type := 61, pos := "rules.go:148", after := #[{ on := 4, ground := Go.Ground.data }], guard := none }) (v := ?vd5) rfl (by kernel_rfl) (by kernel_rfl) (by kernel_rfl) (fun _ _ _ h => h) (Or.inl ⟨by rfl, ?hyd5⟩) (by assumption) ?restd5
        case hyd5 => first | (intro w hSw; (try dsimp only at hSw); go_simp; done) | (intro w hSw; (try dsimp only at hSw); go_simp; with_reducible rfl)
        try simp only [Act.put, List.setIfInBounds_toArray, List.set_cons_zero, List.set_cons_succ]
        refine wpAnyH_ready (rs := [6]) (by kernel_rfl) (by simp) ?_
        refine AllReadyH.cons (o := { dst := some 93, op := Go.Op.call { callee := Go.Callee.value (Go.Operand.func 36), args := #[Go.Operand.tmp 87, Go.Operand.tmp 92], argTypes := #[29, 61] }, type := 4, pos := "rules.go:148", after := #[{ on := 0, ground := Go.Ground.data }, { on := 5, ground := Go.Ground.data }], guard := none }) rfl (fun Kx hK => ?_) AllReadyH.nil
        rw [if_pos (by rfl)]
        go_simp
        go_at_call 36
        refine (refRuleD _ ⟨a2, c2, a3, c3, a5, c5, some ⟨b, o, none⟩, c6, a7, c7, a8, c8, a9, c9⟩ p (frow_below HFI.out BWD.out) s l1 l2 l3 i1 i2 i3 n1 n2 n3 (lrow_below R1.out BD.out) (crow_below R2.out BD.out) (lrow_below R3.out BD.out)).mono ?_
        rintro e w1 h1
        obtain ⟨rfl, b1⟩ := h1.yes Q.out
        clear h1
        have HB1 := hideT b1
        refine hK.out _ _ ?_ (fun hHeld6 => ?_)
        · exact ⟨below_cell b1 _ _ x0, below_cell b1 _ _ x1, below_cell b1 _ _ x2, below_cell b1 _ _ x3, below_cell b1 _ _ x4, below_cell b1 _ _ x5, below_cell b1 _ _ x6, below_cell b1 _ _ x7, below_cell b1 _ _ x8, below_cell b1 _ _ x9, below_cell b1 _ _ d0, below_cell b1 _ _ d1, below_cell b1 _ _ d2, below_cell b1 _ _ d3, below_cell b1 _ _ e0⟩
        clear hK Kx
        try simp only [Act.put, List.setIfInBounds_toArray, List.set_cons_zero, List.set_cons_succ]
        refine wpAnyH_take (i := 7) (oi := { dst := some 94, op := Go.Op.unOp Go.UnOp.not 4 (Go.Operand.tmp 93), type := 4, pos := "rules.go:148", after := #[{ on := 6, ground := Go.Ground.data }], guard := none }) (v := ?vd7) rfl (by kernel_rfl) (by kernel_rfl) (by kernel_rfl) (fun _ _ _ h => h) (Or.inl ⟨by rfl, ?hyd7⟩) (by assumption) ?restd7
        case hyd7 => first | (intro w hSw; (try dsimp only at hSw); go_simp; done) | (intro w hSw; (try dsimp only at hSw); go_simp; with_reducible rfl)
        try simp only [Act.put, List.setIfInBounds_toArray, List.set_cons_zero, List.set_cons_succ]
        refine wpAnyH_take (i := 8) (oi := { dst := some 95, op := Go.Op.move (Go.Operand.tmp 94), type := 4, pos := "rules.go:148", after := #[{ on := 7, ground := Go.Ground.data }, { on := 6, ground := Go.Ground.chain }], guard := none }) (v := ?vd8) rfl (by kernel_rfl) (by kernel_rfl) (by kernel_rfl) (fun _ _ _ h => h) (Or.inl ⟨by rfl, ?hyd8⟩) (by assumption) ?restd8
        case hyd8 => first | (intro w hSw; (try dsimp only at hSw); go_simp; done) | (intro w hSw; (try dsimp only at hSw); go_simp; with_reducible rfl)
        try simp only [Act.put, List.setIfInBounds_toArray, List.set_cons_zero, List.set_cons_succ]
        refine wpAnyH_take (i := 9) (oi := { dst := some 96, op := Go.Op.move (Go.Operand.tmp 4), type := 3, pos := "rules.go:148", after := #[{ on := 8, ground := Go.Ground.guard }], guard := some (8, false) }) (v := ?vd9) rfl (by kernel_rfl) (by kernel_rfl) (by kernel_rfl) (fun _ _ _ h => h) (Or.inl ⟨by rfl, ?hyd9⟩) (by assumption) ?restd9
        case hyd9 => first | (intro w hSw; (try dsimp only at hSw); go_simp; done) | (intro w hSw; (try dsimp only at hSw); go_simp; with_reducible rfl)
        try simp only [Act.put, List.setIfInBounds_toArray, List.set_cons_zero, List.set_cons_succ]
        refine wpAnyH_take (i := 10) (oi := { dst := some 97, op := Go.Op.binOp Go.BinOp.gtr 3 (Go.Operand.tmp 96) (Go.Operand.const (Go.Value.int Go.IntKind.i64 0)) 3, type := 4, pos := "rules.go:148", after := #[{ on := 9, ground := Go.Ground.data }, { on := 8, ground := Go.Ground.guard }], guard := some (8, false) }) (v := ?vd10) rfl (by kernel_rfl) (by kernel_rfl) (by kernel_rfl) (fun _ _ _ h => h) (Or.inl ⟨by rfl, ?hyd10⟩) (by assumption) ?restd10
        case hyd10 => first | (intro w hSw; (try dsimp only at hSw); go_simp; done) | (intro w hSw; (try dsimp only at hSw); go_simp; with_reducible rfl)
        try simp only [Act.put, List.setIfInBounds_toArray, List.set_cons_zero, List.set_cons_succ]
        refine wpAnyH_take (i := 11) (oi := { dst := some 98, op := Go.Op.move (Go.Operand.tmp 97), type := 4, pos := "rules.go:148", after := #[{ on := 10, ground := Go.Ground.data }, { on := 8, ground := Go.Ground.chain }, { on := 8, ground := Go.Ground.guard }], guard := some (8, false) }) (v := ?vd11) rfl (by kernel_rfl) (by kernel_rfl) (by kernel_rfl) (fun _ _ _ h => h) (Or.inl ⟨by rfl, ?hyd11⟩) (by assumption) ?restd11
        case hyd11 => first | (intro w hSw; (try dsimp only at hSw); go_simp; done) | (intro w hSw; (try dsimp only at hSw); go_simp; with_reducible rfl)
        try simp only [Act.put, List.setIfInBounds_toArray, List.set_cons_zero, List.set_cons_succ]
        refine wpAnyH_take (i := 12) (oi := { dst := some 99, op := Go.Op.fieldAddr 29 (Go.Operand.tmp 1) 6, type := 0, pos := "rules.go:148", after := #[{ on := 11, ground := Go.Ground.guard }], guard := some (11, true) }) (v := ?vd12) rfl (by kernel_rfl) (by kernel_rfl) (by kernel_rfl) (fun _ _ _ h => h) (Or.inl ⟨by rfl, ?hyd12⟩) (by assumption) ?restd12
        case hyd12 => first | (intro w hSw; (try dsimp only at hSw); go_simp; done) | (intro w hSw; (try dsimp only at hSw); go_simp; with_reducible rfl)
        try simp only [Act.put, List.setIfInBounds_toArray, List.set_cons_zero, List.set_cons_succ]
        refine wpAnyH_take (i := 13) (oi := { dst := some 100, op := Go.Op.load 24 (Go.Operand.tmp 99), type := 24, pos := "rules.go:148", after := #[{ on := 12, ground := Go.Ground.data }, { on := 11, ground := Go.Ground.guard }], guard := some (11, true) }) (v := ?vd13) rfl (by kernel_rfl) (by kernel_rfl) (by kernel_rfl) (fun _ _ _ h => h) (Or.inl ⟨by rfl, ?hyd13⟩) (by assumption) ?restd13
        case hyd13 => first | (intro w hSw; (try dsimp only at hSw); go_simp; done) | (intro w hSw; (try dsimp only at hSw); go_simp; with_reducible rfl)
        try simp only [Act.put, List.setIfInBounds_toArray, List.set_cons_zero, List.set_cons_succ]
        refine wpAnyH_take (i := 14) (oi := { dst := some 101, op := Go.Op.move (Go.Operand.tmp 4), type := 3, pos := "rules.go:148", after := #[{ on := 11, ground := Go.Ground.guard }], guard := some (11, true) }) (v := ?vd14) rfl (by kernel_rfl) (by kernel_rfl) (by kernel_rfl) (fun _ _ _ h => h) (Or.inl ⟨by rfl, ?hyd14⟩) (by assumption) ?restd14
        case hyd14 => first | (intro w hSw; (try dsimp only at hSw); go_simp; done) | (intro w hSw; (try dsimp only at hSw); go_simp; with_reducible rfl)
        try simp only [Act.put, List.setIfInBounds_toArray, List.set_cons_zero, List.set_cons_succ]
        refine wpAnyH_take (i := 15) (oi := { dst := some 102, op := Go.Op.binOp Go.BinOp.sub 3 (Go.Operand.tmp 101) (Go.Operand.const (Go.Value.int Go.IntKind.i64 1)) 3, type := 3, pos := "rules.go:148", after := #[{ on := 14, ground := Go.Ground.data }, { on := 11, ground := Go.Ground.guard }], guard := some (11, true) }) (v := ?vd15) rfl (by kernel_rfl) (by kernel_rfl) (by kernel_rfl) (fun _ _ _ h => h) (Or.inl ⟨by rfl, ?hyd15⟩) (by assumption) ?restd15
        case hyd15 => first | (intro w hSw; (try dsimp only at hSw); go_simp; done) | (intro w hSw; (try dsimp only at hSw); go_simp; with_reducible rfl)
        try simp only [Act.put, List.setIfInBounds_toArray, List.set_cons_zero, List.set_cons_succ]
        refine wpAnyH_take (i := 16) (oi := { dst := some 103, op := Go.Op.indexAddr 24 (Go.Operand.tmp 100) (Go.Operand.tmp 102), type := 0, pos := "rules.go:148", after := #[{ on := 13, ground := Go.Ground.data }, { on := 15, ground := Go.Ground.data }, { on := 11, ground := Go.Ground.guard }], guard := some (11, true) }) (v := ?vd16) rfl (by kernel_rfl) (by kernel_rfl) (by kernel_rfl) (fun _ _ _ h => h) (Or.inl ⟨by rfl, ?hyd16⟩) (by assumption) ?restd16
        case hyd16 => first | (intro w hSw; (try dsimp only at hSw); go_simp; done) | (intro w hSw; (try dsimp only at hSw); go_simp; with_reducible rfl)
        try simp only [Act.put, List.setIfInBounds_toArray, List.set_cons_zero, List.set_cons_succ]
        refine wpAnyH_take (i := 17) (oi := { dst := some 104, op := Go.Op.fieldAddr 61 (Go.Operand.tmp 103) 0, type := 0, pos := "rules.go:148", after := #[{ on := 16, ground := Go.Ground.data }, { on := 11, ground := Go.Ground.guard }], guard := some (11, true) }) (v := ?vd17) rfl (by kernel_rfl) (by kernel_rfl) (by kernel_rfl) (fun _ _ _ h => h) (Or.inl ⟨by rfl, ?hyd17⟩) (by assumption) ?restd17
        case hyd17 => first | (intro w hSw; (try dsimp only at hSw); go_simp; done) | (intro w hSw; (try dsimp only at hSw); go_simp; with_reducible rfl)
        try simp only [Act.put, List.setIfInBounds_toArray, List.set_cons_zero, List.set_cons_succ]
        refine wpAnyH_take (i := 18) (oi := { dst := some 105, op := Go.Op.load 3 (Go.Operand.tmp 104), type := 3, pos := "rules.go:148", after := #[{ on := 17, ground := Go.Ground.data }, { on := 11, ground := Go.Ground.guard }], guard := some (11, true) }) (v := ?vd18) rfl (by kernel_rfl) (by kernel_rfl) (by kernel_rfl) (fun _ _ _ h => h) (Or.inl ⟨by rfl, ?hyd18⟩) (by assumption) ?restd18
        case hyd18 => first | (intro w hSw; (try dsimp only at hSw); go_simp; done) | (intro w hSw; (try dsimp only at hSw); go_simp; with_reducible rfl)
        try simp only [Act.put, List.setIfInBounds_toArray, List.set_cons_zero, List.set_cons_succ]
        refine wpAnyH_take (i := 19) (oi := { dst := some 106, op := Go.Op.fieldAddr 29 (Go.Operand.tmp 1) 6, type := 0, pos := "rules.go:148", after := #[{ on := 11, ground := Go.Ground.guard }], guard := some (11, true) }) (v := ?vd19) rfl (by kernel_rfl) (by kernel_rfl) (by kernel_rfl) (fun _ _ _ h => h) (Or.inl ⟨by rfl, ?hyd19⟩) (by assumption) ?restd19
        case hyd19 => first | (intro w hSw; (try dsimp only at hSw); go_simp; done) | (intro w hSw; (try dsimp only at hSw); go_simp; with_reducible rfl)
        try simp only [Act.put, List.setIfInBounds_toArray, List.set_cons_zero, List.set_cons_succ]
        refine wpAnyH_take (i := 20) (oi := { dst := some 107, op := Go.Op.load 24 (Go.Operand.tmp 106), type := 24, pos := "rules.go:148", after := #[{ on := 19, ground := Go.Ground.data }, { on := 11, ground := Go.Ground.guard }], guard := some (11, true) }) (v := ?vd20) rfl (by kernel_rfl) (by kernel_rfl) (by kernel_rfl) (fun _ _ _ h => h) (Or.inl ⟨by rfl, ?hyd20⟩) (by assumption) ?restd20
        case hyd20 => first | (intro w hSw; (try dsimp only at hSw); go_simp; done) | (intro w hSw; (try dsimp only at hSw); go_simp; with_reducible rfl)
        try simp only [Act.put, List.setIfInBounds_toArray, List.set_cons_zero, List.set_cons_succ]
        refine wpAnyH_take (i := 21) (oi := { dst := some 108, op := Go.Op.move (Go.Operand.tmp 4), type := 3, pos := "rules.go:148", after := #[{ on := 11, ground := Go.Ground.guard }], guard := some (11, true) }) (v := ?vd21) rfl (by kernel_rfl) (by kernel_rfl) (by kernel_rfl) (fun _ _ _ h => h) (Or.inl ⟨by rfl, ?hyd21⟩) (by assumption) ?restd21
        case hyd21 => first | (intro w hSw; (try dsimp only at hSw); go_simp; done) | (intro w hSw; (try dsimp only at hSw); go_simp; with_reducible rfl)
        try simp only [Act.put, List.setIfInBounds_toArray, List.set_cons_zero, List.set_cons_succ]
        refine wpAnyH_take (i := 22) (oi := { dst := some 109, op := Go.Op.indexAddr 24 (Go.Operand.tmp 107) (Go.Operand.tmp 108), type := 0, pos := "rules.go:148", after := #[{ on := 20, ground := Go.Ground.data }, { on := 21, ground := Go.Ground.data }, { on := 11, ground := Go.Ground.guard }], guard := some (11, true) }) (v := ?vd22) rfl (by kernel_rfl) (by kernel_rfl) (by kernel_rfl) (fun _ _ _ h => h) (Or.inl ⟨by rfl, ?hyd22⟩) (by assumption) ?restd22
        case hyd22 => first | (intro w hSw; (try dsimp only at hSw); go_simp; done) | (intro w hSw; (try dsimp only at hSw); go_simp; with_reducible rfl)
        try simp only [Act.put, List.setIfInBounds_toArray, List.set_cons_zero, List.set_cons_succ]
        refine wpAnyH_take (i := 23) (oi := { dst := some 110, op := Go.Op.fieldAddr 61 (Go.Operand.tmp 109) 0, type := 0, pos := "rules.go:148", after := #[{ on := 22, ground := Go.Ground.data }, { on := 11, ground := Go.Ground.guard }], guard := some (11, true) }) (v := ?vd23) rfl (by kernel_rfl) (by kernel_rfl) (by kernel_rfl) (fun _ _ _ h => h) (Or.inl ⟨by rfl, ?hyd23⟩) (by assumption) ?restd23
        case hyd23 => first | (intro w hSw; (try dsimp only at hSw); go_simp; done) | (intro w hSw; (try dsimp only at hSw); go_simp; with_reducible rfl)
        try simp only [Act.put, List.setIfInBounds_toArray, List.set_cons_zero, List.set_cons_succ]
        refine wpAnyH_take (i := 24) (oi := { dst := some 111, op := Go.Op.load 3 (Go.Operand.tmp 110), type := 3, pos := "rules.go:148", after := #[{ on := 23, ground := Go.Ground.data }, { on := 11, ground := Go.Ground.guard }], guard := some (11, true) }) (v := ?vd24) rfl (by kernel_rfl) (by kernel_rfl) (by kernel_rfl) (fun _ _ _ h => h) (Or.inl ⟨by rfl, ?hyd24⟩) (by assumption) ?restd24
        case hyd24 => first | (intro w hSw; (try dsimp only at hSw); go_simp; done) | (intro w hSw; (try dsimp only at hSw); go_simp; with_reducible rfl)
        try simp only [Act.put, List.setIfInBounds_toArray, List.set_cons_zero, List.set_cons_succ]
        refine wpAnyH_take (i := 25) (oi := { dst := some 112, op := Go.Op.binOp Go.BinOp.gtr 3 (Go.Operand.tmp 105) (Go.Operand.tmp 111) 3, type := 4, pos := "rules.go:148", after := #[{ on := 18, ground := Go.Ground.data }, { on := 24, ground := Go.Ground.data }, { on := 11, ground := Go.Ground.guard }], guard := some (11, true) }) (v := ?vd25) rfl (by kernel_rfl) (by kernel_rfl) (by kernel_rfl) (fun _ _ _ h => h) (Or.inl ⟨by rfl, ?hyd25⟩) (by assumption) ?restd25
        case hyd25 => first | (intro w hSw; (try dsimp only at hSw); go_simp; done) | (intro w hSw; (try dsimp only at hSw); go_simp; with_reducible rfl)
        try simp only [Act.put, List.setIfInBounds_toArray, List.set_cons_zero, List.set_cons_succ]
        refine wpAnyH_take (i := 26) (oi := { dst := some 113, op := Go.Op.pick (Go.Operand.tmp 98) (Go.Operand.tmp 112) (Go.Operand.const (Go.Value.bool false)), type := 4, pos := "rules.go:148", after := #[{ on := 11, ground := Go.Ground.data }, { on := 25, ground := Go.Ground.data }, { on := 8, ground := Go.Ground.guard }], guard := some (8, false) }) (v := ?vd26) rfl (by kernel_rfl) (by kernel_rfl) (by kernel_rfl) (fun _ _ _ h => h) (Or.inl ⟨by rfl, ?hyd26⟩) (by assumption) ?restd26
        case hyd26 => first | (intro w hSw; (try dsimp only at hSw); go_simp; done) | (intro w hSw; (try dsimp only at hSw); go_simp; with_reducible rfl)
        try simp only [Act.put, List.setIfInBounds_toArray, List.set_cons_zero, List.set_cons_succ]
        refine wpAnyH_take (i := 27) (oi := { dst := some 114, op := Go.Op.pick (Go.Operand.tmp 95) (Go.Operand.const (Go.Value.bool true)) (Go.Operand.tmp 113), type := 4, pos := "rules.go:148", after := #[{ on := 8, ground := Go.Ground.data }, { on := 26, ground := Go.Ground.data }], guard := none }) (v := ?vd27) rfl (by kernel_rfl) (by kernel_rfl) (by kernel_rfl) (fun _ _ _ h => h) (Or.inl ⟨by rfl, ?hyd27⟩) (by assumption) ?restd27
        case hyd27 => first | (intro w hSw; (try dsimp only at hSw); go_simp; done) | (intro w hSw; (try dsimp only at hSw); go_simp; with_reducible rfl)
        try simp only [Act.put, List.setIfInBounds_toArray, List.set_cons_zero, List.set_cons_succ]
        refine wpAnyH_done (by kernel_rfl) ?_ _
        have BT := hideT (BWD.out.trans (HB1.out.mono BWD.out.size))
        all_goals go_wp2_with fail
        all_goals go_ret
        all_goals exact bpost_no HF.out BT.out
end Go.Proofs.Ytkjekohncfhbiaa
