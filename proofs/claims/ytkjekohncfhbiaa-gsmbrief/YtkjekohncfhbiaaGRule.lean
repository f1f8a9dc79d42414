/-
  A rule as it is kept.
-/
import Derived.Test.YtkjekohncfhbiaaPartC3
import Derived.Test.YtkjekohncfhbiaaGSet
import Derived.Deep.CutRange
set_option linter.unusedSimpArgs false
set_option linter.unusedVariables false
namespace Go.Proofs.Ytkjekohncfhbiaa
open Go.RowKit
set_option maxRecDepth 100000
abbrev kcE (x : Gp.KC) : List Value := [.int .i64 x.1, .int .i64 x.2.1, .bool x.2.2.1, .bool x.2.2.2.1, .bool x.2.2.2.2]
theorem kcE_one (x : Gp.KC) : ∀ u ∈ kcE x, u.oneCell' = true := fun u hu => by
  simp at hu
  rcases hu with rfl | rfl | rfl | rfl | rfl <;> rfl
theorem infoC_C : (Try.prog.info? 123).map (fun i => (i.zero, i.size, i.bytes)) = some (some (.agg #[.int .i64 0, .int .i64 0, .bool false, .bool false, .bool false]), 5, 24) := by kernel_rfl
/-- What ruleOf leaves. -/
def RulePost (x : Gp.KR) (w : World) (e : Ending) (w' : World) : Prop := ∃ v1 v2 v3, e = .returned (.agg #[v1, v2, v3]) ∧ NewR w.heap.size (fun w => krR w [v1, v2, v3] x) w' ∧ Below w.heap.size w w'
set_option maxHeartbeats 16000000 in
theorem ruleOfD (w : World) (ao : Option Addr) (fk cap : Nat) (files : List ByteArray) (hf : FRow w (.slice ao fk cap) files) (s : Int) (l1 : List Rp.Lit) (l2 : List Mp.Cond) (l3 : List Rp.Lit) (i1 i2 i3 : Option Addr) (n1 n2 n3 : Nat)
    (r1 : LRow w (.slice i1 l1.length n1) l1) (r2 : CRow w (.slice i2 l2.length n2) l2) (r3 : LRow w (.slice i3 l3.length n3) l3) (hop : ∀ c ∈ l2, Mp.opB c.2.1 = true) (hl1 : l1.length ≤ 3000) (hl2 : l2.length ≤ 3000) (hl3 : l3.length ≤ 3000) :
    Calls Try.prog 71 #[.slice ao fk cap, .agg #[.int .i64 s, .slice i1 l1.length n1, .slice i2 l2.length n2, .slice i3 l3.length n3]] w (RulePost (Gp.ruleOf files (s, l1, l2, l3)) w) := by
  obtain ⟨V, hV, BV, LA, LR, VS⟩ := boxes2 w 61 112 #[.int .i64 s, .slice i1 l1.length n1, .slice i2 l2.length n2, .slice i3 l3.length n3] #[.slice none 0 0, .slice none 0 0, .slice none 0 0]
  have HF := hideT (frow_below hf BV)
  have HR1 := hideT (lrow_below r1 BV)
  have HR2 := hideT (crow_below r2 BV)
  have HR3 := hideT (lrow_below r3 BV)
  have HB := hideT BV
  have HL := hideT LA
  have HLR := hideT LR
  have HVS := hideT VS
  have HV := hideT hV
  have HOP := hideT hop
  have y1 : V.cell? ⟨w.heap.size, 1, none⟩ = some (.slice i1 l1.length n1) := LA.cell 1
  have y3 : V.cell? ⟨w.heap.size, 3, none⟩ = some (.slice i3 l3.length n3) := LA.cell 3
  have hne := World.new_ne V _ y1
  clear hf r1 r2 r3 hop BV LA LR VS hV
  go_enter Try.func71, Try.ntmps71
  go_wp2_with fail
  rw [HV.out]
  go_cut [5] from 8 to 15 (fun q wc => ∃ (ob : Nat) (v1 v3 : Value), q = .pointer (some ⟨ob, 0, none⟩) ∧ V.heap.size ≤ ob ∧ Hid (Below V.heap.size V wc) ∧ Hid (Lies wc ob 112 #[v1, .slice none 0 0, v3]) ∧ Hid (Hang (fun k => V.heap.size ≤ k ∧ k ≠ ob) (fun w => LRow w v1 l1 ∧ LRow w v3 l3) wc))
  case first =>
    go_region_held3 (fun w' => w'.cell? ⟨w.heap.size, 1, none⟩ = some (.slice i1 l1.length n1) ∧ w'.cell? ⟨w.heap.size, 3, none⟩ = some (.slice i3 l3.length n3)) (go_keep) (first
      | (go_at_call 52; (refine (copyL _ _ _ l1 (lrow_below HR1.out (below_drewN (Below.refl _ V) _)) (by omega)).mono ?_); rintro e w1 ⟨rfl, hg1, b1, s1⟩; have B1 : Below V.heap.size V w1 := (below_drewN (Below.refl _ V) 1).trans b1; have c1 := below_cell B1 _ _ y1; have c3 := below_cell B1 _ _ y3; have hne1 := World.new_ne w1 _ c1; have kindA : V.heap.size < w1.heap.size := s1)
      | (go_at_call 52; have BQ := (below_drewN (Below.refl _ V) 1).alloc (Nat.le_refl _) (.cells #[.slice none 0 0, .slice none 0 0, .slice none 0 0] 112); (refine (copyL _ _ _ l1 (lrow_below HR1.out BQ) (by omega)).mono ?_); rintro e w1 ⟨rfl, hg1, b1, s1⟩; have B1 : Below V.heap.size V w1 := BQ.trans (b1.mono BQ.size); have c1 := below_cell B1 _ _ y1; have c3 := below_cell B1 _ _ y3; have hne1 := World.new_ne w1 _ c1; have LN : Lies w1 V.heap.size 112 #[.slice none 0 0, .slice none 0 0, .slice none 0 0] := (Lies.new (V.drewN 1) 112 #[.slice none 0 0, .slice none 0 0, .slice none 0 0]).below b1; have kindB : V.heap.size < ((V.drewN 1).alloc (.cells #[.slice none 0 0, .slice none 0 0, .slice none 0 0] 112)).heap.size := (Lies.new (V.drewN 1) 112 #[.slice none 0 0, .slice none 0 0, .slice none 0 0]).lt)
      | (go_at_call 80; have hkA := kindA; (refine (copyS _ _ _ l3 (lrow_below HR3.out B1) (by omega)).mono ?_); rintro e w2 ⟨rfl, hg3, b2, s2⟩; have B2 : Below V.heap.size V w2 := B1.trans (b2.mono B1.size); have d1 := below_cell B2 _ _ y1; have d3 := below_cell B2 _ _ y3; have hne2 := World.new_ne w2 _ d1)
      | (go_at_call 80; have hkB := kindB; (refine (copyS _ _ _ l3 (lrow_below HR3.out B1) (by omega)).mono ?_); rintro e w2 ⟨rfl, hg3, b2, s2⟩; have B2 : Below V.heap.size V w2 := B1.trans (b2.mono B1.size); have d1 := below_cell B2 _ _ y1; have d3 := below_cell B2 _ _ y3; have hne2 := World.new_ne w2 _ d1; have LN2 : Lies w2 V.heap.size 112 #[.slice none 0 0, .slice none 0 0, .slice none 0 0] := LN.below b2; have pm0 : w2.cell? ⟨V.heap.size, 0, none⟩ = some (.slice none 0 0) := LN2.cell 0; have pf0 : w2.frozen? ⟨V.heap.size, 0, none⟩ = false := LN2.free 0; have pm1 : w2.cell? ⟨V.heap.size, 1, none⟩ = some (.slice none 0 0) := LN2.cell 1; have pf1 : w2.frozen? ⟨V.heap.size, 1, none⟩ = false := LN2.free 1; have pm2 : w2.cell? ⟨V.heap.size, 2, none⟩ = some (.slice none 0 0) := LN2.cell 2; have pf2 : w2.frozen? ⟨V.heap.size, 2, none⟩ = false := LN2.free 2)
      | (go_at_call 80; have hkA := kindA; have BR := (Below.refl w1.heap.size w1).alloc (Nat.le_refl _) (.cells #[.slice none 0 0, .slice none 0 0, .slice none 0 0] 112); (refine (copyS _ _ _ l3 (lrow_below HR3.out (B1.trans (BR.mono B1.size))) (by omega)).mono ?_); rintro e w2 ⟨rfl, hg3, b2, s2⟩; have B2 : Below V.heap.size V w2 := (B1.trans (BR.mono B1.size)).trans (b2.mono (Nat.le_trans B1.size BR.size)); have d1 := below_cell B2 _ _ y1; have d3 := below_cell B2 _ _ y3; have hne2 := World.new_ne w2 _ d1; have LN2 : Lies w2 w1.heap.size 112 #[.slice none 0 0, .slice none 0 0, .slice none 0 0] := (Lies.new w1 112 #[.slice none 0 0, .slice none 0 0, .slice none 0 0]).below b2; have kindC : w1.heap.size < (w1.alloc (.cells #[.slice none 0 0, .slice none 0 0, .slice none 0 0] 112)).heap.size := (Lies.new w1 112 #[.slice none 0 0, .slice none 0 0, .slice none 0 0]).lt; have pm0 : w2.cell? ⟨w1.heap.size, 0, none⟩ = some (.slice none 0 0) := LN2.cell 0; have pf0 : w2.frozen? ⟨w1.heap.size, 0, none⟩ = false := LN2.free 0; have pm1 : w2.cell? ⟨w1.heap.size, 1, none⟩ = some (.slice none 0 0) := LN2.cell 1; have pf1 : w2.frozen? ⟨w1.heap.size, 1, none⟩ = false := LN2.free 1; have pm2 : w2.cell? ⟨w1.heap.size, 2, none⟩ = some (.slice none 0 0) := LN2.cell 2; have pf2 : w2.frozen? ⟨w1.heap.size, 2, none⟩ = false := LN2.free 2)
      | (go_at_call 52; apply Nat.le_refl))
    · go_wp2_with fail
      go_meet
      case rel =>
        have e1 : w1.heap.size < w2.heap.size := s2
        have h1 : Hang (fun k => V.heap.size ≤ k ∧ k ≠ w2.heap.size) (fun w => LRow w (.slice (some ⟨V.heap.size, 0, none⟩) l1.length l1.length) l1) w2 := (hg1.below b2).sub (fun i hi e => by have e' : i = V.heap.size := e; omega)
        have h3 : Hang (fun k => V.heap.size ≤ k ∧ k ≠ w2.heap.size) (fun w => LRow w (.slice (some ⟨w1.heap.size, 0, none⟩) l3.length l3.length) l3) w2 := hg3.sub (fun i hi e => by have e' : i = w1.heap.size := e; omega)
        exact ⟨w2.heap.size, _, _, rfl, B2.size, B2.alloc B2.size _, Lies.new w2 _ _, (h1.and h3).below ((Below.refl _ w2).alloc (Nat.le_refl _) _)⟩
    · go_wp2_with fail
      go_meet
      case rel =>
        have e1 : w1.heap.size + 1 < w2.heap.size := by
          have := s2
          simp at this
          exact this
        have h1 : Hang (fun k => V.heap.size ≤ k ∧ k ≠ w1.heap.size) (fun w => LRow w (.slice (some ⟨V.heap.size, 0, none⟩) l1.length l1.length) l1) w2 := ((hg1.below BR).below b2).sub (fun i hi e => by have e' : i = V.heap.size := e; omega)
        have h3 : Hang (fun k => V.heap.size ≤ k ∧ k ≠ w1.heap.size) (fun w => LRow w (.slice (some ⟨w1.heap.size + 1, 0, none⟩) l3.length l3.length) l3) w2 := by
          have := hg3
          rw [show (w1.alloc (.cells #[.slice none 0 0, .slice none 0 0, .slice none 0 0] 112)).heap.size = w1.heap.size + 1 by simp] at this
          exact this.sub (fun i hi e => by have e' : i = w1.heap.size + 1 := e; omega)
        have hk : Keep (fun k => k = w1.heap.size) w2 (((w2.setCell ⟨w1.heap.size, 0, none⟩ (.slice (some ⟨V.heap.size, 0, none⟩) l1.length l1.length)).setCell ⟨w1.heap.size, 1, none⟩ (.slice none 0 0)).setCell ⟨w1.heap.size, 2, none⟩ (.slice (some ⟨w1.heap.size + 1, 0, none⟩) l3.length l3.length)) := by
          have h1 : Keep (fun k => k = w1.heap.size) w2 (w2.setCell ⟨w1.heap.size, 0, none⟩ (.slice (some ⟨V.heap.size, 0, none⟩) l1.length l1.length)) := Keep.set _ _ _ rfl
          exact (h1.trans (Keep.set _ _ _ rfl)).trans (Keep.set _ _ _ rfl)
        exact ⟨w1.heap.size, _, _, rfl, by omega, Keep.below B2 hk (fun i hi e => by omega), ((LN2.set 0 _).set 1 _).set 2 _, (h1.and h3).keep hk (fun i _ h e => h.2 e)⟩
    · go_wp2_with fail
      go_meet
      case rel =>
        have e1 : V.heap.size + 1 < w1.heap.size := by
          have := s1
          simp at this
          exact this
        have e2 : w1.heap.size < w2.heap.size := s2
        have h1 : Hang (fun k => V.heap.size ≤ k ∧ k ≠ V.heap.size) (fun w => LRow w (.slice (some ⟨V.heap.size + 1, 0, none⟩) l1.length l1.length) l1) w2 := by
          have := hg1
          rw [show ((V.drewN 1).alloc (.cells #[.slice none 0 0, .slice none 0 0, .slice none 0 0] 112)).heap.size = V.heap.size + 1 by simp] at this
          exact (this.below b2).sub (fun i hi e => by have e' : i = V.heap.size + 1 := e; omega)
        have h3 : Hang (fun k => V.heap.size ≤ k ∧ k ≠ V.heap.size) (fun w => LRow w (.slice (some ⟨w1.heap.size, 0, none⟩) l3.length l3.length) l3) w2 := hg3.sub (fun i hi e => by have e' : i = w1.heap.size := e; omega)
        have hk : Keep (fun k => k = V.heap.size) w2 (((w2.setCell ⟨V.heap.size, 0, none⟩ (.slice (some ⟨V.heap.size + 1, 0, none⟩) l1.length l1.length)).setCell ⟨V.heap.size, 1, none⟩ (.slice none 0 0)).setCell ⟨V.heap.size, 2, none⟩ (.slice (some ⟨w1.heap.size, 0, none⟩) l3.length l3.length)) := by
          have h1 : Keep (fun k => k = V.heap.size) w2 (w2.setCell ⟨V.heap.size, 0, none⟩ (.slice (some ⟨V.heap.size + 1, 0, none⟩) l1.length l1.length)) := Keep.set _ _ _ rfl
          exact (h1.trans (Keep.set _ _ _ rfl)).trans (Keep.set _ _ _ rfl)
        exact ⟨V.heap.size, _, _, rfl, Nat.le_refl _, Keep.below B2 hk (fun i hi e => by omega), ((LN2.set 0 _).set 1 _).set 2 _, (h1.and h3).keep hk (fun i _ h e => h.2 e)⟩
  case rest =>
    obtain ⟨ob, v1, v3, rfl, hob, BC, LC, HG⟩ := hcut
    have y2 : wc.cell? ⟨w.heap.size, 2, none⟩ = some (.slice i2 l2.length n2) := (HL.out.below BC.out).cell 2
    have hobl := LC.out.lt
    have HOB := hideT hob
    have HOBL := hideT hobl
    obtain ⟨_, _, _, bc, oc, hac, hcc⟩ := crow_at HR2.out
    have HC := hideT hcc
    have HA := hideT hac
    clear hob hobl hac hcc y1 y3 hne
    go_wp2_with fail
    clear y2
    go_loopw [18] (fun i wr => ∃ (k : Nat) (vc : Value), k ≤ l2.length ∧ i = .int .i64 k ∧ Hid (Keep (fun j => j = ob) wc wr) ∧ Hid (Lies wr ob 112 #[v1, vc, v3]) ∧ Hid (OE wc.heap.size 123 5 kcE wr vc ((l2.take k).map (Gp.condOf files)))) (fun i _ => l2.length - (intOf i).toNat)
    case atStart => exact ⟨0, _, by omega, rfl, Keep.refl _ _, LC.out, OE.nil (Nat.le_refl _)⟩
    case round =>
      obtain ⟨k, vc, hk, rfl, HK, HLO, OO⟩ := hrel
      have HBW : Hid (Below V.heap.size V wr) := Keep.below BC.out HK.out (fun i hi e => by have := HOB.out; omega)
      by_cases hlt : k < l2.length
      · obtain ⟨⟨c0, c1, c2⟩, hx⟩ := Mp.at_lt (l := l2) (k := k) hlt
        obtain ⟨_, d0, d1, d2⟩ := HC.out k _ hx
        dsimp only at d0 d1 d2
        have d0 := below_cell HBW.out _ _ d0
        have d1 := below_cell HBW.out _ _ d1
        have d2 := below_cell HBW.out _ _ d2
        obtain rfl := HA.out (by omega)
        have hop1 := HOP.out _ (List.mem_of_getElem? hx)
        have HOP1 := hideT hop1
        have HTK : Hid ((l2.take (k + 1)).map (Gp.condOf files) = (l2.take k).map (Gp.condOf files) ++ [Gp.condOf files (c0, c1, c2)]) := by
          show _ = _
          rw [Mp.take_at hx, List.map_append]
          rfl
        obtain ⟨L, hL⟩ : ∃ L, (l2.take k).map (Gp.condOf files) = L := ⟨_, rfl⟩
        have hLl : L.length ≤ 3000 := by rw [← hL, List.length_map, List.length_take]; omega
        rw [hL] at OO HTK
        obtain ⟨oad, ocap, ho, hfo⟩ := OO.out.form
        subst ho
        have t0 : (0 : Int) ≤ (k : Int) := by omega
        have t1 : (k : Int) < (l2.length : Int) := by omega
        obtain ⟨W, hW⟩ : ∃ W, wr.alloc (.cells #[.string c0, .string c1, .int .i64 c2] 102) = W := ⟨_, rfl⟩
        have BW : Below wr.heap.size wr W := by rw [← hW]; exact (Below.refl _ wr).alloc (Nat.le_refl _) _
        have LW : Lies W wr.heap.size 102 #[.string c0, .string c1, .int .i64 c2] := by rw [← hW]; exact Lies.new _ _ _
        have HWW := hideT hW
        have HLW := hideT LW
        have HBWW := hideT BW
        have HOW := hideT (OO.out.below BW)
        have HLOW := hideT (HLO.out.below BW)
        have HFW := hideT (frow_below HF.out (HBW.out.trans (BW.mono HBW.out.size)))
        have HKW := hideT (HK.out.trans (Keep.of_below BW))
        clear hfo hop1 hx hW BW LW hL
        go_wp2_with fail
        rw [HWW.out]
        clear d0 d1 d2
        have z0 : W.cell? ⟨wr.heap.size, 0, none⟩ = some (.string c0) := HLW.out.cell 0
        have z1 : W.cell? ⟨wr.heap.size, 1, none⟩ = some (.string c1) := HLW.out.cell 1
        have z2 : W.cell? ⟨wr.heap.size, 2, none⟩ = some (.int .i64 c2) := HLW.out.cell 2
        have u1 : W.cell? ⟨ob, 1, none⟩ = some (.slice oad L.length ocap) := HLOW.out.cell 1
        go_region_law (first
          | (go_simp; go_at_call 81; (refine (condOfD _ ao fk cap files (c0, c1, c2) (frow_below HFW.out (below_drewN (Below.refl _ W) _)) HOP1.out).mono ?_); rintro e w1 ⟨rfl, b1⟩; have B1 := (below_drewN (Below.refl _ W) 1).trans b1; have LO1 := HLOW.out.below B1; have OO1 := HOW.out.below B1; have u2 : w1.cell? ⟨ob, 1, none⟩ = some (.slice oad L.length ocap) := LO1.cell 1; have q1 : ob < w1.heap.size := LO1.lt; have q2 : ¬ w1.heap.size = ob := Nat.ne_of_gt q1; have q3 : ¬ ob = w1.heap.size := Nat.ne_of_lt q1; have u2a : (w1.alloc (.cells (kcC (Gp.condOf files (c0, c1, c2))) 123)).cell? ⟨ob, 1, none⟩ = some (.slice oad L.length ocap) := (LO1.below ((Below.refl _ w1).alloc (Nat.le_refl _) _)).cell 1)
          | (refine step_appO (t := 110) (e := 123) (z := 5) (E := kcE) Try.underlying110 infoC_C rfl (by omega) (by omega) (fun _ => rfl) kcE_one (by rfl) _ _ (by rfl) (v := .slice oad L.length ocap) (by rfl) (by rfl) (OO1.below ((Below.refl _ w1).alloc (Nat.le_refl _) _)) [Gp.condOf files (c0, c1, c2)] rfl (fun _ => ⟨_, rfl, news1 w1 (kcC (Gp.condOf files (c0, c1, c2))) 123⟩) (by simp; omega) ?_; intro v' w3 o3 k3; obtain ⟨qad, qcap, hq, hqq⟩ := o3.form; clear hqq; subst hq; have LO3 := (LO1.below ((Below.refl _ w1).alloc (Nat.le_refl _) (.cells (kcC (Gp.condOf files (c0, c1, c2))) 123))).keep k3.keep (fun e => by have := (OO1.lt e).2; have := HOBL.out; omega); have u3 : w3.cell? ⟨ob, 1, none⟩ = some (.slice oad L.length ocap) := LO3.cell 1; have f3 : w3.frozen? ⟨ob, 1, none⟩ = false := LO3.free 1))
        all_goals obtain ⟨X, hX⟩ : ∃ X, w3.setCell ⟨ob, 1, none⟩ (.slice qad (L ++ [Gp.condOf files (c0, c1, c2)]).length qcap) = X := ⟨_, rfl⟩
        all_goals have KX : Keep (fun j => j = ob) w3 X := (by rw [← hX]; exact Keep.set _ _ _ rfl)
        all_goals have LX : Lies X ob 112 #[v1, .slice qad (L ++ [Gp.condOf files (c0, c1, c2)]).length qcap, v3] := (by rw [← hX]; exact LO3.set 1 _)
        all_goals have OX := o3.keep KX (fun i hi e => by have := (o3.lt hi).2; have := HOBL.out; omega)
        all_goals have KW3 := ((HKW.out.trans (Keep.of_below B1)).trans (Keep.of_below ((Below.refl _ w1).alloc (Nat.le_refl _) (.cells (kcC (Gp.condOf files (c0, c1, c2))) 123)))).on k3.keep (fun i hi e => by have := (OO1.lt e).2; omega)
        all_goals have HKX := hideT (KW3.trans KX)
        all_goals have HLX := hideT LX
        all_goals have HOX : Hid (OE wc.heap.size 123 5 kcE X (.slice qad (L ++ [Gp.condOf files (c0, c1, c2)]).length qcap) ((l2.take (k + 1)).map (Gp.condOf files))) := (by rw [HTK.out]; exact OX)
        all_goals rw [List.length_append, List.length_singleton] at HLX HOX hX
        all_goals have HXX := hideT hX
        all_goals clear KX LX OX KW3 LO3 o3 k3 u3 f3 LO1 OO1 u2 q1 q2 q3 u2a B1 b1 z0 z1 z2 u1 hX
        all_goals go_wp2_with fail
        all_goals rw [HXX.out]
        all_goals refine ⟨⟨k + 1, _, by omega, by go_num, HKX, HLX, HOX⟩, ?_⟩
        all_goals first | omega | (simp [intOf]; omega)
      · have HE := OO.out
        rw [List.take_of_length_le (by omega)] at HE
        have hrow := HE.row (R := kcR) (S := fun g => V.heap.size ≤ g ∧ g ≠ ob) (l := l2.map (Gp.condOf files)) rfl (by rw [List.length_map]; omega) (fun _ => rfl) (fun g hg => ⟨by have := (HE.lt hg).2; have := BC.out.size; omega, by have := (HE.lt hg).2; have := HOBL.out; omega⟩) (fun i x c hx hc => by
          rw [hx] at hc
          cases hc
          exact Hang.pure rfl)
        have hls := HG.out.keep HK.out (fun i _ h e => h.2 e)
        have HB3 := hideT (HB.out.trans (HBW.out.mono HB.out.size))
        have hvs := HVS.out
        have HNEW2 := (hls.and hrow).imp (Q := fun w => krR w [v1, vc, v3] (Gp.ruleOf files (s, l1, l2, l3))) (fun w2 ⟨⟨p1, p3⟩, p2⟩ => ⟨v1, vc, v3, rfl, p1, p2, p3⟩)
        have g0 : wr.cell? ⟨ob, 0, none⟩ = some v1 := HLO.out.cell 0
        have g1 : wr.cell? ⟨ob, 1, none⟩ = some vc := HLO.out.cell 1
        have g2 : wr.cell? ⟨ob, 2, none⟩ = some v3 := HLO.out.cell 2
        obtain ⟨j1, k1, rfl⟩ := row_val hls.here.1
        obtain ⟨j2, k2, rfl⟩ := row_val hrow.here
        obtain ⟨j3, k3, rfl⟩ := row_val hls.here.2
        have LR1 := (HLR.out.below BC.out).keep HK.out (fun e => by have := HOB.out; omega)
        clear hls hrow HE
        have m0 : wr.cell? ⟨w.heap.size + 1, 0, none⟩ = some (.slice none 0 0) := LR1.cell 0
        have m1 : wr.cell? ⟨w.heap.size + 1, 1, none⟩ = some (.slice none 0 0) := LR1.cell 1
        have m2 : wr.cell? ⟨w.heap.size + 1, 2, none⟩ = some (.slice none 0 0) := LR1.cell 2
        have f0 : wr.frozen? ⟨w.heap.size + 1, 0, none⟩ = false := LR1.free 0
        have f1 : wr.frozen? ⟨w.heap.size + 1, 1, none⟩ = false := LR1.free 1
        have f2 : wr.frozen? ⟨w.heap.size + 1, 2, none⟩ = false := LR1.free 2
        obtain ⟨X, hX⟩ : ∃ X, ((wr.setCell ⟨w.heap.size + 1, 0, none⟩ (.slice j1 l1.length k1)).setCell ⟨w.heap.size + 1, 1, none⟩ (.slice j2 (l2.map (Gp.condOf files)).length k2)).setCell ⟨w.heap.size + 1, 2, none⟩ (.slice j3 l3.length k3) = X := ⟨_, rfl⟩
        have LX : Lies X (w.heap.size + 1) 112 #[.slice j1 l1.length k1, .slice j2 (l2.map (Gp.condOf files)).length k2, .slice j3 l3.length k3] := by
          rw [← hX]
          exact ((LR1.set 0 _).set 1 _).set 2 _
        have KX : Keep (fun k => k = w.heap.size + 1) wr X := by
          rw [← hX]
          have h1 : Keep (fun k => k = w.heap.size + 1) wr (wr.setCell ⟨w.heap.size + 1, 0, none⟩ (.slice j1 l1.length k1)) := Keep.set _ _ _ rfl
          exact (h1.trans (Keep.set _ _ _ rfl)).trans (Keep.set _ _ _ rfl)
        have BX := hideT (Keep.below HB3.out KX (fun i hi e => by omega))
        have HNX : Hid (NewR w.heap.size (fun w => krR w [.slice j1 l1.length k1, .slice j2 (l2.map (Gp.condOf files)).length k2, .slice j3 l3.length k3] (Gp.ruleOf files (s, l1, l2, l3))) X) := HNEW2.keep KX (fun i hi h => by omega) |>.toNew (fun i hi h => by omega)
        have HLX := hideT LX
        clear LX KX LR1
        rw [List.length_map] at *
        go_wp2_with fail
        try rw [hX]
        have r0 : X.cell? ⟨w.heap.size + 1, 0, none⟩ = some (.slice j1 l1.length k1) := HLX.out.cell 0
        have r1 : X.cell? ⟨w.heap.size + 1, 1, none⟩ = some (.slice j2 l2.length k2) := HLX.out.cell 1
        have r2 : X.cell? ⟨w.heap.size + 1, 2, none⟩ = some (.slice j3 l3.length k3) := HLX.out.cell 2
        refine bodyPost_ret (v := .agg #[.slice j1 l1.length k1, .slice j2 l2.length k2, .slice j3 l3.length k3]) (by simp [results, Try.results71, go_sem, r0, r1, r2]) rfl ⟨_, _, _, rfl, HNX.out, BX.out⟩
end Go.Proofs.Ytkjekohncfhbiaa
