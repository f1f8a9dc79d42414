/-
  The program's plan, outermost.
-/
import Derived.Test.YtjfonpbnohbpfaaGreatDoorBFrom
set_option linter.unusedSimpArgs false
set_option linter.unusedVariables false
namespace Go.Proofs.YtjfonpbnohbpfaaGreatDoor
open Go.RowKit
set_option maxRecDepth 100000
def planG (F : Bp.BS → Tr → Except Int Bp.BS) (s : Bp.BS) (K : Tr) : Except Int Bp.BS := if s.items.length = 0 then F s K else .error (Bp.apT K)
set_option maxHeartbeats 1000000 in
theorem planB {b B d lim : Nat} {T : Tr} {F : Bp.BS → Tr → Except Int Bp.BS} (hst : PartAt b B d lim 113 F T) : PartAt b B d lim 81 (planG F) T := by
  intro M w Q s c0 c1 c2 c3 c4 h hT hM
  obtain ⟨sp, lo, a2, l2, m2, a3, l3, m3, p, rfl, rfl, rfl, rfl, rfl, _, _, hap⟩ := hT.five
  have HM := hideT hM
  have HT := hideT hT
  have HS := hideT hst
  have HBI := hideT h
  have SX := hideT h.six
  have HAP := hideT hap
  obtain ⟨W1, hW1, B1, L1⟩ : ∃ W1, w.alloc (.cells #[.string sp, .string lo, .slice a2 l2 m2, .slice a3 l3 m3, .int .i64 p] 45) = W1 ∧ Below w.heap.size w W1 ∧ Lies W1 w.heap.size 45 #[.string sp, .string lo, .slice a2 l2 m2, .slice a3 l3 m3, .int .i64 p] := ⟨_, rfl, (Below.refl _ w).alloc (Nat.le_refl _) _, Lies.new w _ _⟩
  have HB1 := hideT B1
  have HL1 := hideT L1
  have x0 : W1.cell? ⟨w.heap.size, 0, none⟩ = some (.string sp) := L1.cell 0
  have x1 : W1.cell? ⟨w.heap.size, 1, none⟩ = some (.string lo) := L1.cell 1
  have x2 : W1.cell? ⟨w.heap.size, 2, none⟩ = some (.slice a2 l2 m2) := L1.cell 2
  have x3 : W1.cell? ⟨w.heap.size, 3, none⟩ = some (.slice a3 l3 m3) := L1.cell 3
  have x4 : W1.cell? ⟨w.heap.size, 4, none⟩ = some (.int .i64 p) := L1.cell 4
  have TF := hideT (TQ.fresh B1 (fun k hk => (SX.out.2 k hk).1))
  have IF := hideT (HBI.out.fresh B1)
  obtain ⟨hf1, fv, iv, o1, o2, at_, C, mem⟩ := IF.out
  obtain ⟨ia, ic, rfl⟩ := slice_form mem.items
  have v1 : W1.cell? ⟨b, 1, none⟩ = some (.slice ia s.items.length ic) := mem.lies.cell 1
  clear hT hst h B1 L1 hM mem hap hf1
  obtain ⟨n, hn⟩ : ∃ n, n = s.items.length := ⟨_, rfl⟩
  have HN := hideT hn
  rw [← hn] at v1
  clear hn
  by_cases h0 : n = 0
  · subst h0
    have HF : Hid (planG F s T = F s T) := if_pos HN.out.symm
    go_enter Tryz.func81, Tryz.ntmps81
    go_wp2_with fail
    refine (HS.out M W1 _ s _ _ _ _ _ IF.out (TF.out.tree HT.out) HM.out).mono ?_
    rintro e w2 ⟨Q2, t2, ok2, er2⟩
    cases hr : F s T with
    | error q =>
      obtain ⟨rfl, fe⟩ := er2 q hr
      have HR := hideT (HF.out.trans hr)
      clear hr ok2 er2
      go_wp2_with fail
      go_ret
      exact BPost.err (TF.out.trans t2) fe HR.out
    | ok s' =>
      obtain ⟨rfl, i2⟩ := ok2 s' hr
      have HR := hideT (HF.out.trans hr)
      clear hr ok2 er2
      go_wp2_with fail
      go_ret
      exact BPost.ok (TF.out.trans t2) i2 HR.out
  · have HF : Hid (planG F s T = .error p) := by
      show _ = _
      unfold planG
      rw [if_neg (fun e => h0 (HN.out.trans e)), HAP.out]
    have t1 : (0 : Int) < (n : Int) := by omega
    have SF := hideT IF.out.six
    go_enter Tryz.func81, Tryz.ntmps81
    go_wp2_with fail
    refine (faultD W1 _ b _ _ _ _ p SF.out).mono ?_
    rintro e w2 ⟨rfl, t2, f2⟩
    go_wp2_with fail
    go_ret
    exact BPost.err (TF.out.trans t2) f2 HF.out
/-- What outermost asks. -/
def caseG (tbl : Bp.Tab Bp.BS) (s : Bp.BS) (T : Tr) : Except Int Bp.BS :=
  if Bp.isOf T Bp.caseW = true ∧ Bp.valOk (Bp.alT T) [] = true ∧ (Bp.klT T).any (fun k => Bp.isOf k Bp.stageW) = true then Bp.kids tbl 0 s (Bp.klT T) else .error (Bp.apT T)
set_option maxHeartbeats 4000000 in
theorem outermostD {b B d lim : Nat} {T : Tr} {tbl : Bp.Tab Bp.BS} (hE : Parts b B d lim caseE tbl T) (ha : Alike caseE tbl) (hlim : lim ≤ 1000000) : PartAt b B (d + 1) lim 18 (caseG tbl) T := by
  intro M w Q s c0 c1 c2 c3 c4 h hT hM
  obtain ⟨sp, lo, a2, l2, m2, a3, l3, m3, p, rfl, rfl, rfl, rfl, rfl, hsp, hlo, hap⟩ := hT.five
  have hcn : Bp.cnt (d + 1) T = 1 + tot d (Bp.klT T) := rfl
  rw [hcn] at hM ⊢
  have HM := hideT hM
  have HT := hideT hT
  have HAT := hideT hT.attrs
  have HE := hideT hE
  have HA := hideT ha
  have HBI := hideT h
  have SX := hideT h.six
  have HAP := hideT hap
  have HOF : Hid (Bp.isOf T Bp.caseW = (decide (sp = Bp.spaceB) && decide (lo = Bp.caseW))) := by
    show _ = _
    unfold Bp.isOf
    rw [hsp, hlo]
  obtain ⟨W1, hW1, B1, L1⟩ : ∃ W1, w.alloc (.cells #[.string sp, .string lo, .slice a2 l2 m2, .slice a3 l3 m3, .int .i64 p] 45) = W1 ∧ Below w.heap.size w W1 ∧ Lies W1 w.heap.size 45 #[.string sp, .string lo, .slice a2 l2 m2, .slice a3 l3 m3, .int .i64 p] := ⟨_, rfl, (Below.refl _ w).alloc (Nat.le_refl _) _, Lies.new w _ _⟩
  have HB1 := hideT B1
  have HL1 := hideT L1
  have x0 : W1.cell? ⟨w.heap.size, 0, none⟩ = some (.string sp) := L1.cell 0
  have x1 : W1.cell? ⟨w.heap.size, 1, none⟩ = some (.string lo) := L1.cell 1
  have x2 : W1.cell? ⟨w.heap.size, 2, none⟩ = some (.slice a2 l2 m2) := L1.cell 2
  have x3 : W1.cell? ⟨w.heap.size, 3, none⟩ = some (.slice a3 l3 m3) := L1.cell 3
  have x4 : W1.cell? ⟨w.heap.size, 4, none⟩ = some (.int .i64 p) := L1.cell 4
  clear hT hE ha h B1 L1 hM hap hcn hsp hlo
  go_enter Tryz.func18, Tryz.ntmps18
  go_wp2_with fail
  refine (valuesD W1 _ _ _ a3 l3 m3 p (Bp.alT T) (HAT.out.below' HB1.out) none 0 0 [] (rowR_nil _) (by decide)).mono ?_
  rintro e w2 ⟨ra, rc, rfl, _, b2⟩
  have BB2 := hideT (HB1.out.trans (b2.mono HB1.out.size))
  have LL2 := hideT (HL1.out.below b2)
  have y0 : w2.cell? ⟨w.heap.size, 0, none⟩ = some (.string sp) := LL2.out.cell 0
  have y1 : w2.cell? ⟨w.heap.size, 1, none⟩ = some (.string lo) := LL2.out.cell 1
  have y2 : w2.cell? ⟨w.heap.size, 2, none⟩ = some (.slice a2 l2 m2) := LL2.out.cell 2
  have y3 : w2.cell? ⟨w.heap.size, 3, none⟩ = some (.slice a3 l3 m3) := LL2.out.cell 3
  have y4 : w2.cell? ⟨w.heap.size, 4, none⟩ = some (.int .i64 p) := LL2.out.cell 4
  obtain ⟨okv, hok⟩ : ∃ x, Bp.valOk (Bp.alT T) [] = x := ⟨_, rfl⟩
  have HOK := hideT hok
  rw [hok]
  clear x0 x1 x2 x3 x4 hok b2
  go_wp2_with fail
  have TF2 := hideT (TQ.fresh BB2.out (fun k hk => (SX.out.2 k hk).1))
  refine (hasPlanD w2 _ d _ _ _ _ _ T (TF2.out.tree HT.out)).mono ?_
  rintro e w3 ⟨rfl, b3⟩
  have BB3 := hideT (BB2.out.trans (b3.mono BB2.out.size))
  have LL3 := hideT (LL2.out.below b3)
  have z0 : w3.cell? ⟨w.heap.size, 0, none⟩ = some (.string sp) := LL3.out.cell 0
  have z1 : w3.cell? ⟨w.heap.size, 1, none⟩ = some (.string lo) := LL3.out.cell 1
  have z2 : w3.cell? ⟨w.heap.size, 2, none⟩ = some (.slice a2 l2 m2) := LL3.out.cell 2
  have z3 : w3.cell? ⟨w.heap.size, 3, none⟩ = some (.slice a3 l3 m3) := LL3.out.cell 3
  have z4 : w3.cell? ⟨w.heap.size, 4, none⟩ = some (.int .i64 p) := LL3.out.cell 4
  obtain ⟨hpv, hhp⟩ : ∃ x, (Bp.klT T).any (fun k => Bp.isOf k Bp.stageW) = x := ⟨_, rfl⟩
  have HHP := hideT hhp
  rw [hhp]
  clear y0 y1 y2 y3 y4 hhp b3
  go_wp2_with fail
  refine (isOfD sp lo Bp.caseW _ _ _ w3).mono ?_
  rintro e w4 ⟨rfl, b4⟩
  have BB4 := hideT (BB3.out.trans (b4.mono BB3.out.size))
  have LL4 := hideT (LL3.out.below b4)
  have k0 : w4.cell? ⟨w.heap.size, 0, none⟩ = some (.string sp) := LL4.out.cell 0
  have k1 : w4.cell? ⟨w.heap.size, 1, none⟩ = some (.string lo) := LL4.out.cell 1
  have k2 : w4.cell? ⟨w.heap.size, 2, none⟩ = some (.slice a2 l2 m2) := LL4.out.cell 2
  have k3 : w4.cell? ⟨w.heap.size, 3, none⟩ = some (.slice a3 l3 m3) := LL4.out.cell 3
  have k4 : w4.cell? ⟨w.heap.size, 4, none⟩ = some (.int .i64 p) := LL4.out.cell 4
  obtain ⟨cv, hcv⟩ : ∃ x, (decide (sp = Bp.spaceB) && decide (lo = Bp.caseW)) = x := ⟨_, rfl⟩
  have HCV := hideT (HOF.out.trans hcv)
  rw [hcv]
  have TF4 := hideT (TQ.fresh BB4.out (fun k hk => (SX.out.2 k hk).1))
  have I4 := hideT (HBI.out.fresh BB4.out)
  have S4 := hideT I4.out.six
  clear z0 z1 z2 z3 z4 hcv b4
  by_cases hall : cv = true ∧ okv = true ∧ hpv = true
  rotate_left
  · have HF : Hid (caseG tbl s T = .error p) := by
      show _ = _
      unfold caseG
      rw [HCV.out, HOK.out, HHP.out, if_neg hall, HAP.out]
    cases cv with
    | false =>
      go_wp2_with fail
      refine (faultD w4 _ b _ _ _ _ p S4.out).mono ?_
      rintro e w5 ⟨rfl, t5, f5⟩
      go_wp2_with fail
      go_ret
      exact BPost.err (TF4.out.trans t5) f5 HF.out
    | true =>
      cases okv with
      | false =>
        go_wp2_with fail
        refine (faultD w4 _ b _ _ _ _ p S4.out).mono ?_
        rintro e w5 ⟨rfl, t5, f5⟩
        go_wp2_with fail
        go_ret
        exact BPost.err (TF4.out.trans t5) f5 HF.out
      | true =>
        cases hpv with
        | true => exact absurd ⟨rfl, rfl, rfl⟩ hall
        | false =>
          go_wp2_with fail
          refine (faultD w4 _ b _ _ _ _ p S4.out).mono ?_
          rintro e w5 ⟨rfl, t5, f5⟩
          go_wp2_with fail
          go_ret
          exact BPost.err (TF4.out.trans t5) f5 HF.out
  obtain ⟨rfl, rfl, rfl⟩ := hall
  have HF : Hid (caseG tbl s T = Bp.kids tbl 0 s (Bp.klT T)) := by
    show _ = _
    unfold caseG
    rw [HCV.out, HOK.out, HHP.out, if_pos ⟨rfl, rfl, rfl⟩]
  have LT := LL4.out.lt
  cases hr : Bp.kids tbl 0 s (Bp.klT T) with
  | error q =>
    have HR := hideT (HF.out.trans hr)
    have HR0 := hideT hr
    clear hr
    go_wp2_with fail
    go_region_held3 (fun w' => w'.cell? ⟨w.heap.size, 0, none⟩ = some (.string sp) ∧ w'.cell? ⟨w.heap.size, 1, none⟩ = some (.string lo) ∧ w'.cell? ⟨w.heap.size, 2, none⟩ = some (.slice a2 l2 m2) ∧ w'.cell? ⟨w.heap.size, 3, none⟩ = some (.slice a3 l3 m3) ∧ w'.cell? ⟨w.heap.size, 4, none⟩ = some (.int .i64 p)) (go_keep) (first
      | (go_at_call 46; refine (caseKidsD _).mono ?_; rintro e w6 ⟨v, rfl, b6, o6⟩; obtain ⟨ta, tc, rfl⟩ := slice_form o6; have bb6 : Below w.heap.size w w6 := BB4.out.drew.trans (b6.mono BB4.out.size); have LL6 := LL4.out.below ((Below.refl _ w4).drew.trans b6); have k0 : w6.cell? ⟨w.heap.size, 0, none⟩ = some (.string sp) := LL6.cell 0; have k1 : w6.cell? ⟨w.heap.size, 1, none⟩ = some (.string lo) := LL6.cell 1; have k2 : w6.cell? ⟨w.heap.size, 2, none⟩ = some (.slice a2 l2 m2) := LL6.cell 2; have k3 : w6.cell? ⟨w.heap.size, 3, none⟩ = some (.slice a3 l3 m3) := LL6.cell 3; have k4 : w6.cell? ⟨w.heap.size, 4, none⟩ = some (.int .i64 p) := LL6.cell 4)
      | (go_at_call 45; have TB : RowQ 3 tabR w6 (freshQ w w6 Q) (.slice ta caseE.length tc) caseE := tab_of_own o6 (by decide) (fun g hg => .inr ⟨Nat.le_trans BB4.out.size (own_lt o6 hg).2, (own_lt o6 hg).1⟩); have TF := TQ.fresh bb6 (fun k hk => (SX.out.2 k hk).1); have QN : freshQ w w6 Q w.heap.size := .inr ⟨Nat.le_refl _, LL6.lt⟩; refine (kids_of HE.out HA.out (by decide) enters_case M w6 _ s (HBI.out.fresh bb6) _ _ _ _ _ (TF.tree HT.out) (by have := HM.out; omega) _ TB).mono ?_; rintro e w5 ⟨Q2, t2, ok2, er2⟩; have h0 : w5.cell? ⟨w.heap.size, 0, none⟩ = some (.string sp) := (t2.cell QN).trans k0; have h1 : w5.cell? ⟨w.heap.size, 1, none⟩ = some (.string lo) := (t2.cell QN).trans k1; have h2 : w5.cell? ⟨w.heap.size, 2, none⟩ = some (.slice a2 l2 m2) := (t2.cell QN).trans k2; have h3 : w5.cell? ⟨w.heap.size, 3, none⟩ = some (.slice a3 l3 m3) := (t2.cell QN).trans k3; have h4 : w5.cell? ⟨w.heap.size, 4, none⟩ = some (.int .i64 p) := (t2.cell QN).trans k4; obtain ⟨rfl, fe⟩ := er2 q HR0.out))
    all_goals go_wp2_with fail
    all_goals go_ret
    all_goals exact BPost.err ((TQ.fresh bb6 (fun k hk => (SX.out.2 k hk).1)).trans t2) fe HR.out
  | ok s' =>
    have HR := hideT (HF.out.trans hr)
    have HR0 := hideT hr
    clear hr
    go_wp2_with fail
    go_region_held3 (fun w' => w'.cell? ⟨w.heap.size, 0, none⟩ = some (.string sp) ∧ w'.cell? ⟨w.heap.size, 1, none⟩ = some (.string lo) ∧ w'.cell? ⟨w.heap.size, 2, none⟩ = some (.slice a2 l2 m2) ∧ w'.cell? ⟨w.heap.size, 3, none⟩ = some (.slice a3 l3 m3) ∧ w'.cell? ⟨w.heap.size, 4, none⟩ = some (.int .i64 p)) (go_keep) (first
      | (go_at_call 46; refine (caseKidsD _).mono ?_; rintro e w6 ⟨v, rfl, b6, o6⟩; obtain ⟨ta, tc, rfl⟩ := slice_form o6; have bb6 : Below w.heap.size w w6 := BB4.out.drew.trans (b6.mono BB4.out.size); have LL6 := LL4.out.below ((Below.refl _ w4).drew.trans b6); have k0 : w6.cell? ⟨w.heap.size, 0, none⟩ = some (.string sp) := LL6.cell 0; have k1 : w6.cell? ⟨w.heap.size, 1, none⟩ = some (.string lo) := LL6.cell 1; have k2 : w6.cell? ⟨w.heap.size, 2, none⟩ = some (.slice a2 l2 m2) := LL6.cell 2; have k3 : w6.cell? ⟨w.heap.size, 3, none⟩ = some (.slice a3 l3 m3) := LL6.cell 3; have k4 : w6.cell? ⟨w.heap.size, 4, none⟩ = some (.int .i64 p) := LL6.cell 4)
      | (go_at_call 45; have TB : RowQ 3 tabR w6 (freshQ w w6 Q) (.slice ta caseE.length tc) caseE := tab_of_own o6 (by decide) (fun g hg => .inr ⟨Nat.le_trans BB4.out.size (own_lt o6 hg).2, (own_lt o6 hg).1⟩); have TF := TQ.fresh bb6 (fun k hk => (SX.out.2 k hk).1); have QN : freshQ w w6 Q w.heap.size := .inr ⟨Nat.le_refl _, LL6.lt⟩; refine (kids_of HE.out HA.out (by decide) enters_case M w6 _ s (HBI.out.fresh bb6) _ _ _ _ _ (TF.tree HT.out) (by have := HM.out; omega) _ TB).mono ?_; rintro e w5 ⟨Q2, t2, ok2, er2⟩; have h0 : w5.cell? ⟨w.heap.size, 0, none⟩ = some (.string sp) := (t2.cell QN).trans k0; have h1 : w5.cell? ⟨w.heap.size, 1, none⟩ = some (.string lo) := (t2.cell QN).trans k1; have h2 : w5.cell? ⟨w.heap.size, 2, none⟩ = some (.slice a2 l2 m2) := (t2.cell QN).trans k2; have h3 : w5.cell? ⟨w.heap.size, 3, none⟩ = some (.slice a3 l3 m3) := (t2.cell QN).trans k3; have h4 : w5.cell? ⟨w.heap.size, 4, none⟩ = some (.int .i64 p) := (t2.cell QN).trans k4; obtain ⟨rfl, i2⟩ := ok2 s' HR0.out))
    all_goals go_wp2_with fail
    all_goals go_ret
    all_goals exact BPost.ok ((TQ.fresh bb6 (fun k hk => (SX.out.2 k hk).1)).trans t2) (i2.mono (by omega)) HR.out
end Go.Proofs.YtjfonpbnohbpfaaGreatDoor
