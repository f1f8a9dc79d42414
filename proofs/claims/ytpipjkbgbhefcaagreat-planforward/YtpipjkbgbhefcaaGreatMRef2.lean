/-
  The document's Op and sentry.
-/
import Derived.Test.YtpipjkbgbhefcaaGreatMRef1
import Derived.Test.YtpipjkbgbhefcaaGreatMKnown
import Derived.Deep.RegionWith
import Derived.Deep.RegionHeld3
import Derived.Deep.QuietTactic
import Derived.BigQuiet
set_option linter.unusedSimpArgs false
set_option linter.unusedVariables false
namespace Go.Proofs.YtpipjkbgbhefcaaGreat
open Go.RowKit
set_option maxRecDepth 100000
set_option maxHeartbeats 1000000 in
theorem opRef (s : ByteArray) (w : World) :
    Calls Tryz.prog 99 #[.string s] w fun e w' => e = .returned (.int .i64 (idxZ opsL s)) ∧ Below w.heap.size w w' := by
  have B0 := hideT ((Below.refl w.heap.size w).alloc (Nat.le_refl _) (.cells #[.string ⟨#[60]⟩, .string ⟨#[60, 61]⟩, .string ⟨#[61]⟩, .string ⟨#[33, 61]⟩, .string ⟨#[62, 61]⟩, .string ⟨#[62]⟩] 9))
  have L0 := Lies.new w 9 #[.string ⟨#[60]⟩, .string ⟨#[60, 61]⟩, .string ⟨#[61]⟩, .string ⟨#[33, 61]⟩, .string ⟨#[62, 61]⟩, .string ⟨#[62]⟩]
  have HC : Hid (∀ (k : Nat) t, opsL[k]? = some t → (w.alloc (.cells #[.string ⟨#[60]⟩, .string ⟨#[60, 61]⟩, .string ⟨#[61]⟩, .string ⟨#[33, 61]⟩, .string ⟨#[62, 61]⟩, .string ⟨#[62]⟩] 9)).cell? ⟨w.heap.size, k, none⟩ = some (.string t)) := by
    intro k t ht
    have hk : k < 6 := (List.getElem?_eq_some_iff.1 ht).1
    rw [L0.cell k]
    have hkc : k = 0 ∨ k = 1 ∨ k = 2 ∨ k = 3 ∨ k = 4 ∨ k = 5 := by omega
    rcases hkc with rfl | rfl | rfl | rfl | rfl | rfl <;> (cases ht; rfl)
  clear L0
  go_enter Tryz.func99, Tryz.ntmps99
  go_wp2_with fail
  generalize hW : w.alloc _ = W
  rw [hW] at B0 HC
  go_loop [4] (fun i => ∃ k : Nat, k ≤ 6 ∧ i = .int .i64 k ∧ Hid (∀ (j : Nat) y, j < k → opsL[j]? = some y → y ≠ s)) (fun i => 6 - (intOf i).toNat)
  case atStart => exact ⟨0, by omega, rfl, fun j y hj => absurd hj (by omega)⟩
  case round =>
    obtain ⟨k, hk, rfl, HB⟩ := hrel
    by_cases hlt : k < 6
    · obtain ⟨t, ht⟩ := Mp.at_lt (l := opsL) (k := k) hlt
      have c0 := HC.out k t ht
      have HT := hideT ht
      clear ht
      by_cases e : t = s
      · subst e
        have HF := hideT (idxZ_some HT.out HB.out)
        go_wp2_with fail
        go_ret
        exact ⟨ret_i HF.out.symm, B0.out⟩
      · have e1 : (t.toList == s.toList) = false := beq_eq_false_iff_ne.2 fun h => e (toList_inj h)
        have HE := hideT e
        clear e
        go_wp2_with fail
        go_round
        case rel =>
          refine ⟨k + 1, by omega, by go_num, fun j y hj hy => ?_⟩
          by_cases hj' : j < k
          · exact HB.out j y hj' hy
          · obtain rfl : j = k := by omega
            rw [HT.out] at hy
            cases hy
            exact HE.out
        case measure => simp [intOf]; omega
    · have HF := hideT (idxZ_none (l := opsL) (s := s) (fun j y hy => HB.out j y (by have h6 : j < 6 := (List.getElem?_eq_some_iff.1 hy).1; omega) hy))
      go_wp2_with fail
      go_ret
      exact ⟨ret_i HF.out.symm, B0.out⟩
theorem placeRV (w : World) (vf : Value) (ao : Option Addr) (n cap : Nat) (l : List Mp.Item) (s : ByteArray) (h : IRow w (.slice ao n cap) l) (z : Int) (hz : Hid (Mp.placeZ l s = z)) :
    Calls Tryz.prog 58 #[.agg #[vf, .slice ao n cap], .string s] w fun e w' => e = .returned (.int .i64 z) ∧ Below w.heap.size w w' := by
  rw [← hz.out]
  exact placeRef w vf ao n cap l s h
theorem legalRV (k e : Int) (w : World) (b : Bool) (h : Hid (Mp.legalB k e = b)) :
    Calls Tryz.prog 98 #[.int .i64 k, .int .i64 e] w fun r w' => r = .returned (.bool b) ∧ w' = w := by
  rw [← h.out]
  exact legalRef k e w
theorem fileRV (w : World) (ao : Option Addr) (n cap : Nat) (l : List ByteArray) (s : ByteArray) (h : FRow w (.slice ao n cap) l) (b : Bool) (hb : Hid (Mp.has l s = b)) :
    Calls Tryz.prog 38 #[.slice ao n cap, .string s] w fun e w' => e = .returned (.bool b) ∧ w' = w := by
  rw [← hb.out]
  exact fileRef w ao n cap l s h
theorem opRV (s : ByteArray) (w : World) (z : Int) (h : Hid (idxZ opsL s = z)) :
    Calls Tryz.prog 99 #[.string s] w fun e w' => e = .returned (.int .i64 z) ∧ Below w.heap.size w w' := by
  rw [← h.out]
  exact opRef s w
theorem sentB_eq (m : Mp.Model) (s1 : List Mp.On) (s2 : List Mp.Cond) : Mp.sentB m (s1, s2) = (decide (s1.length ≤ 3) && decide (s2.length ≤ 2) && !decide (s1.length + s2.length = 0) && Mp.onsF m.items [] s1 && s2.all (Mp.condB m.files)) := by
  unfold Mp.sentB Mp.onB Mp.ifB
  dsimp only
  rw [show decide (s1.length + s2.length = 0) = (decide (s1.length = 0) && decide (s2.length = 0)) by rw [Bool.eq_iff_iff]; simp only [Bool.and_eq_true, decide_eq_true_eq]; omega]
  cases decide (s1.length ≤ 3) <;> cases decide (s2.length ≤ 2) <;> cases (decide (s1.length = 0) && decide (s2.length = 0)) <;> cases Mp.onsF m.items [] s1 <;> rfl
def SR (w : World) (m : Mp.Model) (af ai : Option Addr) (cf ci : Nat) (a1 a2 : Option Addr) (c1 c2 : Nat) (s1 : List Mp.On) (s2 : List Mp.Cond) (wr : World) : Prop :=
  Below w.heap.size w wr ∧ Lies wr w.heap.size 25 #[.slice af m.files.length cf, .slice ai m.items.length ci] ∧ Lies wr (w.heap.size + 1) 54 #[.slice a1 s1.length c1, .slice a2 s2.length c2]
theorem SR.below {w : World} {m : Mp.Model} {af ai : Option Addr} {cf ci : Nat} {a1 a2 : Option Addr} {c1 c2 : Nat} {s1 : List Mp.On} {s2 : List Mp.Cond} {wr w' : World} (h : SR w m af ai cf ci a1 a2 c1 c2 s1 s2 wr) (hb : Below wr.heap.size wr w') : SR w m af ai cf ci a1 a2 c1 c2 s1 s2 w' :=
  ⟨h.1.trans (hb.mono h.1.size), h.2.1.below hb, h.2.2.below hb⟩
set_option maxHeartbeats 8000000 in
set_option maxRecDepth 100000 in
theorem sentryRef (w : World) (m : Mp.Model) (af ai : Option Addr) (cf ci : Nat) (hm : ModelAt w af cf ai ci m) (s1 : List Mp.On) (s2 : List Mp.Cond) (a1 a2 : Option Addr) (c1 c2 : Nat) (h1 : ORow w (.slice a1 s1.length c1) s1) (h2 : CRow w (.slice a2 s2.length c2) s2) :
    Calls Tryz.prog 71 #[.agg #[.slice af m.files.length cf, .slice ai m.items.length ci], .agg #[.slice a1 s1.length c1, .slice a2 s2.length c2]] w fun e w' => e = .returned (.bool (Mp.sentB m (s1, s2))) ∧ Below w.heap.size w w' := by
  obtain ⟨_, hl1, hcap1, b1, o1, ha1, hc1⟩ := orow_at h1
  obtain ⟨_, hl2, hcap2, b2, o2, ha2, hc2⟩ := crow_at h2
  obtain ⟨_, hil, hicap, bi, oi, hia, hic⟩ := irow_at hm.items
  have HC1 := hideT hc1
  have HA1 := hideT ha1
  have HC2 := hideT hc2
  have HA2 := hideT ha2
  have HM := hideT hm
  have HIA := hideT hia
  have HIC := hideT hic
  have B0 := hideT (((Below.refl w.heap.size w).alloc (Nat.le_refl _) (.cells #[.slice af m.files.length cf, .slice ai m.items.length ci] 25)).alloc (by simp) (.cells #[.slice a1 s1.length c1, .slice a2 s2.length c2] 54))
  have HEQ := hideT (sentB_eq m s1 s2)
  clear hc1 ha1 hc2 ha2 hm hia hic h1 h2
  by_cases h3 : 3 < s1.length
  · have HF : Hid (Mp.sentB m (s1, s2) = false) := by show _ = _; rw [HEQ.out, decide_eq_false (p := s1.length ≤ 3) (by omega)]; rfl
    go_enter Tryz.func71, Tryz.ntmps71
    go_wp2_with fail
    go_ret
    exact ⟨ret_b HF.out.symm, B0.out⟩
  by_cases h4 : 2 < s2.length
  · have HF : Hid (Mp.sentB m (s1, s2) = false) := by show _ = _; rw [HEQ.out, decide_eq_false (p := s2.length ≤ 2) (by omega)]; simp
    go_enter Tryz.func71, Tryz.ntmps71
    go_wp2_with fail
    go_ret
    exact ⟨ret_b HF.out.symm, B0.out⟩
  by_cases h5 : s1.length + s2.length = 0
  · have HF : Hid (Mp.sentB m (s1, s2) = false) := by show _ = _; rw [HEQ.out, decide_eq_true h5]; simp
    have t5 : (((s1.length : Nat) : Int) + ((s2.length : Nat) : Int) == 0) = true := beq_iff_eq.2 (by omega)
    clear h5
    go_enter Tryz.func71, Tryz.ntmps71
    go_wp2_with fail
    go_ret
    exact ⟨ret_b HF.out.symm, B0.out⟩
  have HF : Hid (Mp.sentB m (s1, s2) = (Mp.onsF m.items [] s1 && s2.all (Mp.condB m.files))) := by show _ = _; rw [HEQ.out, decide_eq_true (p := s1.length ≤ 3) (by omega), decide_eq_true (p := s2.length ≤ 2) (by omega), decide_eq_false h5]; rfl
  have t5 : (((s1.length : Nat) : Int) + ((s2.length : Nat) : Int) == 0) = false := beq_eq_false_iff_ne.2 (by omega)
  clear h5
  go_enter Tryz.func71, Tryz.ntmps71
  go_wp2_with fail
  go_loopw [5] (fun i wr => ∃ k : Nat, k ≤ s1.length ∧ i = .int .i64 k ∧ Hid (Mp.onsF m.items (s1.take k) (s1.drop k) = Mp.onsF m.items [] s1) ∧ Hid (SR w m af ai cf ci a1 a2 c1 c2 s1 s2 wr)) (fun i _ => s1.length - (intOf i).toNat)
  case atStart => exact ⟨0, by omega, rfl, rfl, B0.out, (Lies.new w _ _).below ((Below.refl _ _).alloc (Nat.le_refl _) _), by have := Lies.new (w.alloc (.cells #[.slice af m.files.length cf, .slice ai m.items.length ci] 25)) 54 #[.slice a1 s1.length c1, .slice a2 s2.length c2]; rwa [show (w.alloc (.cells #[.slice af m.files.length cf, .slice ai m.items.length ci] 25)).heap.size = w.heap.size + 1 by simp] at this⟩
  case round =>
    obtain ⟨k, hk, rfl, HB, HW⟩ := hrel
    have x0 : wr.cell? ⟨w.heap.size, 0, none⟩ = some (.slice af m.files.length cf) := HW.out.2.1.cell 0
    have x1 : wr.cell? ⟨w.heap.size, 1, none⟩ = some (.slice ai m.items.length ci) := HW.out.2.1.cell 1
    have x2 : wr.cell? ⟨w.heap.size + 1, 0, none⟩ = some (.slice a1 s1.length c1) := HW.out.2.2.cell 0
    by_cases hlt : k < s1.length
    · obtain ⟨⟨u1, u2⟩, hx⟩ := Mp.at_lt (l := s1) (k := k) hlt
      obtain ⟨hz, d0, d1⟩ := HC1.out k _ hx
      have d0 := below_cell HW.out.1 _ _ d0
      have d1 := below_cell HW.out.1 _ _ d1
      obtain rfl := HA1.out (by omega)
      dsimp only at d0 d1 hz
      have hB2 := HB.out
      rw [Mp.drop_at hx, Mp.onsF] at hB2
      have HB2 := hideT hB2
      have HT := hideT (Mp.take_at hx)
      have HX := hideT hx
      clear hx hB2
      have HIR := hideT (irow_below HM.out.items (below_drewN HW.out.1 1))
      have t2 : (0 : Int) ≤ (k : Int) := by omega
      have t3 : (k : Int) < (s1.length : Int) := by omega
      obtain ⟨z, HP⟩ : ∃ z, Hid (Mp.placeZ m.items u1 = z) := ⟨_, rfl⟩
      go_wp2_with fail
      go_region_held3 (fun w' => w'.cell? ⟨w.heap.size, 0, none⟩ = some (.slice af m.files.length cf) ∧ w'.cell? ⟨w.heap.size, 1, none⟩ = some (.slice ai m.items.length ci) ∧ w'.cell? ⟨w.heap.size + 1, 0, none⟩ = some (.slice (some ⟨b1, o1, none⟩) s1.length c1) ∧ w'.cell? ⟨b1, o1 + k * 2, none⟩ = some (.string u1)) (go_keep) ((go_at_call 58; refine (placeRV _ _ ai m.items.length ci m.items u1 HIR.out z HP).mono ?_; rintro e w1 ⟨rfl, q2⟩; have q3 : Below wr.heap.size wr w1 := (below_drewN (Below.refl _ wr) 1).trans q2; have z0 := below_cell q3 _ _ x0; have z1 := below_cell q3 _ _ x1; have z2 := below_cell q3 _ _ x2; have z3 := below_cell q3 _ _ d0))
      have HW1 := hideT (SR.below HW.out q3)
      clear x0 x1 x2 d0 d1 q2 z0 z1 z2 z3
      have x1 : w1.cell? ⟨w.heap.size, 1, none⟩ = some (.slice ai m.items.length ci) := HW1.out.2.1.cell 1
      have x2 : w1.cell? ⟨w.heap.size + 1, 0, none⟩ = some (.slice (some ⟨b1, o1, none⟩) s1.length c1) := HW1.out.2.2.cell 0
      have d1 := below_cell HW1.out.1 _ _ (HC1.out k _ HX.out).2.2
      dsimp only at d1
      rcases placeZ_cases m.items u1 with ⟨hp, hpo⟩ | ⟨p, x, hp, hpo, hpx⟩
      · have HR : Hid (Mp.onsF m.items [] s1 = false) := by show _ = _; rw [← HB2.out]; unfold Mp.onLegal; rw [hpo]; rfl
        obtain rfl : z = -1 := HP.out.symm.trans hp
        clear hp hpo
        go_wp2_with fail
        go_quiet (fail)
        go_wp2_with fail
        go_ret
        exact ⟨ret_b (by rw [HF.out, HR.out]; rfl), below_drewN HW1.out.1 _⟩
      · obtain rfl := HIA.out (by have := (List.getElem?_eq_some_iff.1 hpx).1; omega)
        have hpl : p < m.items.length := (List.getElem?_eq_some_iff.1 hpx).1
        obtain ⟨_, _, _, _, I0⟩ := HIC.out p x hpx
        obtain rfl : z = (p : Int) := HP.out.symm.trans hp
        have HOL : Hid (Mp.onLegal m.items (u1, u2) = Mp.legalB x.kind u2) := by show _ = _; unfold Mp.onLegal; rw [hpo]; dsimp only; rw [hpx]
        have y3 := below_cell HW1.out.1 _ _ I0.c1
        clear hp hpo hpx I0
        obtain ⟨bb, H1⟩ : ∃ y, Hid (Mp.legalB x.kind u2 = y) := ⟨_, rfl⟩
        have t0 : (0 : Int) ≤ (p : Int) := by omega
        have t1 : (p : Int) < (m.items.length : Int) := by omega
        cases bb
        · have HR : Hid (Mp.onsF m.items [] s1 = false) := by show _ = _; rw [← HB2.out, HOL.out, H1.out]; rfl
          go_wp2_with fail
          go_quiet ((go_at_call 98; exact Calls.quiet_of_same (legalRV _ _ _ false H1)))
          go_wp2_with fail
          go_ret
          exact ⟨ret_b (by rw [HF.out, HR.out]; rfl), below_drewN HW1.out.1 _⟩
        have HB3 : Hid ((!Mp.has (s1.take k) (u1, u2) && Mp.onsF m.items (s1.take (k + 1)) (s1.drop (k + 1))) = Mp.onsF m.items [] s1) := by show _ = _; rw [← HB2.out, HOL.out, H1.out, HT.out]; rfl
        go_wp2_with fail
        go_quiet ((go_at_call 98; exact Calls.quiet_of_same (legalRV _ _ _ true H1)))
        clear x1 x2 d1 y3
        go_wp2_with fail
        have HW2 := hideT (SR.below HW1.out (below_drewN (Below.refl _ w1) nq))
        obtain ⟨W0, hW0⟩ : ∃ W0, W0 = wr := ⟨wr, rfl⟩
        subst hW0
        go_loopw [7] (fun i ws => ∃ j : Nat, j ≤ k ∧ i = .int .i64 j ∧ Hid (∀ (i : Nat) y, i < j → s1[i]? = some y → y ≠ (u1, u2)) ∧ Hid (SR w m af (some ⟨bi, oi, none⟩) cf ci (some ⟨b1, o1, none⟩) a2 c1 c2 s1 s2 ws)) (fun i _ => k - (intOf i).toNat)
        case atStart => exact ⟨0, by omega, rfl, (fun i y hi => absurd hi (by omega)), HW2⟩
        case round =>
          obtain ⟨j, hj, rfl, HD, HV⟩ := hrel
          have x2 : wr.cell? ⟨w.heap.size + 1, 0, none⟩ = some (.slice (some ⟨b1, o1, none⟩) s1.length c1) := HV.out.2.2.cell 0
          by_cases hjk : j < k
          · obtain ⟨⟨v1, v2⟩, hy⟩ := Mp.at_lt (l := s1) (k := j) (by omega)
            obtain ⟨_, e0, e1⟩ := HC1.out j _ hy
            obtain ⟨_, d0, d1⟩ := HC1.out k _ HX.out
            have e0 := below_cell HV.out.1 _ _ e0
            have e1 := below_cell HV.out.1 _ _ e1
            have d0 := below_cell HV.out.1 _ _ d0
            have d1 := below_cell HV.out.1 _ _ d1
            dsimp only at d0 d1 e0 e1
            have HY := hideT hy
            clear hy
            have t4 : (0 : Int) ≤ (j : Int) := by omega
            have t5' : (j : Int) < (s1.length : Int) := by omega
            by_cases e : (v1, v2) = (u1, u2)
            · have hh : Mp.has (s1.take k) (u1, u2) = true := has_some (k := j) (by rw [List.getElem?_take_of_lt hjk, HY.out, e]) (fun i y hi hy => by rw [List.getElem?_take_of_lt (by omega)] at hy; exact HD.out i y hi hy)
              have HR : Hid (Mp.onsF m.items [] s1 = false) := by show _ = _; rw [← HB3.out, hh]; rfl
              have e1' : v1 = u1 := congrArg Prod.fst e
              have e2' : v2 = u2 := congrArg Prod.snd e
              subst e1'
              subst e2'
              clear e hh
              go_wp2_with fail
              go_quiet (fail)
              go_wp2_with fail
              go_ret
              exact ⟨ret_b (by rw [HF.out, HR.out]; rfl), below_drewN HV.out.1 _⟩
            · have HR : Hid (∀ (i : Nat) y, i < j + 1 → s1[i]? = some y → y ≠ (u1, u2)) := by
                intro i y hi hy
                by_cases hij : i < j
                · exact HD.out i y hij hy
                · obtain rfl : i = j := by omega
                  rw [HY.out] at hy
                  cases hy
                  exact e
              by_cases e1' : v1 = u1
              · have e2' : ¬ v2 = u2 := fun h => e (by rw [e1', h])
                subst e1'
                clear e
                go_wp2_with fail
                go_quiet (fail)
                go_wp2_with fail
                refine ⟨⟨j + 1, by omega, by go_num, HR, SR.below HV.out (below_drewN (Below.refl _ _) _)⟩, ?_⟩
                first | omega | (simp [intOf]; omega)
              · have e2' : ¬ v1.toList = u1.toList := fun h => e1' (toList_inj h)
                clear e e1'
                go_wp2_with fail
                go_quiet (fail)
                go_wp2_with fail
                refine ⟨⟨j + 1, by omega, by go_num, HR, SR.below HV.out (below_drewN (Below.refl _ _) _)⟩, ?_⟩
                first | omega | (simp [intOf]; omega)
          · have hh : Mp.has (s1.take k) (u1, u2) = false := has_none (fun i y hy => by
              rw [List.getElem?_take] at hy
              split at hy
              · exact HD.out i y (by omega) hy
              · cases hy)
            have HR : Hid (Mp.onsF m.items (s1.take (k + 1)) (s1.drop (k + 1)) = Mp.onsF m.items [] s1) := by show _ = _; rw [← HB3.out, hh]; rfl
            clear hh
            go_wp2_with fail
            refine ⟨⟨k + 1, by omega, by go_num, HR, HV⟩, ?_⟩
            first | omega | (simp [intOf]; omega)
    · have HF2 : Hid (Mp.sentB m (s1, s2) = s2.all (Mp.condB m.files)) := by
        show _ = _
        rw [HF.out, ← HB.out, Mp.drop_all (by omega)]
        rfl
      have HVV := HW
      clear HB HF HW
      go_wp2_with fail
      clear x0 x1 x2 hlt
      go_loopw [8] (fun i ws => ∃ k : Nat, k ≤ s2.length ∧ i = .int .i64 k ∧ Hid ((s2.drop k).all (Mp.condB m.files) = s2.all (Mp.condB m.files)) ∧ Hid (SR w m af ai cf ci a1 a2 c1 c2 s1 s2 ws)) (fun i _ => s2.length - (intOf i).toNat)
      case atStart => exact ⟨0, by omega, rfl, rfl, HVV⟩
      case round =>
        obtain ⟨k, hk, rfl, HB, HV⟩ := hrel
        have x0 : wr.cell? ⟨w.heap.size, 0, none⟩ = some (.slice af m.files.length cf) := HV.out.2.1.cell 0
        have x2 : wr.cell? ⟨w.heap.size + 1, 1, none⟩ = some (.slice a2 s2.length c2) := HV.out.2.2.cell 1
        have hsz := HV.out.2.1.lt
        by_cases hlt : k < s2.length
        · obtain ⟨⟨u1, u2, u3⟩, hx⟩ := Mp.at_lt (l := s2) (k := k) hlt
          obtain ⟨hz, d0, d1, d2⟩ := HC2.out k _ hx
          have d0 := below_cell HV.out.1 _ _ d0
          have d1 := below_cell HV.out.1 _ _ d1
          have d2 := below_cell HV.out.1 _ _ d2
          obtain rfl := HA2.out (by omega)
          dsimp only at d0 d1 d2 hz
          have hB2 := HB.out
          rw [Mp.drop_at hx, List.all_cons] at hB2
          have HB2 := hideT hB2
          clear hx hB2
          have BA := hideT ((Below.refl wr.heap.size wr).alloc (Nat.le_refl _) (.cells #[.string u1, .string u2, .int .i64 u3] 105))
          have LA := hideT (Lies.new wr 105 #[.string u1, .string u2, .int .i64 u3])
          have HV1 := hideT (SR.below HV.out BA.out)
          have HFR := hideT (frow_below HM.out.files HV1.out.1)
          obtain ⟨bf, H1⟩ : ∃ x, Hid (Mp.has m.files u1 = x) := ⟨_, rfl⟩
          obtain ⟨bo, H2⟩ : ∃ x, Hid (Mp.opB u2 = x) := ⟨_, rfl⟩
          go_wp2_with fail
          refine (fileRV _ af m.files.length cf m.files u1 HFR.out bf H1).mono ?_
          rintro e w1 ⟨rfl, rfl⟩
          cases bf
          · have HR : Hid (s2.all (Mp.condB m.files) = false) := by show _ = _; rw [← HB2.out]; unfold Mp.condB; rw [H1.out]; rfl
            go_wp2_with fail
            go_ret
            exact ⟨ret_b (by rw [HF2.out, HR.out]), HV1.out.1⟩
          have hop : ∃ z : Int, Mp.opB u2 = decide (0 ≤ z) ∧ idxZ opsL u2 = z ∧ -1 ≤ z := ⟨_, by rw [op_has, ← idxZ_has], rfl, idxZ_ge _ _⟩
          obtain ⟨z, hz1, hz2, hz3⟩ := hop
          have HZ := hideT hz2
          have HOP : Hid (bo = decide (0 ≤ z)) := by show _ = _; rw [← hz1, H2.out]
          clear hz1 hz2
          go_wp2_with fail
          refine (opRV u2 _ z HZ).mono ?_
          rintro e w2 ⟨rfl, q2⟩
          have HV2 := hideT (SR.below HV1.out q2)
          have y2 : w2.cell? ⟨wr.heap.size, 2, none⟩ = some (.int .i64 u3) := (LA.out.below q2).cell 2
          clear q2 d0 d1 d2 x0 x2
          by_cases hz0 : z < 0
          · have HR : Hid (s2.all (Mp.condB m.files) = false) := by show _ = _; rw [← HB2.out]; unfold Mp.condB; rw [H1.out, H2.out, HOP.out, decide_eq_false (by omega)]; rfl
            go_wp2_with fail
            go_ret
            exact ⟨ret_b (by rw [HF2.out, HR.out]), HV2.out.1⟩
          by_cases h3' : u3 < -1000000
          · have HR : Hid (s2.all (Mp.condB m.files) = false) := by show _ = _; rw [← HB2.out]; unfold Mp.condB; rw [decide_eq_false (p := -1000000 ≤ (u1, u2, u3).2.2) (by show ¬ _ ≤ u3; omega)]; simp
            go_wp2_with fail
            go_ret
            exact ⟨ret_b (by rw [HF2.out, HR.out]), HV2.out.1⟩
          by_cases h4' : 1000000 < u3
          · have HR : Hid (s2.all (Mp.condB m.files) = false) := by show _ = _; rw [← HB2.out]; unfold Mp.condB; rw [decide_eq_false (p := (u1, u2, u3).2.2 ≤ 1000000) (by show ¬ u3 ≤ _; omega)]; simp
            go_wp2_with fail
            go_ret
            exact ⟨ret_b (by rw [HF2.out, HR.out]), HV2.out.1⟩
          have HR : Hid ((s2.drop (k + 1)).all (Mp.condB m.files) = s2.all (Mp.condB m.files)) := by
            show _ = _
            rw [← HB2.out]
            unfold Mp.condB
            rw [H1.out, H2.out, HOP.out, decide_eq_true (p := 0 ≤ z) (by omega), decide_eq_true (p := -1000000 ≤ (u1, u2, u3).2.2) (by show _ ≤ u3; omega), decide_eq_true (p := (u1, u2, u3).2.2 ≤ 1000000) (by show u3 ≤ _; omega)]
            rfl
          go_wp2_with fail
          refine ⟨⟨k + 1, by omega, by go_num, HR, HV2⟩, ?_⟩
          first | omega | (simp [intOf]; omega)
        · have HR : Hid (s2.all (Mp.condB m.files) = true) := by show _ = _; rw [← HB.out, Mp.drop_all (by omega)]; rfl
          go_wp2_with fail
          go_ret
          exact ⟨ret_b (by rw [HF2.out, HR.out]), HV.out.1⟩
end Go.Proofs.YtpipjkbgbhefcaaGreat
