/-
  An event from without.
-/
import Derived.Test.YtkjekohncfhbiabGOver
set_option linter.unusedSimpArgs false
set_option linter.unusedVariables false
namespace Go.Proofs.Ytkjekohncfhbiab
open Go.RowKit
set_option maxRecDepth 100000
namespace Gp
theorem find_at {α : Type} {l : List α} {p : α → Bool} {k : Nat} {x : α} (h : ∀ (j : Nat) y, j < k → l[j]? = some y → p y = false) (hx : l[k]? = some x) (hp : p x = true) : l.find? p = some x := by
  induction l generalizing k with
  | nil => simp at hx
  | cons a l ih =>
    cases k with
    | zero =>
      cases hx
      rw [List.find?_cons_of_pos hp]
    | succ k =>
      rw [List.find?_cons_of_neg (by rw [h 0 a (by omega) rfl]; decide)]
      exact ih (fun j y hj hy => h (j + 1) y (by omega) hy) hx
theorem find_no {α : Type} {l : List α} {p : α → Bool} {k : Nat} (h : ∀ (j : Nat) y, j < k → l[j]? = some y → p y = false) (hk : l.length ≤ k) : l.find? p = none := by
  rw [List.find?_eq_none]
  intro x hx
  obtain ⟨j, hj⟩ := List.getElem?_of_mem hx
  rw [h j x (by have := (List.getElem?_eq_some_iff.1 hj).1; omega) hj]
  decide
theorem no_step {α : Type} {l : List α} {p : α → Bool} {k : Nat} {x : α} (h : ∀ (j : Nat) y, j < k → l[j]? = some y → p y = false) (hx : l[k]? = some x) (hp : p x = false) : ∀ (j : Nat) y, j < k + 1 → l[j]? = some y → p y = false := by
  intro j y hj hy
  by_cases e : j < k
  · exact h j y e hy
  · obtain rfl : j = k := by omega
    rw [hx] at hy
    cases hy
    exact hp
theorem any_step {α : Type} {l : List α} {p : α → Bool} {k : Nat} {x : α} (h : l[k]? = some x) : (l.take (k + 1)).any p = ((l.take k).any p || p x) := by
  rw [Mp.take_at h, List.any_append]
  simp
end Gp
section
variable {w w' : World} {b : Nat} {A : KA} {K : Gp.KP} {S : Nat → Prop} {fb nb cb F N C : Nat} {st t : Gp.St}
set_option maxHeartbeats 8000000 in
theorem userD11 (h : MIn w b A K S fb nb cb F N C st) (s : ByteArray) (ev : Int) : Calls Try.prog 18 #[.pointer (some ⟨b, 0, none⟩), .string s, .int .i64 ev] w (ActPost w b A K S F N C (Gp.userS K st s ev)) := by
  have x6 : w.cell? ⟨b, 6, none⟩ = some (.slice A.a6 K.users.length A.c6) := h.box.cell 6
  have HM := hideT h
  have hul := h.ok.long.2.2.1
  clear h
  go_enter Try.func18, Try.ntmps18
  go_wp2_with fail
  clear x6
  go_loopw [7, 16] (fun th i wr => ∃ k : Nat, k ≤ K.users.length ∧ i = .int .i64 k ∧ th = .bool ((K.users.take k).any (fun u => decide (u.1 = s))) ∧ Hid (∀ (j : Nat) u, j < k → K.users[j]? = some u → Gp.userT st.fl s ev u = false) ∧ Hid (Below w.heap.size w wr)) (fun _ i _ => K.users.length - (intOf i).toNat)
  case atStart => exact ⟨0, by omega, rfl, rfl, (fun j y hj => absurd hj (by omega)), Below.refl _ _⟩
  case round =>
    obtain ⟨k, hk, rfl, rfl, HB, HW⟩ := hrel
    by_cases hlt : k < K.users.length
    rotate_left
    · obtain ⟨th, hth⟩ : ∃ th, (K.users.take k).any (fun u => decide (u.1 = s)) = th := ⟨_, rfl⟩
      have HR : Hid (Gp.userS K st s ev = (if th then 8 else 1, st)) := by
        show _ = _
        unfold Gp.userS
        rw [Gp.find_no HB.out (by omega), ← hth, List.take_of_length_le (by omega)]
      have HMW := hideT (HM.out.below HW.out)
      have HKW : Hid (Keep (fun k => k = b) w wr) := Keep.of_below HW.out
      rw [hth]
      clear hth
      cases th
      · go_wp2_with fail
        go_ret
        rw [HR.out]
        exact ⟨rfl, _, _, _, HMW.out, HKW.out⟩
      · go_wp2_with fail
        go_ret
        rw [HR.out]
        exact ⟨rfl, _, _, _, HMW.out, HKW.out⟩
    obtain ⟨⟨u0, u1, u2, u3⟩, hx⟩ := Mp.at_lt (l := K.users) (k := k) hlt
    have HMW := hideT (HM.out.below HW.out)
    obtain ⟨_, _, _, bu, ou, hau, hcu⟩ := urow_at HMW.out.kept.here.users
    obtain ⟨a1, c1, hzi, hwh, e0, e1, e2, e3⟩ := hcu k _ hx
    obtain ⟨ua, hua⟩ : ∃ ua, A.a6 = ua := ⟨_, rfl⟩
    have hua2 : A.a6 = some ⟨bu, ou, none⟩ := hau (by omega)
    rw [hua2]
    dsimp only at hzi hwh e0 e1 e2 e3
    have HX := hideT hx
    have hin := HM.out.ok.users _ (List.mem_of_getElem? hx)
    have HIN := hideT hin
    have hany := Gp.any_step (p := fun u : Rp.User => decide (u.1 = s)) hx
    have HANY := hideT hany
    clear hcu hau hua hua2 hx hin hany
    have t0 : (0 : Int) ≤ (k : Int) := by omega
    have t1 : (k : Int) < (K.users.length : Int) := by omega
    have BV : Below wr.heap.size wr (wr.alloc (.cells #[.string u0, .int .i64 u1, .slice a1 u2.length c1, .int .i64 u3] 39)) := (Below.refl _ wr).alloc (Nat.le_refl _) _
    have HBV := hideT (HW.out.trans (BV.mono HW.out.size))
    have HLV := hideT (Lies.new wr 39 #[.string u0, .int .i64 u1, .slice a1 u2.length c1, .int .i64 u3])
    have HWH := hideT (lrow_below hwh BV)
    have HMV := hideT (HMW.out.below BV)
    clear BV hwh
    by_cases hs : u0 = s
    rotate_left
    · have HR : Hid ((K.users.take (k + 1)).any (fun u => decide (u.1 = s)) = (K.users.take k).any (fun u => decide (u.1 = s))) := by
        show _ = _
        rw [HANY.out, decide_eq_false (show ¬ (u0, u1, u2, u3).1 = s from hs), Bool.or_false]
      have HB2 := hideT (Gp.no_step HB.out HX.out (show Gp.userT st.fl s ev (u0, u1, u2, u3) = false by
        unfold Gp.userT
        rw [decide_eq_false (show ¬ (u0, u1, u2, u3).1 = s from hs)]
        rfl))
      have hne : (u0.toList == s.toList) = false := beq_eq_false_iff_ne.2 fun h => hs (toList_inj h)
      clear hs
      go_wp2_with fail
      refine ⟨⟨k + 1, by omega, by go_num, by rw [HR.out], HB2, HBV⟩, ?_⟩
      first | omega | (simp [intOf]; omega)
    subst hs
    have HTH : Hid ((K.users.take (k + 1)).any (fun u => decide (u.1 = u0)) = true) := by
      show _ = _
      rw [HANY.out, decide_eq_true (show (u0, u1, u2, u3).1 = u0 from rfl), Bool.or_true]
    by_cases he : u1 = ev
    rotate_left
    · have HB2 := hideT (Gp.no_step HB.out HX.out (show Gp.userT st.fl u0 ev (u0, u1, u2, u3) = false by
        unfold Gp.userT
        rw [decide_eq_false (show ¬ (u0, u1, u2, u3).2.1 = ev from he), Bool.and_false]
        rfl))
      have hne2 : (u1 == ev) = false := beq_eq_false_iff_ne.2 he
      clear he
      go_wp2_with fail
      go_quiet (fail)
      go_wp2_with fail
      refine ⟨⟨k + 1, by omega, by go_num, by rw [HTH.out], HB2, below_drewN HBV.out _⟩, ?_⟩
      first | omega | (simp [intOf]; omega)
    subst he
    obtain ⟨g, HG⟩ : ∃ g, Hid (Gp.holdL st.fl u2 = g) := ⟨_, rfl⟩
    have HUT : Hid (Gp.userT st.fl u0 u1 (u0, u1, u2, u3) = g) := by
      show _ = _
      unfold Gp.userT
      rw [decide_eq_true (show (u0, u1, u2, u3).1 = u0 from rfl), decide_eq_true (show (u0, u1, u2, u3).2.1 = u1 from rfl)]
      exact HG.out
    obtain ⟨V, hV⟩ : ∃ V, wr.alloc (.cells #[.string u0, .int .i64 u1, .slice a1 u2.length c1, .int .i64 u3] 39) = V := ⟨_, rfl⟩
    have HV := hideT hV
    rw [hV] at HBV HLV HWH HMV
    clear hV
    go_wp2_with fail
    rw [HV.out]
    have y1 : V.cell? ⟨wr.heap.size, 1, none⟩ = some (.int .i64 u1) := HLV.out.cell 1
    have y2 : V.cell? ⟨wr.heap.size, 2, none⟩ = some (.slice a1 u2.length c1) := HLV.out.cell 2
    have x7 : V.cell? ⟨b, 7, none⟩ = some (.slice (some ⟨fb, 0, none⟩) F F) := HMV.out.box.cell 7
    have x8 : V.cell? ⟨b, 8, none⟩ = some (.slice (some ⟨nb, 0, none⟩) N N) := HMV.out.box.cell 8
    have x9 : V.cell? ⟨b, 9, none⟩ = some (.slice (some ⟨cb, 0, none⟩) C C) := HMV.out.box.cell 9
    clear e0 e1 e2 e3
    go_region_held3 (fun w' => w'.cell? ⟨wr.heap.size, 1, none⟩ = some (.int .i64 u1) ∧ w'.cell? ⟨wr.heap.size, 2, none⟩ = some (.slice a1 u2.length c1) ∧ w'.cell? ⟨b, 7, none⟩ = some (.slice (some ⟨fb, 0, none⟩) F F) ∧ w'.cell? ⟨b, 8, none⟩ = some (.slice (some ⟨nb, 0, none⟩) N N) ∧ w'.cell? ⟨b, 9, none⟩ = some (.slice (some ⟨cb, 0, none⟩) C C)) (go_keep) (first
      | (go_at_call 34; (refine (holdD _ a1 u2.length c1 u2 (lrow_below HWH.out (below_drewN (Below.refl _ V) _)) fb nb cb F N C st.fl (HMV.out.fl.below (below_drewN (Below.refl _ V) _)) HMV.out.lf HIN.out.1 g HG).mono ?_); rintro e w1 ⟨rfl, b1⟩; have B1 := (below_drewN (Below.refl _ V) 1).trans b1; have q1 := below_cell B1 _ _ y1; have q2 := below_cell B1 _ _ y2; have q7 := below_cell B1 _ _ x7; have q8 := below_cell B1 _ _ x8; have q9 := below_cell B1 _ _ x9))
    have HB1 := hideT B1
    have HBW1 := hideT (HBV.out.trans (B1.mono HBV.out.size))
    have HLV1 := hideT (HLV.out.below B1)
    have HM1 := hideT (HMV.out.below B1)
    clear b1 B1 q1 q2 q7 q8 q9 y1 y2 x7 x8 x9
    cases g
    · have HB2 := hideT (Gp.no_step HB.out HX.out HUT.out)
      go_wp2_with fail
      refine ⟨⟨k + 1, by omega, by go_num, by rw [HTH.out], HB2, HBW1⟩, ?_⟩
      first | omega | (simp [intOf]; omega)
    have HR : Hid (Gp.userS K st u0 u1 = Gp.fromS K st st [u3]) := by
      show _ = _
      unfold Gp.userS
      rw [Gp.find_at HB.out HX.out HUT.out]
    have y3 : w1.cell? ⟨wr.heap.size, 3, none⟩ = some (.int .i64 u3) := HLV1.out.cell 3
    have hne3 : w1.heap.size ≠ wr.heap.size := by have := HLV1.out.lt; omega
    go_wp2_with fail
    go_region_held3 (fun w' => w'.cell? ⟨wr.heap.size, 3, none⟩ = some (.int .i64 u3)) (go_keep) (first
      | (go_at_call 36; (refine (nextD (HM1.out.below (below_drewN (Below.refl _ w1) _))).mono ?_); rintro e w2 ⟨f, n, c, rfl, ns, b2⟩; have y4 : w2.cell? ⟨wr.heap.size, 3, none⟩ = some (.int .i64 u3) := below_cell b2 _ _ (below_cell (below_drewN (Below.refl _ w1) _) _ _ y3); have hsz : w1.heap.size ≤ w1.heap.size := Nat.le_refl _; have kind1 : True := trivial)
      | (go_at_call 36; have BQ := (below_drewN (Below.refl _ w1) 1).alloc (Nat.le_refl _) (.cells #[.int .i64 u3] 3); (refine (nextD (HM1.out.below BQ)).mono ?_); rintro e w2 ⟨f, n, c, rfl, ns, b2⟩; have y4 : w2.cell? ⟨wr.heap.size, 3, none⟩ = some (.int .i64 u3) := below_cell b2 _ _ (below_cell BQ _ _ y3); have hsz : w1.heap.size ≤ _ := BQ.size; have LQ : Lies w2 w1.heap.size 3 #[.int .i64 u3] := (Lies.new (w1.drewN 1) 3 #[.int .i64 u3]).below b2; have hsq : w1.heap.size < _ := (Lies.new (w1.drewN 1) 3 #[.int .i64 u3]).lt)
      | (go_at_call 36; have BQ := below_drewN ((Below.refl _ w1).alloc (Nat.le_refl _) (.cells #[.int .i64 u3] 3)) 1; (refine (nextD (HM1.out.below BQ)).mono ?_); rintro e w2 ⟨f, n, c, rfl, ns, b2⟩; have y4 : w2.cell? ⟨wr.heap.size, 3, none⟩ = some (.int .i64 u3) := below_cell b2 _ _ (below_cell BQ _ _ y3); have hsz : w1.heap.size ≤ _ := BQ.size; have LQ : Lies w2 w1.heap.size 3 #[.int .i64 u3] := ((Lies.new w1 3 #[.int .i64 u3]).below (below_drewN (Below.refl _ _) 1)).below b2; have hsq : w1.heap.size < _ := ((Lies.new w1 3 #[.int .i64 u3]).below (below_drewN (Below.refl _ _) 1)).lt)
      | (go_at_call 35; have hk := kind1; have BA := (Below.refl w2.heap.size w2).alloc (Nat.le_refl _) (.cells #[.int .i64 u3] 3); have hl1 := ns.low; have hl2 := Lies.lt ns.fl; have hl3 := Lies.lt HM1.out.fl; have hl4 := HM1.out.box.lt; have hl5 := HLV1.out.lt; have hl6 : w1.heap.size ≤ f := Nat.le_trans hsz hl1.1; have RW : Hang (fun k => k ≠ f) (fun w => ZRow w (.slice (some ⟨w2.heap.size, 0, none⟩) 1 1) [u3]) (w2.alloc (.cells #[.int .i64 u3] 3)) := (zrow_cop (l := [u3]) (Lies.new w2 3 #[.int .i64 u3]) rfl (by simp)).sub (fun i _ e => by omega); have MM := ((HM1.out.below (below_drewN (Below.refl _ w1) 1)).below b2).below BA; have NN := ns.below BA; have HBW2 := (HBW1.out.trans ((below_drewN (Below.refl _ w1) 1).mono HBW1.out.size)).trans ((b2.trans (BA.mono b2.size)).mono HBW1.out.size); have y6 := below_cell BA _ _ y4; (refine (fromD MM NN (by omega) (fun hs => by have := HM1.out.zone f hs; omega) [u3] _ 1 1 rfl RW (fun x hx => by rw [List.mem_singleton] at hx; rw [hx]; exact HIN.out.2)).mono ?_); intro e w3 hp; have hp2 := hp.act (w0 := w) (HBW2) (Nat.le_trans HBW1.out.size hl6); obtain ⟨rfl, _, _, _, _, k3⟩ := hp; have y5 : w3.cell? ⟨wr.heap.size, 3, none⟩ = some (.int .i64 u3) := by rw [k3.cell (cell_lt y6) (fun e => by have h9 := HMW.out.box.lt; rcases e with e | e; (· have e' : wr.heap.size = b := e; omega); (· have e' : wr.heap.size = f := e; omega))]; exact y6)
      | (go_at_call 35; have hl1 := ns.low; have hl2 := Lies.lt ns.fl; have hl3 := Lies.lt HM1.out.fl; have hl4 := HM1.out.box.lt; have hl5 := HLV1.out.lt; have hl6 : w1.heap.size ≤ f := Nat.le_trans hsz hl1.1; have RW : Hang (fun k => k ≠ f) (fun w => ZRow w (.slice (some ⟨w1.heap.size, 0, none⟩) 1 1) [u3]) w2 := (zrow_cop (l := [u3]) LQ rfl (by simp)).sub (fun i _ e => by omega); have MM := (HM1.out.below BQ).below b2; have NN := ns; have HBW2 := (HBW1.out.trans (BQ.mono HBW1.out.size)).trans (b2.mono (Nat.le_trans HBW1.out.size BQ.size)); have y6 := y4; (refine (fromD MM NN (by omega) (fun hs => by have := HM1.out.zone f hs; omega) [u3] _ 1 1 rfl RW (fun x hx => by rw [List.mem_singleton] at hx; rw [hx]; exact HIN.out.2)).mono ?_); intro e w3 hp; have hp2 := hp.act (w0 := w) (HBW2) (Nat.le_trans HBW1.out.size hl6); obtain ⟨rfl, _, _, _, _, k3⟩ := hp; have y5 : w3.cell? ⟨wr.heap.size, 3, none⟩ = some (.int .i64 u3) := by rw [k3.cell (cell_lt y6) (fun e => by have h9 := HMW.out.box.lt; rcases e with e | e; (· have e' : wr.heap.size = b := e; omega); (· have e' : wr.heap.size = f := e; omega))]; exact y6))
    all_goals rw [← HR.out] at hp2
    all_goals have HP := hideT hp2
    all_goals clear hp2 k3 y5 y6 y4 y3 ns b2 RW hl1 hl2 hl3 hl4 hl5 hl6
    all_goals go_wp2_with fail
    all_goals go_ret
    all_goals have hfin := HP.out
    all_goals rw [HR.out] at hfin ⊢
    all_goals exact hfin
end
end Go.Proofs.Ytkjekohncfhbiab
