/-
  An item's event has happened.
-/
import Derived.Test.YtpipjkbgbhefcaaGreatCShut
set_option linter.unusedSimpArgs false
set_option linter.unusedVariables false
namespace Go.Proofs.YtpipjkbgbhefcaaGreat
open Go.RowKit
open Qp
set_option maxRecDepth 100000
section
variable {w w' : World} {H : Nat} {K : Kc} {m : Mp.Model} {v : Value} {L : List Thing} {N : Nat} {st : Cp.St}
/-- Is it a timer that is created? -/
def isDue (m : Mp.Model) (i : Nat) (e : Int) : Bool := decide ((Cp.itm m i).kind = 5) && decide (e = 1)
def dueL (m : Mp.Model) (st : Cp.St) (i : Nat) (e : Int) (L : List Thing) : List Thing := if isDue m i e then (st.now + (Cp.itm m i).ticks, (i : Int)) :: L else L
def HapPost (w : World) (H : Nat) (K : Kc) (m : Mp.Model) (v : Value) (L : List Thing) (N : Nat) (st : Cp.St) (i : Nat) (e : Int) (x : Ending) (w' : World) : Prop :=
  x = .returned (.tuple #[]) ∧ ∃ v' L', CTo w w' H K m v v' L' (N + 1) (Cp.doE m st i e) ∧ L'.Perm (dueL m st i e L)
theorem CIn.due (h : CIn w H K m v L N st) (d : Nat → Int) : CIn w H K m v L N { st with due := d } := ⟨h.box, h.model, h.ss, h.nn, h.map, h.q, h.apart, h.zone, h.zhi, h.low, h.ns, h.nf⟩
theorem Grew.mono' {a b : World} {x y : Value} (h : Grew b x y) (hs : a.heap.size ≤ b.heap.size) : Grew a x y := by
  rcases h with h | ⟨g, h1, h2⟩
  · exact .inl h
  · exact .inr ⟨g, h1, Nat.le_trans hs h2⟩
set_option maxHeartbeats 8000000 in
theorem happenD (h : CIn w H K m v L N st) (i : Nat) (hi : i < m.items.length) (e : Int) (he : 0 ≤ e ∧ e ≤ 5) (hN : N ≤ 1000) (hLL : L.length < 100) (hnow : 0 ≤ st.now ∧ st.now ≤ 1000000000000) (htk : (Cp.itm m i).kind = 5 → 0 ≤ (Cp.itm m i).ticks ∧ (Cp.itm m i).ticks ≤ 100) (hH : H ≤ w.heap.size) (h16 : m.items.length ≤ 16) :
    Calls Tryz.prog 87 #[cP K, iP i, .int .i64 e] w (HapPost w H K m v L N st i e) := by
  obtain ⟨a5, k5, a6, k6, I⟩ := h.item hi
  obtain ⟨W, hW⟩ : ∃ W, w.alloc (.cells #[.string (Cp.itm m i).id, .int .i64 (Cp.itm m i).kind, .string (Cp.itm m i).parent, .bool (Cp.itm m i).req, .int .i64 (Cp.itm m i).ticks, .slice a5 (Cp.itm m i).entry.length k5, .slice a6 (Cp.itm m i).exit.length k6] 48) = W := ⟨_, rfl⟩
  obtain ⟨B1, L1, z1⟩ := of_alloc hW
  have hw1 := h.below B1
  have c1 := h.c1
  have d0 := I.c0
  have d1 := I.c1
  have d2 := I.c2
  have d3 := I.c3
  have d4 := I.c4
  have d5 := I.c5
  have d6 := I.c6
  have g2 := hw1.c2
  have gs := hw1.cs hi
  have gf : W.frozen? ⟨K.sb, i, none⟩ = false := hw1.ss.free i
  have t1 : (0 : Int) ≤ (i : Int) := by omega
  have t2 : (i : Int) < (m.items.length : Int) := by omega
  obtain ⟨x, hx⟩ : ∃ x, Cp.behind e = x := ⟨_, rfl⟩
  obtain ⟨X, hX⟩ : ∃ X, W.setCell ⟨K.sb, i, none⟩ (.int .i64 x) = X := ⟨_, rfl⟩
  have hXC := hw1.putS i x
  rw [hX] at hXC
  have HB1 := hideT B1
  have HL1 := hideT L1
  have HXC := hideT hXC
  have HX := hideT hx
  have HC := hideT h
  have HI := hideT hi
  clear h I hx hw1 hXC B1 L1 hi
  go_enter Tryz.func87, Tryz.ntmps87
  go_wp2_with fail
  first
    | (go_region_with (first | (go_at_call 111; refine (behindD e _).mono ?_; rintro r w2 ⟨rfl, hw⟩; obtain rfl := hw.symm; rw [HX.out]) | fail))
    | fail
  all_goals
    clear c1 d0 d1 d2 d3 d4 d5 d6 g2 gs gf hW z1
    obtain ⟨Y, hY⟩ : ∃ Y, X.drew = Y := ⟨_, rfl⟩
    have BY : Below X.heap.size X Y := by rw [← hY]; exact below_drewN (Below.refl _ X) 1
    have hBX : Below w.heap.size w W := HB1.out
    have hKX := HXC.out.2
    have LY : Lies Y w.heap.size 48 #[.string (Cp.itm m i).id, .int .i64 (Cp.itm m i).kind, .string (Cp.itm m i).parent, .bool (Cp.itm m i).req, .int .i64 (Cp.itm m i).ticks, .slice a5 (Cp.itm m i).entry.length k5, .slice a6 (Cp.itm m i).exit.length k6] := by
      refine Lies.below ?_ BY
      rw [← hX]
      exact HL1.out.off _ _ (fun e => by
        have h1 : w.heap.size = K.sb := e
        have h2 := (HC.out.lt (k := K.sb) (.inr (.inl rfl))).1
        omega)
    have HLY := hideT LY
    have HCY := hideT (HXC.out.1.below BY)
    have HKY : Hid (Keep (CS K v) w Y) := ((Keep.of_below hBX).trans hKX).trans (Keep.of_below BY)
    have y0 : Y.cell? ⟨w.heap.size, 0, none⟩ = some (.string (Cp.itm m i).id) := LY.cell 0
    have y1 : Y.cell? ⟨w.heap.size, 1, none⟩ = some (.int .i64 (Cp.itm m i).kind) := LY.cell 1
    have g4 := HCY.out.c4
    obtain ⟨D, hD⟩ : ∃ D, Y.drew = D := ⟨_, rfl⟩
    have BD : Below Y.heap.size Y D := by rw [← hD]; exact below_drewN (Below.refl _ Y) 1
    have hok : OnOk ((Cp.itm m i).id, e) := ⟨by
      obtain ⟨a5', k5', a6', k6', I'⟩ := HC.out.item HI.out
      exact I'.zid, by show _ ≤ e; omega, by show e ≤ _; omega⟩
    obtain ⟨Z, hr, hZ1, hZ2⟩ := HIn.store (HCY.out.below BD).map (by omega) ((Cp.itm m i).id, e) hok
    dsimp only at hr
    have hZC := (HCY.out.below BD).putMap hZ1 hZ2
    have HZC := hideT hZC
    have HKD : Hid (Keep (CS K v) w D) := HKY.out.trans (Keep.of_below BD)
    have HLZ : Hid (Lies Z w.heap.size 48 #[.string (Cp.itm m i).id, .int .i64 (Cp.itm m i).kind, .string (Cp.itm m i).parent, .bool (Cp.itm m i).req, .int .i64 (Cp.itm m i).ticks, .slice a5 (Cp.itm m i).entry.length k5, .slice a6 (Cp.itm m i).exit.length k6]) :=
      (LY.below BD).keep hZC.2 (fun e => by
        have := ((HCY.out.below BD).mb_ne)
        have h2 := (HC.out.lt e).1
        omega)
    have z0 := below_cell BD _ _ y0
    have z4 := below_cell BD _ _ g4
    clear BY hKX LY hZ1 hZ2 hZC BD hBX hX
    rw [hY]
    go_wp2_with fail
    subst hD
    go_region
    all_goals
      clear y0 y1 g4 z0 z4 hr
      have f1 : Z.cell? ⟨w.heap.size, 1, none⟩ = some (.int .i64 (Cp.itm m i).kind) := HLZ.out.cell 1
      have f4 : Z.cell? ⟨w.heap.size, 4, none⟩ = some (.int .i64 (Cp.itm m i).ticks) := HLZ.out.cell 4
      have f5 := HZC.out.1.c5
      have f6 : Z.cell? ⟨K.cb, 6, none⟩ = some (.int .i64 st.now) := HZC.out.1.c6
      have HKZ : Hid (Keep (CS K v) w Z) := HKD.out.trans HZC.out.2
      obtain ⟨k, hk⟩ : ∃ k, (Cp.itm m i).kind = k := ⟨_, rfl⟩
      have HKI := hideT hk
      rw [hk] at f1
      by_cases hd : k = 5 ∧ e = 1
      · obtain ⟨rfl, rfl⟩ := hd
        have htk' := htk hk
        have HQ : Hid (QH Z H K.qb v L) := HZC.out.1.q
        have HNB : Hid (¬ CS K v w.heap.size) := fun e => by have := (HC.out.lt e).1; omega
        have HZ : Hid (H ≤ Z.heap.size) := Nat.le_trans hH HKZ.out.size
        obtain ⟨tk, htk2⟩ : ∃ t, (Cp.itm m i).ticks = t := ⟨_, rfl⟩
        obtain ⟨nw, hnw⟩ : ∃ t, st.now = t := ⟨_, rfl⟩
        have HTK := hideT htk2
        have HNW := hideT hnw
        rw [htk2] at f4 htk'
        rw [hnw] at f6 hnow
        clear hk htk htk2 hnw
        go_wp2_with fail
        go_region_held3 (fun w' => w'.cell? ⟨K.cb, 5, none⟩ = some (.pointer (some ⟨K.qb, 0, none⟩)) ∧ w'.cell? ⟨K.cb, 6, none⟩ = some (.int .i64 nw) ∧ w'.cell? ⟨w.heap.size, 4, none⟩ = some (.int .i64 tk)) (go_keep) (first
          | (go_at_call 112; refine (pushQ _ H K.qb v L _ (i : Int) (HQ.out.below (below_drewN (Below.refl _ Z) 1)) HZ.out hLL).mono ?_; rintro r w2 ⟨rfl, v', L', T, P⟩; have HT := hideT (HZC.out.1.below (below_drewN (Below.refl _ Z) 1) |>.putQ T); have HG := hideT T.grew; have HP := hideT P; clear T P; have s5 := HT.out.1.c5; have s6 : w2.cell? ⟨K.cb, 6, none⟩ = some (.int .i64 nw) := (by have h6 : w2.cell? ⟨K.cb, 6, none⟩ = some (.int .i64 st.now) := HT.out.1.c6; rw [HNW.out] at h6; exact h6); have s4 : w2.cell? ⟨w.heap.size, 4, none⟩ = some (.int .i64 tk) := (by have h4 : w2.cell? ⟨w.heap.size, 4, none⟩ = some (.int .i64 (Cp.itm m i).ticks) := (Lies.keep (HLZ.out.below (below_drewN (Below.refl _ Z) 1)) HT.out.2 HNB.out).cell 4; rw [HTK.out] at h4; exact h4)))
        all_goals
          have HE : Hid (CTo w w2 H K m v v' L' (N + 1) (Cp.doE m st i 1)) := by
            have hc := HT.out.1.due (if (Cp.itm m i).kind = 5 ∧ (1 : Int) = 1 then fun j => if j = i then st.now + (Cp.itm m i).ticks else st.due j else st.due)
            refine ⟨?_, (HKZ.out.trans (Keep.of_below (below_drewN (Below.refl _ Z) 1))).trans HT.out.2, HG.out.mono' ?_⟩
            · rw [← HX.out] at hc
              exact hc
            · exact Nat.le_trans HKZ.out.size (below_drewN (Below.refl Z.heap.size Z) 1).size
          have HDL : Hid (L'.Perm (dueL m st i 1 L)) := by
            have h0 : isDue m i 1 = true := by unfold isDue; rw [HKI.out]; rfl
            show List.Perm _ _
            unfold dueL
            rw [h0, if_pos rfl, HTK.out, HNW.out]
            have h1 := HP.out
            rwa [show IntKind.i64.wrap (nw + tk) = nw + tk by rw [IntKind.wrap_i64]; omega] at h1
          clear s4 s5 s6 f1 f4 f5 f6
          go_wp2_with fail
          go_end0
          exact ⟨rfl, _, _, HE.out, HDL.out⟩
      · have HE : Hid (CTo w Z H K m v v L (N + 1) (Cp.doE m st i e)) := by
          have hc := HZC.out.1.due (if (Cp.itm m i).kind = 5 ∧ e = 1 then fun j => if j = i then st.now + (Cp.itm m i).ticks else st.due j else st.due)
          refine ⟨?_, HKZ.out, Grew.refl _ _⟩
          rw [← HX.out] at hc
          exact hc
        have HDL : Hid (L.Perm (dueL m st i e L)) := by
          have h0 : isDue m i e = false := by
            unfold isDue
            rw [HKI.out]
            by_cases h5 : k = 5
            · rw [decide_eq_false (fun h1 => hd ⟨h5, h1⟩)]; simp
            · rw [decide_eq_false h5]; rfl
          show List.Perm _ _
          unfold dueL
          rw [h0]
          exact List.Perm.refl _
        by_cases h5 : k = 5
        · subst h5
          have e1 : (e == (1 : Int)) = false := beq_eq_false_iff_ne.2 fun h1 => hd ⟨rfl, h1⟩
          clear hd hk
          go_wp2_with fail
          go_end0
          exact ⟨rfl, _, _, HE.out, HDL.out⟩
        · have e1 : (k == (5 : Int)) = false := beq_eq_false_iff_ne.2 h5
          clear hd hk h5
          go_wp2_with fail
          go_end0
          exact ⟨rfl, _, _, HE.out, HDL.out⟩
end
end Go.Proofs.YtpipjkbgbhefcaaGreat
