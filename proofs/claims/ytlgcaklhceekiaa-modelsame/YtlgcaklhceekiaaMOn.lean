/-
  Which events may be.
-/
import Derived.Test.YtlgcaklhceekiaaMIf
import Derived.Deep.RegionWith
import Derived.Deep.RegionHeld3
import Derived.Deep.QuietTactic
import Derived.BigQuiet
set_option linter.unusedSimpArgs false
set_option linter.unusedVariables false
namespace Go.Proofs.Ytlgcaklhceekiaa
open Go.RowKit
set_option maxRecDepth 100000
theorem placeV (w : World) (vf : Value) (ao : Option Addr) (n cap : Nat) (l : List Mp.Item) (s : ByteArray) (h : IRow w (.slice ao n cap) l) (z : Int) (hz : Hid (Mp.placeZ l s = z)) :
    Calls Try.prog 54 #[.agg #[vf, .slice ao n cap], .string s] w fun e w' => e = .returned (.int .i64 z) ∧ Below w.heap.size w w' := by
  rw [← hz.out]
  exact placeD w vf ao n cap l s h
theorem legalV (k e : Int) (w : World) (b : Bool) (h : Hid (Mp.legalB k e = b)) :
    Calls Try.prog 25 #[.int .i64 k, .int .i64 e] w fun r w' => r = .returned (.bool b) ∧ w' = w := by
  rw [← h.out]
  exact legalD k e w
theorem containsOV (w : World) (ao : Option Addr) (n cap : Nat) (l : List Mp.On) (s : Mp.On) (h : ORow w (.slice ao n cap) l) (b : Bool) (hb : Hid (Mp.has l s = b)) :
    Calls Try.prog 55 #[.slice ao n cap, .agg #[.string s.1, .int .i64 s.2]] w fun e w' => e = .returned (.bool b) ∧ Below w.heap.size w w' := by
  rw [← hb.out]
  exact containsO w ao n cap l s h
theorem placeZ_cases (l : List Mp.Item) (s : ByteArray) : (Mp.placeZ l s = -1 ∧ Mp.placeO l s = none) ∨ ∃ k x, Mp.placeZ l s = (k : Nat) ∧ Mp.placeO l s = some k ∧ l[k]? = some x := by
  unfold Mp.placeZ
  cases h : Mp.placeO l s with
  | none => exact .inl ⟨rfl, rfl⟩
  | some k =>
    obtain ⟨x, hx, _⟩ := Mp.find_some_inv h
    exact .inr ⟨k, x, rfl, rfl, hx⟩
set_option maxHeartbeats 2000000 in
theorem onMayD (w : World) (m : Mp.Model) (af ai : Option Addr) (cf ci : Nat) (hm : ModelAt w af cf ai ci m) (ao : Option Addr) (n cap : Nat) (l : List Mp.On) (h : ORow w (.slice ao n cap) l) :
    Calls Try.prog 50 #[.agg #[.slice af m.files.length cf, .slice ai m.items.length ci], .slice ao n cap] w fun e w' => e = .returned (.bool (Mp.onB m l)) ∧ Below w.heap.size w w' := by
  obtain ⟨hn, hl, hcap, b, o, ha, hc⟩ := orow_at h
  obtain ⟨_, hil, hicap, bi, oi, hia, hic⟩ := irow_at hm.items
  have HN := hideT hn
  have HC := hideT hc
  have HA := hideT ha
  have HM := hideT hm
  have H := hideT h
  have HIA := hideT hia
  have HIC := hideT hic
  clear hn hc ha h hm hia hic
  by_cases h2 : 3 < n
  · have HF : Hid (Mp.onB m l = false) := by show _ = _; unfold Mp.onB; rw [decide_eq_false (by have := HN.out; omega)]; rfl
    go_enter Try.func50, Try.ntmps50
    go_wp2_with fail
    go_ret
    exact ⟨ret_b HF.out.symm, (Below.refl _ _).alloc (Nat.le_refl _) _⟩
  have HF : Hid (Mp.onB m l = Mp.onsF m.items [] l) := by show _ = _; unfold Mp.onB; rw [decide_eq_true (by have := HN.out; omega)]; rfl
  go_enter Try.func50, Try.ntmps50
  go_wp2_with fail
  go_loopw [13] (fun i wr => ∃ k : Nat, k ≤ n ∧ i = .int .i64 k ∧ Hid (Mp.onsF m.items (l.take k) (l.drop k) = Mp.onsF m.items [] l) ∧ Hid (Below w.heap.size w wr ∧ Lies wr w.heap.size 25 #[.slice af m.files.length cf, .slice ai m.items.length ci])) (fun i _ => n - (intOf i).toNat)
  case atStart => exact ⟨0, by omega, rfl, rfl, (Below.refl _ _).alloc (Nat.le_refl _) _, Lies.new _ _ _⟩
  case round =>
    obtain ⟨k, hk, rfl, HB, HW⟩ := hrel
    have x0 : wr.cell? ⟨w.heap.size, 0, none⟩ = some (.slice af m.files.length cf) := HW.out.2.cell 0
    have x1 : wr.cell? ⟨w.heap.size, 1, none⟩ = some (.slice ai m.items.length ci) := HW.out.2.cell 1
    have hsz := HW.out.2.lt
    by_cases hlt : k < n
    · obtain ⟨⟨c1, c2⟩, hx⟩ := Mp.at_lt (l := l) (k := k) (by have := HN.out; omega)
      obtain ⟨hz, d0, d1⟩ := HC.out k _ hx
      have d0 := below_cell HW.out.1 _ _ d0
      have d1 := below_cell HW.out.1 _ _ d1
      obtain rfl := HA.out (by omega)
      dsimp only at d0 d1 hz
      have hB2 := HB.out
      rw [Mp.drop_at hx, Mp.onsF] at hB2
      have HB2 := hideT hB2
      clear hB2
      have HT := hideT (Mp.take_at hx)
      clear hx
      have BA := hideT ((Below.refl wr.heap.size wr).alloc (Nat.le_refl _) (.cells #[.string c1, .int .i64 c2] 40))
      have LA := hideT (Lies.new wr 40 #[.string c1, .int .i64 c2])
      have BW := hideT (HW.out.1.trans (BA.out.mono HW.out.1.size))
      have LW := hideT (HW.out.2.below BA.out)
      have HIR := hideT (irow_below HM.out.items BW.out)
      have HR := hideT (rowR_take H.out k cap (by omega) (by omega))
      rcases placeZ_cases m.items c1 with ⟨hp, hpo⟩ | ⟨p, x, hp, hpo, hpx⟩
      · have HP := hideT hp
        have HR : Hid (Mp.onsF m.items [] l = false) := by show _ = _; rw [← HB2.out]; unfold Mp.onLegal; rw [hpo]; rfl
        clear hp hpo
        go_wp2_with fail
        refine (placeV _ _ ai m.items.length ci m.items c1 HIR.out (-1) HP).mono ?_
        rintro e w1 ⟨rfl, b1⟩
        have BW1 := hideT (BW.out.trans (b1.mono BW.out.size))
        clear b1 d0 d1 x0 x1
        go_wp2_with fail
        go_quiet (fail)
        go_wp2_with fail
        go_ret
        exact ⟨ret_b (by rw [HF.out, HR.out]), below_drewN BW1.out _⟩
      · obtain rfl := HIA.out (by have := (List.getElem?_eq_some_iff.1 hpx).1; omega)
        have hpl : p < m.items.length := (List.getElem?_eq_some_iff.1 hpx).1
        obtain ⟨_, _, _, _, I0⟩ := HIC.out p x hpx
        have HP := hideT hp
        have HOL : Hid (Mp.onLegal m.items (c1, c2) = Mp.legalB x.kind c2) := by show _ = _; unfold Mp.onLegal; rw [hpo]; dsimp only; rw [hpx]
        have HI0 := hideT I0.c1
        clear hp hpo hpx I0
        obtain ⟨b1, H1⟩ : ∃ y, Hid (Mp.legalB x.kind c2 = y) := ⟨_, rfl⟩
        obtain ⟨b2, H2⟩ : ∃ y, Hid (Mp.has (l.take k) (c1, c2) = y) := ⟨_, rfl⟩
        have t0 : (0 : Int) ≤ (p : Int) := by omega
        have t1 : (p : Int) < (m.items.length : Int) := by omega
        have t2 : (0 : Int) ≤ (k : Int) := by omega
        have t3 : (k : Int) ≤ (cap : Int) := by omega
        go_wp2_with fail
        refine (placeV _ _ (some ⟨bi, oi, none⟩) m.items.length ci m.items c1 HIR.out p HP).mono ?_
        rintro e w1 ⟨rfl, p1⟩
        have BW1 := hideT (BW.out.trans (p1.mono BW.out.size))
        have y0 : w1.cell? ⟨w.heap.size, 1, none⟩ = some (.slice (some ⟨bi, oi, none⟩) m.items.length ci) := (LW.out.below p1).cell 1
        have y1 : w1.cell? ⟨wr.heap.size, 0, none⟩ = some (.string c1) := (LA.out.below p1).cell 0
        have y2 : w1.cell? ⟨wr.heap.size, 1, none⟩ = some (.int .i64 c2) := (LA.out.below p1).cell 1
        have y3 := below_cell BW1.out _ _ HI0.out
        have LW1 := hideT (LW.out.below p1)
        clear p1 d0 d1 x0 x1
        cases b1
        · have HR : Hid (Mp.onsF m.items [] l = false) := by show _ = _; rw [← HB2.out, HOL.out, H1.out]; rfl
          go_wp2_with fail
          go_quiet ((go_at_call 25; exact Calls.quiet_of_same (legalV _ _ _ false H1)))
          go_wp2_with fail
          go_ret
          exact ⟨ret_b (by rw [HF.out, HR.out]), below_drewN BW1.out _⟩
        go_wp2_with fail
        go_region_held3 (fun w' => w'.cell? ⟨w.heap.size, 1, none⟩ = some (.slice (some ⟨bi, oi, none⟩) m.items.length ci) ∧ w'.cell? ⟨wr.heap.size, 0, none⟩ = some (.string c1) ∧ w'.cell? ⟨wr.heap.size, 1, none⟩ = some (.int .i64 c2) ∧ w'.cell? ⟨bi, oi + p * 7 + 1, none⟩ = some (.int .i64 x.kind)) (go_keep) (first
            | (go_at_call 25; refine (legalV _ _ _ true H1).mono ?_; rintro e w2 ⟨rfl, rfl⟩)
            | (go_at_call 55; refine (containsOV _ _ k cap _ (c1, c2) (orow_below HR.out (below_drewN BW1.out 1)) b2 H2).mono ?_; rintro e w2 ⟨rfl, q2⟩; have q3 : Below w1.heap.size w1 w2 := (below_drewN (Below.refl _ w1) 1).trans q2; have z0 := below_cell q3 _ _ y0; have z1 := below_cell q3 _ _ y1; have z2 := below_cell q3 _ _ y2; have z3 := below_cell q3 _ _ y3))
        have BW2 := hideT (BW1.out.trans (q3.mono BW1.out.size))
        have LW2 := hideT (LW1.out.below q3)
        rw [show decide ((p : Int) < 0) = false from decide_eq_false (by omega)]
        clear q2 q3 y0 y1 y2 y3 z0 z1 z2 z3
        cases b2
        · have HR2 : Hid (Mp.onsF m.items (l.take (k + 1)) (l.drop (k + 1)) = Mp.onsF m.items [] l) := by show _ = _; rw [← HB2.out, HOL.out, H1.out, H2.out, HT.out]; rfl
          go_wp2_with fail
          go_roundw
          case rel => exact ⟨k + 1, by omega, by go_num, HR2, BW2.out, LW2.out⟩
          case measure => simp [intOf]; omega
        · have HR2 : Hid (Mp.onsF m.items [] l = false) := by show _ = _; rw [← HB2.out, HOL.out, H1.out, H2.out]; rfl
          go_wp2_with fail
          go_ret
          exact ⟨ret_b (by rw [HF.out, HR2.out]), BW2.out⟩
    · have HR : Hid (Mp.onsF m.items [] l = true) := by show _ = _; rw [← HB.out, Mp.drop_all (by have := HN.out; omega)]; rfl
      go_wp2_with fail
      go_ret
      exact ⟨ret_b (by rw [HF.out, HR.out]), HW.out.1⟩
end Go.Proofs.Ytlgcaklhceekiaa
