/-
  Several texts in one: each opens with its own word.
-/
import Derived.Test.YtjfonpbnohbpfaaGreatDoorPartM
import Derived.Deep.RegionWith
import Derived.Deep.RegionHeld3
import Derived.Deep.QuietTactic
import Derived.BigQuiet
/-
  The items' own names.
-/
set_option linter.unusedSimpArgs false
set_option linter.unusedVariables false
namespace Go.Proofs.YtjfonpbnohbpfaaGreatDoor
open Go.RowKit
set_option maxRecDepth 100000
set_option maxHeartbeats 1000000 in
theorem idsD (w : World) (ao : Option Addr) (n cap : Nat) (l : List Mp.Item) (h : IRow w (.slice ao n cap) l) :
    Calls Tryz.prog 48 #[.slice ao n cap] w fun e w' => e = .returned (.bool (Mp.idsB l)) ∧ Below w.heap.size w w' := by
  obtain ⟨hn, hl, hcap, b, o, ha, hc⟩ := irow_at h
  have HN := hideT hn
  have HC := hideT hc
  have HA := hideT ha
  clear hn hc ha h
  obtain ⟨i0, hi0, hz0, hz1, hz2⟩ := info_parts infoS
  by_cases h1 : n < 1
  · have HF : Hid (Mp.idsB l = false) := by show _ = _; unfold Mp.idsB; rw [decide_eq_false (by have := HN.out; omega)]; rfl
    go_enter Tryz.func48, Tryz.ntmps48
    go_wp2_with fail
    go_ret
    exact ⟨ret_b HF.out.symm, Below.refl _ _⟩
  by_cases h2 : 16 < n
  · have HF : Hid (Mp.idsB l = false) := by show _ = _; unfold Mp.idsB; rw [decide_eq_false (p := l.length ≤ 16) (by have := HN.out; omega)]; simp
    go_enter Tryz.func48, Tryz.ntmps48
    go_wp2_with fail
    go_ret
    exact ⟨ret_b HF.out.symm, Below.refl _ _⟩
  have HF : Hid (Mp.idsB l = Mp.namesF [] (l.map Mp.Item.id)) := by show _ = _; unfold Mp.idsB; rw [decide_eq_true (p := 1 ≤ l.length) (by have := HN.out; omega), decide_eq_true (p := l.length ≤ 16) (by have := HN.out; omega)]; rfl
  obtain rfl := HA.out (by omega)
  go_enter Tryz.func48, Tryz.ntmps48
  go_wp2_with fail
  go_loopw [3, 16] (fun x i wr => ∃ k : Nat, k ≤ n ∧ i = .int .i64 k ∧ Hid (Below w.heap.size w wr) ∧ Hid (wr.ownsRow w.heap.size 9 1 x k (((l.take k).map Mp.Item.id).map Value.string))) (fun _ i _ => n - (intOf i).toNat)
  case atStart => exact ⟨0, by omega, rfl, Below.refl _ _, World.ownsRow_nil _ _ _ _⟩
  case round =>
    obtain ⟨k, hk, rfl, HW, O1⟩ := hrel
    obtain ⟨oad, ocap, ho⟩ := slice_form O1.out
    subst ho
    by_cases hlt : k < n
    · obtain ⟨x, hx⟩ := Mp.at_lt (l := l) (k := k) (by have := HN.out; omega)
      obtain ⟨a5, c5, a6, c6, I0⟩ := HC.out k _ hx
      have I1 := I0.turn (below_cell HW.out)
      have HX := hideT hx
      have d0 := I1.c0
      have d1 := I1.c1
      have d2 := I1.c2
      have d3 := I1.c3
      have d4 := I1.c4
      have d5 := I1.c5
      have d6 := I1.c6
      clear hx I0 I1
      go_wp2_with (first | (at_builtin; refine wpList_append_lies _ (by rfl) _ _ _ (by rfl) w.heap.size 9 i0 _ 1 16 Tryz.underlying22 hi0 hz0 hz1 hz2 rfl (by omega) (.slice oad k ocap) k (((l.take k).map Mp.Item.id).map Value.string) (by rfl) ((O1.out.alloc _).alloc _) ⟨wr.heap.size + 1, 0, none⟩ 1 1 [.string x.id] (by rfl) (by rfl) (news2 wr _ #[.string x.id] 9) (by simp [Value.oneCell']) (by omega) (by unfold maxLen; omega) (by omega) (by have := HW.out.size; simp; omega) (wr.heap.size + 2) (by simp) ?_; intro gb cap2 w3 hown hgrow hat hlt3) | fail)
      have bA := ((Below.refl wr.heap.size wr).alloc (Nat.le_refl _) (.cells #[.string x.id, .int .i64 x.kind, .string x.parent, .bool x.req, .int .i64 x.ticks, .slice a5 x.entry.length c5, .slice a6 x.exit.length c6] 31)).alloc (by simp) (.cells #[.string x.id] 9)
      have B3 : Hid (Below w.heap.size w w3) := Keep.below (HW.out.trans (bA.mono HW.out.size)) (Keep.grown hgrow) (fun i hi e => by have := (own_lt O1.out e).2; omega)
      have O3 : Hid (w3.ownsRow w.heap.size 9 1 (.slice (some ⟨gb, 0, none⟩) (k + 1) cap2) (k + 1) (((l.take (k + 1)).map Mp.Item.id).map Value.string)) := by
        show World.ownsRow _ _ _ _ _ _ _
        rw [Mp.take_at HX.out, List.map_append, List.map_append]
        exact hown
      refine ⟨⟨k + 1, by omega, by go_num, B3, O3⟩, ?_⟩
      first | omega | (simp [intOf]; omega)
    · have hkn : k = l.length := by have := HN.out; omega
      have hcp := (own_capM O1.out).2
      have HR : Hid (FRow wr (.slice oad k ocap) (l.map Mp.Item.id)) := by
        refine frow_of_own (H := w.heap.size) (e := 9) (n := k) ?_ (by rw [List.length_map]; exact hkn) (by omega) (fun s hs => ?_)
        · have := O1.out
          rw [List.take_of_length_le (by omega)] at this
          exact this
        · obtain ⟨x, hx, rfl⟩ := List.mem_map.1 hs
          obtain ⟨i, hi⟩ := List.getElem?_of_mem hx
          obtain ⟨_, _, _, _, I0⟩ := HC.out i x hi
          exact I0.zid
      clear hkn
      go_wp2_with fail
      refine (areNamesD wr oad k ocap _ HR.out).mono ?_
      rintro e w1 ⟨rfl, rfl⟩
      go_wp2_with fail
      go_ret
      exact ⟨ret_b HF.out.symm, HW.out⟩
end Go.Proofs.YtjfonpbnohbpfaaGreatDoor
/-
  Which conditions, events, sentries may be.
-/
set_option linter.unusedSimpArgs false
set_option linter.unusedVariables false
namespace Go.Proofs.YtjfonpbnohbpfaaGreatDoor
open Go.RowKit
set_option maxRecDepth 100000
theorem isOpV (s : ByteArray) (w : World) (b : Bool) (h : Hid (Mp.opB s = b)) :
    Calls Tryz.prog 142 #[.string s] w fun e w' => e = .returned (.bool b) ∧ w' = w := by
  rw [← h.out]
  exact isOpD s w
set_option maxHeartbeats 1000000 in
theorem ifMayD (w : World) (m : Mp.Model) (af ai : Option Addr) (cf ci : Nat) (hm : ModelAt w af cf ai ci m) (ao : Option Addr) (n cap : Nat) (l : List Mp.Cond) (h : CRow w (.slice ao n cap) l) :
    Calls Tryz.prog 117 #[.agg #[.slice af m.files.length cf, .slice ai m.items.length ci], .slice ao n cap] w fun e w' => e = .returned (.bool (Mp.ifB m l)) ∧ Below w.heap.size w w' := by
  obtain ⟨hn, hl, hcap, b, o, ha, hc⟩ := crow_at h
  have HN := hideT hn
  have HC := hideT hc
  have HA := hideT ha
  have HM := hideT hm
  clear hn hc ha h hm
  by_cases h2 : 2 < n
  · have HF : Hid (Mp.ifB m l = false) := by show _ = _; unfold Mp.ifB; rw [decide_eq_false (by have := HN.out; omega)]; rfl
    go_enter Tryz.func117, Tryz.ntmps117
    go_wp2_with fail
    go_ret
    exact ⟨ret_b HF.out.symm, (Below.refl _ _).alloc (Nat.le_refl _) _⟩
  have HF : Hid (Mp.ifB m l = l.all (Mp.condB m.files)) := by show _ = _; unfold Mp.ifB; rw [decide_eq_true (by have := HN.out; omega)]; rfl
  go_enter Tryz.func117, Tryz.ntmps117
  go_wp2_with fail
  go_loopw [12] (fun i wr => ∃ k : Nat, k ≤ n ∧ i = .int .i64 k ∧ Hid ((l.drop k).all (Mp.condB m.files) = l.all (Mp.condB m.files)) ∧ Hid (Below w.heap.size w wr ∧ Lies wr w.heap.size 25 #[.slice af m.files.length cf, .slice ai m.items.length ci])) (fun i _ => n - (intOf i).toNat)
  case atStart => exact ⟨0, by omega, rfl, rfl, (Below.refl _ _).alloc (Nat.le_refl _) _, Lies.new _ _ _⟩
  case round =>
    obtain ⟨k, hk, rfl, HB, HW⟩ := hrel
    have x0 : wr.cell? ⟨w.heap.size, 0, none⟩ = some (.slice af m.files.length cf) := HW.out.2.cell 0
    have x1 : wr.cell? ⟨w.heap.size, 1, none⟩ = some (.slice ai m.items.length ci) := HW.out.2.cell 1
    have hsz := HW.out.2.lt
    by_cases hlt : k < n
    · obtain ⟨⟨c1, c2, c3⟩, hx⟩ := Mp.at_lt (l := l) (k := k) (by have := HN.out; omega)
      obtain ⟨hz, d0, d1, d2⟩ := HC.out k _ hx
      have d0 := below_cell HW.out.1 _ _ d0
      have d1 := below_cell HW.out.1 _ _ d1
      have d2 := below_cell HW.out.1 _ _ d2
      obtain rfl := HA.out (by omega)
      dsimp only at d0 d1 d2 hz
      have hB2 := HB.out
      rw [Mp.drop_at hx, List.all_cons] at hB2
      have HB2 := hideT hB2
      clear hB2
      clear hx
      have BA := hideT ((Below.refl wr.heap.size wr).alloc (Nat.le_refl _) (.cells #[.string c1, .string c2, .int .i64 c3] 35))
      have BW := hideT (HW.out.1.trans (BA.out.mono HW.out.1.size))
      have LW := hideT (HW.out.2.below BA.out)
      have HFR := hideT (frow_below HM.out.files BW.out)
      obtain ⟨b1, H1⟩ : ∃ x, Hid (Mp.has m.files c1 = x) := ⟨_, rfl⟩
      obtain ⟨b2, H2⟩ : ∃ x, Hid (Mp.opB c2 = x) := ⟨_, rfl⟩
      cases b1
      · have HR : Hid (l.all (Mp.condB m.files) = false) := by show _ = _; rw [← HB2.out]; unfold Mp.condB; rw [H1.out]; rfl
        go_wp2_with fail
        refine (containsSV _ af m.files.length cf m.files c1 HFR.out false H1).mono ?_
        rintro e w1 ⟨rfl, rfl⟩
        go_wp2_with fail
        go_ret
        exact ⟨ret_b (by rw [HF.out, HR.out]), BW.out⟩
      cases b2
      · have HR : Hid (l.all (Mp.condB m.files) = false) := by show _ = _; rw [← HB2.out]; unfold Mp.condB; rw [H1.out, H2.out]; rfl
        go_wp2_with fail
        refine (containsSV _ af m.files.length cf m.files c1 HFR.out true H1).mono ?_
        rintro e w1 ⟨rfl, rfl⟩
        go_wp2_with fail
        refine (isOpV c2 _ false H2).mono ?_
        rintro e w1 ⟨rfl, rfl⟩
        go_wp2_with fail
        go_ret
        exact ⟨ret_b (by rw [HF.out, HR.out]), BW.out⟩
      by_cases h3 : c3 < -1000000
      · have HR : Hid (l.all (Mp.condB m.files) = false) := by show _ = _; rw [← HB2.out]; unfold Mp.condB; rw [H1.out, H2.out, decide_eq_false (p := -1000000 ≤ (c1, c2, c3).2.2) (by show ¬ _ ≤ c3; omega)]; rfl
        go_wp2_with fail
        refine (containsSV _ af m.files.length cf m.files c1 HFR.out true H1).mono ?_
        rintro e w1 ⟨rfl, rfl⟩
        go_wp2_with fail
        refine (isOpV c2 _ true H2).mono ?_
        rintro e w1 ⟨rfl, rfl⟩
        go_wp2_with fail
        go_ret
        exact ⟨ret_b (by rw [HF.out, HR.out]), BW.out⟩
      by_cases h4 : 1000000 < c3
      · have HR : Hid (l.all (Mp.condB m.files) = false) := by show _ = _; rw [← HB2.out]; unfold Mp.condB; rw [H1.out, H2.out, decide_eq_false (p := (c1, c2, c3).2.2 ≤ 1000000) (by show ¬ c3 ≤ _; omega)]; simp
        go_wp2_with fail
        refine (containsSV _ af m.files.length cf m.files c1 HFR.out true H1).mono ?_
        rintro e w1 ⟨rfl, rfl⟩
        go_wp2_with fail
        refine (isOpV c2 _ true H2).mono ?_
        rintro e w1 ⟨rfl, rfl⟩
        go_wp2_with fail
        go_ret
        exact ⟨ret_b (by rw [HF.out, HR.out]), BW.out⟩
      have HR : Hid ((l.drop (k + 1)).all (Mp.condB m.files) = l.all (Mp.condB m.files)) := by
        show _ = _
        rw [← HB2.out]
        unfold Mp.condB
        rw [H1.out, H2.out, decide_eq_true (p := -1000000 ≤ (c1, c2, c3).2.2) (by show _ ≤ c3; omega), decide_eq_true (p := (c1, c2, c3).2.2 ≤ 1000000) (by show c3 ≤ _; omega)]
        rfl
      go_wp2_with fail
      refine (containsSV _ af m.files.length cf m.files c1 HFR.out true H1).mono ?_
      rintro e w1 ⟨rfl, rfl⟩
      go_wp2_with fail
      refine (isOpV c2 _ true H2).mono ?_
      rintro e w1 ⟨rfl, rfl⟩
      go_wp2_with fail
      go_roundw
      case rel => exact ⟨k + 1, by omega, by go_num, HR, BW.out, LW.out⟩
      case measure => simp [intOf]; omega
    · have HR : Hid (l.all (Mp.condB m.files) = true) := by show _ = _; rw [← HB.out, Mp.drop_all (by have := HN.out; omega)]; rfl
      go_wp2_with fail
      go_ret
      exact ⟨ret_b (by rw [HF.out, HR.out]), HW.out.1⟩
end Go.Proofs.YtjfonpbnohbpfaaGreatDoor
/-
  Which events may be.
-/
set_option linter.unusedSimpArgs false
set_option linter.unusedVariables false
namespace Go.Proofs.YtjfonpbnohbpfaaGreatDoor
open Go.RowKit
set_option maxRecDepth 100000
theorem placeV (w : World) (vf : Value) (ao : Option Addr) (n cap : Nat) (l : List Mp.Item) (s : ByteArray) (h : IRow w (.slice ao n cap) l) (z : Int) (hz : Hid (Mp.placeZ l s = z)) :
    Calls Tryz.prog 139 #[.agg #[vf, .slice ao n cap], .string s] w fun e w' => e = .returned (.int .i64 z) ∧ Below w.heap.size w w' := by
  rw [← hz.out]
  exact placeD w vf ao n cap l s h
theorem legalV (k e : Int) (w : World) (b : Bool) (h : Hid (Mp.legalB k e = b)) :
    Calls Tryz.prog 140 #[.int .i64 k, .int .i64 e] w fun r w' => r = .returned (.bool b) ∧ w' = w := by
  rw [← h.out]
  exact legalD k e w
theorem containsOV (w : World) (ao : Option Addr) (n cap : Nat) (l : List Mp.On) (s : Mp.On) (h : ORow w (.slice ao n cap) l) (b : Bool) (hb : Hid (Mp.has l s = b)) :
    Calls Tryz.prog 141 #[.slice ao n cap, .agg #[.string s.1, .int .i64 s.2]] w fun e w' => e = .returned (.bool b) ∧ Below w.heap.size w w' := by
  rw [← hb.out]
  exact containsO w ao n cap l s h
theorem placeZ_cases (l : List Mp.Item) (s : ByteArray) : (Mp.placeZ l s = -1 ∧ Mp.placeO l s = none) ∨ ∃ k x, Mp.placeZ l s = (k : Nat) ∧ Mp.placeO l s = some k ∧ l[k]? = some x := by
  unfold Mp.placeZ
  cases h : Mp.placeO l s with
  | none => exact .inl ⟨rfl, rfl⟩
  | some k =>
    obtain ⟨x, hx, _⟩ := Mp.find_some_inv h
    exact .inr ⟨k, x, rfl, rfl, hx⟩
set_option maxHeartbeats 2000000 in
theorem onMayD (w : World) (m : Mp.Model) (af ai : Option Addr) (cf ci : Nat) (hm : ModelAt w af cf ai ci m) (ao : Option Addr) (n cap : Nat) (l : List Mp.On) (h : ORow w (.slice ao n cap) l) :
    Calls Tryz.prog 116 #[.agg #[.slice af m.files.length cf, .slice ai m.items.length ci], .slice ao n cap] w fun e w' => e = .returned (.bool (Mp.onB m l)) ∧ Below w.heap.size w w' := by
  obtain ⟨hn, hl, hcap, b, o, ha, hc⟩ := orow_at h
  obtain ⟨_, hil, hicap, bi, oi, hia, hic⟩ := irow_at hm.items
  have HN := hideT hn
  have HC := hideT hc
  have HA := hideT ha
  have HM := hideT hm
  have H := hideT h
  have HIA := hideT hia
  have HIC := hideT hic
  clear hn hc ha h hm hia hic
  by_cases h2 : 3 < n
  · have HF : Hid (Mp.onB m l = false) := by show _ = _; unfold Mp.onB; rw [decide_eq_false (by have := HN.out; omega)]; rfl
    go_enter Tryz.func116, Tryz.ntmps116
    go_wp2_with fail
    go_ret
    exact ⟨ret_b HF.out.symm, (Below.refl _ _).alloc (Nat.le_refl _) _⟩
  have HF : Hid (Mp.onB m l = Mp.onsF m.items [] l) := by show _ = _; unfold Mp.onB; rw [decide_eq_true (by have := HN.out; omega)]; rfl
  go_enter Tryz.func116, Tryz.ntmps116
  go_wp2_with fail
  go_loopw [13] (fun i wr => ∃ k : Nat, k ≤ n ∧ i = .int .i64 k ∧ Hid (Mp.onsF m.items (l.take k) (l.drop k) = Mp.onsF m.items [] l) ∧ Hid (Below w.heap.size w wr ∧ Lies wr w.heap.size 25 #[.slice af m.files.length cf, .slice ai m.items.length ci])) (fun i _ => n - (intOf i).toNat)
  case atStart => exact ⟨0, by omega, rfl, rfl, (Below.refl _ _).alloc (Nat.le_refl _) _, Lies.new _ _ _⟩
  case round =>
    obtain ⟨k, hk, rfl, HB, HW⟩ := hrel
    have x0 : wr.cell? ⟨w.heap.size, 0, none⟩ = some (.slice af m.files.length cf) := HW.out.2.cell 0
    have x1 : wr.cell? ⟨w.heap.size, 1, none⟩ = some (.slice ai m.items.length ci) := HW.out.2.cell 1
    have hsz := HW.out.2.lt
    by_cases hlt : k < n
    · obtain ⟨⟨c1, c2⟩, hx⟩ := Mp.at_lt (l := l) (k := k) (by have := HN.out; omega)
      obtain ⟨hz, d0, d1⟩ := HC.out k _ hx
      have d0 := below_cell HW.out.1 _ _ d0
      have d1 := below_cell HW.out.1 _ _ d1
      obtain rfl := HA.out (by omega)
      dsimp only at d0 d1 hz
      have hB2 := HB.out
      rw [Mp.drop_at hx, Mp.onsF] at hB2
      have HB2 := hideT hB2
      clear hB2
      have HT := hideT (Mp.take_at hx)
      clear hx
      have BA := hideT ((Below.refl wr.heap.size wr).alloc (Nat.le_refl _) (.cells #[.string c1, .int .i64 c2] 128))
      have LA := hideT (Lies.new wr 128 #[.string c1, .int .i64 c2])
      have BW := hideT (HW.out.1.trans (BA.out.mono HW.out.1.size))
      have LW := hideT (HW.out.2.below BA.out)
      have HIR := hideT (irow_below HM.out.items BW.out)
      have HR := hideT (rowR_take H.out k cap (by omega) (by omega))
      rcases placeZ_cases m.items c1 with ⟨hp, hpo⟩ | ⟨p, x, hp, hpo, hpx⟩
      · have HP := hideT hp
        have HR : Hid (Mp.onsF m.items [] l = false) := by show _ = _; rw [← HB2.out]; unfold Mp.onLegal; rw [hpo]; rfl
        clear hp hpo
        go_wp2_with fail
        refine (placeV _ _ ai m.items.length ci m.items c1 HIR.out (-1) HP).mono ?_
        rintro e w1 ⟨rfl, b1⟩
        have BW1 := hideT (BW.out.trans (b1.mono BW.out.size))
        clear b1 d0 d1 x0 x1
        go_wp2_with fail
        go_quiet (fail)
        go_wp2_with fail
        go_ret
        exact ⟨ret_b (by rw [HF.out, HR.out]), below_drewN BW1.out _⟩
      · obtain rfl := HIA.out (by have := (List.getElem?_eq_some_iff.1 hpx).1; omega)
        have hpl : p < m.items.length := (List.getElem?_eq_some_iff.1 hpx).1
        obtain ⟨_, _, _, _, I0⟩ := HIC.out p x hpx
        have HP := hideT hp
        have HOL : Hid (Mp.onLegal m.items (c1, c2) = Mp.legalB x.kind c2) := by show _ = _; unfold Mp.onLegal; rw [hpo]; dsimp only; rw [hpx]
        have HI0 := hideT I0.c1
        clear hp hpo hpx I0
        obtain ⟨b1, H1⟩ : ∃ y, Hid (Mp.legalB x.kind c2 = y) := ⟨_, rfl⟩
        obtain ⟨b2, H2⟩ : ∃ y, Hid (Mp.has (l.take k) (c1, c2) = y) := ⟨_, rfl⟩
        have t0 : (0 : Int) ≤ (p : Int) := by omega
        have t1 : (p : Int) < (m.items.length : Int) := by omega
        have t2 : (0 : Int) ≤ (k : Int) := by omega
        have t3 : (k : Int) ≤ (cap : Int) := by omega
        go_wp2_with fail
        refine (placeV _ _ (some ⟨bi, oi, none⟩) m.items.length ci m.items c1 HIR.out p HP).mono ?_
        rintro e w1 ⟨rfl, p1⟩
        have BW1 := hideT (BW.out.trans (p1.mono BW.out.size))
        have y0 : w1.cell? ⟨w.heap.size, 1, none⟩ = some (.slice (some ⟨bi, oi, none⟩) m.items.length ci) := (LW.out.below p1).cell 1
        have y1 : w1.cell? ⟨wr.heap.size, 0, none⟩ = some (.string c1) := (LA.out.below p1).cell 0
        have y2 : w1.cell? ⟨wr.heap.size, 1, none⟩ = some (.int .i64 c2) := (LA.out.below p1).cell 1
        have y3 := below_cell BW1.out _ _ HI0.out
        have LW1 := hideT (LW.out.below p1)
        clear p1 d0 d1 x0 x1
        cases b1
        · have HR : Hid (Mp.onsF m.items [] l = false) := by show _ = _; rw [← HB2.out, HOL.out, H1.out]; rfl
          go_wp2_with fail
          go_quiet ((go_at_call 140; exact Calls.quiet_of_same (legalV _ _ _ false H1)))
          go_wp2_with fail
          go_ret
          exact ⟨ret_b (by rw [HF.out, HR.out]), below_drewN BW1.out _⟩
        go_wp2_with fail
        go_region_held3 (fun w' => w'.cell? ⟨w.heap.size, 1, none⟩ = some (.slice (some ⟨bi, oi, none⟩) m.items.length ci) ∧ w'.cell? ⟨wr.heap.size, 0, none⟩ = some (.string c1) ∧ w'.cell? ⟨wr.heap.size, 1, none⟩ = some (.int .i64 c2) ∧ w'.cell? ⟨bi, oi + p * 7 + 1, none⟩ = some (.int .i64 x.kind)) (go_keep) (first
            | (go_at_call 140; refine (legalV _ _ _ true H1).mono ?_; rintro e w2 ⟨rfl, rfl⟩)
            | (go_at_call 141; refine (containsOV _ _ k cap _ (c1, c2) (orow_below HR.out (below_drewN BW1.out 1)) b2 H2).mono ?_; rintro e w2 ⟨rfl, q2⟩; have q3 : Below w1.heap.size w1 w2 := (below_drewN (Below.refl _ w1) 1).trans q2; have z0 := below_cell q3 _ _ y0; have z1 := below_cell q3 _ _ y1; have z2 := below_cell q3 _ _ y2; have z3 := below_cell q3 _ _ y3))
        have BW2 := hideT (BW1.out.trans (q3.mono BW1.out.size))
        have LW2 := hideT (LW1.out.below q3)
        rw [show decide ((p : Int) < 0) = false from decide_eq_false (by omega)]
        clear q2 q3 y0 y1 y2 y3 z0 z1 z2 z3
        cases b2
        · have HR2 : Hid (Mp.onsF m.items (l.take (k + 1)) (l.drop (k + 1)) = Mp.onsF m.items [] l) := by show _ = _; rw [← HB2.out, HOL.out, H1.out, H2.out, HT.out]; rfl
          go_wp2_with fail
          go_roundw
          case rel => exact ⟨k + 1, by omega, by go_num, HR2, BW2.out, LW2.out⟩
          case measure => simp [intOf]; omega
        · have HR2 : Hid (Mp.onsF m.items [] l = false) := by show _ = _; rw [← HB2.out, HOL.out, H1.out, H2.out]; rfl
          go_wp2_with fail
          go_ret
          exact ⟨ret_b (by rw [HF.out, HR2.out]), BW2.out⟩
    · have HR : Hid (Mp.onsF m.items [] l = true) := by show _ = _; rw [← HB.out, Mp.drop_all (by have := HN.out; omega)]; rfl
      go_wp2_with fail
      go_ret
      exact ⟨ret_b (by rw [HF.out, HR.out]), HW.out.1⟩
end Go.Proofs.YtjfonpbnohbpfaaGreatDoor
/-
  Which sentries and items may be.
-/
set_option linter.unusedSimpArgs false
set_option linter.unusedVariables false
namespace Go.Proofs.YtjfonpbnohbpfaaGreatDoor
open Go.RowKit
set_option maxRecDepth 100000
theorem onMayV (w : World) (m : Mp.Model) (af ai : Option Addr) (cf ci : Nat) (hm : ModelAt w af cf ai ci m) (ao : Option Addr) (n cap : Nat) (l : List Mp.On) (h : ORow w (.slice ao n cap) l) (b : Bool) (hb : Hid (Mp.onB m l = b)) :
    Calls Tryz.prog 116 #[.agg #[.slice af m.files.length cf, .slice ai m.items.length ci], .slice ao n cap] w fun e w' => e = .returned (.bool b) ∧ Below w.heap.size w w' := by
  rw [← hb.out]
  exact onMayD w m af ai cf ci hm ao n cap l h
theorem ifMayV (w : World) (m : Mp.Model) (af ai : Option Addr) (cf ci : Nat) (hm : ModelAt w af cf ai ci m) (ao : Option Addr) (n cap : Nat) (l : List Mp.Cond) (h : CRow w (.slice ao n cap) l) (b : Bool) (hb : Hid (Mp.ifB m l = b)) :
    Calls Tryz.prog 117 #[.agg #[.slice af m.files.length cf, .slice ai m.items.length ci], .slice ao n cap] w fun e w' => e = .returned (.bool b) ∧ Below w.heap.size w w' := by
  rw [← hb.out]
  exact ifMayD w m af ai cf ci hm ao n cap l h
theorem sentB_ne (m : Mp.Model) (s1 : List Mp.On) (s2 : List Mp.Cond) (h : s1 ≠ [] ∨ s2 ≠ []) : Mp.sentB m (s1, s2) = (Mp.onB m s1 && Mp.ifB m s2) := by
  unfold Mp.sentB
  have : (decide (s1.length = 0) && decide (s2.length = 0)) = false := by
    rw [Bool.and_eq_false_iff]
    rcases h with h | h
    · exact .inl (decide_eq_false fun e => h (List.eq_nil_of_length_eq_zero e))
    · exact .inr (decide_eq_false fun e => h (List.eq_nil_of_length_eq_zero e))
  dsimp only
  rw [this]
  rfl
set_option maxHeartbeats 2000000 in
theorem sentriesD (w : World) (m : Mp.Model) (af ai : Option Addr) (cf ci : Nat) (hm : ModelAt w af cf ai ci m) (ao : Option Addr) (n cap : Nat) (l : List Mp.Sent) (h : SRow w (.slice ao n cap) l) :
    Calls Tryz.prog 87 #[.agg #[.slice af m.files.length cf, .slice ai m.items.length ci], .slice ao n cap] w fun e w' => e = .returned (.bool (Mp.sentsB m l)) ∧ Below w.heap.size w w' := by
  obtain ⟨hn, hl, hcap, b, o, ha, hc⟩ := srow_at h
  have HN := hideT hn
  have HC := hideT hc
  have HA := hideT ha
  have HM := hideT hm
  clear hn hc ha h hm
  by_cases h2 : 3 < n
  · have HF : Hid (Mp.sentsB m l = false) := by show _ = _; unfold Mp.sentsB; rw [decide_eq_false (by have := HN.out; omega)]; rfl
    go_enter Tryz.func87, Tryz.ntmps87
    go_wp2_with fail
    go_ret
    exact ⟨ret_b HF.out.symm, (Below.refl _ _).alloc (Nat.le_refl _) _⟩
  have HF : Hid (Mp.sentsB m l = l.all (Mp.sentB m)) := by show _ = _; unfold Mp.sentsB; rw [decide_eq_true (by have := HN.out; omega)]; rfl
  go_enter Tryz.func87, Tryz.ntmps87
  go_wp2_with fail
  go_loopw [12] (fun i wr => ∃ k : Nat, k ≤ n ∧ i = .int .i64 k ∧ Hid ((l.drop k).all (Mp.sentB m) = l.all (Mp.sentB m)) ∧ Hid (Below w.heap.size w wr ∧ Lies wr w.heap.size 25 #[.slice af m.files.length cf, .slice ai m.items.length ci])) (fun i _ => n - (intOf i).toNat)
  case atStart => exact ⟨0, by omega, rfl, rfl, (Below.refl _ _).alloc (Nat.le_refl _) _, Lies.new _ _ _⟩
  case round =>
    obtain ⟨k, hk, rfl, HB, HW⟩ := hrel
    have x0 : wr.cell? ⟨w.heap.size, 0, none⟩ = some (.slice af m.files.length cf) := HW.out.2.cell 0
    have x1 : wr.cell? ⟨w.heap.size, 1, none⟩ = some (.slice ai m.items.length ci) := HW.out.2.cell 1
    have hsz := HW.out.2.lt
    by_cases hlt : k < n
    · obtain ⟨⟨s1, s2⟩, hx⟩ := Mp.at_lt (l := l) (k := k) (by have := HN.out; omega)
      obtain ⟨a1, c1, a2, c2, r1, r2, d0, d1⟩ := HC.out k _ hx
      have d0 := below_cell HW.out.1 _ _ d0
      have d1 := below_cell HW.out.1 _ _ d1
      obtain rfl := HA.out (by omega)
      dsimp only at d0 d1 r1 r2
      have hl1 := (orow_at r1).2.1
      have hl2 := (crow_at r2).2.1
      have hB2 := HB.out
      rw [Mp.drop_at hx, List.all_cons] at hB2
      have HB2 := hideT hB2
      clear hB2
      clear hx
      have BA := hideT ((Below.refl wr.heap.size wr).alloc (Nat.le_refl _) (.cells #[.slice a1 s1.length c1, .slice a2 s2.length c2] 39))
      have LA := hideT (Lies.new wr 39 #[.slice a1 s1.length c1, .slice a2 s2.length c2])
      have BW := hideT (HW.out.1.trans (BA.out.mono HW.out.1.size))
      have LW := hideT (HW.out.2.below BA.out)
      have HMW := hideT (HM.out.below BW.out)
      have R1 := hideT (orow_below r1 BW.out)
      have R2 := hideT r2
      clear r1 r2
      obtain ⟨b1, H1⟩ : ∃ y, Hid (Mp.onB m s1 = y) := ⟨_, rfl⟩
      obtain ⟨b2, H2⟩ : ∃ y, Hid (Mp.ifB m s2 = y) := ⟨_, rfl⟩
      have hpart : (s1 = [] ∧ s2 = []) ∨ (s1 = [] ∧ ((s2.length : Int) == 0) = false ∧ s2 ≠ []) ∨ (((s1.length : Int) == 0) = false ∧ s1 ≠ []) := by
        cases s1 with
        | nil => cases s2 with
          | nil => exact .inl ⟨rfl, rfl⟩
          | cons a t => exact .inr (.inl ⟨rfl, beq_eq_false_iff_ne.2 (by simp only [List.length_cons]; omega), by simp⟩)
        | cons a t => exact .inr (.inr ⟨beq_eq_false_iff_ne.2 (by simp only [List.length_cons]; omega), by simp⟩)
      rcases hpart with ⟨rfl, rfl⟩ | ⟨rfl, ht, hne⟩ | ⟨ht, hne⟩
      · have HR : Hid (l.all (Mp.sentB m) = false) := by show _ = _; rw [← HB2.out]; rfl
        go_wp2_with fail
        go_ret
        exact ⟨ret_b (by rw [HF.out, HR.out]), BW.out⟩
      · have hB3 := HB2.out
        rw [sentB_ne m _ _ (.inr hne)] at hB3
        have HB3 := hideT hB3
        clear hne hB3
        cases b1
        · have HR : Hid (l.all (Mp.sentB m) = false) := by show _ = _; rw [← HB3.out, H1.out]; rfl
          go_wp2_with fail
          refine (onMayV _ m af ai cf ci HMW.out a1 _ c1 _ R1.out false H1).mono ?_
          rintro e w1 ⟨rfl, p1⟩
          go_wp2_with fail
          go_ret
          exact ⟨ret_b (by rw [HF.out, HR.out]), BW.out.trans (p1.mono BW.out.size)⟩
        go_wp2_with fail
        refine (onMayV _ m af ai cf ci HMW.out a1 _ c1 _ R1.out true H1).mono ?_
        rintro e w1 ⟨rfl, p1⟩
        have BW1 := hideT (BW.out.trans (p1.mono BW.out.size))
        have LW1 := hideT (LW.out.below p1)
        have HMW1 := hideT (HM.out.below BW1.out)
        have R2' := hideT (crow_below R2.out BW1.out)
        have y0 : w1.cell? ⟨w.heap.size, 0, none⟩ = some (.slice af m.files.length cf) := LW1.out.cell 0
        have y1 : w1.cell? ⟨w.heap.size, 1, none⟩ = some (.slice ai m.items.length ci) := LW1.out.cell 1
        have y2 : w1.cell? ⟨wr.heap.size, 1, none⟩ = some (.slice a2 s2.length c2) := (LA.out.below p1).cell 1
        clear p1 d0 d1 x0 x1
        cases b2
        · have HR : Hid (l.all (Mp.sentB m) = false) := by show _ = _; rw [← HB3.out, H1.out, H2.out]; rfl
          go_wp2_with fail
          refine (ifMayV _ m af ai cf ci HMW1.out a2 _ c2 s2 R2'.out false H2).mono ?_
          rintro e w2 ⟨rfl, p2⟩
          go_wp2_with fail
          go_ret
          exact ⟨ret_b (by rw [HF.out, HR.out]), BW1.out.trans (p2.mono BW1.out.size)⟩
        have HR : Hid ((l.drop (k + 1)).all (Mp.sentB m) = l.all (Mp.sentB m)) := by show _ = _; rw [← HB3.out, H1.out, H2.out]; rfl
        go_wp2_with fail
        refine (ifMayV _ m af ai cf ci HMW1.out a2 _ c2 s2 R2'.out true H2).mono ?_
        rintro e w2 ⟨rfl, p2⟩
        have BW2 := hideT (BW1.out.trans (p2.mono BW1.out.size))
        have LW2 := hideT (LW1.out.below p2)
        clear p2 y0 y1 y2
        go_wp2_with fail
        go_roundw
        case rel => exact ⟨k + 1, by omega, by go_num, HR, BW2.out, LW2.out⟩
        case measure => simp [intOf]; omega
      · have hB3 := HB2.out
        rw [sentB_ne m _ _ (.inl hne)] at hB3
        have HB3 := hideT hB3
        clear hne hB3
        cases b1
        · have HR : Hid (l.all (Mp.sentB m) = false) := by show _ = _; rw [← HB3.out, H1.out]; rfl
          go_wp2_with fail
          refine (onMayV _ m af ai cf ci HMW.out a1 _ c1 _ R1.out false H1).mono ?_
          rintro e w1 ⟨rfl, p1⟩
          go_wp2_with fail
          go_ret
          exact ⟨ret_b (by rw [HF.out, HR.out]), BW.out.trans (p1.mono BW.out.size)⟩
        go_wp2_with fail
        refine (onMayV _ m af ai cf ci HMW.out a1 _ c1 _ R1.out true H1).mono ?_
        rintro e w1 ⟨rfl, p1⟩
        have BW1 := hideT (BW.out.trans (p1.mono BW.out.size))
        have LW1 := hideT (LW.out.below p1)
        have HMW1 := hideT (HM.out.below BW1.out)
        have R2' := hideT (crow_below R2.out BW1.out)
        have y0 : w1.cell? ⟨w.heap.size, 0, none⟩ = some (.slice af m.files.length cf) := LW1.out.cell 0
        have y1 : w1.cell? ⟨w.heap.size, 1, none⟩ = some (.slice ai m.items.length ci) := LW1.out.cell 1
        have y2 : w1.cell? ⟨wr.heap.size, 1, none⟩ = some (.slice a2 s2.length c2) := (LA.out.below p1).cell 1
        clear p1 d0 d1 x0 x1
        cases b2
        · have HR : Hid (l.all (Mp.sentB m) = false) := by show _ = _; rw [← HB3.out, H1.out, H2.out]; rfl
          go_wp2_with fail
          refine (ifMayV _ m af ai cf ci HMW1.out a2 _ c2 s2 R2'.out false H2).mono ?_
          rintro e w2 ⟨rfl, p2⟩
          go_wp2_with fail
          go_ret
          exact ⟨ret_b (by rw [HF.out, HR.out]), BW1.out.trans (p2.mono BW1.out.size)⟩
        have HR : Hid ((l.drop (k + 1)).all (Mp.sentB m) = l.all (Mp.sentB m)) := by show _ = _; rw [← HB3.out, H1.out, H2.out]; rfl
        go_wp2_with fail
        refine (ifMayV _ m af ai cf ci HMW1.out a2 _ c2 s2 R2'.out true H2).mono ?_
        rintro e w2 ⟨rfl, p2⟩
        have BW2 := hideT (BW1.out.trans (p2.mono BW1.out.size))
        have LW2 := hideT (LW1.out.below p2)
        clear p2 y0 y1 y2
        go_wp2_with fail
        go_roundw
        case rel => exact ⟨k + 1, by omega, by go_num, HR, BW2.out, LW2.out⟩
        case measure => simp [intOf]; omega
    · have HR : Hid (l.all (Mp.sentB m) = true) := by show _ = _; rw [← HB.out, Mp.drop_all (by have := HN.out; omega)]; rfl
      go_wp2_with fail
      go_ret
      exact ⟨ret_b (by rw [HF.out, HR.out]), HW.out.1⟩
end Go.Proofs.YtjfonpbnohbpfaaGreatDoor
/-
  Which items may be.
-/
set_option linter.unusedSimpArgs false
set_option linter.unusedVariables false
namespace Go.Proofs.YtjfonpbnohbpfaaGreatDoor
open Go.RowKit
set_option maxRecDepth 100000
theorem isKindV (k : Int) (w : World) (b : Bool) (h : Hid (Mp.kindB k = b)) :
    Calls Tryz.prog 84 #[.int .i64 k] w fun e w' => e = .returned (.bool b) ∧ w' = w := by
  rw [← h.out]
  exact isKindD k w
theorem ticksV (x : Mp.Item) (v5 v6 : Value) (w : World) (b : Bool) (h : Hid (Mp.ticksB x = b)) :
    Calls Tryz.prog 85 #[.agg #[.string x.id, .int .i64 x.kind, .string x.parent, .bool x.req, .int .i64 x.ticks, v5, v6]] w fun e w' => e = .returned (.bool b) ∧ Below w.heap.size w w' := by
  rw [← h.out]
  exact ticksD x v5 v6 w
theorem waitV (x : Mp.Item) (a5 : Option Addr) (c5 : Nat) (v6 : Value) (w : World) (b : Bool) (h : Hid (Mp.waitB x = b)) :
    Calls Tryz.prog 86 #[.agg #[.string x.id, .int .i64 x.kind, .string x.parent, .bool x.req, .int .i64 x.ticks, .slice a5 x.entry.length c5, v6]] w fun e w' => e = .returned (.bool b) ∧ Below w.heap.size w w' := by
  rw [← h.out]
  exact waitD x a5 c5 v6 w
theorem sentriesV (w : World) (m : Mp.Model) (af ai : Option Addr) (cf ci : Nat) (hm : ModelAt w af cf ai ci m) (ao : Option Addr) (n cap : Nat) (l : List Mp.Sent) (h : SRow w (.slice ao n cap) l) (b : Bool) (hb : Hid (Mp.sentsB m l = b)) :
    Calls Tryz.prog 87 #[.agg #[.slice af m.files.length cf, .slice ai m.items.length ci], .slice ao n cap] w fun e w' => e = .returned (.bool b) ∧ Below w.heap.size w w' := by
  rw [← hb.out]
  exact sentriesD w m af ai cf ci hm ao n cap l h
set_option maxHeartbeats 4000000 in
theorem itemsD (w : World) (m : Mp.Model) (af ai : Option Addr) (cf ci : Nat) (hm : ModelAt w af cf ai ci m) :
    Calls Tryz.prog 51 #[.agg #[.slice af m.files.length cf, .slice ai m.items.length ci]] w fun e w' => e = .returned (.bool (m.items.all (Mp.itemB m))) ∧ Below w.heap.size w w' := by
  obtain ⟨_, hil, hicap, b, o, ha, hc⟩ := irow_at hm.items
  have HC := hideT hc
  have HA := hideT ha
  have HM := hideT hm
  clear hc ha hm
  go_enter Tryz.func51, Tryz.ntmps51
  go_wp2_with fail
  go_loopw [8] (fun i wr => ∃ k : Nat, k ≤ m.items.length ∧ i = .int .i64 k ∧ Hid ((m.items.drop k).all (Mp.itemB m) = m.items.all (Mp.itemB m)) ∧ Hid (Below w.heap.size w wr ∧ Lies wr w.heap.size 25 #[.slice af m.files.length cf, .slice ai m.items.length ci])) (fun i _ => m.items.length - (intOf i).toNat)
  case atStart => exact ⟨0, by omega, rfl, rfl, (Below.refl _ _).alloc (Nat.le_refl _) _, Lies.new _ _ _⟩
  case round =>
    obtain ⟨k, hk, rfl, HB, HW⟩ := hrel
    have hsz := HW.out.2.lt
    by_cases hlt : k < m.items.length
    · obtain ⟨x, hx⟩ := Mp.at_lt (l := m.items) (k := k) hlt
      obtain ⟨a5, c5, a6, c6, I0⟩ := HC.out k _ hx
      have I1 := I0.turn (below_cell HW.out.1)
      have d0 := I1.c0
      have d1 := I1.c1
      have d2 := I1.c2
      have d3 := I1.c3
      have d4 := I1.c4
      have d5 := I1.c5
      have d6 := I1.c6
      obtain rfl := HA.out (by omega)
      have hB2 := HB.out
      rw [Mp.drop_at hx, List.all_cons, Mp.itemB] at hB2
      have HB2 := hideT hB2
      have SE := hideT I0.entry
      have SX := hideT I0.exit
      have hl5 := (srow_at I0.entry).2.1
      have hl6 := (srow_at I0.exit).2.1
      clear hx I1 I0 hB2
      have BA := hideT ((Below.refl wr.heap.size wr).alloc (Nat.le_refl _) (.cells #[.string x.id, .int .i64 x.kind, .string x.parent, .bool x.req, .int .i64 x.ticks, .slice a5 x.entry.length c5, .slice a6 x.exit.length c6] 31))
      have LA := hideT (Lies.new wr 31 #[.string x.id, .int .i64 x.kind, .string x.parent, .bool x.req, .int .i64 x.ticks, .slice a5 x.entry.length c5, .slice a6 x.exit.length c6])
      have BW := hideT (HW.out.1.trans (BA.out.mono HW.out.1.size))
      have LW := hideT (HW.out.2.below BA.out)
      obtain ⟨b1, H1⟩ : ∃ y, Hid (Mp.kindB x.kind = y) := ⟨_, rfl⟩
      obtain ⟨b2, H2⟩ : ∃ y, Hid (Mp.ticksB x = y) := ⟨_, rfl⟩
      obtain ⟨b3, H3⟩ : ∃ y, Hid (Mp.waitB x = y) := ⟨_, rfl⟩
      obtain ⟨b4, H4⟩ : ∃ y, Hid (Mp.sentsB m x.entry = y) := ⟨_, rfl⟩
      obtain ⟨b5, H5⟩ : ∃ y, Hid (Mp.sentsB m x.exit = y) := ⟨_, rfl⟩
      go_wp2_with fail
      refine (isKindV x.kind _ b1 H1).mono ?_
      rintro e w0 ⟨rfl, rfl⟩
      cases b1
      · have HR : Hid (m.items.all (Mp.itemB m) = false) := by show _ = _; rw [← HB2.out, H1.out]; rfl
        go_wp2_with fail
        go_ret
        exact ⟨ret_b HR.out.symm, BW.out⟩
      clear d0 d1 d2 d3 d4 d5 d6
      go_wp2_with fail
      refine (ticksV x _ _ _ b2 H2).mono ?_
      rintro e w1 ⟨rfl, p1⟩
      have BW1 := hideT (BW.out.trans (p1.mono BW.out.size))
      have LW1 := hideT (LW.out.below p1)
      have LA1 := hideT (LA.out.below p1)
      clear p1
      cases b2
      · have HR : Hid (m.items.all (Mp.itemB m) = false) := by show _ = _; rw [← HB2.out, H1.out, H2.out]; rfl
        go_wp2_with fail
        go_ret
        exact ⟨ret_b HR.out.symm, BW1.out⟩
      have d0 : w1.cell? ⟨wr.heap.size, 0, none⟩ = some (.string x.id) := LA1.out.cell 0
      have d1 : w1.cell? ⟨wr.heap.size, 1, none⟩ = some (.int .i64 x.kind) := LA1.out.cell 1
      have d2 : w1.cell? ⟨wr.heap.size, 2, none⟩ = some (.string x.parent) := LA1.out.cell 2
      have d3 : w1.cell? ⟨wr.heap.size, 3, none⟩ = some (.bool x.req) := LA1.out.cell 3
      have d4 : w1.cell? ⟨wr.heap.size, 4, none⟩ = some (.int .i64 x.ticks) := LA1.out.cell 4
      have d5 : w1.cell? ⟨wr.heap.size, 5, none⟩ = some (.slice a5 x.entry.length c5) := LA1.out.cell 5
      have d6 : w1.cell? ⟨wr.heap.size, 6, none⟩ = some (.slice a6 x.exit.length c6) := LA1.out.cell 6
      go_wp2_with fail
      refine (waitV x a5 c5 _ _ b3 H3).mono ?_
      rintro e w2 ⟨rfl, p2⟩
      have BW2 := hideT (BW1.out.trans (p2.mono BW1.out.size))
      have LW2 := hideT (LW1.out.below p2)
      have LA2 := hideT (LA1.out.below p2)
      clear p2 d0 d1 d2 d3 d4 d5 d6
      cases b3
      · have HR : Hid (m.items.all (Mp.itemB m) = false) := by show _ = _; rw [← HB2.out, H1.out, H2.out, H3.out]; rfl
        go_wp2_with fail
        go_ret
        exact ⟨ret_b HR.out.symm, BW2.out⟩
      have d5 : w2.cell? ⟨wr.heap.size, 5, none⟩ = some (.slice a5 x.entry.length c5) := LA2.out.cell 5
      have e0 : w2.cell? ⟨w.heap.size, 0, none⟩ = some (.slice af m.files.length cf) := LW2.out.cell 0
      have e1 : w2.cell? ⟨w.heap.size, 1, none⟩ = some (.slice (some ⟨b, o, none⟩) m.items.length ci) := LW2.out.cell 1
      go_wp2_with fail
      refine (sentriesV _ m af _ cf ci (HM.out.below BW2.out) a5 _ c5 _ (srow_below SE.out BW2.out) b4 H4).mono ?_
      rintro e w3 ⟨rfl, p3⟩
      have BW3 := hideT (BW2.out.trans (p3.mono BW2.out.size))
      have LW3 := hideT (LW2.out.below p3)
      have LA3 := hideT (LA2.out.below p3)
      clear p3 d5 e0 e1
      cases b4
      · have HR : Hid (m.items.all (Mp.itemB m) = false) := by show _ = _; rw [← HB2.out, H1.out, H2.out, H3.out, H4.out]; rfl
        go_wp2_with fail
        go_ret
        exact ⟨ret_b HR.out.symm, BW3.out⟩
      have d6 : w3.cell? ⟨wr.heap.size, 6, none⟩ = some (.slice a6 x.exit.length c6) := LA3.out.cell 6
      have e0 : w3.cell? ⟨w.heap.size, 0, none⟩ = some (.slice af m.files.length cf) := LW3.out.cell 0
      have e1 : w3.cell? ⟨w.heap.size, 1, none⟩ = some (.slice (some ⟨b, o, none⟩) m.items.length ci) := LW3.out.cell 1
      go_wp2_with fail
      refine (sentriesV _ m af _ cf ci (HM.out.below BW3.out) a6 _ c6 _ (srow_below SX.out BW3.out) b5 H5).mono ?_
      rintro e w4 ⟨rfl, p4⟩
      have BW4 := hideT (BW3.out.trans (p4.mono BW3.out.size))
      have LW4 := hideT (LW3.out.below p4)
      clear p4 d6 e0 e1
      cases b5
      · have HR : Hid (m.items.all (Mp.itemB m) = false) := by show _ = _; rw [← HB2.out, H1.out, H2.out, H3.out, H4.out, H5.out]; rfl
        go_wp2_with fail
        go_ret
        exact ⟨ret_b HR.out.symm, BW4.out⟩
      have HR : Hid ((m.items.drop (k + 1)).all (Mp.itemB m) = m.items.all (Mp.itemB m)) := by show _ = _; rw [← HB2.out, H1.out, H2.out, H3.out, H4.out, H5.out]; rfl
      go_wp2_with fail
      go_roundw
      case rel => exact ⟨k + 1, by omega, by go_num, HR, BW4.out, LW4.out⟩
      case measure => simp [intOf]; omega
    · have HR : Hid (m.items.all (Mp.itemB m) = true) := by show _ = _; rw [← HB.out, Mp.drop_all (by omega)]; rfl
      go_wp2_with fail
      go_ret
      exact ⟨ret_b HR.out.symm, HW.out.1⟩
end Go.Proofs.YtjfonpbnohbpfaaGreatDoor
/-
  Items within one another.
-/
set_option linter.unusedSimpArgs false
set_option linter.unusedVariables false
namespace Go.Proofs.YtjfonpbnohbpfaaGreatDoor
open Go.RowKit
set_option maxRecDepth 100000
theorem indexSV (w : World) (ao : Option Addr) (n cap : Nat) (l : List ByteArray) (s : ByteArray) (h : FRow w (.slice ao n cap) l) (z : Int) (hz : Hid (idxZ l s = z)) :
    Calls Tryz.prog 83 #[.slice ao n cap, .string s] w fun e w' => e = .returned (.int .i64 z) ∧ w' = w := by
  rw [← hz.out]
  exact indexS w ao n cap l s h
theorem idxZ_cases (l : List ByteArray) (s : ByteArray) : (idxZ l s = -1 ∧ Mp.idx l s = none) ∨ ∃ k : Nat, idxZ l s = k ∧ Mp.idx l s = some k ∧ k < l.length := by
  unfold idxZ
  cases h : Mp.idx l s with
  | none => exact .inl ⟨rfl, rfl⟩
  | some k =>
    obtain ⟨x, hx, _⟩ := Mp.find_some_inv h
    exact .inr ⟨k, rfl, rfl, (List.getElem?_eq_some_iff.1 hx).1⟩
/-- A row cut short is still owned. -/
theorem own_cut {w : World} {H : Nat} {e : TypeId} {z : Nat} {ad : Option Addr} {n cap : Nat} {xs : List Value} (h : w.ownsRow H e z (.slice ad n cap) n xs) (k : Nat) (hk : k ≤ n) : w.ownsRow H e z (.slice ad k cap) k (xs.take (k * z)) := by
  have hmul : k * z ≤ n * z := Nat.mul_le_mul_right _ hk
  have hlen := h.1
  refine ⟨by rw [List.length_take]; omega, ?_⟩
  rcases h.2 with ⟨h1, h0⟩ | ⟨g, cap', cur, h1, h2, h3, h4, h5, h6, h7⟩
  · cases h1
    exact .inl ⟨by rw [show k = 0 by omega], by omega⟩
  · cases h1
    exact .inr ⟨g, cap, cur, rfl, h2, h3, by omega, h5, h6, by rw [← h7, List.take_take, Nat.min_eq_left hmul]⟩
theorem open_next {op : List ByteArray} {p : Nat} {x : Mp.Item} {r : List Mp.Item} (h : Mp.idx op x.parent = some p) (h5 : ¬ 5 < p + 1) : Mp.nestF op (x :: r) = Mp.nestF (if x.kind = 1 then op.take (p + 1) ++ [x.id] else op.take (p + 1)) r := by
  rw [Mp.nestF, h]
  dsimp only
  rw [if_neg h5]
theorem own_one (w : World) (e : TypeId) (v : Value) : (w.alloc (.cells #[v] e)).ownsRow w.heap.size e 1 (.slice (some ⟨w.heap.size, 0, none⟩) 1 1) 1 [v] :=
  ⟨rfl, .inr ⟨w.heap.size, 1, #[v], rfl, Nat.le_refl _, Lies.new w e #[v], Nat.le_refl _, by decide, rfl, rfl⟩⟩
theorem nest_none {op : List ByteArray} {x : Mp.Item} {r : List Mp.Item} (h : Mp.idx op x.parent = none) : Mp.nestF op (x :: r) = false := by
  rw [Mp.nestF, h]
theorem nest_deep {op : List ByteArray} {p : Nat} {x : Mp.Item} {r : List Mp.Item} (h : Mp.idx op x.parent = some p) (h5 : 5 < p + 1) : Mp.nestF op (x :: r) = false := by
  rw [Mp.nestF, h]
  dsimp only
  rw [if_pos h5]
set_option maxHeartbeats 4000000 in
theorem nestD (w : World) (ao : Option Addr) (n cap : Nat) (l : List Mp.Item) (h : IRow w (.slice ao n cap) l) (h0 : 0 < n) (hz16 : n ≤ 1000) :
    Calls Tryz.prog 50 #[.slice ao n cap] w fun e w' => e = .returned (.bool (Mp.nestB l)) ∧ Below w.heap.size w w' := by
  obtain ⟨hn, hl, hcap, b, o, ha, hc⟩ := irow_at h
  obtain rfl := ha h0
  obtain ⟨y, r, rfl⟩ : ∃ y r, l = y :: r := by
    cases l with
    | nil => exact absurd hn (by simp; omega)
    | cons y r => exact ⟨y, r, rfl⟩
  obtain ⟨nr, rfl⟩ : ∃ nr, n = nr + 1 := ⟨n - 1, by omega⟩
  have HN : Hid (nr = r.length) := by show _ = _; simp only [List.length_cons] at hn; omega
  have HF : Hid (Mp.nestB (y :: r) = Mp.nestF [y.id] r) := rfl
  have HC : Hid (∀ (i : Nat) x, r[i]? = some x → ∃ a5 c5 a6 c6, ItemAt w b (o + 7 + i * 7) x a5 c5 a6 c6) := by
    intro i x hx
    have := hc (i + 1) x (by rw [List.getElem?_cons_succ]; exact hx)
    rwa [show o + (i + 1) * 7 = o + 7 + i * 7 by omega] at this
  obtain ⟨_, _, _, _, Y0⟩ := hc 0 y rfl
  have y0 := Y0.c0
  rw [Nat.zero_mul, Nat.add_zero] at y0
  have HY := hideT Y0.zid
  obtain ⟨i0, hi0, hz0, hz1, hz2⟩ := info_parts infoS
  have BA0 := hideT ((Below.refl w.heap.size w).alloc (Nat.le_refl _) (.cells #[.string y.id] 9))
  have OA0 := hideT (own_one w 9 (.string y.id))
  clear hn hc ha h Y0 h0
  by_cases hc1 : cap = 1
  · subst hc1
    obtain rfl : nr = 0 := by omega
    have HR : Hid (Mp.nestB (y :: r) = true) := by
      show _ = _
      rw [HF.out, List.eq_nil_of_length_eq_zero HN.out.symm]
      rfl
    go_enter Tryz.func50, Tryz.ntmps50
    go_wp2_with fail
    refine wp_loop_rounds 1 ?_
    rw [rounds_succ]
    go_wp2_with fail
    go_ret
    exact ⟨ret_b HR.out.symm, BA0.out⟩
  have hc2 : ¬ cap - 1 = 0 := by omega
  go_enter Tryz.func50, Tryz.ntmps50
  go_wp2_with fail
  go_loopw [3, 15] (fun x i wr => ∃ (k : Nat) (op : List ByteArray), k ≤ nr ∧ op.length ≤ k + 1 ∧ i = .int .i64 k ∧ Hid (Below w.heap.size w wr) ∧ Hid (wr.ownsRow w.heap.size 9 1 x op.length (op.map Value.string)) ∧ Hid (∀ s ∈ op, s.size ≤ 140737488355328) ∧ Hid (Mp.nestF op (r.drop k) = Mp.nestF [y.id] r)) (fun _ i _ => nr - (intOf i).toNat)
  case atStart => exact ⟨0, [y.id], by omega, by simp, rfl, BA0.out, OA0.out, (fun s hs => by rw [List.mem_singleton.1 hs]; exact HY.out), rfl⟩
  case round =>
    obtain ⟨k, op, hk, hop, rfl, HW, O1, HS, HB⟩ := hrel
    obtain ⟨oad, ocap, ho⟩ := slice_form O1.out
    subst ho
    have hocap := (own_capM O1.out).2
    by_cases hlt : k < nr
    · obtain ⟨x, hx⟩ := Mp.at_lt (l := r) (k := k) (by have := HN.out; omega)
      obtain ⟨a5, c5, a6, c6, I0⟩ := HC.out k _ hx
      have I1 := I0.turn (below_cell HW.out)
      have d0 := I1.c0
      have d1 := I1.c1
      have d2 := I1.c2
      have d3 := I1.c3
      have d4 := I1.c4
      have d5 := I1.c5
      have d6 := I1.c6
      have HXZ := hideT I0.zid
      have hB2 := HB.out
      rw [Mp.drop_at hx] at hB2
      have HB2 := hideT hB2
      clear hx I1 I0 hB2
      have BA := hideT ((Below.refl wr.heap.size wr).alloc (Nat.le_refl _) (.cells #[.string x.id, .int .i64 x.kind, .string x.parent, .bool x.req, .int .i64 x.ticks, .slice a5 x.entry.length c5, .slice a6 x.exit.length c6] 31))
      have BW := hideT (HW.out.trans (BA.out.mono HW.out.size))
      have HFR := hideT (frow_of_own (O1.out.alloc (.cells #[.string x.id, .int .i64 x.kind, .string x.parent, .bool x.req, .int .i64 x.ticks, .slice a5 x.entry.length c5, .slice a6 x.exit.length c6] 31)) rfl (by omega) HS.out)
      rcases idxZ_cases op x.parent with ⟨hi, hio⟩ | ⟨p, hi, hio, hpl⟩
      · have HI := hideT hi
        have HR : Hid (Mp.nestF [y.id] r = false) := by show _ = _; rw [← HB2.out]; exact nest_none hio
        clear hi hio
        go_wp2_with fail
        refine (indexSV _ oad op.length ocap op x.parent HFR.out (-1) HI).mono ?_
        rintro e w1 ⟨rfl, rfl⟩
        go_wp2_with fail
        go_ret
        exact ⟨ret_b (by rw [HF.out, HR.out]), BW.out⟩
      have HI := hideT hi
      have HIO := hideT hio
      clear hi hio
      by_cases h5 : 5 < p + 1
      · have HR : Hid (Mp.nestF [y.id] r = false) := by show _ = _; rw [← HB2.out]; exact nest_deep HIO.out h5
        have t5 : (5 : Int) < (p : Int) + 1 := by omega
        have tp : ¬ (p : Int) < 0 := by omega
        go_wp2_with fail
        refine (indexSV _ oad op.length ocap op x.parent HFR.out p HI).mono ?_
        rintro e w1 ⟨rfl, rfl⟩
        go_wp2_with fail
        go_ret
        exact ⟨ret_b (by rw [HF.out, HR.out]), BW.out⟩
      have HNX : Hid (Mp.nestF (if x.kind = 1 then op.take (p + 1) ++ [x.id] else op.take (p + 1)) (r.drop (k + 1)) = Mp.nestF [y.id] r) := by show _ = _; rw [← HB2.out]; exact (open_next HIO.out h5).symm
      have t5 : ¬ (5 : Int) < (p : Int) + 1 := by omega
      have tp : ¬ (p : Int) < 0 := by omega
      have t6 : (0 : Int) ≤ (p : Int) + 1 := by omega
      have t7 : (p : Int) + 1 ≤ (ocap : Int) := by omega
      have htl : (op.take (p + 1)).length = p + 1 := by rw [List.length_take]; omega
      have HTL := hideT htl
      have OC := hideT (own_cut O1.out (p + 1) (by omega))
      have hST : ∀ s ∈ op.take (p + 1), s.size ≤ 140737488355328 := fun s hs => HS.out s (List.mem_of_mem_take hs)
      have HST := hideT hST
      have OC2 : Hid (wr.ownsRow w.heap.size 9 1 (.slice oad (p + 1) ocap) (p + 1) ((op.take (p + 1)).map Value.string)) := by
        have := OC.out
        rw [Nat.mul_one, ← List.map_take] at this
        exact this
      clear htl hST OC
      by_cases h1 : x.kind = 1
      · have hNX := HNX.out
        rw [if_pos h1] at hNX
        have HNX2 := hideT hNX
        have t8 : (x.kind == 1) = true := beq_iff_eq.2 h1
        clear hNX HNX h1
        go_wp2_with fail
        refine (indexSV _ oad op.length ocap op x.parent HFR.out p HI).mono ?_
        rintro e w1 ⟨rfl, rfl⟩
        go_wp2_with (first | (at_builtin; refine wpList_append_lies _ (by rfl) _ _ _ (by rfl) w.heap.size 9 i0 _ 1 16 Tryz.underlying22 hi0 hz0 hz1 hz2 rfl (by omega) (.slice oad (p + 1) ocap) (p + 1) ((op.take (p + 1)).map Value.string) (by rfl) ((OC2.out.alloc _).alloc _) ⟨wr.heap.size + 1, 0, none⟩ 1 1 [.string x.id] (by rfl) (by rfl) (news2 wr _ #[.string x.id] 9) (by simp [Value.oneCell']) (by omega) (by unfold maxLen; omega) (by omega) (by have := HW.out.size; simp; omega) (wr.heap.size + 2) (by simp) ?_; intro gb cap2 w3 hown hgrow hat hlt3) | fail)
        have bA := BA.out.alloc (by simp) (.cells #[.string x.id] 9)
        have B3 : Hid (Below w.heap.size w w3) := Keep.below (HW.out.trans (bA.mono HW.out.size)) (Keep.grown hgrow) (fun i hi e => by have := (own_lt OC2.out e).2; omega)
        refine ⟨⟨k + 1, op.take (p + 1) ++ [x.id], by omega, by rw [List.length_append, HTL.out]; simp only [List.length_cons, List.length_nil]; omega, by go_num, B3, ?_, ?_, HNX2⟩, ?_⟩
        · show World.ownsRow _ _ _ _ _ _ _
          rw [List.length_append, HTL.out, List.map_append]
          exact hown
        · intro s hs
          rcases List.mem_append.1 hs with hs | hs
          · exact HST.out s hs
          · rw [List.mem_singleton.1 hs]
            exact HXZ.out
        · first | omega | (simp [intOf]; omega)
      · have hNX := HNX.out
        rw [if_neg h1] at hNX
        have HNX2 := hideT hNX
        have t8 : (x.kind == 1) = false := beq_eq_false_iff_ne.2 h1
        clear hNX HNX h1
        go_wp2_with fail
        refine (indexSV _ oad op.length ocap op x.parent HFR.out p HI).mono ?_
        rintro e w1 ⟨rfl, rfl⟩
        go_wp2_with fail
        refine ⟨⟨k + 1, op.take (p + 1), by omega, by rw [HTL.out]; omega, by go_num, BW, ?_, HST, HNX2⟩, ?_⟩
        · show World.ownsRow _ _ _ _ _ _ _
          rw [HTL.out]
          exact OC2.out.alloc _
        · first | omega | (simp [intOf]; omega)
    · have HR : Hid (Mp.nestF [y.id] r = true) := by show _ = _; rw [← HB.out, Mp.drop_all (by have := HN.out; omega), Mp.nestF]
      go_wp2_with fail
      go_ret
      exact ⟨ret_b (by rw [HF.out, HR.out]), HW.out⟩
end Go.Proofs.YtjfonpbnohbpfaaGreatDoor
/-
  Is: whether a model may be.
-/
set_option linter.unusedSimpArgs false
set_option linter.unusedVariables false
namespace Go.Proofs.YtjfonpbnohbpfaaGreatDoor
open Go.RowKit
set_option maxRecDepth 100000
theorem filesV (w : World) (ao : Option Addr) (n cap : Nat) (l : List ByteArray) (h : FRow w (.slice ao n cap) l) (b : Bool) (hb : Hid (Mp.filesB l = b)) :
    Calls Tryz.prog 47 #[.slice ao n cap] w fun e w' => e = .returned (.bool b) ∧ w' = w := by
  rw [← hb.out]
  exact filesD w ao n cap l h
theorem idsV (w : World) (ao : Option Addr) (n cap : Nat) (l : List Mp.Item) (h : IRow w (.slice ao n cap) l) (b : Bool) (hb : Hid (Mp.idsB l = b)) :
    Calls Tryz.prog 48 #[.slice ao n cap] w fun e w' => e = .returned (.bool b) ∧ Below w.heap.size w w' := by
  rw [← hb.out]
  exact idsD w ao n cap l h
theorem isPlanV (x : Mp.Item) (a5 : Option Addr) (c5 : Nat) (a6 : Option Addr) (c6 : Nat) (w : World) (b : Bool) (hb : Hid (Mp.planB x = b)) :
    Calls Tryz.prog 49 #[.agg #[.string x.id, .int .i64 x.kind, .string x.parent, .bool x.req, .int .i64 x.ticks, .slice a5 x.entry.length c5, .slice a6 x.exit.length c6]] w fun e w' => e = .returned (.bool b) ∧ Below w.heap.size w w' := by
  rw [← hb.out]
  exact isPlanD x a5 c5 a6 c6 w
theorem nestV (w : World) (ao : Option Addr) (n cap : Nat) (l : List Mp.Item) (h : IRow w (.slice ao n cap) l) (h0 : 0 < n) (hz16 : n ≤ 1000) (b : Bool) (hb : Hid (Mp.nestB l = b)) :
    Calls Tryz.prog 50 #[.slice ao n cap] w fun e w' => e = .returned (.bool b) ∧ Below w.heap.size w w' := by
  rw [← hb.out]
  exact nestD w ao n cap l h h0 hz16
theorem ids_len {l : List Mp.Item} (h : Mp.idsB l = true) : 1 ≤ l.length ∧ l.length ≤ 16 := by
  unfold Mp.idsB at h
  simp only [Bool.and_eq_true, decide_eq_true_eq] at h
  exact h.1
set_option maxHeartbeats 4000000 in
theorem isD (w : World) (m : Mp.Model) (af ai : Option Addr) (cf ci : Nat) (hm : ModelAt w af cf ai ci m) :
    Calls Tryz.prog 19 #[.agg #[.slice af m.files.length cf, .slice ai m.items.length ci]] w fun e w' => e = .returned (.bool (Mp.isB m)) ∧ Below w.heap.size w w' := by
  obtain ⟨_, hil, hicap, b, o, ha, hc⟩ := irow_at hm.items
  have HC := hideT hc
  have HA := hideT ha
  have HM := hideT hm
  clear hc ha hm
  have B0 := hideT ((Below.refl w.heap.size w).alloc (Nat.le_refl _) (.cells #[.slice af m.files.length cf, .slice ai m.items.length ci] 25))
  have L0 := hideT (Lies.new w 25 #[.slice af m.files.length cf, .slice ai m.items.length ci])
  obtain ⟨b1, H1⟩ : ∃ y, Hid (Mp.filesB m.files = y) := ⟨_, rfl⟩
  obtain ⟨b2, H2⟩ : ∃ y, Hid (Mp.idsB m.items = y) := ⟨_, rfl⟩
  obtain ⟨b4, H4⟩ : ∃ y, Hid (Mp.nestB m.items = y) := ⟨_, rfl⟩
  go_enter Tryz.func19, Tryz.ntmps19
  go_wp2_with fail
  refine (filesV _ af _ cf _ (frow_below HM.out.files B0.out) b1 H1).mono ?_
  rintro e w0 ⟨rfl, rfl⟩
  cases b1
  · have HR : Hid (Mp.isB m = false) := by show _ = _; unfold Mp.isB; rw [H1.out]; rfl
    go_wp2_with fail
    go_ret
    exact ⟨ret_b HR.out.symm, B0.out⟩
  go_wp2_with fail
  refine (idsV _ ai _ ci _ (irow_below HM.out.items B0.out) b2 H2).mono ?_
  rintro e w1 ⟨rfl, p1⟩
  have B1 := hideT (B0.out.trans (p1.mono B0.out.size))
  have L1 := hideT (L0.out.below p1)
  clear p1
  cases b2
  · have HR : Hid (Mp.isB m = false) := by show _ = _; unfold Mp.isB; rw [H1.out, H2.out]; rfl
    go_wp2_with fail
    go_ret
    exact ⟨ret_b HR.out.symm, B1.out⟩
  obtain ⟨hl1, hl2⟩ := ids_len H2.out
  obtain ⟨x, hx⟩ := Mp.at_lt (l := m.items) (k := 0) (by omega)
  obtain ⟨a5, c5, a6, c6, I0⟩ := HC.out 0 x hx
  obtain rfl := HA.out (by omega)
  have HX : Hid (Mp.headB m.items = Mp.planB x) := by
    show _ = _
    have := Mp.drop_at hx
    rw [List.drop_zero] at this
    rw [this]
    rfl
  have I1 := I0.turn (below_cell B1.out)
  rw [Nat.zero_mul, Nat.add_zero] at I1
  have d0 := I1.c0
  have d1 := I1.c1
  have d2 := I1.c2
  have d3 := I1.c3
  have d4 := I1.c4
  have d5 := I1.c5
  have d6 := I1.c6
  clear I0 I1 hx
  obtain ⟨b3, H3⟩ : ∃ y, Hid (Mp.planB x = y) := ⟨_, rfl⟩
  have x1 : w1.cell? ⟨w.heap.size, 1, none⟩ = some (.slice (some ⟨b, o, none⟩) m.items.length ci) := L1.out.cell 1
  have t1 : (0 : Int) < (m.items.length : Int) := by omega
  go_wp2_with fail
  refine (isPlanV x a5 c5 a6 c6 _ b3 H3).mono ?_
  rintro e w2 ⟨rfl, p2⟩
  have B2 := hideT (B1.out.trans (p2.mono B1.out.size))
  have L2 := hideT (L1.out.below p2)
  clear p2 d0 d1 d2 d3 d4 d5 d6 x1
  cases b3
  · have HR : Hid (Mp.isB m = false) := by show _ = _; unfold Mp.isB; rw [H1.out, H2.out, HX.out, H3.out]; rfl
    go_wp2_with fail
    go_ret
    exact ⟨ret_b HR.out.symm, B2.out⟩
  have x1 : w2.cell? ⟨w.heap.size, 1, none⟩ = some (.slice (some ⟨b, o, none⟩) m.items.length ci) := L2.out.cell 1
  go_wp2_with fail
  refine (nestV _ _ _ ci _ (irow_below HM.out.items B2.out) (by omega) (by omega) b4 H4).mono ?_
  rintro e w3 ⟨rfl, p3⟩
  have B3 := hideT (B2.out.trans (p3.mono B2.out.size))
  have L3 := hideT (L2.out.below p3)
  clear p3 x1
  cases b4
  · have HR : Hid (Mp.isB m = false) := by show _ = _; unfold Mp.isB; rw [H1.out, H2.out, HX.out, H3.out, H4.out]; rfl
    go_wp2_with fail
    go_ret
    exact ⟨ret_b HR.out.symm, B3.out⟩
  have HR : Hid (Mp.isB m = m.items.all (Mp.itemB m)) := by show _ = _; unfold Mp.isB; rw [H1.out, H2.out, HX.out, H3.out, H4.out]; rfl
  have x0 : w3.cell? ⟨w.heap.size, 0, none⟩ = some (.slice af m.files.length cf) := L3.out.cell 0
  have x1 : w3.cell? ⟨w.heap.size, 1, none⟩ = some (.slice (some ⟨b, o, none⟩) m.items.length ci) := L3.out.cell 1
  go_wp2_with fail
  refine (itemsD _ m af _ cf ci (HM.out.below B3.out)).mono ?_
  rintro e w4 ⟨rfl, p4⟩
  go_wp2_with fail
  go_ret
  exact ⟨ret_b HR.out.symm, B3.out.trans (p4.mono B3.out.size)⟩
theorem isVV (w : World) (m : Mp.Model) (af ai : Option Addr) (cf ci nf ni : Nat) (hm : ModelAt w af cf ai ci m) (hf : m.files.length = nf) (hi : m.items.length = ni) (b : Bool) (hb : Hid (Mp.isB m = b)) :
    Calls Tryz.prog 19 #[.agg #[.slice af nf cf, .slice ai ni ci]] w fun e w' => e = .returned (.bool b) ∧ Below w.heap.size w w' := by
  rw [← hb.out, ← hf, ← hi]
  exact isD w m af ai cf ci hm
end Go.Proofs.YtjfonpbnohbpfaaGreatDoor
/-
  The law's own question: what a milestone does.
-/
set_option linter.unusedSimpArgs false
set_option linter.unusedVariables false
namespace Go.Proofs.YtjfonpbnohbpfaaGreatDoor
open Go.RowKit
set_option maxRecDepth 100000
theorem own_of_lies {w : World} {H b : Nat} {e : TypeId} {C : Array Value} {n z : Nat} (h : Lies w b e C) (hH : H ≤ b) (hs : C.size = n * z) (hn : n ≤ 10000000000000) : w.ownsRow H e z (.slice (some ⟨b, 0, none⟩) n n) n C.toList :=
  ⟨by rw [Array.length_toList]; exact hs, .inr ⟨b, n, C, rfl, hH, h, Nat.le_refl _, by unfold maxLen; omega, hs, by rw [← hs]; exact List.take_of_length_le (by rw [Array.length_toList]; exact Nat.le_refl _)⟩⟩
/-- Items without sentries in a row that is owned. -/
theorem irow_bare {w : World} {H : Nat} {e : TypeId} {v : Value} {n : Nat} {L : List Mp.Item} (h : w.ownsRow H e 7 v n (L.map fun x => itemC x nilS nilS).flatten) (hn : n = L.length) (hl : n ≤ 10000000000000) (hz : ∀ x ∈ L, x.id.size ≤ 140737488355328 ∧ x.parent.size ≤ 140737488355328 ∧ x.entry = [] ∧ x.exit = []) : IRow w v L := by
  subst hn
  refine rowR_of_own h hl (by rw [List.length_map]) (fun x hx => ?_) (fun i x cs hx hcs => ?_)
  · obtain ⟨s, _, rfl⟩ := List.mem_map.1 hx
    rfl
  · rw [List.getElem?_map, hx] at hcs
    obtain rfl := Option.some.inj hcs
    obtain ⟨h1, h2, h3, h4⟩ := hz x (List.mem_of_getElem? hx)
    exact ⟨nilS, nilS, rfl, ⟨h1, h2⟩, by rw [h3]; exact rowR_nil w, by rw [h4]; exact rowR_nil w⟩
def mA : Mp.Model := ⟨[], [⟨⟨#[97]⟩, 1, Mp.e0, false, 0, [], []⟩]⟩
theorem is_mA : Mp.isB mA = true := by kernel_rfl
theorem is_m0 : Mp.isB ⟨[], []⟩ = false := by kernel_rfl
end Go.Proofs.YtjfonpbnohbpfaaGreatDoor
/-
  A model that the law itself builds, item by item.
-/
set_option linter.unusedSimpArgs false
set_option linter.unusedVariables false
namespace Go.Proofs.YtjfonpbnohbpfaaGreatDoor
open Go.RowKit
set_option maxRecDepth 100000
def flatI (L : List Mp.Item) : List Value := (L.map fun x => itemC x nilS nilS).flatten
theorem flatI_app (L M : List Mp.Item) : flatI (L ++ M) = flatI L ++ flatI M := by unfold flatI; rw [List.map_append, List.flatten_append]
def pI : Mp.Item := ⟨⟨#[112]⟩, 1, Mp.e0, false, 0, [], []⟩
def fF : List ByteArray := [⟨#[102]⟩]
/-- The law's model at block B: its two rows are the law's own. -/
structure MB (w : World) (H B : Nat) (fv iv : Value) (fs : List ByteArray) (L : List Mp.Item) : Prop where
  lies : Lies w B 25 #[fv, iv]
  files : w.ownsRow H 9 1 fv fs.length (fs.map Value.string)
  items : w.ownsRow H 31 7 iv L.length (flatI L)
theorem MB.below {w w' : World} {H B : Nat} {fv iv : Value} {fs : List ByteArray} {L : List Mp.Item} (h : MB w H B fv iv fs L) (hb : Below w.heap.size w w') : MB w' H B fv iv fs L :=
  ⟨h.lies.below hb, own_below h.files hb, own_below h.items hb⟩
theorem MB.c0 {w : World} {H B : Nat} {fv iv : Value} {fs : List ByteArray} {L : List Mp.Item} (h : MB w H B fv iv fs L) : w.cell? ⟨B, 0, none⟩ = some fv ∧ w.cell? ⟨B, 1, none⟩ = some iv ∧ w.frozen? ⟨B, 0, none⟩ = false ∧ w.frozen? ⟨B, 1, none⟩ = false :=
  ⟨h.lies.cell 0, h.lies.cell 1, h.lies.free 0, h.lies.free 1⟩
/-- Behind an append to the items all else is as it was. -/
theorem MB.grewI {w w1 w3 : World} {H B : Nat} {fv iv : Value} {fs : List ByteArray} {L : List Mp.Item} (h : MB w H B fv iv fs L) (hb : Below w.heap.size w w1) (hg : w1.grownBy w3 iv.ownBlock) : Lies w3 B 25 #[fv, iv] ∧ w3.ownsRow H 9 1 fv fs.length (fs.map Value.string) := by
  have h1 := h.below hb
  refine ⟨h1.lies.keep (Keep.grown hg) (own_ne h1.items h1.lies (by decide)), own_keep h1.files fun g hv => hg.block g (own_lt h1.files hv).1 fun e => ?_⟩
  exact own_ne2 h1.items h1.files (by decide) g e.symm hv
theorem MB.grewF {w w1 w3 : World} {H B : Nat} {fv iv : Value} {fs : List ByteArray} {L : List Mp.Item} (h : MB w H B fv iv fs L) (hb : Below w.heap.size w w1) (hg : w1.grownBy w3 fv.ownBlock) : Lies w3 B 25 #[fv, iv] ∧ w3.ownsRow H 31 7 iv L.length (flatI L) := by
  have h1 := h.below hb
  refine ⟨h1.lies.keep (Keep.grown hg) (own_ne h1.files h1.lies (by decide)), own_keep h1.items fun g hv => hg.block g (own_lt h1.items hv).1 fun e => ?_⟩
  exact own_ne2 h1.files h1.items (by decide) g e.symm hv
theorem own_off {w : World} {H : Nat} {e : TypeId} {z : Nat} {v : Value} {n : Nat} {xs : List Value} {B : Nat} {t : TypeId} {C : Array Value} (h : w.ownsRow H e z v n xs) (hl : Lies w B t C) (ht : t ≠ e) (k : Nat) (u : Value) : (w.setCell ⟨B, k, none⟩ u).ownsRow H e z v n xs :=
  own_keep h fun g hv => Below.heap_setCell _ _ _ _ (fun e' => own_ne h hl ht (hv.trans (by rw [e'])))
theorem MB.putI {w3 : World} {H B : Nat} {fv iv iv' : Value} {fs : List ByteArray} {L' : List Mp.Item} {n : Nat} {xs : List Value} (hl : Lies w3 B 25 #[fv, iv]) (hf : w3.ownsRow H 9 1 fv fs.length (fs.map Value.string)) (hi : w3.ownsRow H 31 7 iv' n xs) (hn : n = L'.length) (hx : xs = flatI L') : MB (w3.setCell ⟨B, 1, none⟩ iv') H B fv iv' fs L' := by
  subst hn
  subst hx
  exact ⟨hl.set 1 iv', own_off hf hl (by decide) _ _, own_off hi hl (by decide) _ _⟩
theorem MB.putF {w3 : World} {H B : Nat} {fv iv fv' : Value} {fs' : List ByteArray} {L : List Mp.Item} {n : Nat} {xs : List Value} (hl : Lies w3 B 25 #[fv, iv]) (hi : w3.ownsRow H 31 7 iv L.length (flatI L)) (hf : w3.ownsRow H 9 1 fv' n xs) (hn : n = fs'.length) (hx : xs = fs'.map Value.string) : MB (w3.setCell ⟨B, 0, none⟩ fv') H B fv' iv fs' L := by
  subst hn
  subst hx
  exact ⟨hl.set 0 fv', own_off hf hl (by decide) _ _, own_off hi hl (by decide) _ _⟩
/-- Its rows as a model's. -/
theorem MB.at {w : World} {H B : Nat} {fa ia : Option Addr} {nf ni fc ic : Nat} {fs : List ByteArray} {L : List Mp.Item} (h : MB w H B (.slice fa nf fc) (.slice ia ni ic) fs L) (hf : fs.length ≤ 1000) (hi : L.length ≤ 1000) (hfz : ∀ s ∈ fs, s.size ≤ 1000) (hiz : ∀ x ∈ L, x.id.size ≤ 1000 ∧ x.parent.size ≤ 1000 ∧ x.entry = [] ∧ x.exit = []) : nf = fs.length ∧ ni = L.length ∧ ModelAt w fa fc ia ic ⟨fs, L⟩ := by
  obtain ⟨rfl, _⟩ := own_capM h.files
  obtain ⟨rfl, _⟩ := own_capM h.items
  refine ⟨rfl, rfl, frow_of_own h.files rfl (by omega) (fun s hs => by have := hfz s hs; omega), irow_bare h.items rfl (by omega) (fun x hx => ?_)⟩
  obtain ⟨h1, h2, h3, h4⟩ := hiz x hx
  exact ⟨by omega, by omega, h3, h4⟩
end Go.Proofs.YtjfonpbnohbpfaaGreatDoor
/-
  What the document asks of models: plain functions.
-/
set_option linter.unusedVariables false
namespace Go.Proofs.YtjfonpbnohbpfaaGreatDoor.Mp
def parAt (l : List Item) (i : Nat) : BA := match l[i]? with
  | some x => x.parent
  | none => e0
def idAt (l : List Item) (i : Nat) : BA := match l[i]? with
  | some x => x.id
  | none => e0
def kindAt (l : List Item) (i : Nat) : Int := match l[i]? with
  | some x => x.kind
  | none => 0
def upZ (l : List Item) (i : Int) : Int := placeZ l (parAt l i.toNat)
def depthG (l : List Item) : Nat → Int → Nat → Int
  | 0, _, _ => -1
  | f + 1, i, n => if 0 < i then depthG l f (upZ l i) (n + 1) else if i < 0 then -1 else n
def depthZ (l : List Item) (i : Int) : Int := depthG l (l.length + 1) i 0
def withinG (l : List Item) (s : BA) : Nat → Int → Bool
  | 0, _ => false
  | f + 1, i => if i < 0 then false else if idAt l i.toNat = s then true else withinG l s f (upZ l i)
def withinZ (l : List Item) (i : Int) (s : BA) : Bool := withinG l s (l.length + 1) i
def nestedR (l : List Item) (i : Nat) (x : Item) : Bool :=
  !decide (x.parent = e0) && decide (0 ≤ placeZ l x.parent) && decide (placeZ l x.parent < i) && decide (kindAt l (placeZ l x.parent).toNat = 1) && withinZ l ((i : Int) - 1) x.parent && decide (1 ≤ depthZ l i) && decide (depthZ l i ≤ 5)
def itemR (l : List Item) (i : Nat) (x : Item) : Bool :=
  isN x.id && decide (placeZ l x.id = i) && kindB x.kind && ticksB x && waitB x && (if i = 0 then planB x else nestedR l i x)
def itemsF (l : List Item) : Nat → List Item → Bool
  | _, [] => true
  | k, x :: r => itemR l k x && itemsF l (k + 1) r
def bothS (m : Model) (x : Item) : Bool := sentsB m x.entry && sentsB m x.exit
def isR (m : Model) : Bool := decide (m.files.length ≤ 6) && decide (1 ≤ m.items.length) && decide (m.items.length ≤ 16) && namesF [] m.files && itemsF m.items 0 m.items && m.items.all (bothS m)
theorem placeZ_ge (l : List Item) (s : BA) : -1 ≤ placeZ l s := by
  unfold placeZ
  cases placeO l s with
  | none => exact Int.le_refl _
  | some k => show (-1 : Int) ≤ k; omega
theorem placeZ_lt (l : List Item) (s : BA) : placeZ l s < l.length ∨ placeZ l s = -1 := by
  unfold placeZ
  cases h : placeO l s with
  | none => exact .inr rfl
  | some k =>
    obtain ⟨x, hx, _⟩ := find_some_inv h
    have := (List.getElem?_eq_some_iff.1 hx).1
    exact .inl (by show (k : Int) < _; omega)
theorem upZ_ge (l : List Item) (i : Int) : -1 ≤ upZ l i := placeZ_ge _ _
theorem upZ_lt (l : List Item) (i : Int) (h : 0 < l.length) : upZ l i < l.length := by
  rcases placeZ_lt l (parAt l i.toNat) with h1 | h1
  · exact h1
  · unfold upZ
    omega
end Go.Proofs.YtjfonpbnohbpfaaGreatDoor.Mp
/-
  Kids: the program's and the document's; rows of numbers.
-/
set_option linter.unusedSimpArgs false
set_option linter.unusedVariables false
namespace Go.Proofs.YtjfonpbnohbpfaaGreatDoor
open Go.RowKit
set_option maxRecDepth 100000
namespace Mp
/-- The places of all that has a parent. -/
def kidsN (l : List Item) (s : BA) (n : Nat) : List Nat := (List.range n).filter fun i => decide (parAt l i = s)
theorem kidsN_yes {l : List Item} {s : BA} {k : Nat} {x : Item} (h : l[k]? = some x) (e : x.parent = s) : kidsN l s (k + 1) = kidsN l s k ++ [k] := by
  unfold kidsN
  rw [List.range_succ, List.filter_append]
  have hp : parAt l k = s := by unfold parAt; rw [h]; exact e
  simp [hp]
theorem kidsN_no {l : List Item} {s : BA} {k : Nat} {x : Item} (h : l[k]? = some x) (e : x.parent ≠ s) : kidsN l s (k + 1) = kidsN l s k := by
  unfold kidsN
  rw [List.range_succ, List.filter_append]
  have hp : ¬ parAt l k = s := by unfold parAt; rw [h]; exact e
  simp [hp]
theorem kidsN_len (l : List Item) (s : BA) (n : Nat) : (kidsN l s n).length ≤ n := by
  unfold kidsN
  have := List.length_filter_le (fun i => decide (parAt l i = s)) (List.range n)
  rwa [List.length_range] at this
end Mp
def intR (w : World) (cs : List Value) (i : Nat) : Prop := cs = [.int .i64 (i : Int)]
abbrev NRowM := RowR 1 intR
theorem nrow_turn {w w' : World} {v : Value} {l : List Nat} (h : NRowM w v l) (hc : ∀ a c, w.cell? a = some c → w'.cell? a = some c) : NRowM w' v l := RowR.turn h (fun _ _ _ h => h) hc
theorem nrow_below {w w' : World} {v : Value} {l : List Nat} (h : NRowM w v l) (hb : Below w.heap.size w w') : NRowM w' v l := nrow_turn h (below_cell hb)
theorem nrow_at {w : World} {ao : Option Addr} {n cap : Nat} {l : List Nat} (h : NRowM w (.slice ao n cap) l) : n = l.length ∧ n ≤ 10000000000000 ∧ n ≤ cap ∧ ∃ b o, (0 < n → ao = some ⟨b, o, none⟩) ∧ ∀ (i x : Nat), l[i]? = some x → w.cell? ⟨b, o + i, none⟩ = some (.int .i64 (x : Int)) := by
  obtain ⟨b, o, ⟨a1, c1, e, hcp, ha⟩, h2, h3⟩ := h
  cases e
  refine ⟨rfl, h2, hcp, b, o, ha, fun i s hs => ?_⟩
  obtain ⟨cs, _, rfl, hc⟩ := h3 i s hs
  have := hc 0 _ rfl
  rw [Nat.mul_one] at this
  exact this
abbrev iV (i : Nat) : Value := .int .i64 (i : Int)
theorem nrow_of_own {w : World} {H : Nat} {e : TypeId} {v : Value} {L : List Nat} {n : Nat} (h : w.ownsRow H e 1 v n (L.map iV)) (hn : n = L.length) (hl : n ≤ 10000000000000) : NRowM w v L := by
  subst hn
  rw [flat_one] at h
  refine rowR_of_own h hl (by rw [List.length_map]) (fun x hx => ?_) (fun i x cs hx hcs => ?_)
  · obtain ⟨s, _, rfl⟩ := List.mem_map.1 hx
    rfl
  · rw [List.getElem?_map, hx] at hcs
    obtain rfl := Option.some.inj hcs
    rfl
/-- What Kids answers. -/
def KPost (l : List Mp.Item) (s : ByteArray) (w : World) (e : Ending) (w' : World) : Prop := ∃ ao cap, e = .returned (.slice ao (Mp.kidsN l s l.length).length cap) ∧ NRowM w' (.slice ao (Mp.kidsN l s l.length).length cap) (Mp.kidsN l s l.length) ∧ Below w.heap.size w w'
set_option maxHeartbeats 2000000 in
theorem kidsM (w : World) (vf : Value) (ao : Option Addr) (n cap : Nat) (l : List Mp.Item) (s : ByteArray) (h : IRow w (.slice ao n cap) l) :
    Calls Tryz.prog 58 #[.agg #[vf, .slice ao n cap], .string s] w (KPost l s w) := by
  obtain ⟨hn, hl, hcap, b, o, ha, hc⟩ := irow_at h
  have HN := hideT hn
  have HC := hideT hc
  have HA := hideT ha
  obtain ⟨i0, hi0, hz0, hz1, hz2⟩ := info_parts infoInt
  have B0 := hideT ((Below.refl w.heap.size w).alloc (Nat.le_refl _) (.cells #[vf, .slice ao n cap] 25))
  clear hn hc ha h
  go_enter Tryz.func58, Tryz.ntmps58
  go_wp2_with fail
  go_loopw [5, 11] (fun x i wr => ∃ k : Nat, k ≤ n ∧ i = .int .i64 k ∧ Hid (Below w.heap.size w wr) ∧ Hid (wr.ownsRow w.heap.size 3 1 x (Mp.kidsN l s k).length ((Mp.kidsN l s k).map iV))) (fun _ i _ => n - (intOf i).toNat)
  case atStart => exact ⟨0, by omega, rfl, B0, World.ownsRow_nil _ _ _ _⟩
  case round =>
    obtain ⟨k, hk, rfl, HW, O1⟩ := hrel
    obtain ⟨oad, ocap, ho⟩ := slice_form O1.out
    subst ho
    have hkl := Mp.kidsN_len l s k
    by_cases hlt : k < n
    · obtain ⟨x, hx⟩ := Mp.at_lt (l := l) (k := k) (by have := HN.out; omega)
      obtain ⟨a5, c5, a6, c6, I0⟩ := HC.out k _ hx
      have I1 := I0.turn (below_cell HW.out)
      have HX := hideT hx
      have d0 := I1.c0
      have d1 := I1.c1
      have d2 := I1.c2
      have d3 := I1.c3
      have d4 := I1.c4
      have d5 := I1.c5
      have d6 := I1.c6
      obtain rfl := HA.out (by omega)
      clear hx I0 I1
      have BA := hideT ((Below.refl wr.heap.size wr).alloc (Nat.le_refl _) (.cells #[.string x.id, .int .i64 x.kind, .string x.parent, .bool x.req, .int .i64 x.ticks, .slice a5 x.entry.length c5, .slice a6 x.exit.length c6] 31))
      by_cases e : x.parent = s
      · have HK := hideT (Mp.kidsN_yes HX.out e)
        have e1 : (x.parent.toList == s.toList) = true := by rw [e]; exact beq_iff_eq.2 rfl
        clear e
        have BA2 := hideT (BA.out.alloc (by simp) (.cells #[.int .i64 (k : Int)] 3))
        go_wp2_with (first | (at_builtin; refine wpList_append_lies _ (by rfl) _ _ _ (by rfl) w.heap.size 3 i0 _ 1 8 Tryz.underlying101 hi0 hz0 hz1 hz2 rfl (by omega) (.slice oad (Mp.kidsN l s k).length ocap) (Mp.kidsN l s k).length ((Mp.kidsN l s k).map iV) (by rfl) ((O1.out.alloc _).alloc _) ⟨wr.heap.size + 1, 0, none⟩ 1 1 [.int .i64 (k : Int)] (by rfl) (by rfl) (news2 wr _ #[.int .i64 (k : Int)] 3) (by simp [Value.oneCell']) (by omega) (by unfold maxLen; omega) (by omega) (by have := HW.out.size; simp; omega) (wr.heap.size + 2) (by simp) ?_; intro gb cap2 w3 hown hgrow hat hlt3) | fail)
        have B3 : Hid (Below w.heap.size w w3) := Keep.below (HW.out.trans (BA2.out.mono HW.out.size)) (Keep.grown hgrow) (fun i hi e => by have := (own_lt O1.out e).2; omega)
        refine ⟨⟨k + 1, by omega, by go_num, B3, ?_⟩, ?_⟩
        · show World.ownsRow _ _ _ _ _ _ _
          rw [HK.out, List.map_append, List.length_append]
          exact hown
        · first | omega | (simp [intOf]; omega)
      · have HK := hideT (Mp.kidsN_no HX.out e)
        have e1 : (x.parent.toList == s.toList) = false := beq_eq_false_iff_ne.2 fun h => e (toList_inj h)
        clear e
        go_wp2_with fail
        refine ⟨⟨k + 1, by omega, by go_num, HW.out.trans (BA.out.mono HW.out.size), ?_⟩, ?_⟩
        · show World.ownsRow _ _ _ _ _ _ _
          rw [HK.out]
          exact O1.out.alloc _
        · first | omega | (simp [intOf]; omega)
    · have HR : Hid (KPost l s w (.returned (.slice oad (Mp.kidsN l s k).length ocap)) wr) := by
        have hkn : k = l.length := by have := HN.out; omega
        subst hkn
        exact ⟨_, _, rfl, nrow_of_own O1.out rfl (by omega), HW.out⟩
      go_wp2_with fail
      go_ret
      exact HR.out
end Go.Proofs.YtjfonpbnohbpfaaGreatDoor
