/-
  Which items may be.
-/
import Derived.Test.YtlgcaklhceekiaaMItems
set_option linter.unusedSimpArgs false
set_option linter.unusedVariables false
namespace Go.Proofs.Ytlgcaklhceekiaa
open Go.RowKit
set_option maxRecDepth 100000
theorem isKindV (k : Int) (w : World) (b : Bool) (h : Hid (Mp.kindB k = b)) :
    Calls Try.prog 33 #[.int .i64 k] w fun e w' => e = .returned (.bool b) ∧ w' = w := by
  rw [← h.out]
  exact isKindD k w
theorem ticksV (x : Mp.Item) (v5 v6 : Value) (w : World) (b : Bool) (h : Hid (Mp.ticksB x = b)) :
    Calls Try.prog 45 #[.agg #[.string x.id, .int .i64 x.kind, .string x.parent, .bool x.req, .int .i64 x.ticks, v5, v6]] w fun e w' => e = .returned (.bool b) ∧ Below w.heap.size w w' := by
  rw [← h.out]
  exact ticksD x v5 v6 w
theorem waitV (x : Mp.Item) (a5 : Option Addr) (c5 : Nat) (v6 : Value) (w : World) (b : Bool) (h : Hid (Mp.waitB x = b)) :
    Calls Try.prog 46 #[.agg #[.string x.id, .int .i64 x.kind, .string x.parent, .bool x.req, .int .i64 x.ticks, .slice a5 x.entry.length c5, v6]] w fun e w' => e = .returned (.bool b) ∧ Below w.heap.size w w' := by
  rw [← h.out]
  exact waitD x a5 c5 v6 w
theorem sentriesV (w : World) (m : Mp.Model) (af ai : Option Addr) (cf ci : Nat) (hm : ModelAt w af cf ai ci m) (ao : Option Addr) (n cap : Nat) (l : List Mp.Sent) (h : SRow w (.slice ao n cap) l) (b : Bool) (hb : Hid (Mp.sentsB m l = b)) :
    Calls Try.prog 47 #[.agg #[.slice af m.files.length cf, .slice ai m.items.length ci], .slice ao n cap] w fun e w' => e = .returned (.bool b) ∧ Below w.heap.size w w' := by
  rw [← hb.out]
  exact sentriesD w m af ai cf ci hm ao n cap l h
set_option maxHeartbeats 4000000 in
theorem itemsD (w : World) (m : Mp.Model) (af ai : Option Addr) (cf ci : Nat) (hm : ModelAt w af cf ai ci m) :
    Calls Try.prog 38 #[.agg #[.slice af m.files.length cf, .slice ai m.items.length ci]] w fun e w' => e = .returned (.bool (m.items.all (Mp.itemB m))) ∧ Below w.heap.size w w' := by
  obtain ⟨_, hil, hicap, b, o, ha, hc⟩ := irow_at hm.items
  have HC := hideT hc
  have HA := hideT ha
  have HM := hideT hm
  clear hc ha hm
  go_enter Try.func38, Try.ntmps38
  go_wp2_with fail
  go_loopw [8] (fun i wr => ∃ k : Nat, k ≤ m.items.length ∧ i = .int .i64 k ∧ Hid ((m.items.drop k).all (Mp.itemB m) = m.items.all (Mp.itemB m)) ∧ Hid (Below w.heap.size w wr ∧ Lies wr w.heap.size 25 #[.slice af m.files.length cf, .slice ai m.items.length ci])) (fun i _ => m.items.length - (intOf i).toNat)
  case atStart => exact ⟨0, by omega, rfl, rfl, (Below.refl _ _).alloc (Nat.le_refl _) _, Lies.new _ _ _⟩
  case round =>
    obtain ⟨k, hk, rfl, HB, HW⟩ := hrel
    have hsz := HW.out.2.lt
    by_cases hlt : k < m.items.length
    · obtain ⟨x, hx⟩ := Mp.at_lt (l := m.items) (k := k) hlt
      obtain ⟨a5, c5, a6, c6, I0⟩ := HC.out k _ hx
      have I1 := I0.turn (below_cell HW.out.1)
      have d0 := I1.c0
      have d1 := I1.c1
      have d2 := I1.c2
      have d3 := I1.c3
      have d4 := I1.c4
      have d5 := I1.c5
      have d6 := I1.c6
      obtain rfl := HA.out (by omega)
      have hB2 := HB.out
      rw [Mp.drop_at hx, List.all_cons, Mp.itemB] at hB2
      have HB2 := hideT hB2
      have SE := hideT I0.entry
      have SX := hideT I0.exit
      have hl5 := (srow_at I0.entry).2.1
      have hl6 := (srow_at I0.exit).2.1
      clear hx I1 I0 hB2
      have BA := hideT ((Below.refl wr.heap.size wr).alloc (Nat.le_refl _) (.cells #[.string x.id, .int .i64 x.kind, .string x.parent, .bool x.req, .int .i64 x.ticks, .slice a5 x.entry.length c5, .slice a6 x.exit.length c6] 29))
      have LA := hideT (Lies.new wr 29 #[.string x.id, .int .i64 x.kind, .string x.parent, .bool x.req, .int .i64 x.ticks, .slice a5 x.entry.length c5, .slice a6 x.exit.length c6])
      have BW := hideT (HW.out.1.trans (BA.out.mono HW.out.1.size))
      have LW := hideT (HW.out.2.below BA.out)
      obtain ⟨b1, H1⟩ : ∃ y, Hid (Mp.kindB x.kind = y) := ⟨_, rfl⟩
      obtain ⟨b2, H2⟩ : ∃ y, Hid (Mp.ticksB x = y) := ⟨_, rfl⟩
      obtain ⟨b3, H3⟩ : ∃ y, Hid (Mp.waitB x = y) := ⟨_, rfl⟩
      obtain ⟨b4, H4⟩ : ∃ y, Hid (Mp.sentsB m x.entry = y) := ⟨_, rfl⟩
      obtain ⟨b5, H5⟩ : ∃ y, Hid (Mp.sentsB m x.exit = y) := ⟨_, rfl⟩
      go_wp2_with fail
      refine (isKindV x.kind _ b1 H1).mono ?_
      rintro e w0 ⟨rfl, rfl⟩
      cases b1
      · have HR : Hid (m.items.all (Mp.itemB m) = false) := by show _ = _; rw [← HB2.out, H1.out]; rfl
        go_wp2_with fail
        go_ret
        exact ⟨ret_b HR.out.symm, BW.out⟩
      clear d0 d1 d2 d3 d4 d5 d6
      go_wp2_with fail
      refine (ticksV x _ _ _ b2 H2).mono ?_
      rintro e w1 ⟨rfl, p1⟩
      have BW1 := hideT (BW.out.trans (p1.mono BW.out.size))
      have LW1 := hideT (LW.out.below p1)
      have LA1 := hideT (LA.out.below p1)
      clear p1
      cases b2
      · have HR : Hid (m.items.all (Mp.itemB m) = false) := by show _ = _; rw [← HB2.out, H1.out, H2.out]; rfl
        go_wp2_with fail
        go_ret
        exact ⟨ret_b HR.out.symm, BW1.out⟩
      have d0 : w1.cell? ⟨wr.heap.size, 0, none⟩ = some (.string x.id) := LA1.out.cell 0
      have d1 : w1.cell? ⟨wr.heap.size, 1, none⟩ = some (.int .i64 x.kind) := LA1.out.cell 1
      have d2 : w1.cell? ⟨wr.heap.size, 2, none⟩ = some (.string x.parent) := LA1.out.cell 2
      have d3 : w1.cell? ⟨wr.heap.size, 3, none⟩ = some (.bool x.req) := LA1.out.cell 3
      have d4 : w1.cell? ⟨wr.heap.size, 4, none⟩ = some (.int .i64 x.ticks) := LA1.out.cell 4
      have d5 : w1.cell? ⟨wr.heap.size, 5, none⟩ = some (.slice a5 x.entry.length c5) := LA1.out.cell 5
      have d6 : w1.cell? ⟨wr.heap.size, 6, none⟩ = some (.slice a6 x.exit.length c6) := LA1.out.cell 6
      go_wp2_with fail
      refine (waitV x a5 c5 _ _ b3 H3).mono ?_
      rintro e w2 ⟨rfl, p2⟩
      have BW2 := hideT (BW1.out.trans (p2.mono BW1.out.size))
      have LW2 := hideT (LW1.out.below p2)
      have LA2 := hideT (LA1.out.below p2)
      clear p2 d0 d1 d2 d3 d4 d5 d6
      cases b3
      · have HR : Hid (m.items.all (Mp.itemB m) = false) := by show _ = _; rw [← HB2.out, H1.out, H2.out, H3.out]; rfl
        go_wp2_with fail
        go_ret
        exact ⟨ret_b HR.out.symm, BW2.out⟩
      have d5 : w2.cell? ⟨wr.heap.size, 5, none⟩ = some (.slice a5 x.entry.length c5) := LA2.out.cell 5
      have e0 : w2.cell? ⟨w.heap.size, 0, none⟩ = some (.slice af m.files.length cf) := LW2.out.cell 0
      have e1 : w2.cell? ⟨w.heap.size, 1, none⟩ = some (.slice (some ⟨b, o, none⟩) m.items.length ci) := LW2.out.cell 1
      go_wp2_with fail
      refine (sentriesV _ m af _ cf ci (HM.out.below BW2.out) a5 _ c5 _ (srow_below SE.out BW2.out) b4 H4).mono ?_
      rintro e w3 ⟨rfl, p3⟩
      have BW3 := hideT (BW2.out.trans (p3.mono BW2.out.size))
      have LW3 := hideT (LW2.out.below p3)
      have LA3 := hideT (LA2.out.below p3)
      clear p3 d5 e0 e1
      cases b4
      · have HR : Hid (m.items.all (Mp.itemB m) = false) := by show _ = _; rw [← HB2.out, H1.out, H2.out, H3.out, H4.out]; rfl
        go_wp2_with fail
        go_ret
        exact ⟨ret_b HR.out.symm, BW3.out⟩
      have d6 : w3.cell? ⟨wr.heap.size, 6, none⟩ = some (.slice a6 x.exit.length c6) := LA3.out.cell 6
      have e0 : w3.cell? ⟨w.heap.size, 0, none⟩ = some (.slice af m.files.length cf) := LW3.out.cell 0
      have e1 : w3.cell? ⟨w.heap.size, 1, none⟩ = some (.slice (some ⟨b, o, none⟩) m.items.length ci) := LW3.out.cell 1
      go_wp2_with fail
      refine (sentriesV _ m af _ cf ci (HM.out.below BW3.out) a6 _ c6 _ (srow_below SX.out BW3.out) b5 H5).mono ?_
      rintro e w4 ⟨rfl, p4⟩
      have BW4 := hideT (BW3.out.trans (p4.mono BW3.out.size))
      have LW4 := hideT (LW3.out.below p4)
      clear p4 d6 e0 e1
      cases b5
      · have HR : Hid (m.items.all (Mp.itemB m) = false) := by show _ = _; rw [← HB2.out, H1.out, H2.out, H3.out, H4.out, H5.out]; rfl
        go_wp2_with fail
        go_ret
        exact ⟨ret_b HR.out.symm, BW4.out⟩
      have HR : Hid ((m.items.drop (k + 1)).all (Mp.itemB m) = m.items.all (Mp.itemB m)) := by show _ = _; rw [← HB2.out, H1.out, H2.out, H3.out, H4.out, H5.out]; rfl
      go_wp2_with fail
      go_roundw
      case rel => exact ⟨k + 1, by omega, by go_num, HR, BW4.out, LW4.out⟩
      case measure => simp [intOf]; omega
    · have HR : Hid (m.items.all (Mp.itemB m) = true) := by show _ = _; rw [← HB.out, Mp.drop_all (by omega)]; rfl
      go_wp2_with fail
      go_ret
      exact ⟨ret_b HR.out.symm, HW.out.1⟩
end Go.Proofs.Ytlgcaklhceekiaa
