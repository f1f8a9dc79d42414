/-
  Is: whether a model may be.
-/
import Derived.Test.YtlgcaklhceekiaaMItems2
import Derived.Test.YtlgcaklhceekiaaMNest
set_option linter.unusedSimpArgs false
set_option linter.unusedVariables false
namespace Go.Proofs.Ytlgcaklhceekiaa
open Go.RowKit
set_option maxRecDepth 100000
theorem filesV (w : World) (ao : Option Addr) (n cap : Nat) (l : List ByteArray) (h : FRow w (.slice ao n cap) l) (b : Bool) (hb : Hid (Mp.filesB l = b)) :
    Calls Try.prog 34 #[.slice ao n cap] w fun e w' => e = .returned (.bool b) ∧ w' = w := by
  rw [← hb.out]
  exact filesD w ao n cap l h
theorem idsV (w : World) (ao : Option Addr) (n cap : Nat) (l : List Mp.Item) (h : IRow w (.slice ao n cap) l) (b : Bool) (hb : Hid (Mp.idsB l = b)) :
    Calls Try.prog 35 #[.slice ao n cap] w fun e w' => e = .returned (.bool b) ∧ Below w.heap.size w w' := by
  rw [← hb.out]
  exact idsD w ao n cap l h
theorem isPlanV (x : Mp.Item) (a5 : Option Addr) (c5 : Nat) (a6 : Option Addr) (c6 : Nat) (w : World) (b : Bool) (hb : Hid (Mp.planB x = b)) :
    Calls Try.prog 36 #[.agg #[.string x.id, .int .i64 x.kind, .string x.parent, .bool x.req, .int .i64 x.ticks, .slice a5 x.entry.length c5, .slice a6 x.exit.length c6]] w fun e w' => e = .returned (.bool b) ∧ Below w.heap.size w w' := by
  rw [← hb.out]
  exact isPlanD x a5 c5 a6 c6 w
theorem nestV (w : World) (ao : Option Addr) (n cap : Nat) (l : List Mp.Item) (h : IRow w (.slice ao n cap) l) (h0 : 0 < n) (hz16 : n ≤ 1000) (b : Bool) (hb : Hid (Mp.nestB l = b)) :
    Calls Try.prog 37 #[.slice ao n cap] w fun e w' => e = .returned (.bool b) ∧ Below w.heap.size w w' := by
  rw [← hb.out]
  exact nestD w ao n cap l h h0 hz16
theorem ids_len {l : List Mp.Item} (h : Mp.idsB l = true) : 1 ≤ l.length ∧ l.length ≤ 16 := by
  unfold Mp.idsB at h
  simp only [Bool.and_eq_true, decide_eq_true_eq] at h
  exact h.1
set_option maxHeartbeats 4000000 in
theorem isD (w : World) (m : Mp.Model) (af ai : Option Addr) (cf ci : Nat) (hm : ModelAt w af cf ai ci m) :
    Calls Try.prog 26 #[.agg #[.slice af m.files.length cf, .slice ai m.items.length ci]] w fun e w' => e = .returned (.bool (Mp.isB m)) ∧ Below w.heap.size w w' := by
  obtain ⟨_, hil, hicap, b, o, ha, hc⟩ := irow_at hm.items
  have HC := hideT hc
  have HA := hideT ha
  have HM := hideT hm
  clear hc ha hm
  have B0 := hideT ((Below.refl w.heap.size w).alloc (Nat.le_refl _) (.cells #[.slice af m.files.length cf, .slice ai m.items.length ci] 25))
  have L0 := hideT (Lies.new w 25 #[.slice af m.files.length cf, .slice ai m.items.length ci])
  obtain ⟨b1, H1⟩ : ∃ y, Hid (Mp.filesB m.files = y) := ⟨_, rfl⟩
  obtain ⟨b2, H2⟩ : ∃ y, Hid (Mp.idsB m.items = y) := ⟨_, rfl⟩
  obtain ⟨b4, H4⟩ : ∃ y, Hid (Mp.nestB m.items = y) := ⟨_, rfl⟩
  go_enter Try.func26, Try.ntmps26
  go_wp2_with fail
  refine (filesV _ af _ cf _ (frow_below HM.out.files B0.out) b1 H1).mono ?_
  rintro e w0 ⟨rfl, rfl⟩
  cases b1
  · have HR : Hid (Mp.isB m = false) := by show _ = _; unfold Mp.isB; rw [H1.out]; rfl
    go_wp2_with fail
    go_ret
    exact ⟨ret_b HR.out.symm, B0.out⟩
  go_wp2_with fail
  refine (idsV _ ai _ ci _ (irow_below HM.out.items B0.out) b2 H2).mono ?_
  rintro e w1 ⟨rfl, p1⟩
  have B1 := hideT (B0.out.trans (p1.mono B0.out.size))
  have L1 := hideT (L0.out.below p1)
  clear p1
  cases b2
  · have HR : Hid (Mp.isB m = false) := by show _ = _; unfold Mp.isB; rw [H1.out, H2.out]; rfl
    go_wp2_with fail
    go_ret
    exact ⟨ret_b HR.out.symm, B1.out⟩
  obtain ⟨hl1, hl2⟩ := ids_len H2.out
  obtain ⟨x, hx⟩ := Mp.at_lt (l := m.items) (k := 0) (by omega)
  obtain ⟨a5, c5, a6, c6, I0⟩ := HC.out 0 x hx
  obtain rfl := HA.out (by omega)
  have HX : Hid (Mp.headB m.items = Mp.planB x) := by
    show _ = _
    have := Mp.drop_at hx
    rw [List.drop_zero] at this
    rw [this]
    rfl
  have I1 := I0.turn (below_cell B1.out)
  rw [Nat.zero_mul, Nat.add_zero] at I1
  have d0 := I1.c0
  have d1 := I1.c1
  have d2 := I1.c2
  have d3 := I1.c3
  have d4 := I1.c4
  have d5 := I1.c5
  have d6 := I1.c6
  clear I0 I1 hx
  obtain ⟨b3, H3⟩ : ∃ y, Hid (Mp.planB x = y) := ⟨_, rfl⟩
  have x1 : w1.cell? ⟨w.heap.size, 1, none⟩ = some (.slice (some ⟨b, o, none⟩) m.items.length ci) := L1.out.cell 1
  have t1 : (0 : Int) < (m.items.length : Int) := by omega
  go_wp2_with fail
  refine (isPlanV x a5 c5 a6 c6 _ b3 H3).mono ?_
  rintro e w2 ⟨rfl, p2⟩
  have B2 := hideT (B1.out.trans (p2.mono B1.out.size))
  have L2 := hideT (L1.out.below p2)
  clear p2 d0 d1 d2 d3 d4 d5 d6 x1
  cases b3
  · have HR : Hid (Mp.isB m = false) := by show _ = _; unfold Mp.isB; rw [H1.out, H2.out, HX.out, H3.out]; rfl
    go_wp2_with fail
    go_ret
    exact ⟨ret_b HR.out.symm, B2.out⟩
  have x1 : w2.cell? ⟨w.heap.size, 1, none⟩ = some (.slice (some ⟨b, o, none⟩) m.items.length ci) := L2.out.cell 1
  go_wp2_with fail
  refine (nestV _ _ _ ci _ (irow_below HM.out.items B2.out) (by omega) (by omega) b4 H4).mono ?_
  rintro e w3 ⟨rfl, p3⟩
  have B3 := hideT (B2.out.trans (p3.mono B2.out.size))
  have L3 := hideT (L2.out.below p3)
  clear p3 x1
  cases b4
  · have HR : Hid (Mp.isB m = false) := by show _ = _; unfold Mp.isB; rw [H1.out, H2.out, HX.out, H3.out, H4.out]; rfl
    go_wp2_with fail
    go_ret
    exact ⟨ret_b HR.out.symm, B3.out⟩
  have HR : Hid (Mp.isB m = m.items.all (Mp.itemB m)) := by show _ = _; unfold Mp.isB; rw [H1.out, H2.out, HX.out, H3.out, H4.out]; rfl
  have x0 : w3.cell? ⟨w.heap.size, 0, none⟩ = some (.slice af m.files.length cf) := L3.out.cell 0
  have x1 : w3.cell? ⟨w.heap.size, 1, none⟩ = some (.slice (some ⟨b, o, none⟩) m.items.length ci) := L3.out.cell 1
  go_wp2_with fail
  refine (itemsD _ m af _ cf ci (HM.out.below B3.out)).mono ?_
  rintro e w4 ⟨rfl, p4⟩
  go_wp2_with fail
  go_ret
  exact ⟨ret_b HR.out.symm, B3.out.trans (p4.mono B3.out.size)⟩
theorem isVV (w : World) (m : Mp.Model) (af ai : Option Addr) (cf ci nf ni : Nat) (hm : ModelAt w af cf ai ci m) (hf : m.files.length = nf) (hi : m.items.length = ni) (b : Bool) (hb : Hid (Mp.isB m = b)) :
    Calls Try.prog 26 #[.agg #[.slice af nf cf, .slice ai ni ci]] w fun e w' => e = .returned (.bool b) ∧ Below w.heap.size w w' := by
  rw [← hb.out, ← hf, ← hi]
  exact isD w m af ai cf ci hm
end Go.Proofs.Ytlgcaklhceekiaa
