/-
  PackTurned: bytes one of which is turned are no model's.
-/
import Derived.Test.YtcfalhgcdffjoaaKLaw
set_option linter.unusedSimpArgs false
set_option linter.unusedVariables false
namespace Go.Proofs.Ytcfalhgcdffjoaa
open Go.RowKit
set_option maxRecDepth 100000
set_option maxHeartbeats 8000000 in
theorem packTurned_walk (af : Option Addr) (cf : Nat) (ai : Option Addr) (ci : Nat) (m : Mp.Model) {w : World} (hm : ModelAt w af cf ai ci m) (at_ : Int) (h1 : (Lit.int .i64 at_).wf = true) (by_ : Int) (h2 : (Lit.int .u8 by_).wf = true) :
    Calls Try.prog 4 #[.agg #[.slice af m.files.length cf, .slice ai m.items.length ci], .int .i64 at_, .int .u8 by_] w fun e w' => e = .returned (.bool true) ∧ Below w.heap.size w w' := by
  have hy : 0 ≤ by_ ∧ by_ < 256 := by
    simp [Lit.wf] at h2
    have a : IntKind.u8.min = 0 := by decide
    have b : IntKind.u8.max = 255 := by decide
    omega
  obtain ⟨hy0, hy1⟩ := hy
  have HM := hideT hm
  obtain ⟨X1, hX1⟩ : ∃ X1, w.alloc (.cells #[.slice af m.files.length cf, .slice ai m.items.length ci] 25) = X1 := ⟨_, rfl⟩
  have T0 : Hid (One w [.slice af m.files.length cf, .slice ai m.items.length ci] X1) := One.new hX1
  have HX1 := hideT hX1
  have x0 : X1.cell? ⟨w.heap.size, 0, none⟩ = some (.slice af m.files.length cf) := T0.out.one.cell 0
  have x1 : X1.cell? ⟨w.heap.size, 1, none⟩ = some (.slice ai m.items.length ci) := T0.out.one.cell 1
  clear hm hX1 h1 h2
  go_enter Try.func4, Try.ntmps4
  go_wp2_with fail
  rw [HX1.out]
  refine (heavyD _ m af ai cf ci (HM.out.below T0.out.below)).mono ?_
  rintro e w1 ⟨bh, rfl, hlight, p1⟩
  have T1 := hideT (T0.out.on p1)
  clear p1 hlight x0 x1
  cases bh
  rotate_left
  · go_wp2_with fail
    go_ret
    exact ⟨rfl, T1.out.below⟩
  have x0 : w1.cell? ⟨w.heap.size, 0, none⟩ = some (.slice af m.files.length cf) := T1.out.one.cell 0
  have x1 : w1.cell? ⟨w.heap.size, 1, none⟩ = some (.slice ai m.items.length ci) := T1.out.one.cell 1
  go_wp2_with fail
  cases hb1 : Mp.isB m
  · refine (isRefV _ m af ai cf ci (HM.out.below T1.out.below) false hb1).mono ?_
    rintro e w3 ⟨rfl, p3⟩
    have T3 := hideT (T1.out.on p3)
    clear p3 x0 x1
    go_wp2_with fail
    go_ret
    exact ⟨rfl, T3.out.below⟩
  refine (isRefV _ m af ai cf ci (HM.out.below T1.out.below) true hb1).mono ?_
  rintro e w3 ⟨rfl, p3⟩
  have T3 := hideT (T1.out.on p3)
  have HB1 := hideT hb1
  clear p3 x0 x1 hb1
  by_cases r3 : by_ = 0
  · go_wp2_with fail
    go_ret
    exact ⟨rfl, T3.out.below⟩
  have x0 : w3.cell? ⟨w.heap.size, 0, none⟩ = some (.slice af m.files.length cf) := T3.out.one.cell 0
  have x1 : w3.cell? ⟨w.heap.size, 1, none⟩ = some (.slice ai m.items.length ci) := T3.out.one.cell 1
  go_wp2_with fail
  refine (packD w3 m af ai cf ci (HM.out.below T3.out.below) HB1.out).mono ?_
  rintro e w5 ⟨v1, rfl, o5, p5⟩
  have T5 := hideT (T3.out.on p5)
  obtain ⟨hpp, hpl⟩ := pack_small HB1.out
  obtain ⟨g1, k1, hv1⟩ := own_form o5 hpp
  subst hv1
  have hcap := own_capS o5
  obtain ⟨n, hn⟩ : ∃ n, (Kp.pack m).length = n := ⟨_, rfl⟩
  rw [hn] at o5 hpp hpl hcap
  have ha16 := and16 at_
  obtain ⟨k, ek⟩ : ∃ k : Nat, at_ % 65536 % (n : Int) = k := ⟨(at_ % 65536 % (n : Int)).toNat, by
    have := Int.emod_nonneg (at_ % 65536) (show (n : Int) ≠ 0 by omega)
    omega⟩
  have hk : k < n := by
    have := Int.emod_lt_of_pos (at_ % 65536) (show (0 : Int) < n by omega)
    omega
  obtain ⟨x, hx⟩ := Mp.at_lt (l := Kp.pack m) (k := k) (by omega)
  obtain ⟨c, ec, hcx⟩ := turned x by_ (by omega) hy1
  have HU := hideT (Kp.turned_none HB1.out hx hcx)
  have y0 : w5.cell? ⟨g1, k, none⟩ = some (.int .u8 x.toNat) := own_cell o5 (by
    unfold Lib.byteCells
    rw [List.getElem?_map, hx]
    rfl)
  have y0' := own_free o5 k
  have hg1 : g1 < w5.heap.size ∧ w3.heap.size ≤ g1 := own_lt o5 rfl
  obtain ⟨W6, hW6⟩ : ∃ W6, w5.setCell ⟨g1, k, none⟩ (.int .u8 c.toNat) = W6 := ⟨_, rfl⟩
  have hsl : ((Kp.pack m).set k c).length = n := by rw [List.length_set, hn]
  have R6 : Hid (BRow W6 (.slice (some ⟨g1, 0, none⟩) n k1) ((Kp.pack m).set k c)) := by
    have h1 := own_set o5 k (.int .u8 c.toNat)
    rw [hW6, ← bytes_set] at h1
    exact brow_own (l := (Kp.pack m).set k c) (by rw [hsl]; exact h1) (by omega)
  have hT3 := T3.out.below.size
  have hl5 := T5.out.one.lt
  have B6 : Hid (Below w.heap.size w W6) := by rw [← hW6]; exact T5.out.below.setCell (by show w.heap.size ≤ g1; omega) _
  have HN := hideT hn
  have HSL := hideT hsl
  have HW6 := hideT hW6
  have q0 : ¬ (n : Int) = 0 := by omega
  clear p5 x0 x1 o5 hcx hW6 hsl hx
  go_wp2_with fail
  rw [HW6.out]
  refine (unpackV W6 _ _ _ _ R6.out hcap.2).mono ?_
  intro e w7 hu
  obtain ⟨rfl, p7⟩ := unpack_no HU.out hu
  have B7 := hideT (B6.out.trans (p7.mono B6.out.size))
  clear hu p7 y0 y0'
  go_wp2_with fail
  refine (known6 _).mono ?_
  rintro e w8 ⟨rfl, p8⟩
  have B8 : Hid (Below w.heap.size w w8) := (B7.out.alloc B7.out.size _).trans (p8.mono (by have := B7.out.size; simp; omega))
  clear p8
  go_wp2_with fail
  go_ret
  exact ⟨rfl, B8.out⟩
end Go.Proofs.Ytcfalhgcdffjoaa
