/-
  The document's SameItem, Same.
-/
import Derived.Test.YtlgcaklhceekiaaMSame4
import Derived.Test.YtlgcaklhceekiaaMSame5
import Derived.Deep.RegionHeld3
set_option linter.unusedSimpArgs false
set_option linter.unusedVariables false
namespace Go.Proofs.Ytlgcaklhceekiaa
open Go.RowKit
set_option maxRecDepth 100000
set_option maxHeartbeats 4000000 in
theorem refItemD (w : World) (x0 y0 : ByteArray) (x1 y1 : Int) (x2 y2 : ByteArray) (x3 y3 : Bool) (x4 y4 : Int) (x5 y5 x6 y6 : List Mp.Sent) (p5 p6 q5 q6 : Option Addr) (c5 c6 d5 d6 : Nat)
    (h5 : SRow w (.slice p5 x5.length c5) x5) (h6 : SRow w (.slice p6 x6.length c6) x6) (k5 : SRow w (.slice q5 y5.length d5) y5) (k6 : SRow w (.slice q6 y6.length d6) y6) (b : Bool) (hb : Hid (Mp.eqI ⟨x0, x1, x2, x3, x4, x5, x6⟩ ⟨y0, y1, y2, y3, y4, y5, y6⟩ = b)) :
    Calls Try.prog 7 #[.agg #[.string x0, .int .i64 x1, .string x2, .bool x3, .int .i64 x4, .slice p5 x5.length c5, .slice p6 x6.length c6], .agg #[.string y0, .int .i64 y1, .string y2, .bool y3, .int .i64 y4, .slice q5 y5.length d5, .slice q6 y6.length d6]] w fun e w' => e = .returned (.bool b) ∧ Below w.heap.size w w' := by
  have R5 := hideT h5
  have R6 := hideT h6
  have K5 := hideT k5
  have K6 := hideT k6
  clear h5 h6 k5 k6
  have B0 := hideT (((Below.refl w.heap.size w).alloc (Nat.le_refl _) (.cells #[.string x0, .int .i64 x1, .string x2, .bool x3, .int .i64 x4, .slice p5 x5.length c5, .slice p6 x6.length c6] 29)).alloc (by simp) (.cells #[.string y0, .int .i64 y1, .string y2, .bool y3, .int .i64 y4, .slice q5 y5.length d5, .slice q6 y6.length d6] 29))
  have LA := hideT ((Lies.new w 29 #[.string x0, .int .i64 x1, .string x2, .bool x3, .int .i64 x4, .slice p5 x5.length c5, .slice p6 x6.length c6]).below ((Below.refl _ _).alloc (Nat.le_refl _) (.cells #[.string y0, .int .i64 y1, .string y2, .bool y3, .int .i64 y4, .slice q5 y5.length d5, .slice q6 y6.length d6] 29)))
  have LB : Hid (Lies ((w.alloc (.cells #[.string x0, .int .i64 x1, .string x2, .bool x3, .int .i64 x4, .slice p5 x5.length c5, .slice p6 x6.length c6] 29)).alloc (.cells #[.string y0, .int .i64 y1, .string y2, .bool y3, .int .i64 y4, .slice q5 y5.length d5, .slice q6 y6.length d6] 29)) (w.heap.size + 1) 29 #[.string y0, .int .i64 y1, .string y2, .bool y3, .int .i64 y4, .slice q5 y5.length d5, .slice q6 y6.length d6]) := by
    have := Lies.new (w.alloc (.cells #[.string x0, .int .i64 x1, .string x2, .bool x3, .int .i64 x4, .slice p5 x5.length c5, .slice p6 x6.length c6] 29)) 29 #[.string y0, .int .i64 y1, .string y2, .bool y3, .int .i64 y4, .slice q5 y5.length d5, .slice q6 y6.length d6]
    rwa [show (w.alloc (.cells #[.string x0, .int .i64 x1, .string x2, .bool x3, .int .i64 x4, .slice p5 x5.length c5, .slice p6 x6.length c6] 29)).heap.size = w.heap.size + 1 by simp] at this
  go_enter Try.func7, Try.ntmps7
  by_cases g0 : x0 = y0
  rotate_left
  · have HF : Hid (b = false) := by rw [← hb.out]; simp [Mp.eqI, g0, Hid]
    have q1' : ¬ x0.toList = y0.toList := fun h => g0 (toList_inj h)
    have q2' : (x0.toList == y0.toList) = false := beq_eq_false_iff_ne.2 q1'
    go_wp2_with fail
    go_ret
    exact ⟨ret_b HF.out.symm, B0.out⟩
  subst g0
  by_cases g1 : x1 = y1
  rotate_left
  · have HF : Hid (b = false) := by rw [← hb.out]; simp [Mp.eqI, g1, Hid]
    go_wp2_with fail
    go_ret
    exact ⟨ret_b HF.out.symm, B0.out⟩
  subst g1
  by_cases g2 : x2 = y2
  rotate_left
  · have HF : Hid (b = false) := by rw [← hb.out]; simp [Mp.eqI, g2, Hid]
    have q1' : ¬ x2.toList = y2.toList := fun h => g2 (toList_inj h)
    have q2' : (x2.toList == y2.toList) = false := beq_eq_false_iff_ne.2 q1'
    go_wp2_with fail
    go_ret
    exact ⟨ret_b HF.out.symm, B0.out⟩
  subst g2
  by_cases g3 : x3 = y3
  rotate_left
  · have HF : Hid (b = false) := by rw [← hb.out]; simp [Mp.eqI, g3, Hid]
    have q1' : (x3 == y3) = false := beq_eq_false_iff_ne.2 g3
    go_wp2_with fail
    go_ret
    exact ⟨ret_b HF.out.symm, B0.out⟩
  subst g3
  by_cases g4 : x4 = y4
  rotate_left
  · have HF : Hid (b = false) := by rw [← hb.out]; simp [Mp.eqI, g4, Hid]
    go_wp2_with fail
    go_ret
    exact ⟨ret_b HF.out.symm, B0.out⟩
  subst g4
  obtain ⟨b1, H1⟩ : ∃ y, Hid (decide (x5 = y5) = y) := ⟨_, rfl⟩
  obtain ⟨b2, H2⟩ : ∃ y, Hid (decide (x6 = y6) = y) := ⟨_, rfl⟩
  have HF : Hid (b = (b1 && b2)) := by show _ = _; rw [← hb.out, ← H1.out, ← H2.out]; simp [Mp.eqI]
  go_wp2_with fail
  refine (refSentriesD _ _ _ _ _ _ _ x5 y5 (srow_below R5.out B0.out) (srow_below K5.out B0.out) b1 H1).mono ?_
  rintro e w1 ⟨rfl, p⟩
  have B1 := hideT (B0.out.trans (p.mono B0.out.size))
  cases b1
  · go_wp2_with fail
    go_ret
    exact ⟨ret_b (by rw [HF.out]; rfl), B1.out⟩
  have z1 : w1.cell? ⟨w.heap.size, 6, none⟩ = some (.slice p6 x6.length c6) := (LA.out.below p).cell 6
  have z2 : w1.cell? ⟨w.heap.size + 1, 6, none⟩ = some (.slice q6 y6.length d6) := (LB.out.below p).cell 6
  clear p
  go_wp2_with fail
  refine (refSentriesD _ _ _ _ _ _ _ x6 y6 (srow_below R6.out B1.out) (srow_below K6.out B1.out) b2 H2).mono ?_
  rintro e w2 ⟨rfl, p2'⟩
  go_wp2_with fail
  go_ret
  exact ⟨ret_b (by rw [HF.out]; rfl), B1.out.trans (p2'.mono B1.out.size)⟩
end Go.Proofs.Ytlgcaklhceekiaa
