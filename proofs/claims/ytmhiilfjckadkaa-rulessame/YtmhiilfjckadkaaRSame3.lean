/-
  The program's items, rules, users: whether two are one. (Written by RSame.py.)
-/
import Derived.Test.YtmhiilfjckadkaaRSame2
set_option linter.unusedSimpArgs false
set_option linter.unusedVariables false
namespace Go.Proofs.Ytmhiilfjckadkaa
open Go.RowKit
set_option maxRecDepth 100000
set_option maxHeartbeats 4000000 in
theorem sameItemR (w : World) (x0 y0 : ByteArray) (x1 y1 : Int) (x2 y2 : ByteArray) (x3 y3 : Bool) (x4 y4 : Int) (x5 y5 : List Mp.Sent) (p5 q5 : Option Addr) (c5 d5 : Nat) (x6 y6 : List Mp.Sent) (p6 q6 : Option Addr) (c6 d6 : Nat)
    (h5 : SRow w (.slice p5 x5.length c5) x5) (k5 : SRow w (.slice q5 y5.length d5) y5) (h6 : SRow w (.slice p6 x6.length c6) x6) (k6 : SRow w (.slice q6 y6.length d6) y6) :
    Calls Try.prog 48 #[.agg #[.string x0, .int .i64 x1, .string x2, .bool x3, .int .i64 x4, .slice p5 x5.length c5, .slice p6 x6.length c6], .agg #[.string y0, .int .i64 y1, .string y2, .bool y3, .int .i64 y4, .slice q5 y5.length d5, .slice q6 y6.length d6]] w (BPost ((⟨x0, x1, x2, x3, x4, x5, x6⟩ : Mp.Item) = (⟨y0, y1, y2, y3, y4, y5, y6⟩ : Mp.Item)) w) := by
  have R5 := hideT h5
  have K5 := hideT k5
  have R6 := hideT h6
  have K6 := hideT k6
  clear h5 k5 h6 k6
  have B0 := hideT (((Below.refl w.heap.size w).alloc (Nat.le_refl _) (.cells #[.string x0, .int .i64 x1, .string x2, .bool x3, .int .i64 x4, .slice p5 x5.length c5, .slice p6 x6.length c6] 56)).alloc (by simp) (.cells #[.string y0, .int .i64 y1, .string y2, .bool y3, .int .i64 y4, .slice q5 y5.length d5, .slice q6 y6.length d6] 56))
  have LA0 := hideT ((Lies.new w 56 #[.string x0, .int .i64 x1, .string x2, .bool x3, .int .i64 x4, .slice p5 x5.length c5, .slice p6 x6.length c6]).below ((Below.refl _ _).alloc (Nat.le_refl _) (.cells #[.string y0, .int .i64 y1, .string y2, .bool y3, .int .i64 y4, .slice q5 y5.length d5, .slice q6 y6.length d6] 56)))
  have LB0 : Hid (Lies ((w.alloc (.cells #[.string x0, .int .i64 x1, .string x2, .bool x3, .int .i64 x4, .slice p5 x5.length c5, .slice p6 x6.length c6] 56)).alloc (.cells #[.string y0, .int .i64 y1, .string y2, .bool y3, .int .i64 y4, .slice q5 y5.length d5, .slice q6 y6.length d6] 56)) (w.heap.size + 1) 56 #[.string y0, .int .i64 y1, .string y2, .bool y3, .int .i64 y4, .slice q5 y5.length d5, .slice q6 y6.length d6]) := by
    have := Lies.new (w.alloc (.cells #[.string x0, .int .i64 x1, .string x2, .bool x3, .int .i64 x4, .slice p5 x5.length c5, .slice p6 x6.length c6] 56)) 56 #[.string y0, .int .i64 y1, .string y2, .bool y3, .int .i64 y4, .slice q5 y5.length d5, .slice q6 y6.length d6]
    rwa [show (w.alloc (.cells #[.string x0, .int .i64 x1, .string x2, .bool x3, .int .i64 x4, .slice p5 x5.length c5, .slice p6 x6.length c6] 56)).heap.size = w.heap.size + 1 by simp] at this
  go_enter Try.func48, Try.ntmps48
  by_cases g0 : x0 = y0
  rotate_left
  · have HF : Hid (¬ (⟨x0, x1, x2, x3, x4, x5, x6⟩ : Mp.Item) = (⟨y0, y1, y2, y3, y4, y5, y6⟩ : Mp.Item)) := fun h => g0 (by simp only [Mp.Item.mk.injEq] at h; exact h.1)
    have q1' : ¬ x0.toList = y0.toList := fun h => g0 (toList_inj h)
    have q2' : (x0.toList == y0.toList) = false := beq_eq_false_iff_ne.2 q1'
    go_wp2_with fail
    go_ret
    exact bpost_no HF.out B0.out
  subst g0
  by_cases g1 : x1 = y1
  rotate_left
  · have HF : Hid (¬ (⟨x0, x1, x2, x3, x4, x5, x6⟩ : Mp.Item) = (⟨x0, y1, y2, y3, y4, y5, y6⟩ : Mp.Item)) := fun h => g1 (by simp only [Mp.Item.mk.injEq] at h; exact h.2.1)
    go_wp2_with fail
    go_ret
    exact bpost_no HF.out B0.out
  subst g1
  by_cases g2 : x2 = y2
  rotate_left
  · have HF : Hid (¬ (⟨x0, x1, x2, x3, x4, x5, x6⟩ : Mp.Item) = (⟨x0, x1, y2, y3, y4, y5, y6⟩ : Mp.Item)) := fun h => g2 (by simp only [Mp.Item.mk.injEq] at h; exact h.2.2.1)
    have q1' : ¬ x2.toList = y2.toList := fun h => g2 (toList_inj h)
    have q2' : (x2.toList == y2.toList) = false := beq_eq_false_iff_ne.2 q1'
    go_wp2_with fail
    go_ret
    exact bpost_no HF.out B0.out
  subst g2
  by_cases g3 : x3 = y3
  rotate_left
  · have HF : Hid (¬ (⟨x0, x1, x2, x3, x4, x5, x6⟩ : Mp.Item) = (⟨x0, x1, x2, y3, y4, y5, y6⟩ : Mp.Item)) := fun h => g3 (by simp only [Mp.Item.mk.injEq] at h; exact h.2.2.2.1)
    have q1' : (x3 == y3) = false := beq_eq_false_iff_ne.2 g3
    go_wp2_with fail
    go_ret
    exact bpost_no HF.out B0.out
  subst g3
  by_cases g4 : x4 = y4
  rotate_left
  · have HF : Hid (¬ (⟨x0, x1, x2, x3, x4, x5, x6⟩ : Mp.Item) = (⟨x0, x1, x2, x3, y4, y5, y6⟩ : Mp.Item)) := fun h => g4 (by simp only [Mp.Item.mk.injEq] at h; exact h.2.2.2.2.1)
    go_wp2_with fail
    go_ret
    exact bpost_no HF.out B0.out
  subst g4
  go_wp2_with fail
  refine (equalFuncSR _ _ _ _ _ _ _ x5 y5 (srow_below R5.out B0.out) (srow_below K5.out B0.out)).mono ?_
  rintro e w1 z1
  by_cases g5 : x5 = y5
  rotate_left
  · have HF : Hid (¬ (⟨x0, x1, x2, x3, x4, x5, x6⟩ : Mp.Item) = (⟨x0, x1, x2, x3, x4, y5, y6⟩ : Mp.Item)) := fun h => g5 (by simp only [Mp.Item.mk.injEq] at h; exact h.2.2.2.2.2.1)
    obtain ⟨rfl, b1⟩ := z1.no g5
    have BN := hideT (B0.out.trans (b1.mono B0.out.size))
    clear z1 b1 g5
    go_wp2_with fail
    go_ret
    exact bpost_no HF.out BN.out
  obtain ⟨rfl, b1⟩ := z1.yes g5
  have B1 := hideT (B0.out.trans (b1.mono B0.out.size))
  have LA1 := hideT (LA0.out.below b1)
  have LB1 := hideT (LB0.out.below b1)
  have G5 := hideT g5
  clear z1 b1 g5
  have za1_0 : w1.cell? ⟨w.heap.size, 0, none⟩ = some (.string x0) := LA1.out.cell 0
  have zb1_0 : w1.cell? ⟨w.heap.size + 1, 0, none⟩ = some (.string x0) := LB1.out.cell 0
  have za1_1 : w1.cell? ⟨w.heap.size, 1, none⟩ = some (.int .i64 x1) := LA1.out.cell 1
  have zb1_1 : w1.cell? ⟨w.heap.size + 1, 1, none⟩ = some (.int .i64 x1) := LB1.out.cell 1
  have za1_2 : w1.cell? ⟨w.heap.size, 2, none⟩ = some (.string x2) := LA1.out.cell 2
  have zb1_2 : w1.cell? ⟨w.heap.size + 1, 2, none⟩ = some (.string x2) := LB1.out.cell 2
  have za1_3 : w1.cell? ⟨w.heap.size, 3, none⟩ = some (.bool x3) := LA1.out.cell 3
  have zb1_3 : w1.cell? ⟨w.heap.size + 1, 3, none⟩ = some (.bool x3) := LB1.out.cell 3
  have za1_4 : w1.cell? ⟨w.heap.size, 4, none⟩ = some (.int .i64 x4) := LA1.out.cell 4
  have zb1_4 : w1.cell? ⟨w.heap.size + 1, 4, none⟩ = some (.int .i64 x4) := LB1.out.cell 4
  have za1_5 : w1.cell? ⟨w.heap.size, 5, none⟩ = some (.slice p5 x5.length c5) := LA1.out.cell 5
  have zb1_5 : w1.cell? ⟨w.heap.size + 1, 5, none⟩ = some (.slice q5 y5.length d5) := LB1.out.cell 5
  have za1_6 : w1.cell? ⟨w.heap.size, 6, none⟩ = some (.slice p6 x6.length c6) := LA1.out.cell 6
  have zb1_6 : w1.cell? ⟨w.heap.size + 1, 6, none⟩ = some (.slice q6 y6.length d6) := LB1.out.cell 6
  go_wp2_with fail
  refine (equalFuncSR _ _ _ _ _ _ _ x6 y6 (srow_below R6.out B1.out) (srow_below K6.out B1.out)).mono ?_
  rintro e w2 z1
  by_cases g6 : x6 = y6
  rotate_left
  · have HF : Hid (¬ (⟨x0, x1, x2, x3, x4, x5, x6⟩ : Mp.Item) = (⟨x0, x1, x2, x3, x4, y5, y6⟩ : Mp.Item)) := fun h => g6 (by simp only [Mp.Item.mk.injEq] at h; exact h.2.2.2.2.2.2)
    obtain ⟨rfl, b1⟩ := z1.no g6
    have BN := hideT (B1.out.trans (b1.mono B1.out.size))
    clear z1 b1 g6
    go_wp2_with fail
    go_ret
    exact bpost_no HF.out BN.out
  obtain ⟨rfl, b1⟩ := z1.yes g6
  have B2 := hideT (B1.out.trans (b1.mono B1.out.size))
  have LA2 := hideT (LA1.out.below b1)
  have LB2 := hideT (LB1.out.below b1)
  have G6 := hideT g6
  clear z1 b1 g6
  have za2_0 : w2.cell? ⟨w.heap.size, 0, none⟩ = some (.string x0) := LA2.out.cell 0
  have zb2_0 : w2.cell? ⟨w.heap.size + 1, 0, none⟩ = some (.string x0) := LB2.out.cell 0
  have za2_1 : w2.cell? ⟨w.heap.size, 1, none⟩ = some (.int .i64 x1) := LA2.out.cell 1
  have zb2_1 : w2.cell? ⟨w.heap.size + 1, 1, none⟩ = some (.int .i64 x1) := LB2.out.cell 1
  have za2_2 : w2.cell? ⟨w.heap.size, 2, none⟩ = some (.string x2) := LA2.out.cell 2
  have zb2_2 : w2.cell? ⟨w.heap.size + 1, 2, none⟩ = some (.string x2) := LB2.out.cell 2
  have za2_3 : w2.cell? ⟨w.heap.size, 3, none⟩ = some (.bool x3) := LA2.out.cell 3
  have zb2_3 : w2.cell? ⟨w.heap.size + 1, 3, none⟩ = some (.bool x3) := LB2.out.cell 3
  have za2_4 : w2.cell? ⟨w.heap.size, 4, none⟩ = some (.int .i64 x4) := LA2.out.cell 4
  have zb2_4 : w2.cell? ⟨w.heap.size + 1, 4, none⟩ = some (.int .i64 x4) := LB2.out.cell 4
  have za2_5 : w2.cell? ⟨w.heap.size, 5, none⟩ = some (.slice p5 x5.length c5) := LA2.out.cell 5
  have zb2_5 : w2.cell? ⟨w.heap.size + 1, 5, none⟩ = some (.slice q5 y5.length d5) := LB2.out.cell 5
  have za2_6 : w2.cell? ⟨w.heap.size, 6, none⟩ = some (.slice p6 x6.length c6) := LA2.out.cell 6
  have zb2_6 : w2.cell? ⟨w.heap.size + 1, 6, none⟩ = some (.slice q6 y6.length d6) := LB2.out.cell 6
  have HF : Hid ((⟨x0, x1, x2, x3, x4, x5, x6⟩ : Mp.Item) = (⟨x0, x1, x2, x3, x4, y5, y6⟩ : Mp.Item)) := by show _ = _; rw [G5.out, G6.out]
  go_wp2_with fail
  go_ret
  exact bpost_yes HF.out B2.out
set_option maxHeartbeats 4000000 in
theorem sameRuleR (w : World) (x0 y0 : Int) (x1 y1 : List Rp.Lit) (p1 q1 : Option Addr) (c1 d1 : Nat) (x2 y2 : List Mp.Cond) (p2 q2 : Option Addr) (c2 d2 : Nat) (x3 y3 : List Rp.Lit) (p3 q3 : Option Addr) (c3 d3 : Nat)
    (h1 : LRow w (.slice p1 x1.length c1) x1) (k1 : LRow w (.slice q1 y1.length d1) y1) (h2 : CRow w (.slice p2 x2.length c2) x2) (k2 : CRow w (.slice q2 y2.length d2) y2) (h3 : LRow w (.slice p3 x3.length c3) x3) (k3 : LRow w (.slice q3 y3.length d3) y3) :
    Calls Try.prog 43 #[.agg #[.int .i64 x0, .slice p1 x1.length c1, .slice p2 x2.length c2, .slice p3 x3.length c3], .agg #[.int .i64 y0, .slice q1 y1.length d1, .slice q2 y2.length d2, .slice q3 y3.length d3]] w (BPost ((x0, x1, x2, x3) = (y0, y1, y2, y3)) w) := by
  have R1 := hideT h1
  have K1 := hideT k1
  have R2 := hideT h2
  have K2 := hideT k2
  have R3 := hideT h3
  have K3 := hideT k3
  clear h1 k1 h2 k2 h3 k3
  have B0 := hideT (((Below.refl w.heap.size w).alloc (Nat.le_refl _) (.cells #[.int .i64 x0, .slice p1 x1.length c1, .slice p2 x2.length c2, .slice p3 x3.length c3] 42)).alloc (by simp) (.cells #[.int .i64 y0, .slice q1 y1.length d1, .slice q2 y2.length d2, .slice q3 y3.length d3] 42))
  have LA0 := hideT ((Lies.new w 42 #[.int .i64 x0, .slice p1 x1.length c1, .slice p2 x2.length c2, .slice p3 x3.length c3]).below ((Below.refl _ _).alloc (Nat.le_refl _) (.cells #[.int .i64 y0, .slice q1 y1.length d1, .slice q2 y2.length d2, .slice q3 y3.length d3] 42)))
  have LB0 : Hid (Lies ((w.alloc (.cells #[.int .i64 x0, .slice p1 x1.length c1, .slice p2 x2.length c2, .slice p3 x3.length c3] 42)).alloc (.cells #[.int .i64 y0, .slice q1 y1.length d1, .slice q2 y2.length d2, .slice q3 y3.length d3] 42)) (w.heap.size + 1) 42 #[.int .i64 y0, .slice q1 y1.length d1, .slice q2 y2.length d2, .slice q3 y3.length d3]) := by
    have := Lies.new (w.alloc (.cells #[.int .i64 x0, .slice p1 x1.length c1, .slice p2 x2.length c2, .slice p3 x3.length c3] 42)) 42 #[.int .i64 y0, .slice q1 y1.length d1, .slice q2 y2.length d2, .slice q3 y3.length d3]
    rwa [show (w.alloc (.cells #[.int .i64 x0, .slice p1 x1.length c1, .slice p2 x2.length c2, .slice p3 x3.length c3] 42)).heap.size = w.heap.size + 1 by simp] at this
  go_enter Try.func43, Try.ntmps43
  by_cases g0 : x0 = y0
  rotate_left
  · have HF : Hid (¬ (x0, x1, x2, x3) = (y0, y1, y2, y3)) := fun h => g0 (by simp only [Prod.mk.injEq] at h; exact h.1)
    go_wp2_with fail
    go_ret
    exact bpost_no HF.out B0.out
  subst g0
  go_wp2_with fail
  refine (equalL _ _ _ _ _ _ _ x1 y1 (lrow_below R1.out B0.out) (lrow_below K1.out B0.out)).mono ?_
  rintro e w1 z1
  by_cases g1 : x1 = y1
  rotate_left
  · have HF : Hid (¬ (x0, x1, x2, x3) = (x0, y1, y2, y3)) := fun h => g1 (by simp only [Prod.mk.injEq] at h; exact h.2.1)
    obtain ⟨rfl, b1⟩ := z1.no g1
    have BN := hideT (B0.out.trans (b1.mono B0.out.size))
    clear z1 b1 g1
    go_wp2_with fail
    go_ret
    exact bpost_no HF.out BN.out
  obtain ⟨rfl, b1⟩ := z1.yes g1
  have B1 := hideT (B0.out.trans (b1.mono B0.out.size))
  have LA1 := hideT (LA0.out.below b1)
  have LB1 := hideT (LB0.out.below b1)
  have G1 := hideT g1
  clear z1 b1 g1
  have za1_0 : w1.cell? ⟨w.heap.size, 0, none⟩ = some (.int .i64 x0) := LA1.out.cell 0
  have zb1_0 : w1.cell? ⟨w.heap.size + 1, 0, none⟩ = some (.int .i64 x0) := LB1.out.cell 0
  have za1_1 : w1.cell? ⟨w.heap.size, 1, none⟩ = some (.slice p1 x1.length c1) := LA1.out.cell 1
  have zb1_1 : w1.cell? ⟨w.heap.size + 1, 1, none⟩ = some (.slice q1 y1.length d1) := LB1.out.cell 1
  have za1_2 : w1.cell? ⟨w.heap.size, 2, none⟩ = some (.slice p2 x2.length c2) := LA1.out.cell 2
  have zb1_2 : w1.cell? ⟨w.heap.size + 1, 2, none⟩ = some (.slice q2 y2.length d2) := LB1.out.cell 2
  have za1_3 : w1.cell? ⟨w.heap.size, 3, none⟩ = some (.slice p3 x3.length c3) := LA1.out.cell 3
  have zb1_3 : w1.cell? ⟨w.heap.size + 1, 3, none⟩ = some (.slice q3 y3.length d3) := LB1.out.cell 3
  go_wp2_with fail
  refine (equalCB _ _ _ _ _ _ _ x2 y2 (crow_below R2.out B1.out) (crow_below K2.out B1.out)).mono ?_
  rintro e w2 z1
  by_cases g2 : x2 = y2
  rotate_left
  · have HF : Hid (¬ (x0, x1, x2, x3) = (x0, y1, y2, y3)) := fun h => g2 (by simp only [Prod.mk.injEq] at h; exact h.2.2.1)
    obtain ⟨rfl, b1⟩ := z1.no g2
    have BN := hideT (B1.out.trans (b1.mono B1.out.size))
    clear z1 b1 g2
    go_wp2_with fail
    go_ret
    exact bpost_no HF.out BN.out
  obtain ⟨rfl, b1⟩ := z1.yes g2
  have B2 := hideT (B1.out.trans (b1.mono B1.out.size))
  have LA2 := hideT (LA1.out.below b1)
  have LB2 := hideT (LB1.out.below b1)
  have G2 := hideT g2
  clear z1 b1 g2
  have za2_0 : w2.cell? ⟨w.heap.size, 0, none⟩ = some (.int .i64 x0) := LA2.out.cell 0
  have zb2_0 : w2.cell? ⟨w.heap.size + 1, 0, none⟩ = some (.int .i64 x0) := LB2.out.cell 0
  have za2_1 : w2.cell? ⟨w.heap.size, 1, none⟩ = some (.slice p1 x1.length c1) := LA2.out.cell 1
  have zb2_1 : w2.cell? ⟨w.heap.size + 1, 1, none⟩ = some (.slice q1 y1.length d1) := LB2.out.cell 1
  have za2_2 : w2.cell? ⟨w.heap.size, 2, none⟩ = some (.slice p2 x2.length c2) := LA2.out.cell 2
  have zb2_2 : w2.cell? ⟨w.heap.size + 1, 2, none⟩ = some (.slice q2 y2.length d2) := LB2.out.cell 2
  have za2_3 : w2.cell? ⟨w.heap.size, 3, none⟩ = some (.slice p3 x3.length c3) := LA2.out.cell 3
  have zb2_3 : w2.cell? ⟨w.heap.size + 1, 3, none⟩ = some (.slice q3 y3.length d3) := LB2.out.cell 3
  go_wp2_with fail
  refine (equalT _ _ _ _ _ _ _ x3 y3 (lrow_below R3.out B2.out) (lrow_below K3.out B2.out)).mono ?_
  rintro e w3 z1
  by_cases g3 : x3 = y3
  rotate_left
  · have HF : Hid (¬ (x0, x1, x2, x3) = (x0, y1, y2, y3)) := fun h => g3 (by simp only [Prod.mk.injEq] at h; exact h.2.2.2)
    obtain ⟨rfl, b1⟩ := z1.no g3
    have BN := hideT (B2.out.trans (b1.mono B2.out.size))
    clear z1 b1 g3
    go_wp2_with fail
    go_ret
    exact bpost_no HF.out BN.out
  obtain ⟨rfl, b1⟩ := z1.yes g3
  have B3 := hideT (B2.out.trans (b1.mono B2.out.size))
  have LA3 := hideT (LA2.out.below b1)
  have LB3 := hideT (LB2.out.below b1)
  have G3 := hideT g3
  clear z1 b1 g3
  have za3_0 : w3.cell? ⟨w.heap.size, 0, none⟩ = some (.int .i64 x0) := LA3.out.cell 0
  have zb3_0 : w3.cell? ⟨w.heap.size + 1, 0, none⟩ = some (.int .i64 x0) := LB3.out.cell 0
  have za3_1 : w3.cell? ⟨w.heap.size, 1, none⟩ = some (.slice p1 x1.length c1) := LA3.out.cell 1
  have zb3_1 : w3.cell? ⟨w.heap.size + 1, 1, none⟩ = some (.slice q1 y1.length d1) := LB3.out.cell 1
  have za3_2 : w3.cell? ⟨w.heap.size, 2, none⟩ = some (.slice p2 x2.length c2) := LA3.out.cell 2
  have zb3_2 : w3.cell? ⟨w.heap.size + 1, 2, none⟩ = some (.slice q2 y2.length d2) := LB3.out.cell 2
  have za3_3 : w3.cell? ⟨w.heap.size, 3, none⟩ = some (.slice p3 x3.length c3) := LA3.out.cell 3
  have zb3_3 : w3.cell? ⟨w.heap.size + 1, 3, none⟩ = some (.slice q3 y3.length d3) := LB3.out.cell 3
  have HF : Hid ((x0, x1, x2, x3) = (x0, y1, y2, y3)) := by show _ = _; rw [G1.out, G2.out, G3.out]
  go_wp2_with fail
  go_ret
  exact bpost_yes HF.out B3.out
set_option maxHeartbeats 4000000 in
theorem sameUserR (w : World) (x0 y0 : ByteArray) (x1 y1 : Int) (x2 y2 : List Rp.Lit) (p2 q2 : Option Addr) (c2 d2 : Nat) (x3 y3 : Int)
    (h2 : LRow w (.slice p2 x2.length c2) x2) (k2 : LRow w (.slice q2 y2.length d2) y2) :
    Calls Try.prog 46 #[.agg #[.string x0, .int .i64 x1, .slice p2 x2.length c2, .int .i64 x3], .agg #[.string y0, .int .i64 y1, .slice q2 y2.length d2, .int .i64 y3]] w (BPost ((x0, x1, x2, x3) = (y0, y1, y2, y3)) w) := by
  have R2 := hideT h2
  have K2 := hideT k2
  clear h2 k2
  have B0 := hideT (((Below.refl w.heap.size w).alloc (Nat.le_refl _) (.cells #[.string x0, .int .i64 x1, .slice p2 x2.length c2, .int .i64 x3] 52)).alloc (by simp) (.cells #[.string y0, .int .i64 y1, .slice q2 y2.length d2, .int .i64 y3] 52))
  have LA0 := hideT ((Lies.new w 52 #[.string x0, .int .i64 x1, .slice p2 x2.length c2, .int .i64 x3]).below ((Below.refl _ _).alloc (Nat.le_refl _) (.cells #[.string y0, .int .i64 y1, .slice q2 y2.length d2, .int .i64 y3] 52)))
  have LB0 : Hid (Lies ((w.alloc (.cells #[.string x0, .int .i64 x1, .slice p2 x2.length c2, .int .i64 x3] 52)).alloc (.cells #[.string y0, .int .i64 y1, .slice q2 y2.length d2, .int .i64 y3] 52)) (w.heap.size + 1) 52 #[.string y0, .int .i64 y1, .slice q2 y2.length d2, .int .i64 y3]) := by
    have := Lies.new (w.alloc (.cells #[.string x0, .int .i64 x1, .slice p2 x2.length c2, .int .i64 x3] 52)) 52 #[.string y0, .int .i64 y1, .slice q2 y2.length d2, .int .i64 y3]
    rwa [show (w.alloc (.cells #[.string x0, .int .i64 x1, .slice p2 x2.length c2, .int .i64 x3] 52)).heap.size = w.heap.size + 1 by simp] at this
  go_enter Try.func46, Try.ntmps46
  by_cases g0 : x0 = y0
  rotate_left
  · have HF : Hid (¬ (x0, x1, x2, x3) = (y0, y1, y2, y3)) := fun h => g0 (by simp only [Prod.mk.injEq] at h; exact h.1)
    have q1' : ¬ x0.toList = y0.toList := fun h => g0 (toList_inj h)
    have q2' : (x0.toList == y0.toList) = false := beq_eq_false_iff_ne.2 q1'
    go_wp2_with fail
    go_ret
    exact bpost_no HF.out B0.out
  subst g0
  by_cases g1 : x1 = y1
  rotate_left
  · have HF : Hid (¬ (x0, x1, x2, x3) = (x0, y1, y2, y3)) := fun h => g1 (by simp only [Prod.mk.injEq] at h; exact h.2.1)
    go_wp2_with fail
    go_ret
    exact bpost_no HF.out B0.out
  subst g1
  go_wp2_with fail
  refine (equalL _ _ _ _ _ _ _ x2 y2 (lrow_below R2.out B0.out) (lrow_below K2.out B0.out)).mono ?_
  rintro e w1 z1
  by_cases g2 : x2 = y2
  rotate_left
  · have HF : Hid (¬ (x0, x1, x2, x3) = (x0, x1, y2, y3)) := fun h => g2 (by simp only [Prod.mk.injEq] at h; exact h.2.2.1)
    obtain ⟨rfl, b1⟩ := z1.no g2
    have BN := hideT (B0.out.trans (b1.mono B0.out.size))
    clear z1 b1 g2
    go_wp2_with fail
    go_ret
    exact bpost_no HF.out BN.out
  obtain ⟨rfl, b1⟩ := z1.yes g2
  have B1 := hideT (B0.out.trans (b1.mono B0.out.size))
  have LA1 := hideT (LA0.out.below b1)
  have LB1 := hideT (LB0.out.below b1)
  have G2 := hideT g2
  clear z1 b1 g2
  have za1_0 : w1.cell? ⟨w.heap.size, 0, none⟩ = some (.string x0) := LA1.out.cell 0
  have zb1_0 : w1.cell? ⟨w.heap.size + 1, 0, none⟩ = some (.string x0) := LB1.out.cell 0
  have za1_1 : w1.cell? ⟨w.heap.size, 1, none⟩ = some (.int .i64 x1) := LA1.out.cell 1
  have zb1_1 : w1.cell? ⟨w.heap.size + 1, 1, none⟩ = some (.int .i64 x1) := LB1.out.cell 1
  have za1_2 : w1.cell? ⟨w.heap.size, 2, none⟩ = some (.slice p2 x2.length c2) := LA1.out.cell 2
  have zb1_2 : w1.cell? ⟨w.heap.size + 1, 2, none⟩ = some (.slice q2 y2.length d2) := LB1.out.cell 2
  have za1_3 : w1.cell? ⟨w.heap.size, 3, none⟩ = some (.int .i64 x3) := LA1.out.cell 3
  have zb1_3 : w1.cell? ⟨w.heap.size + 1, 3, none⟩ = some (.int .i64 y3) := LB1.out.cell 3
  by_cases g3 : x3 = y3
  rotate_left
  · have HF : Hid (¬ (x0, x1, x2, x3) = (x0, x1, y2, y3)) := fun h => g3 (by simp only [Prod.mk.injEq] at h; exact h.2.2.2)
    have q1' : (x3 == y3) = false := beq_eq_false_iff_ne.2 g3
    go_wp2_with fail
    go_ret
    exact bpost_no HF.out B1.out
  subst g3
  have HF : Hid ((x0, x1, x2, x3) = (x0, x1, y2, x3)) := by show _ = _; rw [G2.out]
  go_wp2_with fail
  go_ret
  exact bpost_yes HF.out B1.out
end Go.Proofs.Ytmhiilfjckadkaa
