/-
  The program's SameItem, Same.
-/
import Derived.Test.YtlgcaklhceekiaaMSame2
set_option linter.unusedSimpArgs false
set_option linter.unusedVariables false
namespace Go.Proofs.Ytlgcaklhceekiaa
open Go.RowKit
set_option maxRecDepth 100000
namespace Mp
/-- Two items are one; two rows of items; two models. -/
def eqI (x y : Item) : Bool := decide (x.id = y.id) && (decide (x.kind = y.kind) && (decide (x.parent = y.parent) && (decide (x.req = y.req) && (decide (x.ticks = y.ticks) && (decide (x.entry = y.entry) && decide (x.exit = y.exit))))))
def eqIs : List Item → List Item → Bool
  | [], [] => true
  | x :: r, y :: s => eqI x y && eqIs r s
  | _, _ => false
def eqM (x y : Model) : Bool := decide (x.files = y.files) && eqIs x.items y.items
theorem eqI_iff (x y : Item) : eqI x y = true ↔ x = y := by
  obtain ⟨x0, x1, x2, x3, x4, x5, x6⟩ := x
  obtain ⟨y0, y1, y2, y3, y4, y5, y6⟩ := y
  simp only [eqI, Bool.and_eq_true, decide_eq_true_eq, Item.mk.injEq]
theorem eqIs_iff : ∀ (a b : List Item), eqIs a b = true ↔ a = b
  | [], [] => by simp [eqIs]
  | [], y :: s => by simp [eqIs]
  | x :: r, [] => by simp [eqIs]
  | x :: r, y :: s => by simp only [eqIs, Bool.and_eq_true, eqI_iff, eqIs_iff r s, List.cons.injEq]
theorem eqM_iff (x y : Model) : eqM x y = true ↔ x = y := by
  obtain ⟨x0, x1⟩ := x
  obtain ⟨y0, y1⟩ := y
  simp only [eqM, Bool.and_eq_true, decide_eq_true_eq, eqIs_iff, Model.mk.injEq]
theorem eqIs_no {a b : List Item} (h : a ≠ b) : eqIs a b = false := by
  cases e : eqIs a b
  · rfl
  · exact absurd ((eqIs_iff a b).1 e) h
theorem eqIs_len {a b : List Item} (h : a.length ≠ b.length) : eqIs a b = false := eqIs_no fun e => h (by rw [e])
theorem eqIs_at {a b : List Item} {k : Nat} {x y : Item} (h1 : a[k]? = some x) (h2 : b[k]? = some y) (h : eqI x y = false) : eqIs a b = false := eqIs_no fun e => by
  rw [e, h2] at h1
  have := (eqI_iff x y).2 (Option.some.inj h1).symm
  rw [h] at this
  exact absurd this (by decide)
theorem eqIs_all {a b : List Item} {n : Nat} (h1 : n = a.length) (h2 : n = b.length) (h : ∀ (j : Nat), j < n → a[j]? = b[j]?) : eqIs a b = true := by
  refine (eqIs_iff a b).2 (List.ext_getElem? fun j => ?_)
  by_cases hj : j < n
  · exact h j hj
  · rw [List.getElem?_eq_none (by omega), List.getElem?_eq_none (by omega)]
end Mp
set_option maxHeartbeats 4000000 in
theorem sameItemD (w : World) (x0 y0 : ByteArray) (x1 y1 : Int) (x2 y2 : ByteArray) (x3 y3 : Bool) (x4 y4 : Int) (x5 y5 x6 y6 : List Mp.Sent) (p5 p6 q5 q6 : Option Addr) (c5 c6 d5 d6 : Nat)
    (h5 : SRow w (.slice p5 x5.length c5) x5) (h6 : SRow w (.slice p6 x6.length c6) x6) (k5 : SRow w (.slice q5 y5.length d5) y5) (k6 : SRow w (.slice q6 y6.length d6) y6) (b : Bool) (hb : Hid (Mp.eqI ⟨x0, x1, x2, x3, x4, x5, x6⟩ ⟨y0, y1, y2, y3, y4, y5, y6⟩ = b)) :
    Calls Try.prog 6 #[.agg #[.string x0, .int .i64 x1, .string x2, .bool x3, .int .i64 x4, .slice p5 x5.length c5, .slice p6 x6.length c6], .agg #[.string y0, .int .i64 y1, .string y2, .bool y3, .int .i64 y4, .slice q5 y5.length d5, .slice q6 y6.length d6]] w fun e w' => e = .returned (.bool b) ∧ Below w.heap.size w w' := by
  have R5 := hideT h5
  have R6 := hideT h6
  have K5 := hideT k5
  have K6 := hideT k6
  clear h5 h6 k5 k6
  have B0 := hideT (((Below.refl w.heap.size w).alloc (Nat.le_refl _) (.cells #[.string x0, .int .i64 x1, .string x2, .bool x3, .int .i64 x4, .slice p5 x5.length c5, .slice p6 x6.length c6] 29)).alloc (by simp) (.cells #[.string y0, .int .i64 y1, .string y2, .bool y3, .int .i64 y4, .slice q5 y5.length d5, .slice q6 y6.length d6] 29))
  have LA := hideT ((Lies.new w 29 #[.string x0, .int .i64 x1, .string x2, .bool x3, .int .i64 x4, .slice p5 x5.length c5, .slice p6 x6.length c6]).below ((Below.refl _ _).alloc (Nat.le_refl _) (.cells #[.string y0, .int .i64 y1, .string y2, .bool y3, .int .i64 y4, .slice q5 y5.length d5, .slice q6 y6.length d6] 29)))
  have LB : Hid (Lies ((w.alloc (.cells #[.string x0, .int .i64 x1, .string x2, .bool x3, .int .i64 x4, .slice p5 x5.length c5, .slice p6 x6.length c6] 29)).alloc (.cells #[.string y0, .int .i64 y1, .string y2, .bool y3, .int .i64 y4, .slice q5 y5.length d5, .slice q6 y6.length d6] 29)) (w.heap.size + 1) 29 #[.string y0, .int .i64 y1, .string y2, .bool y3, .int .i64 y4, .slice q5 y5.length d5, .slice q6 y6.length d6]) := by
    have := Lies.new (w.alloc (.cells #[.string x0, .int .i64 x1, .string x2, .bool x3, .int .i64 x4, .slice p5 x5.length c5, .slice p6 x6.length c6] 29)) 29 #[.string y0, .int .i64 y1, .string y2, .bool y3, .int .i64 y4, .slice q5 y5.length d5, .slice q6 y6.length d6]
    rwa [show (w.alloc (.cells #[.string x0, .int .i64 x1, .string x2, .bool x3, .int .i64 x4, .slice p5 x5.length c5, .slice p6 x6.length c6] 29)).heap.size = w.heap.size + 1 by simp] at this
  go_enter Try.func6, Try.ntmps6
  by_cases g0 : x0 = y0
  rotate_left
  · have HF : Hid (b = false) := by rw [← hb.out]; simp [Mp.eqI, g0, Hid]
    have q1' : ¬ x0.toList = y0.toList := fun h => g0 (toList_inj h)
    have q2' : (x0.toList == y0.toList) = false := beq_eq_false_iff_ne.2 q1'
    go_wp2_with fail
    go_ret
    exact ⟨ret_b HF.out.symm, B0.out⟩
  subst g0
  by_cases g1 : x1 = y1
  rotate_left
  · have HF : Hid (b = false) := by rw [← hb.out]; simp [Mp.eqI, g1, Hid]
    go_wp2_with fail
    go_ret
    exact ⟨ret_b HF.out.symm, B0.out⟩
  subst g1
  by_cases g2 : x2 = y2
  rotate_left
  · have HF : Hid (b = false) := by rw [← hb.out]; simp [Mp.eqI, g2, Hid]
    have q1' : ¬ x2.toList = y2.toList := fun h => g2 (toList_inj h)
    have q2' : (x2.toList == y2.toList) = false := beq_eq_false_iff_ne.2 q1'
    go_wp2_with fail
    go_ret
    exact ⟨ret_b HF.out.symm, B0.out⟩
  subst g2
  by_cases g3 : x3 = y3
  rotate_left
  · have HF : Hid (b = false) := by rw [← hb.out]; simp [Mp.eqI, g3, Hid]
    have q1' : (x3 == y3) = false := beq_eq_false_iff_ne.2 g3
    go_wp2_with fail
    go_ret
    exact ⟨ret_b HF.out.symm, B0.out⟩
  subst g3
  by_cases g4 : x4 = y4
  rotate_left
  · have HF : Hid (b = false) := by rw [← hb.out]; simp [Mp.eqI, g4, Hid]
    go_wp2_with fail
    go_ret
    exact ⟨ret_b HF.out.symm, B0.out⟩
  subst g4
  obtain ⟨b1, H1⟩ : ∃ y, Hid (decide (x5 = y5) = y) := ⟨_, rfl⟩
  obtain ⟨b2, H2⟩ : ∃ y, Hid (decide (x6 = y6) = y) := ⟨_, rfl⟩
  have HF : Hid (b = (b1 && b2)) := by show _ = _; rw [← hb.out, ← H1.out, ← H2.out]; simp [Mp.eqI]
  go_wp2_with fail
  refine (sameSentriesD _ _ _ _ _ _ _ x5 y5 (srow_below R5.out B0.out) (srow_below K5.out B0.out) b1 H1).mono ?_
  rintro e w1 ⟨rfl, p⟩
  have B1 := hideT (B0.out.trans (p.mono B0.out.size))
  cases b1
  · go_wp2_with fail
    go_ret
    exact ⟨ret_b (by rw [HF.out]; rfl), B1.out⟩
  have z1 : w1.cell? ⟨w.heap.size, 6, none⟩ = some (.slice p6 x6.length c6) := (LA.out.below p).cell 6
  have z2 : w1.cell? ⟨w.heap.size + 1, 6, none⟩ = some (.slice q6 y6.length d6) := (LB.out.below p).cell 6
  clear p
  go_wp2_with fail
  refine (sameSentriesD _ _ _ _ _ _ _ x6 y6 (srow_below R6.out B1.out) (srow_below K6.out B1.out) b2 H2).mono ?_
  rintro e w2 ⟨rfl, p2'⟩
  go_wp2_with fail
  go_ret
  exact ⟨ret_b (by rw [HF.out]; rfl), B1.out.trans (p2'.mono B1.out.size)⟩
end Go.Proofs.Ytlgcaklhceekiaa
