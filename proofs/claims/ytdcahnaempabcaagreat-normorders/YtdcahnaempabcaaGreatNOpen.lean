/-
  An argument that is a sentry, opened.
-/
import Derived.Test.YtdcahnaempabcaaGreatMOpen
set_option linter.unusedSimpArgs false
set_option linter.unusedVariables false
namespace Go.Proofs.YtdcahnaempabcaaGreat
open Go.RowKit
open Go.ChangeShapes Go.WideShapes Go.ChangeAt
set_option maxRecDepth 100000
theorem sarg_open {H : Type} {enc : TypeId × Value → H} {w : World} {base : Nat} {spare : Nat → Bool} {held : Bool} {r : Reach} {b0 : Nat} {v : Value} {d : DataW H} {p : List MemPlace} (hv : Value.okWide Tryz.prog w r b0 29 v) (h : DataW.Trod enc Tryz.prog w base spare held 29 v d p) (hq : Wt 29 d) :
    ∃ (af : Option Addr) (cf : Nat) (ai : Option Addr) (ci : Nat) (s : Mp.Sent), v = .agg #[.slice af s.1.length cf, .slice ai s.2.length ci] ∧ ORow w (.slice af s.1.length cf) s.1 ∧ CRow w (.slice ai s.2.length ci) s.2 := by
  obtain ⟨v0, v1, y0, y1, n, rfl, rfl, _, f0, f1⟩ := Go.Joins.open_agg2 Tryz.underlying29 (by kernel_rfl) (by kernel_rfl) hv h
  have q0 := wt_struct Tryz.underlying29 hq (j := 0) rfl rfl
  have q1 := wt_struct Tryz.underlying29 hq (j := 1) rfl rfl
  obtain ⟨v5, l5, e5, r5⟩ := row_open (⟨#[]⟩, 0) Tryz.underlying26 (show Tryz.prog.cellsOf 48 = 2 by kernel_rfl) (by omega) (of_decide_eq_true (by kernel_rfl)) on_open f0 q0
  obtain ⟨v6, l6, e6, r6⟩ := row_open (⟨#[]⟩, ⟨#[]⟩, 0) Tryz.underlying27 (show Tryz.prog.cellsOf 52 = 3 by kernel_rfl) (by omega) (of_decide_eq_true (by kernel_rfl)) cond_open f1 q1
  obtain rfl : v0 = v5 := (List.cons.inj e5).1
  obtain rfl : v1 = v6 := (List.cons.inj e6).1
  obtain ⟨af, cf, rfl⟩ := row_val r5
  obtain ⟨ai, ci, rfl⟩ := row_val r6
  exact ⟨af, cf, ai, ci, (l5, l6), rfl, r5, r6⟩
end Go.Proofs.YtdcahnaempabcaaGreat
