/-
  An element among a law's arguments, of a size that is said.
-/
import Derived.Test.YtimecocegnnjjaaDoorXOpen3
set_option linter.unusedSimpArgs false
set_option linter.unusedVariables false
namespace Go.Proofs.YtimecocegnnjjaaDoor
open Go.RowKit
set_option maxRecDepth 100000
theorem elem_arg {H : Type} {enc : TypeId × Value → H} {w : World} {base : Nat} {spare : Nat → Bool} {held : Bool} {r : Reach} {b0 : Nat} {v : Value} {d : DataW H} {p : List MemPlace} (hv : Value.okWide Tryd.prog w r b0 25 v) (h : DataW.Trod enc Tryd.prog w base spare held 25 v d p) (hq : Rows.uptoBulk d ≤ 1048576) :
    ∃ n c0 c1 c2 c3 T, v = .agg #[c0, c1, c2, c3] ∧ EIn w n c0 c1 c2 c3 T := by
  obtain ⟨cs, rfl, hsz⟩ := Go.WideShapes.okWide_struct Tryd.underlying25 hv
  obtain ⟨fuel, hf⟩ := h
  obtain ⟨c0, c1, c2, c3, T, e, hE⟩ := elem_open (bulk_goes H) (SizeOf.sizeOf d) fuel cs.toList (d, p) (Nat.le_refl _) hf hq
  refine ⟨_, c0, c1, c2, c3, T, ?_, hE⟩
  congr 1
  exact Array.toList_inj.1 e
end Go.Proofs.YtimecocegnnjjaaDoor
