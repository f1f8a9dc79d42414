/-
  The frame that all rows of this seat share: what their variable holds.
-/
import Derived.Test.YthbkipmimkepkabSKnown
import Derived.Test.YthbkipmimkepkabRows
import Derived.Deep.DeepHandedRow
import Derived.Shelf.Vars
import Derived.ProofKit
namespace Go.Proofs.Ythbkipmimkepkab
open Go.RowKit
theorem own : ownKnob Try.prog.godebug = none := by kernel_rfl
theorem okS_of {W : World} (hs : W.ShapedOpen Try.prog) : OkS W :=
  cell_of_shapedOpen_int (zero := #[.int .i64 0]) (t := 3) hs (of_decide_eq_true (by kernel_rfl)) (by kernel_rfl) rfl (by kernel_rfl) (by kernel_rfl) Try.underlying3
end Go.Proofs.Ythbkipmimkepkab
