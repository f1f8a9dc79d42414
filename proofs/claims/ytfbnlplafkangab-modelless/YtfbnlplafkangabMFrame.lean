/-
  The frame that all rows of this seat share.
-/
import Derived.Test.YtfbnlplafkangabMKnown
import Derived.Test.YtfbnlplafkangabRows
import Derived.Deep.DeepHandedRow
import Derived.Shelf.Vars
import Derived.ProofKit
namespace Go.Proofs.Ytfbnlplafkangab
open Go.RowKit
theorem own : ownKnob Try.prog.godebug = none := by kernel_rfl
end Go.Proofs.Ytfbnlplafkangab
