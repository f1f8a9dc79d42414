/-
  The frame that all rows of this seat share.
-/
import Derived.Test.YtdcahnaempabcabGreatMKnown
import Derived.Test.YtdcahnaempabcabGreatRows
import Derived.Deep.DeepHandedRow
import Derived.Shelf.Vars
import Derived.ProofKit
namespace Go.Proofs.YtdcahnaempabcabGreat
open Go.RowKit
set_option maxRecDepth 100000
theorem own : ownKnob Tryz.prog.godebug = none := by kernel_rfl
end Go.Proofs.YtdcahnaempabcabGreat
