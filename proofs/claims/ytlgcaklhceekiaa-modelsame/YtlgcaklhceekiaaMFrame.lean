/-
  The frame that all rows of this seat share.
-/
import Derived.Test.YtlgcaklhceekiaaMKnown
import Derived.Test.YtlgcaklhceekiaaRows
import Derived.Deep.DeepHandedRow
import Derived.Shelf.Vars
import Derived.ProofKit
namespace Go.Proofs.Ytlgcaklhceekiaa
open Go.RowKit
set_option maxRecDepth 100000
theorem own : ownKnob Try.prog.godebug = none := by kernel_rfl
end Go.Proofs.Ytlgcaklhceekiaa
