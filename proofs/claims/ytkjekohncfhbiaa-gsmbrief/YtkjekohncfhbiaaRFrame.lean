/-
  The frame that all rows of this seat share.
-/
import Derived.Test.YtkjekohncfhbiaaROpen
import Derived.Test.YtkjekohncfhbiaaRows
import Derived.Deep.DeepHandedRow
import Derived.Shelf.Vars
import Derived.ProofKit
namespace Go.Proofs.Ytkjekohncfhbiaa
open Go.RowKit
theorem own : ownKnob Try.prog.godebug = none := by kernel_rfl
end Go.Proofs.Ytkjekohncfhbiaa
