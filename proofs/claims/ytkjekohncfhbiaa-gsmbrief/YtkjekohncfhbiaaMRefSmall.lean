/-
  The document's Legal, Place, File, Op.
-/
import Derived.Test.YtkjekohncfhbiaaPartX
import Derived.Test.YtkjekohncfhbiaaRefIs
set_option linter.unusedSimpArgs false
set_option linter.unusedVariables false
namespace Go.Proofs.Ytkjekohncfhbiaa
open Go.RowKit
set_option maxRecDepth 100000
end Go.Proofs.Ytkjekohncfhbiaa
