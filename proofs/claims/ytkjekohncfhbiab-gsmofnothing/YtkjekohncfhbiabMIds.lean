/-
  The items' own names.
-/
import Derived.Test.YtkjekohncfhbiabMRows
set_option linter.unusedSimpArgs false
set_option linter.unusedVariables false
namespace Go.Proofs.Ytkjekohncfhbiab
open Go.RowKit
set_option maxRecDepth 100000
end Go.Proofs.Ytkjekohncfhbiab
