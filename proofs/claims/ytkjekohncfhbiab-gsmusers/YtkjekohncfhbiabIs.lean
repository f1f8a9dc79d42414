/-
  name.Is and the document's Is: each by its contract.
-/
import Derived.Test.YtkjekohncfhbiabSmall
import Derived.Test.YtkjekohncfhbiabPartA
set_option linter.unusedSimpArgs false
namespace Go.Proofs.Ytkjekohncfhbiab
open Go.RowKit

end Go.Proofs.Ytkjekohncfhbiab
