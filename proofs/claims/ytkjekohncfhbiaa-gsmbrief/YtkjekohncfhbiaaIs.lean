/-
  name.Is and the document's Is: each by its contract.
-/
import Derived.Test.YtkjekohncfhbiaaSmall
import Derived.Test.YtkjekohncfhbiaaPartA
set_option linter.unusedSimpArgs false
namespace Go.Proofs.Ytkjekohncfhbiaa
open Go.RowKit

end Go.Proofs.Ytkjekohncfhbiaa
