/-
  The document's Is, by its contract.
-/
import Derived.Test.YtkjekohncfhbiaaRefSmall
import Derived.Test.YtkjekohncfhbiaaPartA
set_option linter.unusedSimpArgs false
namespace Go.Proofs.Ytkjekohncfhbiaa
open Go.RowKit

end Go.Proofs.Ytkjekohncfhbiaa
