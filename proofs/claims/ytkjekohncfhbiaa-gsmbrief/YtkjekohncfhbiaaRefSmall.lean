/-
  The small functions of the document's answer: each by its contract.
-/
import Derived.Test.YtkjekohncfhbiaaChecked
import Derived.Test.YtkjekohncfhbiaaPartA
import Derived.WalkKit
import Derived.WalkSpells
import Derived.WalkLawsBesides
set_option linter.unusedSimpArgs false
namespace Go.Proofs.Ytkjekohncfhbiaa
open Go.RowKit

end Go.Proofs.Ytkjekohncfhbiaa
