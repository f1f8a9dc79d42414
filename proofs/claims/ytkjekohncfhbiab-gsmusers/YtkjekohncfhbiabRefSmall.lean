/-
  The small functions of the document's answer: each by its contract.
-/
import Derived.Test.YtkjekohncfhbiabChecked
import Derived.Test.YtkjekohncfhbiabPartA
import Derived.WalkKit
import Derived.WalkSpells
import Derived.WalkLawsBesides
set_option linter.unusedSimpArgs false
namespace Go.Proofs.Ytkjekohncfhbiab
open Go.RowKit

end Go.Proofs.Ytkjekohncfhbiab
