/-
  The small functions of package name: each by its contract.
-/
import Derived.Test.YtkjekohncfhbiabRefSmall
import Derived.WalkKit
import Derived.WalkSpells
import Derived.WalkLawsBesides
set_option linter.unusedSimpArgs false
namespace Go.Proofs.Ytkjekohncfhbiab
open Go.RowKit

end Go.Proofs.Ytkjekohncfhbiab
