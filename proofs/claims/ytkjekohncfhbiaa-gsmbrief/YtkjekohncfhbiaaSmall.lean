/-
  The small functions of package name: each by its contract.
-/
import Derived.Test.YtkjekohncfhbiaaRefSmall
import Derived.WalkKit
import Derived.WalkSpells
import Derived.WalkLawsBesides
set_option linter.unusedSimpArgs false
namespace Go.Proofs.Ytkjekohncfhbiaa
open Go.RowKit

end Go.Proofs.Ytkjekohncfhbiaa
