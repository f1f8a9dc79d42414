/-
  The small functions of the document's answer: each by its contract.
-/
import Derived.Test.YtpipjkbgbhefcaaChecked
import Derived.Test.YtpipjkbgbhefcaaPartA
import Derived.WalkKit
import Derived.WalkSpells
import Derived.WalkLawsBesides
set_option linter.unusedSimpArgs false
namespace Go.Proofs.Ytpipjkbgbhefcaa
open Go.RowKit

end Go.Proofs.Ytpipjkbgbhefcaa
