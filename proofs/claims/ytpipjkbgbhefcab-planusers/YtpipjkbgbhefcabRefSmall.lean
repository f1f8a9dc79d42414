/-
  The small functions of the document's answer: each by its contract.
-/
import Derived.Test.YtpipjkbgbhefcabChecked
import Derived.Test.YtpipjkbgbhefcabPartA
import Derived.WalkKit
import Derived.WalkSpells
import Derived.WalkLawsBesides
set_option linter.unusedSimpArgs false
namespace Go.Proofs.Ytpipjkbgbhefcab
open Go.RowKit

end Go.Proofs.Ytpipjkbgbhefcab
