/-
  The small functions of the document's answer: each by its contract.
-/
import Derived.Test.YtmhiilfjckadkaaChecked
import Derived.Test.YtmhiilfjckadkaaPlain
import Derived.WalkKit
import Derived.WalkSpells
import Derived.WalkLawsBesides
set_option linter.unusedSimpArgs false
namespace Go.Proofs.Ytmhiilfjckadkaa
open Go.RowKit

end Go.Proofs.Ytmhiilfjckadkaa
