/-
  The small functions of the document's answer: each by its contract.
-/
import Derived.Test.YtlgcaklhceekiaaChecked
import Derived.Test.YtlgcaklhceekiaaPlain
import Derived.WalkKit
import Derived.WalkSpells
import Derived.WalkLawsBesides
set_option linter.unusedSimpArgs false
namespace Go.Proofs.Ytlgcaklhceekiaa
open Go.RowKit

end Go.Proofs.Ytlgcaklhceekiaa
