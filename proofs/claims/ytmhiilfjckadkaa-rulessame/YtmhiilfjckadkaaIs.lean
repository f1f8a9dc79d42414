/-
  name.Is and the document's Is: each by its contract.
-/
import Derived.Test.YtmhiilfjckadkaaSmall
import Derived.Test.YtmhiilfjckadkaaPlain2
set_option linter.unusedSimpArgs false
namespace Go.Proofs.Ytmhiilfjckadkaa
open Go.RowKit

end Go.Proofs.Ytmhiilfjckadkaa
