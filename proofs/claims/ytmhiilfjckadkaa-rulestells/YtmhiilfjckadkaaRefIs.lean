/-
  The document's Is, by its contract.
-/
import Derived.Test.YtmhiilfjckadkaaRefSmall
import Derived.Test.YtmhiilfjckadkaaPlain2
set_option linter.unusedSimpArgs false
namespace Go.Proofs.Ytmhiilfjckadkaa
open Go.RowKit

end Go.Proofs.Ytmhiilfjckadkaa
