/-
  The document's Legal, Place, File, Op.
-/
import Derived.Test.YtmhiilfjckadkaaMPlace
import Derived.Test.YtmhiilfjckadkaaRefIs
set_option linter.unusedSimpArgs false
set_option linter.unusedVariables false
namespace Go.Proofs.Ytmhiilfjckadkaa
open Go.RowKit
set_option maxRecDepth 100000
end Go.Proofs.Ytmhiilfjckadkaa
