/-
  The queue's Copy.
-/
import Derived.Test.YtjibkhljihnhiabQKnown
import Derived.Maps.AppendAt
import Derived.Lib.SliceRun
set_option linter.unusedSimpArgs false
set_option linter.unusedVariables false
namespace Go.Proofs.Ytjibkhljihnhiab
open Go.RowKit
open Qp
end Go.Proofs.Ytjibkhljihnhiab
