/-
  The frame that all rows of this seat share.
-/
import Derived.Test.YtpipjkbgbhefcaaGreatCActs
import Derived.Test.YtpipjkbgbhefcaaGreatRows
import Derived.Deep.DeepHandedRow
import Derived.Shelf.Vars
import Derived.ProofKit
namespace Go.Proofs.YtpipjkbgbhefcaaGreat
open Go.RowKit
theorem own : ownKnob Tryz.prog.godebug = none := by kernel_rfl
end Go.Proofs.YtpipjkbgbhefcaaGreat
