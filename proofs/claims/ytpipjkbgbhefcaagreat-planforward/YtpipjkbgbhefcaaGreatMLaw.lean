/-
  Is, the program's and the document's, by their plain answer.
-/
import Derived.Test.YtpipjkbgbhefcaaGreatMRef5
import Derived.Test.YtpipjkbgbhefcaaGreatPartA
set_option linter.unusedSimpArgs false
set_option linter.unusedVariables false
namespace Go.Proofs.YtpipjkbgbhefcaaGreat
open Go.RowKit
set_option maxRecDepth 100000
theorem isRefV (w : World) (m : Mp.Model) (af ai : Option Addr) (cf ci : Nat) (hm : ModelAt w af cf ai ci m) (b : Bool) (hb : Hid (Mp.isB m = b)) :
    Calls Tryz.prog 16 #[.agg #[.slice af m.files.length cf, .slice ai m.items.length ci]] w fun e w' => e = .returned (.bool b) ∧ Below w.heap.size w w' := by
  rw [← hb.out, ← Mp.is_eq]
  exact isRef w m af ai cf ci hm
theorem isProgV (w : World) (m : Mp.Model) (af ai : Option Addr) (cf ci : Nat) (hm : ModelAt w af cf ai ci m) (b : Bool) (hb : Hid (Mp.isB m = b)) :
    Calls Tryz.prog 20 #[.agg #[.slice af m.files.length cf, .slice ai m.items.length ci]] w fun e w' => e = .returned (.bool b) ∧ Below w.heap.size w w' := by
  rw [← hb.out]
  exact isD w m af ai cf ci hm
end Go.Proofs.YtpipjkbgbhefcaaGreat
