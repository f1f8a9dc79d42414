/-
  Is, the program's and the document's, by their plain answer.
-/
import Derived.Test.YtfbnlplafkangabMRef5
import Derived.Test.YtfbnlplafkangabMEq2
set_option linter.unusedSimpArgs false
set_option linter.unusedVariables false
namespace Go.Proofs.Ytfbnlplafkangab
open Go.RowKit
theorem isRefV (w : World) (m : Mp.Model) (af ai : Option Addr) (cf ci : Nat) (hm : ModelAt w af cf ai ci m) (b : Bool) (hb : Hid (Mp.isB m = b)) :
    Calls Try.prog 7 #[.agg #[.slice af m.files.length cf, .slice ai m.items.length ci]] w fun e w' => e = .returned (.bool b) ∧ Below w.heap.size w w' := by
  rw [← hb.out, ← Mp.is_eq]
  exact isRef w m af ai cf ci hm
theorem isProgV (w : World) (m : Mp.Model) (af ai : Option Addr) (cf ci : Nat) (hm : ModelAt w af cf ai ci m) (b : Bool) (hb : Hid (Mp.isB m = b)) :
    Calls Try.prog 8 #[.agg #[.slice af m.files.length cf, .slice ai m.items.length ci]] w fun e w' => e = .returned (.bool b) ∧ Below w.heap.size w w' := by
  rw [← hb.out]
  exact isD w m af ai cf ci hm
end Go.Proofs.Ytfbnlplafkangab
