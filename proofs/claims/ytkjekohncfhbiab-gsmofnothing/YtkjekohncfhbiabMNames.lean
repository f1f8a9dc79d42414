/-
  Rows of names; the place of an item.
-/
import Derived.Test.YtkjekohncfhbiabMIndex
import Derived.Test.YtkjekohncfhbiabIs
set_option linter.unusedSimpArgs false
set_option linter.unusedVariables false
namespace Go.Proofs.Ytkjekohncfhbiab
open Go.RowKit
theorem containsSV (w : World) (ao : Option Addr) (n cap : Nat) (l : List ByteArray) (s : ByteArray) (h : FRow w (.slice ao n cap) l) (b : Bool) (hb : Hid (Mp.has l s = b)) :
    Calls Try.prog 63 #[.slice ao n cap, .string s] w fun e w' => e = .returned (.bool b) ∧ w' = w := by
  rw [← hb.out]
  exact containsS w ao n cap l s h
end Go.Proofs.Ytkjekohncfhbiab
