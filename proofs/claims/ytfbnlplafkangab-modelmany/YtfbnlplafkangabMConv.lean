/-
  A text of two signs, made of bytes.
-/
import Derived.Test.YtfbnlplafkangabMBuild
import Derived.OpenShut
import Derived.Lib.SmallJoins
set_option linter.unusedSimpArgs false
set_option linter.unusedVariables false
namespace Go.Proofs.Ytfbnlplafkangab
open Go.RowKit
theorem cat_ba (a b : Array UInt8) : (⟨a⟩ : ByteArray) ++ ⟨b⟩ = ⟨a ++ b⟩ := by
  apply toList_inj
  rw [ByteArray.toList_eq, ByteArray.toList_eq, Go.Joins.data_append]
  simp
/-- 'string([]byte{c})'. -/
theorem conv_byteZ (z : Int) (c : UInt8) (h : z = c.toNat) (w : World) : (convert 41 9 (.slice (some ⟨w.heap.size, 0, none⟩) 1 1)).run Try.prog (w.alloc (.cells #[.int .u8 z] 5)) = .ok (.string ⟨#[c]⟩) (w.alloc (.cells #[.int .u8 z] 5)) := by
  subst h
  refine run_convert_bytes_back (P := Try.prog) (w.alloc (.cells #[.int .u8 c.toNat] 5)) 41 9 5 ⟨w.heap.size, 0, none⟩ 1 [c] Try.underlying41 Try.underlying5 Try.underlying9 ?_
  intro j hj
  obtain rfl : j = 0 := by simpa using hj
  show (w.alloc (.cells #[.int .u8 c.toNat] 5)).cell? ⟨w.heap.size, 0, none⟩ = _
  rw [cell_new]
  rfl
end Go.Proofs.Ytfbnlplafkangab
