/-
  ModelLegal: of any kind and event whether they go together.
-/
import Derived.Test.YtfbnlplafkangaaMKnown
import Derived.Test.YtfbnlplafkangaaMRefSmall
set_option linter.unusedSimpArgs false
set_option linter.unusedVariables false
namespace Go.Proofs.Ytfbnlplafkangaa
open Go.RowKit
theorem modelLegal_walk (k : Int) (_ : (Lit.int .i64 k).wf = true) (e : Int) (_ : (Lit.int .i64 e).wf = true) (w : World) :
    Calls Try.prog 5 #[.int .i64 k, .int .i64 e] w fun r w' => r = .returned (.bool true) ∧ Below w.heap.size w w' := by
  go_enter Try.func5, Try.ntmps5
  go_wp2_with fail
  refine (legalD k e w).mono ?_
  rintro r w1 ⟨rfl, rfl⟩
  go_wp2_with fail
  refine (legalRef k e _).mono ?_
  rintro r w2 ⟨rfl, rfl⟩
  go_wp2_with fail
  refine (knownD _).mono ?_
  rintro r w3 ⟨rfl, p3⟩
  go_wp2_with fail
  go_ret
  exact ⟨rfl, p3⟩
end Go.Proofs.Ytfbnlplafkangaa
