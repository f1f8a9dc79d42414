/-
  The program's innermost.
-/
import Derived.Test.YtimecocegnnjjaaDoorDStack
import Derived.Test.YtimecocegnnjjaaDoorPartD
set_option linter.unusedSimpArgs false
set_option linter.unusedVariables false
namespace Go.Proofs.YtimecocegnnjjaaDoor
open Go.RowKit
/-- The pointer to the last of the open elements. -/
theorem innermostD (w : World) (b : Nat) (s : ByteArray) (p e : Int) (R : PRest) (g d cap : Nat) (hd : d ≤ 1000) (hv : R.vo = .slice (some ⟨g, 0, none⟩) (d + 1) cap) (h : PIn w b s p e R) :
    Calls Tryd.prog 44 #[ptr b] w fun r w' => r = .returned (.pointer (some ⟨g, d * 4, none⟩)) ∧ Below w.heap.size w w' := by
  have x3 : w.cell? ⟨b, 3, none⟩ = some (.slice (some ⟨g, 0, none⟩) (d + 1) cap) := by
    have := h.cell 3
    rw [← hv]
    exact this
  clear h
  obtain ⟨n, hn⟩ : ∃ n, n = d + 1 := ⟨_, rfl⟩
  rw [← hn] at x3
  have HN : Hid (n = d + 1) := hn
  have t0 : n ≤ 1001 := by omega
  have t1 : IntKind.i64.wrap ((n : Int) - 1) = (d : Int) := by rw [IntKind.wrap_i64]; omega
  have t2 : (0 : Int) ≤ (d : Int) := by omega
  have t3 : (d : Int) < (n : Int) := by omega
  clear hn
  go_enter Tryd.func44, Tryd.ntmps44
  go_wp2_with fail
  go_region_held3 (fun w' => w'.cell? ⟨b, 3, none⟩ = some (.slice (some ⟨g, 0, none⟩) n cap)) (go_keep) (fail)
  all_goals go_wp2_with fail
  go_ret
  exact ⟨rfl, (Below.refl _ w).drew⟩
end Go.Proofs.YtimecocegnnjjaaDoor
