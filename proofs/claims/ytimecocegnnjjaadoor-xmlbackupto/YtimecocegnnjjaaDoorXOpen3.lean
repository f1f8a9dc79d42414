/-
  The bulk of what was read bounds each of its parts.
-/
import Derived.Test.YtimecocegnnjjaaDoorXOpen2
import Derived.Test.YtimecocegnnjjaaDoorRows
set_option linter.unusedSimpArgs false
set_option linter.unusedVariables false
namespace Go.Proofs.YtimecocegnnjjaaDoor
open Go.RowKit
theorem bulk_pos {H : Type} (d : DataW H) : 1 ≤ Rows.uptoBulk d := by
  cases d with
  | lit l => cases l <;> simp [Rows.uptoBulk]
  | _ => simp [Rows.uptoBulk]
theorem bulk_mem {H : Type} : ∀ {l : List (DataW H)} {x : DataW H}, x ∈ l → Rows.uptoBulk x ≤ Rows.uptoBulkAll l
  | d :: r, x, h => by
    rw [Rows.uptoBulkAll]
    rcases List.mem_cons.1 h with rfl | h
    · omega
    · have := bulk_mem h
      omega
theorem bulk_len {H : Type} : ∀ (l : List (DataW H)), l.length ≤ Rows.uptoBulkAll l
  | [] => by simp
  | d :: r => by
    rw [Rows.uptoBulkAll, List.length_cons]
    have := bulk_len r
    have := bulk_pos d
    omega
theorem bulk_goes (H : Type) : Goes H fun _ d => Rows.uptoBulk d ≤ 1048576 where
  elem := by
    intro a b c d h
    simp only [Rows.uptoBulk, Rows.uptoBulkAll] at h
    exact ⟨by omega, by omega, by omega⟩
  str := by
    intro l h
    simp only [Rows.uptoBulk] at h
    omega
  attrs := by
    intro es sp h
    simp only [Rows.uptoBulk] at h
    refine ⟨by have := bulk_len es; omega, fun x hx => ?_⟩
    have := bulk_mem hx
    omega
  attr := by
    intro a b h
    simp only [Rows.uptoBulk, Rows.uptoBulkAll] at h
    exact ⟨by omega, by omega⟩
  kids := by
    intro es sp h
    simp only [Rows.uptoBulk] at h
    refine ⟨by have := bulk_len es; omega, fun x hx => ?_⟩
    have := bulk_mem hx
    omega
end Go.Proofs.YtimecocegnnjjaaDoor
