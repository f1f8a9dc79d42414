/-
  heavy: what is looked at is light.
-/
import Derived.Test.YtpipjkbgbhefcaaMSmall
import Derived.Deep.QuietTactic
import Derived.BigQuiet
set_option linter.unusedSimpArgs false
set_option linter.unusedVariables false
namespace Go.Proofs.Ytpipjkbgbhefcaa
open Go.RowKit
set_option maxRecDepth 100000
def lightS (s : Mp.Sent) : Prop := s.1.length < 400 ∧ s.2.length < 400
def lightI (x : Mp.Item) : Prop := x.entry.length < 400 ∧ x.exit.length < 400 ∧ (∀ s ∈ x.entry, lightS s) ∧ ∀ s ∈ x.exit, lightS s
def light (m : Mp.Model) : Prop := m.files.length < 400 ∧ m.items.length < 400 ∧ ∀ x ∈ m.items, lightI x
/-- The count so far: below 400 all that was counted is light. -/
def LI (m : Mp.Model) (k N : Nat) : Prop := N < 400 → m.files.length < 400 ∧ m.items.length < 400 ∧ ∀ (j : Nat) x, j < k → m.items[j]? = some x → lightI x
def LE (m : Mp.Model) (k : Nat) (x : Mp.Item) (l : List Mp.Sent) (i N : Nat) : Prop := N < 400 → LI m k 0 ∧ x.entry.length < 400 ∧ x.exit.length < 400 ∧ ∀ (j : Nat) s, j < i → l[j]? = some s → lightS s
/-- What heavy answers: some bool; where it is false the model is light. -/
def HvPost (m : Mp.Model) (w : World) (e : Ending) (w' : World) : Prop := ∃ b, e = .returned (.bool b) ∧ (b = false → light m) ∧ Below w.heap.size w w'
theorem LI.mono {m : Mp.Model} {k N M : Nat} (h : LI m k N) (hm : N ≤ M) : LI m k M := fun h' => h (by omega)
end Go.Proofs.Ytpipjkbgbhefcaa
