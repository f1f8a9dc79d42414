/-
  The document's Push, whatever its row holds.
-/
import Derived.Test.YtjibkhljihnhiaaQRefP1
import Derived.Test.YtjibkhljihnhiaaQRefP2
import Derived.Test.YtjibkhljihnhiaaQRefP3
import Derived.Test.YtjibkhljihnhiaaQRefP4
import Derived.Test.YtjibkhljihnhiaaQRefP5
set_option linter.unusedSimpArgs false
set_option linter.unusedVariables false
namespace Go.Proofs.Ytjibkhljihnhiaa
open Go.RowKit
open Qp
theorem refPush (w : World) (H xb g o : Nat) (ao : Option Addr) (cap : Nat) (L : List Thing) (d x : Int) (h : XAt w H xb g o ao cap L) (hH : H ≤ w.heap.size) (hl : L.length < 100) :
    Calls Try.prog 11 #[.pointer (some ⟨xb, 0, none⟩), .int .i64 d, .int .i64 x] w fun e w' => e = .returned (.bool true) ∧ ∃ k, Ins L (d, x) k ∧ (∃ g' o' ao' cap', XAt w' H xb g' o' ao' cap' (L.take k ++ [(d, x)] ++ L.drop k)) ∧ Keep (fun k => k = xb) w w' := by
  obtain ⟨k, hI⟩ := ins_ex (d, x) L.length L rfl
  rcases h.norm with ⟨rfl, h0⟩ | ⟨g, o, hX, rfl⟩
  · subst h0
    have hk : k = 0 := by have := hI.le; simpa using this
    subst hk
    exact (refPush1 w H xb g o cap 0 [] d x h rfl hH (by omega) rfl).mono fun e w' ⟨h1, h2, h3⟩ => ⟨h1, 0, hI, h2, h3⟩
  · have hle := hI.le
    by_cases hk : k < L.length
    · by_cases hc : (at_ L k).1 = d
      · exact (refPush2 w H xb g o cap L.length L d x hX rfl hH hl k hI hk _ rfl hc).mono fun e w' ⟨h1, h2, h3⟩ => ⟨h1, k, hI, h2, h3⟩
      · exact (refPush3 w H xb g o cap L.length L d x hX rfl hH hl k hI hk _ rfl hc).mono fun e w' ⟨h1, h2, h3⟩ => ⟨h1, k, hI, h2, h3⟩
    · have hk' : k = L.length := by omega
      by_cases hc : cap = k
      · exact (refPush4 w H xb g o cap L.length L d x hX rfl hH hl k hI hk' hc).mono fun e w' ⟨h1, h2, h3⟩ => ⟨h1, k, hI, h2, h3⟩
      · exact (refPush5 w H xb g o cap L.length L d x hX rfl hH hl k hI hk' hc).mono fun e w' ⟨h1, h2, h3⟩ => ⟨h1, k, hI, h2, h3⟩
end Go.Proofs.Ytjibkhljihnhiaa
