/-
  The sum hangs on each byte.
-/
import Derived.Test.YtcfalhgcdffjoaaKPlain
set_option linter.unusedVariables false
namespace Go.Proofs.Ytcfalhgcdffjoaa.Kp
def total : List UInt8 → Nat
  | [] => 0
  | x :: r => x.toNat + total r
theorem sumF_fst : ∀ (l : List UInt8) (a c : Nat), a < 65521 → (sumF a c l).1 = (a + total l) % 65521
  | [], a, c, h => by
    show a = (a + 0) % 65521
    omega
  | x :: r, a, c, h => by
    rw [sumF, sumF_fst r _ _ (Nat.mod_lt _ (by decide)), total]
    omega
theorem sumF_lt : ∀ (l : List UInt8) (a c : Nat), a < 65521 → c < 65521 → (sumF a c l).1 < 65521 ∧ (sumF a c l).2 < 65521
  | [], a, c, h, k => ⟨h, k⟩
  | x :: r, a, c, h, k => by
    rw [sumF]
    exact sumF_lt r _ _ (Nat.mod_lt _ (by decide)) (Nat.mod_lt _ (by decide))
theorem sum_lt (l : List UInt8) : sum l < 4294967296 := by
  have := sumF_lt l 1 0 (by decide) (by decide)
  unfold sum
  omega
theorem total_set : ∀ (l : List UInt8) (k : Nat) (x y : UInt8), l[k]? = some y → total (l.set k x) + y.toNat = total l + x.toNat
  | [], k, x, y, h => by simp at h
  | a :: l, 0, x, y, h => by
    simp only [List.getElem?_cons_zero, Option.some.injEq] at h
    subst h
    rw [List.set_cons_zero, total, total]
    omega
  | a :: l, k + 1, x, y, h => by
    rw [List.getElem?_cons_succ] at h
    have := total_set l k x y h
    rw [List.set_cons_succ, total, total]
    omega
theorem sum_set {l : List UInt8} {k : Nat} {x y : UInt8} (h : l[k]? = some y) (hx : x ≠ y) : sum (l.set k x) ≠ sum l := by
  have h1 := sumF_lt l 1 0 (by decide) (by decide)
  have h2 := sumF_lt (l.set k x) 1 0 (by decide) (by decide)
  have h3 := sumF_fst l 1 0 (by decide)
  have h4 := sumF_fst (l.set k x) 1 0 (by decide)
  have h5 := total_set l k x y h
  have h6 : x.toNat ≠ y.toNat := fun e => hx (UInt8.toNat_inj.1 e)
  have h7 : x.toNat < 256 := x.toNat_lt
  have h8 : y.toNat < 256 := y.toNat_lt
  unfold sum
  omega
end Go.Proofs.Ytcfalhgcdffjoaa.Kp
