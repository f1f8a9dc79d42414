/-
  An element that is not too heavy has not too many elements.
-/
import Derived.Test.YtimecocegnnjjaaDoorHeavy
import Derived.Test.YtimecocegnnjjaaDoorXRound2
set_option linter.unusedSimpArgs false
set_option linter.unusedVariables false
namespace Go.Proofs.YtimecocegnnjjaaDoor
open Go.RowKit
namespace Xp
theorem sz_nonneg (l : List UInt8) : 0 ≤ sz l := Int.natCast_nonneg _
theorem pairW_nonneg (a : Tr) : 0 ≤ pairW a := by
  unfold pairW
  split
  · rename_i x y
    have := sz_nonneg x
    have := sz_nonneg y
    omega
  · omega
theorem downA_le : ∀ (l : List Tr) (x : Int), downA l x ≤ x
  | [], x => Int.le_refl x
  | a :: l, x => by
    unfold downA
    split
    · have := downA_le l (x - pairW a)
      have := pairW_nonneg a
      omega
    · omega
theorem downK_le {f : Tr → Int → Int} (hf : ∀ K y, f K y ≤ y) : ∀ (l : List Tr) (x : Int), downK f l x ≤ x
  | [], x => Int.le_refl x
  | a :: l, x => by
    unfold downK
    split
    · have := downK_le hf l (f a x)
      have := hf a x
      omega
    · omega
theorem downK_cnt {f : Tr → Int → Int} {g : Tr → Nat} (hf : ∀ K y, f K y ≤ y) (hg : ∀ K y, 0 < f K y → f K y ≤ y - (g K : Int)) : ∀ (l : List Tr) (x : Int), 0 < downK f l x → downK f l x ≤ x - ((l.map g).sum : Nat)
  | [], x, _ => by simp [downK]
  | a :: l, x, h => by
    unfold downK at h ⊢
    split at h
    · rename_i hx
      rw [if_pos hx, List.map_cons, List.sum_cons]
      have h1 := downK_cnt hf hg l (f a x) h
      have h2 := downK_le hf l (f a x)
      have h3 := hg a x (by omega)
      omega
    · omega
theorem heavy_le : ∀ (n : Nat) (T : Tr) (x : Int), heavyT n T x ≤ x
  | 0, T, x => Int.le_refl x
  | n + 1, T, x => by
    unfold heavyT
    have h1 := downK_le (heavy_le n) (ksT T) (downA (asT T) (x - 1 - ((asT T).length : Nat) - sz (nmT T)))
    have h2 := downA_le (asT T) (x - 1 - ((asT T).length : Nat) - sz (nmT T))
    have h3 := sz_nonneg (nmT T)
    omega
/-- What is left is less by as many as there are elements. -/
theorem heavy_cnt : ∀ (n m : Nat), m ≤ n → ∀ (T : Tr) (x : Int), 0 < heavyT n T x → heavyT n T x ≤ x - (cntT m T : Int)
  | n, 0, _, T, x, _ => by
    have := heavy_le n T x
    show heavyT n T x ≤ x - ((0 : Nat) : Int)
    omega
  | n + 1, m + 1, hm, T, x, h => by
    have e : cntT (m + 1) T = 1 + ((ksT T).map (cntT m)).sum := rfl
    rw [e]
    unfold heavyT at h ⊢
    have h1 := downK_cnt (heavy_le n) (heavy_cnt n m (by omega)) (ksT T) _ h
    have h2 := downA_le (asT T) (x - 1 - ((asT T).length : Nat) - sz (nmT T))
    have h3 := sz_nonneg (nmT T)
    omega
end Xp
end Go.Proofs.YtimecocegnnjjaaDoor
