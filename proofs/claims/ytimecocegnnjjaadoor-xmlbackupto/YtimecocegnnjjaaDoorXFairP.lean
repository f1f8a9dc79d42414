/-
  What is not heavy is small, name by name, value by value.
-/
import Derived.Test.YtimecocegnnjjaaDoorXHeavy
set_option linter.unusedVariables false
namespace Go.Proofs.YtimecocegnnjjaaDoor
namespace Xp
theorem downA_mem : ∀ (l : List Tr) (y : Int), 0 < downA l y → ∀ a ∈ l, pairW a < y
  | [], y, _, a, ha => by cases ha
  | b :: l, y, h, a, ha => by
    unfold downA at h
    by_cases hy : 0 < y
    · rw [if_pos hy] at h
      have h1 := downA_le l (y - pairW b)
      have h2 := pairW_nonneg b
      rcases List.mem_cons.1 ha with rfl | ha
      · omega
      · have := downA_mem l _ h a ha
        omega
    · rw [if_neg hy] at h
      exact absurd h hy
theorem downK_mem {f : Tr → Int → Int} (hf : ∀ K y, f K y ≤ y) : ∀ (l : List Tr) (y : Int), 0 < downK f l y → ∀ K ∈ l, ∃ z, z ≤ y ∧ 0 < f K z
  | [], y, _, K, hK => by cases hK
  | b :: l, y, h, K, hK => by
    unfold downK at h
    by_cases hy : 0 < y
    · rw [if_pos hy] at h
      have h1 := downK_le hf l (f b y)
      rcases List.mem_cons.1 hK with rfl | hK
      · exact ⟨y, Int.le_refl _, by omega⟩
      · obtain ⟨z, hz, h2⟩ := downK_mem hf l _ h K hK
        have := hf b y
        exact ⟨z, by omega, h2⟩
    · rw [if_neg hy] at h
      exact absurd h hy
/-- Names and values of few bytes. -/
def smallT : Nat → Tr → Prop
  | 0, _ => True
  | n + 1, T => ∀ (nm : ByteArray) (l : List (ByteArray × ByteArray)) (ks : List Tr) (p : Int), T = mkT nm l ks p → nm.size ≤ 20000 ∧ (∀ a ∈ l, a.1.size ≤ 20000 ∧ a.2.size ≤ 20000) ∧ ∀ K ∈ ks, smallT n K
theorem heavy_small : ∀ (n : Nat) (T : Tr) (x : Int), x ≤ 200 → 0 < heavyT n T x → smallT n T
  | 0, _, _, _, _ => trivial
  | n + 1, T, x, hx, h => by
    intro nm l ks p e
    subst e
    rw [heavy_mk] at h
    have h1 := downK_le (heavy_le n) ks (downA (l.map pairD) (x - 1 - (l.length : Int) - (nm.size : Int) / 50))
    have h2 := downA_le (l.map pairD) (x - 1 - (l.length : Int) - (nm.size : Int) / 50)
    refine ⟨by omega, fun a ha => ?_, fun K hK => ?_⟩
    · have h3 := downA_mem (l.map pairD) (x - 1 - (l.length : Int) - (nm.size : Int) / 50) (by omega) (pairD a) (List.mem_map.2 ⟨a, ha, rfl⟩)
      rw [pairW_mk] at h3
      omega
    · obtain ⟨z, hz, h4⟩ := downK_mem (heavy_le n) ks _ h K hK
      exact heavy_small n K z (by omega) h4
end Xp
end Go.Proofs.YtimecocegnnjjaaDoor
