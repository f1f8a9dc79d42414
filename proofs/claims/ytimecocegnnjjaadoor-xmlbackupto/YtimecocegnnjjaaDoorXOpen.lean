/-
  An element among a law's arguments, opened: its cells hold a tree.
-/
import Derived.Test.YtimecocegnnjjaaDoorPartC
import Derived.Test.YtimecocegnnjjaaDoorChecked
import Derived.Deep.SlicePairs
import Derived.Lib.SmallJoins
set_option linter.unusedSimpArgs false
set_option linter.unusedVariables false
namespace Go.Proofs.YtimecocegnnjjaaDoor
open Go.RowKit
/-- What bounds the sizes of what was read: it goes down with the reading. -/
structure Goes (H : Type) (Q : TypeId → DataW H → Prop) : Prop where
  elem : ∀ a b c d, Q 25 (.agg [a, b, c, d]) → Q 9 a ∧ Q 22 b ∧ Q 23 c
  str : ∀ l, Q 9 (.lit (.string l)) → l.length ≤ 140737488355328
  attrs : ∀ es sp, Q 22 (.slice es sp) → es.length ≤ 1000000000000 ∧ ∀ x ∈ es, Q 36 x
  attr : ∀ a b, Q 36 (.agg [a, b]) → Q 9 a ∧ Q 9 b
  kids : ∀ es sp, Q 23 (.slice es sp) → es.length ≤ 1000000000000 ∧ ∀ x ∈ es, Q 25 x
def strV : Value → ByteArray
  | .string s => s
  | _ => ⟨#[]⟩
theorem plain_of_cell {w : World} {a : Addr} {v : Value} (h : w.cell? a = some v) : a = ⟨a.block, a.off, none⟩ := by
  obtain ⟨b, o, sp⟩ := a
  cases sp with
  | none => rfl
  | some k =>
    unfold World.cell? at h
    simp at h
    split at h <;> cases h
theorem add_plain (b o k : Nat) : (⟨b, o, none⟩ : Addr).add k = ⟨b, o + k, none⟩ := by
  unfold Addr.add
  split
  · rename_i h
    rw [h]
    rfl
  · rfl
theorem attrs_open {H : Type} {enc : TypeId × Value → H} {w : World} {base : Nat} {spare : Nat → Bool} {held : Bool} {Q : TypeId → DataW H → Prop} (hQ : Goes H Q) {fuel : Nat} {cs : List Value} {x : DataW H × List MemPlace}
    (h : DataW.trod enc Tryd.prog w base spare held fuel 22 cs = some x) (hq : Q 22 x.1) : ∃ v l, cs = [v] ∧ ARow w v l := by
  rcases Go.Deep.open_slice_pairs Tryd.underlying22 Tryd.underlying36 (by kernel_rfl) rfl rfl (by kernel_rfl) (by kernel_rfl) h with ⟨rfl, rfl⟩ | ⟨a, len, cap, m, n, V0, V1, D0, D1, P0, P1, rfl, _, hlc, _, hm, rfl, hx⟩
  · exact ⟨_, [], rfl, 0, 0, ⟨none, 0, rfl, fun h => absurd h (by decide)⟩, ⟨by simp, fun p hp => by simp at hp⟩, fun i p hp => by simp at hp⟩
  · have hlm : len ≤ m := by rw [hm]; split <;> omega
    obtain ⟨hl, hqq⟩ := hQ.attrs _ _ hq
    rw [List.length_map, List.length_range] at hl
    have each : ∀ i, i < len → ∃ s0 s1 : ByteArray, V0 i = .string s0 ∧ V1 i = .string s1 ∧ s0.size ≤ 140737488355328 ∧ s1.size ≤ 140737488355328 ∧ w.cell? (a.add (i * 2)) = some (.string s0) ∧ w.cell? (a.add (i * 2 + 1)) = some (.string s1) := by
      intro i hi
      obtain ⟨c0, c1, t0, t1⟩ := hx i (by omega)
      obtain ⟨s0, e0, d0, _⟩ := DataW.trod_string Tryd.underlying9 t0
      obtain ⟨s1, e1, d1, _⟩ := DataW.trod_string Tryd.underlying9 t1
      have e0' : V0 i = .string s0 := by injection e0
      have e1' : V1 i = .string s1 := by injection e1
      have hd0 : D0 i = .lit (.string s0.data.toList) := congrArg Prod.fst d0
      have hd1 : D1 i = .lit (.string s1.data.toList) := congrArg Prod.fst d1
      have hqi := hqq (.agg [D0 i, D1 i]) (List.mem_map.2 ⟨i, List.mem_range.2 hi, rfl⟩)
      obtain ⟨q0, q1⟩ := hQ.attr _ _ hqi
      rw [hd0] at q0
      rw [hd1] at q1
      have l0 := hQ.str _ q0
      have l1 := hQ.str _ q1
      rw [Array.length_toList] at l0 l1
      exact ⟨s0, s1, e0', e1', l0, l1, by rw [c0, e0'], by rw [c1, e1']⟩
    refine ⟨_, (List.range len).map fun i => (strV (V0 i), strV (V1 i)), rfl, a.block, a.off, ⟨some a, cap, by rw [List.length_map, List.length_range], fun h0 => ?_⟩, ⟨by rw [List.length_map, List.length_range]; exact hl, fun p hp => ?_⟩, fun i p hp => ?_⟩
    · rw [List.length_map, List.length_range] at h0
      obtain ⟨s0, _, _, _, _, _, c0, _⟩ := each 0 h0
      exact congrArg some (plain_of_cell (show w.cell? a = _ from c0))
    · obtain ⟨i, hi, rfl⟩ := List.mem_map.1 hp
      obtain ⟨s0, s1, e0, e1, l0, l1, _⟩ := each i (List.mem_range.1 hi)
      dsimp only
      rw [e0, e1]
      exact ⟨l0, l1⟩
    · rw [List.getElem?_map] at hp
      cases hr : (List.range len)[i]? with
      | none => rw [hr] at hp; cases hp
      | some j =>
        rw [hr] at hp
        obtain ⟨hi, hj⟩ := List.getElem?_eq_some_iff.1 hr
        rw [List.length_range] at hi
        rw [List.getElem_range] at hj
        subst hj
        obtain rfl := Option.some.inj hp
        obtain ⟨s0, s1, e0, e1, _, _, c0, c1⟩ := each i hi
        obtain ⟨z0, _, _, _, _, _, d0, _⟩ := each 0 (by omega)
        have hpl := plain_of_cell (show w.cell? a = _ from d0)
        rw [hpl, add_plain] at c0 c1
        show w.cell? ⟨a.block, a.off + 2 * i, none⟩ = some (.string (strV (V0 i))) ∧ w.cell? ⟨a.block, a.off + 2 * i + 1, none⟩ = some (.string (strV (V1 i)))
        rw [e0, e1, Nat.mul_comm]
        exact ⟨c0, by rw [Nat.add_assoc]; exact c1⟩
end Go.Proofs.YtimecocegnnjjaaDoor
