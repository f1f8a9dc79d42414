/-
  Bytes in memory; the sum.
-/
import Derived.Test.YtcfalhgcdffjoaaKSum
import Derived.Test.YtcfalhgcdffjoaaMBuild
import Derived.Lib.UnsafeStr
import Derived.Laws.BitsLemmas
set_option linter.unusedSimpArgs false
set_option linter.unusedVariables false
namespace Go.Proofs.Ytcfalhgcdffjoaa
open Go.RowKit
set_option maxRecDepth 100000
/-- Bytes in a row. -/
def BRow (w : World) (v : Value) (l : List UInt8) : Prop :=
  ∃ b o ao cap, v = .slice ao l.length cap ∧ l.length ≤ cap ∧ (0 < l.length → ao = some ⟨b, o, none⟩) ∧ l.length ≤ 140737488355328 ∧ ∀ (i : Nat) x, l[i]? = some x → w.cell? ⟨b, o + i, none⟩ = some (.int .u8 x.toNat)
theorem brow_below {w w' : World} {v : Value} {l : List UInt8} (h : BRow w v l) (hb : Below w.heap.size w w') : BRow w' v l := by
  obtain ⟨b, o, ao, cap, h1, h2, h3, h4, h5⟩ := h
  exact ⟨b, o, ao, cap, h1, h2, h3, h4, fun i x hx => below_cell hb _ _ (h5 i x hx)⟩
theorem brow_own {w : World} {H : Nat} {v : Value} {l : List UInt8} (h : w.ownsRow H 5 1 v l.length (Lib.byteCells l)) (hl : l.length ≤ 140737488355328) : BRow w v l := by
  rcases h.2 with ⟨rfl, h0⟩ | ⟨g, cap, cur, rfl, g1, g2, g3, g4, g5, g6⟩
  · have : l = [] := List.eq_nil_of_length_eq_zero h0
    subst this
    exact ⟨0, 0, none, 0, rfl, Nat.le_refl _, fun h => absurd h (Nat.lt_irrefl 0), Nat.zero_le _, fun i x hx => by simp at hx⟩
  · refine ⟨g, 0, _, cap, rfl, g3, fun _ => rfl, hl, fun i x hx => ?_⟩
    rw [Nat.zero_add]
    refine own_cell h ?_
    unfold Lib.byteCells
    rw [List.getElem?_map, hx]
    rfl
theorem wraps_u32' (n : Int) (h₀ : 0 ≤ n) (h₁ : n < 2 ^ 32) : IntKind.u32.wrap n = n := by rw [IntKind.wrap_u32]; omega
theorem or32 (c a : Nat) (hc : c < 65536) (ha : a < 65536) : bits .or .u32 ((c : Int) * 65536) (a : Int) = (c : Int) * 65536 + a :=
  bits_join .u32 32 (by decide) wraps_u32' 16 _ _ (by omega) (by omega) (by omega) (by omega) (by omega) (by omega)
theorem sumF_snoc : ∀ (l : List UInt8) (x : UInt8) (a c : Nat), Kp.sumF a c (l ++ [x]) = (((Kp.sumF a c l).1 + x.toNat) % 65521, ((Kp.sumF a c l).2 + ((Kp.sumF a c l).1 + x.toNat) % 65521) % 65521)
  | [], x, a, c => rfl
  | y :: l, x, a, c => by
    rw [List.cons_append, Kp.sumF, Kp.sumF, sumF_snoc l x]
set_option maxHeartbeats 1000000 in
theorem sumD (w : World) (v : Value) (l : List UInt8) (h : BRow w v l) (s : Nat) (hs : Hid (Kp.sum l = s)) :
    Calls Try.prog 15 #[v] w fun e w' => e = .returned (.int .u32 s) ∧ w' = w := by
  obtain ⟨b, o, ao, cap, rfl, h2, h3, h4, h5⟩ := h
  have HA := hideT h3
  have HC := hideT h5
  clear h3 h5
  go_enter Try.func15, Try.ntmps15
  go_wp2_with fail
  go_loop [3, 4, 9] (fun a c i => ∃ (k A C : Nat), k ≤ l.length ∧ i = .int .i64 k ∧ a = .int .u32 A ∧ c = .int .u32 C ∧ A < 65521 ∧ C < 65521 ∧ Hid (Kp.sumF 1 0 (l.take k) = (A, C))) (fun _ _ i => l.length - (intOf i).toNat)
  case atStart => exact ⟨0, 1, 0, Nat.zero_le _, rfl, rfl, rfl, by decide, by decide, rfl⟩
  case round =>
    obtain ⟨k, A, C, hk, rfl, rfl, rfl, hA, hC, HS⟩ := hrel
    by_cases hlt : k < l.length
    · obtain ⟨x, hx⟩ := Mp.at_lt hlt
      have x0 := HC.out k x hx
      obtain rfl := HA.out (by omega)
      have hx8 : x.toNat < 256 := x.toNat_lt
      have HN : Hid (Kp.sumF 1 0 (l.take (k + 1)) = ((A + x.toNat) % 65521, (C + (A + x.toNat) % 65521) % 65521)) := by
        show _ = _
        rw [Mp.take_at hx, sumF_snoc, HS.out]
      clear hx
      go_wp2_with fail
      go_round
      case rel => exact ⟨k + 1, (A + x.toNat) % 65521, (C + (A + x.toNat) % 65521) % 65521, by omega, by go_num, by go_num, by go_num, by omega, by omega, HN⟩
      case measure => simp [intOf]; omega
    · have hkl : k = l.length := by omega
      have HE : Hid (s = C * 65536 + A) := by
        show _ = _
        rw [← hs.out]
        have := HS.out
        rw [hkl, List.take_length] at this
        unfold Kp.sum
        rw [this]
      go_wp2_with fail
      go_ret
      refine ⟨?_, rfl⟩
      rw [HE.out]
      exact ret_i (by rw [or32 C A (by omega) (by omega)]; omega)
end Go.Proofs.Ytcfalhgcdffjoaa
