/-
  The place of an item; the kids of one; the items' own names.
-/
import Derived.Test.YtlgcaklhceekiaaMNames
set_option linter.unusedSimpArgs false
set_option linter.unusedVariables false
namespace Go.Proofs.Ytlgcaklhceekiaa
open Go.RowKit
theorem placeZ_some {l : List Mp.Item} {s : ByteArray} {k : Nat} {x : Mp.Item} (h : l[k]? = some x) (hx : x.id = s) (hb : ∀ (j : Nat) y, j < k → l[j]? = some y → y.id ≠ s) : Mp.placeZ l s = k := by
  unfold Mp.placeZ Mp.placeO
  rw [Mp.find_some h (decide_eq_true hx) (fun j y hj hy => decide_eq_false (hb j y hj hy))]
theorem placeZ_none {l : List Mp.Item} {s : ByteArray} (hb : ∀ (j : Nat) y, l[j]? = some y → y.id ≠ s) : Mp.placeZ l s = -1 := by
  unfold Mp.placeZ Mp.placeO
  rw [Mp.find_none (fun j y hy => decide_eq_false (hb j y hy))]
set_option maxHeartbeats 1000000 in
theorem indexFuncD (w : World) (ao : Option Addr) (n cap : Nat) (l : List Mp.Item) (s : ByteArray) (q : Nat) (hq : w.cell? ⟨q, 0, none⟩ = some (.string s)) (h : IRow w (.slice ao n cap) l) :
    Calls Try.prog 57 #[.slice ao n cap, .func (.func 58) #[] #[.pointer (some ⟨q, 0, none⟩)]] w fun e w' => e = .returned (.int .i64 (Mp.placeZ l s)) ∧ Below w.heap.size w w' := by
  obtain ⟨hn, hl, hcap, b, o, ha, hc⟩ := irow_at h
  have HN := hideT hn
  have HC := hideT hc
  have HA := hideT ha
  have HQ := hideT hq
  clear hn hc ha h hq
  go_enter Try.func57, Try.ntmps57
  go_wp2_with fail
  go_loopw [8] (fun i wr => ∃ k : Nat, k ≤ n ∧ i = .int .i64 k ∧ Hid (∀ (j : Nat) y, j < k → l[j]? = some y → y.id ≠ s) ∧ Hid (Below w.heap.size w wr)) (fun i _ => n - (intOf i).toNat)
  case atStart => exact ⟨0, by omega, rfl, fun j y hj => absurd hj (by omega), Below.refl _ _⟩
  case round =>
    obtain ⟨k, hk, rfl, HB, HW⟩ := hrel
    by_cases hlt : k < n
    · obtain ⟨x, hx⟩ := Mp.at_lt (l := l) (k := k) (by have := HN.out; omega)
      obtain ⟨a5, c5, a6, c6, I0⟩ := HC.out k _ hx
      have I1 := I0.turn (below_cell HW.out)
      obtain rfl := HA.out (by omega)
      have HX := hideT hx
      have d0 := I1.c0
      have d1 := I1.c1
      have d2 := I1.c2
      have d3 := I1.c3
      have d4 := I1.c4
      have d5 := I1.c5
      have d6 := I1.c6
      clear hx I0 I1
      go_wp2_with fail
      refine (placeFnD x (.slice a5 x.entry.length c5) (.slice a6 x.exit.length c6) q s wr (below_cell HW.out _ _ HQ.out)).mono ?_
      rintro e w1 ⟨rfl, b1⟩
      have HW1 := hideT (HW.out.trans (b1.mono HW.out.size))
      clear b1 d0 d1 d2 d3 d4 d5 d6
      by_cases e : x.id = s
      · have HF := hideT (placeZ_some HX.out e HB.out)
        have e1 : decide (x.id = s) = true := decide_eq_true e
        rw [e1]
        clear e e1
        go_wp2_with fail
        go_ret
        exact ⟨ret_i HF.out.symm, HW1.out⟩
      · have e1 : decide (x.id = s) = false := decide_eq_false e
        rw [e1]
        have HR : Hid (∀ (j : Nat) y, j < k + 1 → l[j]? = some y → y.id ≠ s) := by
          intro j y hj hy
          by_cases hj' : j < k
          · exact HB.out j y hj' hy
          · obtain rfl : j = k := by omega
            rw [HX.out] at hy
            cases hy
            exact e
        clear e e1
        go_wp2_with fail
        go_roundw
        case rel => exact ⟨k + 1, by omega, by go_num, HR, HW1⟩
        case measure => simp [intOf]; omega
    · have HF := hideT (placeZ_none (l := l) (s := s) (fun j y hy => HB.out j y (by have := HN.out; have := (List.getElem?_eq_some_iff.1 hy).1; omega) hy))
      go_wp2_with fail
      go_ret
      exact ⟨ret_i HF.out.symm, HW.out⟩
theorem placeD (w : World) (vf : Value) (ao : Option Addr) (n cap : Nat) (l : List Mp.Item) (s : ByteArray) (h : IRow w (.slice ao n cap) l) :
    Calls Try.prog 54 #[.agg #[vf, .slice ao n cap], .string s] w fun e w' => e = .returned (.int .i64 (Mp.placeZ l s)) ∧ Below w.heap.size w w' := by
  have H := hideT h
  clear h
  go_enter Try.func54, Try.ntmps54
  go_wp2_with fail
  generalize hW1 : w.alloc _ = W1
  have B1 : Below w.heap.size w W1 := by rw [← hW1]; exact (Below.refl _ _).alloc (Nat.le_refl _) _
  generalize hW2 : W1.alloc _ = W2
  have B2 : Below W1.heap.size W1 W2 := by rw [← hW2]; exact (Below.refl _ _).alloc (Nat.le_refl _) _
  have B12 : Below w.heap.size w W2 := B1.trans (B2.mono B1.size)
  have hz : W1.heap.size = w.heap.size + 1 := by rw [← hW1]; simp
  have hq : W2.cell? ⟨w.heap.size + 1, 0, none⟩ = some (.string s) := by rw [← hz, ← hW2]; exact cell_new _ _ _ 0
  refine (indexFuncD W2 ao n cap l s (w.heap.size + 1) hq (irow_below H.out B12)).mono ?_
  rintro e w1 ⟨rfl, b1⟩
  go_wp2_with fail
  go_ret
  exact ⟨rfl, B12.trans (b1.mono B12.size)⟩
end Go.Proofs.Ytlgcaklhceekiaa
