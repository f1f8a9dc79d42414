/-
  The program's plan, outermost, From.
-/
import Derived.Test.YtjfonpbnohbpfaaGreatDoorBStage
set_option linter.unusedSimpArgs false
set_option linter.unusedVariables false
namespace Go.Proofs.YtjfonpbnohbpfaaGreatDoor
open Go.RowKit
set_option maxRecDepth 100000
theorem planFnD (sp lo : ByteArray) (c2 c3 c4 : Value) (w : World) :
    Calls Tryz.prog 42 #[.agg #[.string sp, .string lo, c2, c3, c4]] w fun e w' => e = .returned (.bool (decide (sp = Bp.spaceB) && decide (lo = Bp.stageW))) ∧ Below w.heap.size w w' := by
  have HB := hideT ((Below.refl w.heap.size w).alloc (Nat.le_refl _) (.cells #[.string sp, .string lo, c2, c3, c4] 45))
  go_enter Tryz.func42, Tryz.ntmps42
  go_wp2_with fail
  refine (isOfD sp lo Bp.stageW _ _ _ _).mono ?_
  rintro e w1 ⟨rfl, b1⟩
  go_wp2_with fail
  go_ret
  exact ⟨rfl, HB.out.trans (b1.mono HB.out.size)⟩
theorem any_some {ks : List Tr} {k : Nat} {K : Tr} {P : Tr → Bool} (h : ks[k]? = some K) (hp : P K = true) : ks.any P = true := List.any_eq_true.2 ⟨K, List.mem_of_getElem? h, hp⟩
theorem any_none {ks : List Tr} {P : Tr → Bool} (h : ∀ (j : Nat) y, ks[j]? = some y → P y = false) : ks.any P = false := by
  rw [Bool.eq_false_iff]
  intro e
  obtain ⟨x, hx, hp⟩ := List.any_eq_true.1 e
  obtain ⟨i, hi⟩ := List.getElem?_of_mem hx
  rw [h i x hi] at hp
  cases hp
set_option maxHeartbeats 1000000 in
theorem indexNamedD (w : World) (Q : Nat → Prop) (d : Nat) (n0 n1 n2 n4 v : Value) (T : Tr) (hT : NInR w Q (d + 1) n0 n1 n2 v n4 T) :
    Calls Tryz.prog 77 #[v, .func (.func 42) #[] #[]] w fun e w' => (∃ z : Int, e = .returned (.int .i64 z) ∧ decide (0 ≤ z) = (Bp.klT T).any (fun k => Bp.isOf k Bp.stageW)) ∧ Below w.heap.size w w' := by
  obtain ⟨ao, cap, b, o, rfl, ha, hl, hc⟩ := hT.kid
  obtain ⟨n, hn⟩ : ∃ n, n = (Bp.klT T).length := ⟨_, rfl⟩
  have HN := hideT hn
  rw [← hn] at ha hl ⊢
  have HC := hideT hc
  have HA := hideT ha
  clear hn hc ha hT
  go_enter Tryz.func77, Tryz.ntmps77
  go_wp2_with fail
  go_loopw [8] (fun i wr => ∃ k : Nat, k ≤ n ∧ i = .int .i64 k ∧ Hid (∀ (j : Nat) y, j < k → (Bp.klT T)[j]? = some y → Bp.isOf y Bp.stageW = false) ∧ Hid (Below w.heap.size w wr)) (fun i _ => n - (intOf i).toNat)
  case atStart => exact ⟨0, by omega, rfl, fun j y hj => absurd hj (by omega), Below.refl _ _⟩
  case round =>
    obtain ⟨k, hk, rfl, HB, HW⟩ := hrel
    by_cases hlt : k < n
    · obtain ⟨K, hK⟩ := Mp.at_lt (l := Bp.klT T) (k := k) (by have := HN.out; omega)
      obtain ⟨d0, d1, d2, d3, d4, nK, f0, f1, f2, f3, f4⟩ := HC.out k K hK
      obtain ⟨sp, lo, a2, n2', m2, a3, n3, m3, p, rfl, rfl, rfl, rfl, rfl, hsp, hlo, hap⟩ := nK.five
      have f0 := below_cell HW.out _ _ f0
      have f1 := below_cell HW.out _ _ f1
      have f2 := below_cell HW.out _ _ f2
      have f3 := below_cell HW.out _ _ f3
      have f4 := below_cell HW.out _ _ f4
      obtain rfl := HA.out (by omega)
      have HO : Hid (Bp.isOf K Bp.stageW = (decide (sp = Bp.spaceB) && decide (lo = Bp.stageW))) := by
        show _ = _
        unfold Bp.isOf
        rw [hsp, hlo]
      have HX := hideT hK
      clear hK nK hsp hlo hap
      go_wp2_with fail
      refine (planFnD sp lo _ _ _ wr).mono ?_
      rintro e w1 ⟨rfl, b1⟩
      have HW1 := hideT (HW.out.trans (b1.mono HW.out.size))
      clear b1 f0 f1 f2 f3 f4
      cases e : (decide (sp = Bp.spaceB) && decide (lo = Bp.stageW)) with
      | true =>
        have HF := hideT (any_some (P := fun k => Bp.isOf k Bp.stageW) HX.out (by show Bp.isOf K Bp.stageW = true; rw [HO.out]; exact e))
        clear e
        go_wp2_with fail
        go_ret
        exact ⟨⟨k, rfl, by rw [HF.out]; exact decide_eq_true (by omega)⟩, HW1.out⟩
      | false =>
        have HR : Hid (∀ (j : Nat) y, j < k + 1 → (Bp.klT T)[j]? = some y → Bp.isOf y Bp.stageW = false) := by
          intro j y hj hy
          by_cases hj' : j < k
          · exact HB.out j y hj' hy
          · obtain rfl : j = k := by omega
            rw [HX.out] at hy
            cases hy
            rw [HO.out]
            exact e
        clear e
        go_wp2_with fail
        go_roundw
        case rel => exact ⟨k + 1, by omega, by go_num, HR, HW1⟩
        case measure => simp [intOf]; omega
    · have HF := hideT (any_none (ks := Bp.klT T) (P := fun k => Bp.isOf k Bp.stageW) (fun j y hy => HB.out j y (by have := HN.out; have := (List.getElem?_eq_some_iff.1 hy).1; omega) hy))
      go_wp2_with fail
      go_ret
      exact ⟨⟨-1, rfl, by rw [HF.out]; rfl⟩, HW.out⟩
theorem hasPlanD (w : World) (Q : Nat → Prop) (d : Nat) (n0 n1 n2 n4 v : Value) (T : Tr) (hT : NInR w Q (d + 1) n0 n1 n2 v n4 T) :
    Calls Tryz.prog 41 #[v, .func (.func 42) #[] #[]] w fun e w' => e = .returned (.bool ((Bp.klT T).any (fun k => Bp.isOf k Bp.stageW))) ∧ Below w.heap.size w w' := by
  have H := hideT hT
  obtain ⟨ao, cap, b, o, rfl, _⟩ := hT.kid
  clear hT
  go_enter Tryz.func41, Tryz.ntmps41
  go_wp2_with fail
  refine (indexNamedD w Q d _ _ _ _ _ T H.out).mono ?_
  rintro e w1 ⟨⟨z, rfl, hz⟩, b1⟩
  have HZ := hideT hz
  clear hz
  go_wp2_with fail
  go_ret
  exact ⟨ret_b HZ.out, b1⟩
end Go.Proofs.YtjfonpbnohbpfaaGreatDoor
