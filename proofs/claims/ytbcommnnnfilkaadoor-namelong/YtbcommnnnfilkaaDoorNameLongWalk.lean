/-
  The law NameLong, walked.
-/
import Derived.Test.YtbcommnnnfilkaaDoorKnown
import Derived.Test.YtbcommnnnfilkaaDoorPlain7
import Derived.OpenShut
set_option linter.unusedSimpArgs false
namespace Go.Proofs.YtbcommnnnfilkaaDoor
open Go.RowKit
set_option maxHeartbeats 1000000 in
set_option maxRecDepth 100000 in
theorem nameLong_in (n m : Nat) (hn : n ≤ 20) (hm : m ≤ 20) (w : World) (hw : Ok w) :
    Calls Tryd.prog 8 #[.int .i64 n, .int .i64 m] w fun e w' => e = .returned (.bool true) ∧ Below w.heap.size w w' := by
  have HW : Hid (Ok w) := hw
  clear hw
  go_enter Tryd.func8, Tryd.ntmps8
  go_wp2
  go_loop [5, 7] (fun a i => ∃ (k : Nat) (x : ByteArray), k ≤ n ∧ i = .int .i64 k ∧ a = .string x ∧ x.size ≤ 20 ∧ Hid (x.data.toList = List.replicate k 97)) (fun _ i => n - (intOf i).toNat)
  case atStart => exact ⟨0, ⟨#[]⟩, by omega, rfl, rfl, by decide, rfl⟩
  case round =>
    obtain ⟨k, x, hk, rfl, rfl, hx, HX⟩ := hrel
    by_cases hlt : k < n
    · have HX2 : Hid ((x ++ ⟨#[97]⟩).data.toList = List.replicate (k + 1) 97) := by
        show (x ++ ⟨#[97]⟩).data.toList = _
        rw [Sp.cat_data, HX.out, List.replicate_succ']
      have hx2 : (x ++ ⟨#[97]⟩).size ≤ 20 := by
        rw [← Sp.len_byte, HX2.out, List.length_replicate]
        omega
      go_wp2
      go_round
      case rel => exact ⟨k + 1, _, by omega, by go_num, rfl, hx2, HX2⟩
      case measure => simp [intOf]; omega
    · obtain rfl : k = n := by omega
      clear hlt hk
      go_wp2
      go_loop [6, 8] (fun a i => ∃ (j : Nat) (y : ByteArray), j ≤ m ∧ i = .int .i64 j ∧ a = .string y ∧ y.size ≤ 20 ∧ Hid (y.data.toList = List.replicate j 98)) (fun _ i => m - (intOf i).toNat)
      case atStart => exact ⟨0, ⟨#[]⟩, by omega, rfl, rfl, by decide, rfl⟩
      case round =>
        obtain ⟨j, y, hj, rfl, rfl, hy, HY⟩ := hrel
        by_cases hlt : j < m
        · have HY2 : Hid ((y ++ ⟨#[98]⟩).data.toList = List.replicate (j + 1) 98) := by
            show (y ++ ⟨#[98]⟩).data.toList = _
            rw [Sp.cat_data, HY.out, List.replicate_succ']
          have hy2 : (y ++ ⟨#[98]⟩).size ≤ 20 := by
            rw [← Sp.len_byte, HY2.out, List.length_replicate]
            omega
          go_wp2
          go_round
          case rel => exact ⟨j + 1, _, by omega, by go_num, rfl, hy2, HY2⟩
          case measure => simp [intOf]; omega
        · obtain rfl : j = m := by omega
          clear hlt hj
          obtain ⟨z, HZ⟩ : ∃ z : ByteArray, Hid (x ++ ⟨#[58]⟩ ++ y = z) := ⟨x ++ (⟨#[58]⟩ : ByteArray) ++ y, rfl⟩
          have HZL : Hid (z.data.toList = List.replicate k 97 ++ 58 :: List.replicate j 98) := by
            show z.data.toList = _
            rw [← HZ.out, Sp.cat_data, Sp.cat_data, HX.out, HY.out]
            simp
          have hz : z.size ≤ 1000000 := by
            rw [← Sp.len_byte, HZL.out]
            simp
            omega
          obtain ⟨bn, HBn, hcn⟩ : ∃ bn : Bool, Hid (bn = decide (1 ≤ k ∧ k ≤ 12)) ∧ ((bn = false ∧ k < 1) ∨ (bn = false ∧ 12 < k) ∨ (bn = true ∧ 1 ≤ k ∧ k ≤ 12)) := by
            refine ⟨decide (1 ≤ k ∧ k ≤ 12), rfl, ?_⟩
            simp only [decide_eq_true_eq, decide_eq_false_iff_not]
            omega
          obtain ⟨bm, HBm, hcm⟩ : ∃ bm : Bool, Hid (bm = decide (1 ≤ j ∧ j ≤ 12)) ∧ ((bm = false ∧ j < 1) ∨ (bm = false ∧ 12 < j) ∨ (bm = true ∧ 1 ≤ j ∧ j ≤ 12)) := by
            refine ⟨decide (1 ≤ j ∧ j ≤ 12), rfl, ?_⟩
            simp only [decide_eq_true_eq, decide_eq_false_iff_not]
            omega
          have I1 : Hid (Sp.isB x.data.toList = bn) := by
            show Sp.isB x.data.toList = bn
            rw [HX.out, Sp.isB_rep k 97 (by decide), HBn.out]
          have I2 : Hid (Sp.qualB x.data.toList = bn) := by
            show Sp.qualB x.data.toList = bn
            rw [HX.out, Sp.qualB_rep k, HBn.out]
          have I3 : Hid (Sp.qualB z.data.toList = (bn && bm)) := by
            show Sp.qualB z.data.toList = (bn && bm)
            rw [HZL.out, Sp.qualB_two _ _ (Sp.rep_mem k 97 58 (by decide)), Sp.isB_rep k 97 (by decide), Sp.isB_rep j 98 (by decide), HBn.out, HBm.out]
          have I4 : Hid (Sp.isB z.data.toList = false) := by
            show Sp.isB z.data.toList = false
            rw [HZL.out, Sp.isB_colon]
          clear HBn HBm
          rcases hcn with ⟨rfl, hn1⟩ | ⟨rfl, hn1⟩ | ⟨rfl, hn1, hn2⟩ <;> rcases hcm with ⟨rfl, hm1⟩ | ⟨rfl, hm1⟩ | ⟨rfl, hm1, hm2⟩
          all_goals go_wp2_with fail
          all_goals refine (is_v x _ (by omega) _ I1).mono ?_
          all_goals rintro e w1 ⟨rfl, rfl⟩
          all_goals go_wp2_with fail
          all_goals refine (isQual_v x _ (by omega) HW.out _ I2).mono ?_
          all_goals rintro e w1 ⟨rfl, hb1⟩
          all_goals have HW1 : Hid (Ok w1) := HW.out.below hb1
          all_goals have hz1 := hb1.size
          all_goals go_wp2_with fail
          all_goals rw [HZ.out]
          all_goals refine (isQual_v z _ hz HW1.out _ I3).mono ?_
          all_goals rintro e w2 ⟨rfl, hb2⟩
          all_goals have HW2 : Hid (Ok w2) := HW1.out.below hb2
          all_goals have hz2 := hb2.size
          all_goals go_wp2_with fail
          all_goals rw [HZ.out]
          all_goals refine (is_v z _ hz _ I4).mono ?_
          all_goals rintro e w3 ⟨rfl, rfl⟩
          all_goals go_wp2_with fail
          all_goals refine (known_any _ HW2.out).mono ?_
          all_goals rintro e w3 ⟨rfl, hb3⟩
          all_goals go_wp2_with fail
          all_goals go_ret
          all_goals exact ⟨Sp.ret_bool (by first | rfl | (simp; omega)), (hb1.trans (hb2.mono (by omega))).trans (hb3.mono (by omega))⟩

theorem nameLong_walk (n : Int) (_hn : (Lit.int .i64 n).wf = true) (m : Int) (_hm : (Lit.int .i64 m).wf = true) (w : World) (hw : Ok w) :
    Calls Tryd.prog 8 #[.int .i64 n, .int .i64 m] w fun e w' => e = .returned (.bool true) ∧ Below w.heap.size w w' := by
  by_cases h1 : n < 0
  · clear hw
    go_enter Tryd.func8, Tryd.ntmps8
    go_wp2
    go_ret
    exact ⟨rfl, Below.refl _ _⟩
  by_cases h2 : 20 < n
  · clear hw
    go_enter Tryd.func8, Tryd.ntmps8
    go_wp2
    go_ret
    exact ⟨rfl, Below.refl _ _⟩
  by_cases h3 : m < 0
  · clear hw
    go_enter Tryd.func8, Tryd.ntmps8
    go_wp2
    go_ret
    exact ⟨rfl, Below.refl _ _⟩
  by_cases h4 : 20 < m
  · clear hw
    go_enter Tryd.func8, Tryd.ntmps8
    go_wp2
    go_ret
    exact ⟨rfl, Below.refl _ _⟩
  obtain ⟨n', rfl⟩ := Int.eq_ofNat_of_zero_le (show 0 ≤ n by omega)
  obtain ⟨m', rfl⟩ := Int.eq_ofNat_of_zero_le (show 0 ≤ m by omega)
  exact nameLong_in n' m' (by omega) (by omega) w hw
end Go.Proofs.YtbcommnnnfilkaaDoor
