/-
  The law NameBack, walked.
-/
import Derived.Test.YtbcommnnnfilkaaDoorKnown
import Derived.Test.YtbcommnnnfilkaaDoorSigns
import Derived.Test.YtbcommnnnfilkaaDoorPlain10
set_option linter.unusedSimpArgs false
namespace Go.Proofs.YtbcommnnnfilkaaDoor
open Go.RowKit

theorem signs_v (s : ByteArray) (w : World) (hs : s.size ≤ 1000000) (hw : Ok w) (b : Bool) (h : Hid (Sp.signsB s.data.toList = b)) :
    Calls Tryd.prog 22 #[.string s] w fun e w' => e = .returned (.bool b) ∧ Below w.heap.size w w' := by
  have := signs_any s w hs hw
  rw [h.out] at this
  exact this

set_option maxHeartbeats 1000000 in
set_option maxRecDepth 100000 in
theorem nameBack_in (s : ByteArray) (attr : Bool) (hs : s.size ≤ 300) (w : World) (hw : Ok w) (hsg : Sp.signsB s.data.toList = true) :
    Calls Tryd.prog 5 #[.string s, .bool attr] w fun e w' => e = .returned (.bool true) ∧ Below w.heap.size w w' := by
  have HW : Hid (Ok w) := hw
  have HS : Hid (Sp.signsB s.data.toList = true) := hsg
  clear hw hsg
  obtain ⟨x, HX⟩ : ∃ x : ByteArray, Hid (x = ⟨(Sp.esc attr s.data.toList).toArray⟩) := ⟨(⟨(Sp.esc attr s.data.toList).toArray⟩ : ByteArray), rfl⟩
  have HXL : Hid (x.data.toList = Sp.esc attr s.data.toList) := Sp.ba_eq HX.out
  have hx : x.size ≤ 1800 := by
    have := Sp.esc_le attr s.data.toList
    rw [← HXL.out, Sp.len_byte, Sp.len_byte] at this
    omega
  have HU : Hid (Sp.textV (Sp.unesc x.data.toList) = .tuple #[.string s, .bool true]) := by
    rw [HXL.out, Sp.unesc_back attr _ HS.out]
    exact rfl
  have HM : Hid (∀ k, (h : k < x.size) → x[k].toNat ≠ 60 ∧ x[k].toNat ≠ 62 ∧ (attr = true → x[k].toNat ≠ 34 ∧ x[k].toNat ≠ 9 ∧ x[k].toNat ≠ 10 ∧ x[k].toNat ≠ 13)) := by
    intro k h
    apply Sp.esc_mem attr s.data.toList
    rw [← HXL.out]
    show x.data.toList[k]'(by simpa using h) ∈ _
    exact List.getElem_mem _
  cases attr
  all_goals go_enter Tryd.func5, Tryd.ntmps5
  all_goals go_wp2_with fail
  all_goals refine (signs_v s _ (by omega) HW.out true HS).mono ?_
  all_goals rintro e w1 ⟨rfl, hb1⟩
  all_goals have hz1 := hb1.size
  all_goals have HW1 : Hid (Ok w1) := HW.out.below hb1
  all_goals go_wp2_with fail
  all_goals refine (escape_v s _ _ (by omega) x HX).mono ?_
  all_goals rintro e w2 ⟨rfl, hb2⟩
  all_goals have hz2 := hb2.size
  all_goals have HW2 : Hid (Ok w2) := HW1.out.below hb2
  all_goals go_wp2_with fail
  all_goals refine (unescape_v x _ (by omega) HW2.out s true HU).mono ?_
  all_goals rintro e w3 ⟨rfl, hb3⟩
  all_goals have hz3 := hb3.size
  all_goals have HW3 : Hid (Ok w3) := HW2.out.below hb3
  all_goals go_wp2_with fail
  · go_loop [8] (fun i => ∃ k : Nat, k ≤ x.size ∧ i = .int .i64 k) (fun i => x.size - (intOf i).toNat)
    case atStart => exact ⟨0, by omega, rfl⟩
    case round =>
      obtain ⟨k, hk, rfl⟩ := hrel
      by_cases hlt : k < x.size
      · have hm := HM.out k hlt
        have t1 : ((x[k].toNat : Int) == 60) = false := by rw [beq_eq_false_iff_ne]; omega
        have t2 : ((x[k].toNat : Int) == 62) = false := by rw [beq_eq_false_iff_ne]; omega
        clear hm
        go_wp2_with fail
        go_round
        case rel => exact ⟨k + 1, by omega, by go_num⟩
        case measure => simp [intOf]; omega
      · go_wp2_with fail
        refine (known_any _ HW3.out).mono ?_
        rintro e w4 ⟨rfl, hb4⟩
        go_wp2_with fail
        go_ret
        exact ⟨rfl, ((hb1.trans (hb2.mono (by omega))).trans (hb3.mono (by omega))).trans (hb4.mono (by omega))⟩
  · go_loop [8] (fun i => ∃ k : Nat, k ≤ x.size ∧ i = .int .i64 k) (fun i => x.size - (intOf i).toNat)
    case atStart => exact ⟨0, by omega, rfl⟩
    case round =>
      obtain ⟨k, hk, rfl⟩ := hrel
      by_cases hlt : k < x.size
      · have hm := HM.out k hlt
        have hm2 := hm.2.2 (by simp)
        have t1 : ((x[k].toNat : Int) == 60) = false := by rw [beq_eq_false_iff_ne]; omega
        have t2 : ((x[k].toNat : Int) == 62) = false := by rw [beq_eq_false_iff_ne]; omega
        have t3 : ((x[k].toNat : Int) == 34) = false := by rw [beq_eq_false_iff_ne]; omega
        have t4 : ((x[k].toNat : Int) == 9) = false := by rw [beq_eq_false_iff_ne]; omega
        have t5 : ((x[k].toNat : Int) == 10) = false := by rw [beq_eq_false_iff_ne]; omega
        have t6 : ((x[k].toNat : Int) == 13) = false := by rw [beq_eq_false_iff_ne]; omega
        clear hm hm2
        go_wp2_with fail
        go_round
        case rel => exact ⟨k + 1, by omega, by go_num⟩
        case measure => simp [intOf]; omega
      · go_wp2_with fail
        refine (known_any _ HW3.out).mono ?_
        rintro e w4 ⟨rfl, hb4⟩
        go_wp2_with fail
        go_ret
        exact ⟨rfl, ((hb1.trans (hb2.mono (by omega))).trans (hb3.mono (by omega))).trans (hb4.mono (by omega))⟩

theorem nameBack_walk (s : ByteArray) (_hs : s.size ≤ maxLen) (attr : Bool) (w : World) (hw : Ok w) :
    Calls Tryd.prog 5 #[.string s, .bool attr] w fun e w' => e = .returned (.bool true) ∧ Below w.heap.size w w' := by
  by_cases h1 : 300 < s.size
  · clear hw
    go_enter Tryd.func5, Tryd.ntmps5
    go_wp2
    go_ret
    exact ⟨rfl, Below.refl _ _⟩
  cases hsg : Sp.signsB s.data.toList
  · have HW : Hid (Ok w) := hw
    have HS : Hid (Sp.signsB s.data.toList = false) := hsg
    clear hw hsg
    go_enter Tryd.func5, Tryd.ntmps5
    go_wp2_with fail
    refine (signs_v s _ (by omega) HW.out false HS).mono ?_
    rintro e w1 ⟨rfl, hb1⟩
    go_wp2_with fail
    go_ret
    exact ⟨rfl, hb1⟩
  · exact nameBack_in s attr (by omega) w hw hsg
end Go.Proofs.YtbcommnnnfilkaaDoor
