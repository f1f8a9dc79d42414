/-
  The document's Signs, by its contract.
-/
import Derived.Test.YtimecocegnnjjaaDoorShelf2
import Derived.Test.YtimecocegnnjjaaDoorPartA
set_option linter.unusedSimpArgs false
namespace Go.Proofs.YtimecocegnnjjaaDoor
open Go.RowKit
/-- The two tables of unicode/utf8 are there. -/
def Tabs (w : World) : Prop := Lib.Utf8Tabs 0 1 w
theorem Tabs.below {w w' : World} (h : Tabs w) (hb : Below w.heap.size w w') : Tabs w' := Utf8Tabs_below h hb

theorem valid_v (s : ByteArray) (w : World) (hs : s.size ≤ 2000000) (hw : Tabs w) (b : Bool) (h : Hid (Lib.validD s.data.toList = b)) :
    Calls Tryd.prog 21 #[.string s] w fun e w' => e = .returned (.bool b) ∧ Below w.heap.size w w' := by
  have := Tryd.utf8_ValidString s w (by omega) hw
  rw [h.out] at this
  exact this

/-- What '[]rune(s)' makes, told by variables. -/
theorem conv_runes (s : ByteArray) (w : World) (hs : s.size ≤ 2000000) : ∃ (C : Array Value) (N cap : Nat), Hid (N = (Sp.runes s.size s.data.toList).length) ∧ N ≤ 2000000 ∧ N ≤ cap ∧
    Hid (∀ k, k < N → C[k]? = some (.int .i32 (((Sp.runes s.size s.data.toList).getD k 0 : Nat) : Int))) ∧
    (convert 9 51 (.string s)).run Tryd.prog w = .ok (.slice (some ⟨w.heap.size, 0, none⟩) N cap) (w.drew.alloc (.cells C 21)) := by
  have hz := size_runesFrom s s.size 0 #[]
  have hr := Sp.runes_all s
  have hlen : (Conv.runesFrom s s.size 0 #[]).size = (Sp.runes s.size s.data.toList).length := by rw [hr]; simp
  refine ⟨_, _, _, hlen, by simp at hz; omega, grownCap_ge w _ 0 21, ?_, run_runes_of_string w 9 51 21 s Tryd.underlying9 Tryd.underlying51 Tryd.underlying21 (by simp at hz; omega)⟩
  intro k hk
  rw [Array.getElem?_append_left hk, hr]
  rw [hlen] at hk
  simp [hk, List.getD]

set_option maxRecDepth 100000 in
theorem signsT_any (s : ByteArray) (w : World) (hs : s.size ≤ 2000000) (hw : Tabs w) :
    Calls Tryd.prog 11 #[.string s] w fun e w' => e = .returned (.bool (Sp.signsB s.data.toList)) ∧ Below w.heap.size w w' := by
  have HW : Hid (Tabs w) := hw
  clear hw
  cases hv : Lib.validD s.data.toList
  · have HV : Hid (Lib.validD s.data.toList = false) := hv
    have HF : Hid (Sp.signsB s.data.toList = false) := by
      show Sp.signsB s.data.toList = false
      rw [Sp.signsB, hv]
      rfl
    clear hv
    go_enter Tryd.func11, Tryd.ntmps11
    go_wp2_with fail
    refine (valid_v s _ hs HW.out false HV).mono ?_
    rintro e w1 ⟨rfl, hb1⟩
    go_wp2_with fail
    go_ret
    exact ⟨Sp.ret_bool HF.out.symm, hb1⟩
  · have HV : Hid (Lib.validD s.data.toList = true) := hv
    have HS : Hid (Sp.signsB s.data.toList = (Sp.runes s.size s.data.toList).all fun r => Sp.charB (r : Int)) := by
      show Sp.signsB s.data.toList = _
      rw [Sp.signsB, hv, Bool.true_and, Sp.len_byte]
    clear hv
    go_enter Tryd.func11, Tryd.ntmps11
    go_wp2_with fail
    refine (valid_v s _ hs HW.out true HV).mono ?_
    rintro e w1 ⟨rfl, hb1⟩
    obtain ⟨C, N, cap, HN, hN, hcap, HC, hconv⟩ := conv_runes s w1 hs
    have hz1 := hb1.size
    go_wp2_with fail
    go_loop [4] (fun i => ∃ k : Nat, k ≤ N ∧ i = .int .i64 k ∧ Hid (∀ j, j < k → Sp.charB (((Sp.runes s.size s.data.toList).getD j 0 : Nat) : Int) = true)) (fun i => N - (intOf i).toNat)
    case atStart => exact ⟨0, by omega, rfl, fun j hj => absurd hj (by omega)⟩
    case round =>
      obtain ⟨k, hk, rfl, HA⟩ := hrel
      by_cases hlt : k < N
      · obtain ⟨r, HR⟩ : ∃ r : Nat, Hid ((Sp.runes s.size s.data.toList).getD k 0 = r) := ⟨(Sp.runes s.size s.data.toList).getD k 0, rfl⟩
        have hcell : (w1.alloc (.cells C 21)).cell? ⟨w1.heap.size, k, none⟩ = some (.int .i32 (r : Int)) := by
          have := HC.out k hlt
          rw [HR.out] at this
          rw [cell_new, this]
        have HM : Hid (r ∈ Sp.runes s.size s.data.toList) := by
          show r ∈ Sp.runes s.size s.data.toList
          have hl : k < (Sp.runes s.size s.data.toList).length := by rw [← HN.out]; exact hlt
          rw [← HR.out, List.getD_eq_getElem?_getD, List.getElem?_eq_getElem hl]
          exact List.getElem_mem hl
        cases hch : Sp.charB (r : Int)
        · have HF : Hid (Sp.signsB s.data.toList = false) := by
            show Sp.signsB s.data.toList = false
            rw [HS.out, List.all_eq_false]
            exact ⟨r, HM.out, by rw [hch]; simp⟩
          go_wp2_with fail
          refine (char_ref _ _).mono ?_
          rintro e w2 ⟨rfl, rfl⟩
          go_wp2_with fail
          go_ret
          exact ⟨Sp.ret_bool HF.out.symm, (hb1.alloc (by omega) _).drew⟩
        · have HG : Hid (Sp.charB (r : Int) = true) := hch
          go_wp2_with fail
          refine (char_ref _ _).mono ?_
          rintro e w2 ⟨rfl, rfl⟩
          go_wp2_with fail
          go_round
          case rel =>
            refine ⟨k + 1, by omega, by go_num, fun j hj => ?_⟩
            by_cases hj' : j < k
            · exact HA.out j hj'
            · obtain rfl : j = k := by omega
              rw [HR.out]
              exact HG.out
          case measure => simp [intOf]; omega
      · have HF : Hid (Sp.signsB s.data.toList = true) := by
          show Sp.signsB s.data.toList = true
          rw [HS.out, List.all_eq_true]
          intro r hr
          obtain ⟨j, hj, rfl⟩ := List.mem_iff_getElem.1 hr
          have := HA.out j (by rw [← HN.out] at hj; omega)
          rw [List.getD_eq_getElem?_getD, List.getElem?_eq_getElem hj] at this
          exact this
        go_wp2_with fail
        go_ret
        exact ⟨Sp.ret_bool HF.out.symm, (hb1.alloc (by omega) _).drew⟩
end Go.Proofs.YtimecocegnnjjaaDoor
