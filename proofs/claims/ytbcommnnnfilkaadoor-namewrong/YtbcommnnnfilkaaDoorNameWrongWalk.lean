/-
  The law NameWrong, walked.
-/
import Derived.Test.YtbcommnnnfilkaaDoorKnown
import Derived.Test.YtbcommnnnfilkaaDoorSigns
import Derived.Test.YtbcommnnnfilkaaDoorRefEscape
import Derived.Test.YtbcommnnnfilkaaDoorPlain10
import Derived.Deep.RegionWith
set_option linter.unusedSimpArgs false
namespace Go.Proofs.YtbcommnnnfilkaaDoor
open Go.RowKit

theorem signsW_v (s : ByteArray) (w : World) (hs : s.size ≤ 1000000) (hw : Ok w) (b : Bool) (h : Hid (Sp.signsB s.data.toList = b)) :
    Calls Tryd.prog 22 #[.string s] w fun e w' => e = .returned (.bool b) ∧ Below w.heap.size w w' := by
  have := signs_any s w hs hw
  rw [h.out] at this
  exact this
theorem escRef_v (s : ByteArray) (attr : Bool) (w : World) (hs : s.size ≤ 1000000) (t : ByteArray) (h : Hid (t = ⟨(Sp.esc attr s.data.toList).toArray⟩)) :
    Calls Tryd.prog 18 #[.string s, .bool attr] w fun e w' => e = .returned (.string t) ∧ w' = w := by
  rw [h.out]
  exact escRef_any s attr w hs
theorem Ok.drew {w : World} (h : Ok w) : Ok w.drew := h.below ((Below.refl _ _).drew)
theorem Ok.alloc {w : World} (h : Ok w) (o : Obj) : Ok (w.alloc o) := h.below ((Below.refl _ _).alloc (Nat.le_refl _) _)

set_option maxHeartbeats 2000000 in
set_option maxRecDepth 100000 in
theorem nameWrong_in (n : Nat) (hn : n < 15) (s : ByteArray) (w : World) (hw : Ok w) (hs : s.size ≤ 100) (ha : Sp.signsB s.data.toList = true) :
    Calls Tryd.prog 7 #[.int .i64 n, .string s] w fun e w' => e = .returned (.bool true) ∧ Below w.heap.size w w' := by
  have HW : Hid (Ok w) := hw
  have HA : Hid (Sp.signsB s.data.toList = true) := ha
  clear hw ha
  obtain ⟨x, HX⟩ : ∃ x : ByteArray, Hid (x = ⟨(Sp.esc false s.data.toList).toArray⟩) := ⟨(⟨(Sp.esc false s.data.toList).toArray⟩ : ByteArray), rfl⟩
  have HXL : Hid (x.data.toList = Sp.esc false s.data.toList) := Sp.ba_eq HX.out
  have hx : x.size ≤ 600 := by
    have := Sp.esc_le false s.data.toList
    rw [← HXL.out, Sp.len_byte, Sp.len_byte] at this
    omega
  go_enter Tryd.func7, Tryd.ntmps7
  go_wp2_with fail
  refine (signsW_v s _ (by omega) (HW.out.alloc _) true HA).mono ?_
  rintro e w1 ⟨rfl, b1⟩
  have z1 := b1.size
  have W1 : Hid (Ok w1) := (HW.out.alloc _).below b1
  have B1 : Hid (Below w.heap.size w w1) := ((Below.refl _ w).alloc (Nat.le_refl _) _).trans (b1.mono (by simp))
  obtain ⟨v, hcell, HN, hv⟩ : ∃ v : ByteArray, w1.cell? ⟨w.heap.size, n, none⟩ = some (.string v) ∧ Hid (Sp.unesc v.data.toList = none) ∧ v.size ≤ 20 := by
    rw [b1.cell (by simp), cell_new]
    have hn' : n = 0 ∨ n = 1 ∨ n = 2 ∨ n = 3 ∨ n = 4 ∨ n = 5 ∨ n = 6 ∨ n = 7 ∨ n = 8 ∨ n = 9 ∨ n = 10 ∨ n = 11 ∨ n = 12 ∨ n = 13 ∨ n = 14 := by omega
    rcases hn' with rfl | rfl | rfl | rfl | rfl | rfl | rfl | rfl | rfl | rfl | rfl | rfl | rfl | rfl | rfl
    all_goals exact ⟨_, rfl, (by decide +kernel : Sp.unesc _ = none), by decide⟩
  clear b1
  obtain ⟨z, HZ⟩ : ∃ z : ByteArray, Hid (x ++ v = z) := ⟨x ++ v, rfl⟩
  have HZL : Hid (z.data.toList = Sp.esc false s.data.toList ++ v.data.toList) := by
    show z.data.toList = _
    rw [← HZ.out, Sp.cat_data, HXL.out]
  have hz : z.size ≤ 1000000 := by
    rw [← HZ.out, ByteArray.size_append]
    omega
  have HU : Hid (Sp.textV (Sp.unesc z.data.toList) = .tuple #[.string ⟨#[]⟩, .bool false]) := by
    rw [HZL.out, Sp.unesc_tail false _ _ HA.out, HN.out]
    exact rfl
  go_wp2_with fail
  go_region_with (first
    | (go_at_call 18; refine (escRef_v s false _ (by omega) x HX).mono ?_; rintro e w2 ⟨rfl, rfl⟩)
    | (go_at_call 11; rw [HZ.out]; refine (unescape_v z _ hz ?_ ⟨#[]⟩ false HU).mono ?_; repeat (first | exact W1.out | refine Ok.drew ?_); rintro e w3 ⟨rfl, b3⟩))
  all_goals have z3 := b3.size
  all_goals have W3 : Hid (Ok w3) := W1.out.drew.below b3
  all_goals go_wp2_with fail
  all_goals refine (known_any _ W3.out).mono ?_
  all_goals rintro e w4 ⟨rfl, b4⟩
  all_goals go_wp2_with fail
  all_goals go_ret
  all_goals exact ⟨rfl, (B1.out.drew.trans (b3.mono (by have := B1.out.size; show w.heap.size ≤ w1.heap.size; omega))).trans (b4.mono (by have := B1.out.size; have : w1.heap.size ≤ w3.heap.size := z3; omega))⟩

theorem nameWrong_walk (n : Int) (_hn : (Lit.int .i64 n).wf = true) (s : ByteArray) (_hs : s.size ≤ maxLen) (w : World) (hw : Ok w) :
    Calls Tryd.prog 7 #[.int .i64 n, .string s] w fun e w' => e = .returned (.bool true) ∧ Below w.heap.size w w' := by
  by_cases h1 : n < 0
  · clear hw
    go_enter Tryd.func7, Tryd.ntmps7
    go_wp2
    go_ret
    exact ⟨rfl, (Below.refl _ _).alloc (Nat.le_refl _) _⟩
  by_cases h2 : 15 ≤ n
  · clear hw
    go_enter Tryd.func7, Tryd.ntmps7
    go_wp2
    go_ret
    exact ⟨rfl, (Below.refl _ _).alloc (Nat.le_refl _) _⟩
  by_cases h3 : 100 < s.size
  · clear hw
    go_enter Tryd.func7, Tryd.ntmps7
    go_wp2
    go_ret
    exact ⟨rfl, (Below.refl _ _).alloc (Nat.le_refl _) _⟩
  cases ha : Sp.signsB s.data.toList
  · have HW : Hid (Ok w) := hw
    have HA : Hid (Sp.signsB s.data.toList = false) := ha
    clear hw ha
    go_enter Tryd.func7, Tryd.ntmps7
    go_wp2_with fail
    refine (signsW_v s _ (by omega) (HW.out.alloc _) false HA).mono ?_
    rintro e w1 ⟨rfl, b1⟩
    go_wp2_with fail
    go_ret
    exact ⟨rfl, ((Below.refl _ w).alloc (Nat.le_refl _) _).trans (b1.mono (by simp))⟩
  obtain ⟨k, rfl⟩ := Int.eq_ofNat_of_zero_le (show 0 ≤ n by omega)
  exact nameWrong_in k (by omega) s w hw (by omega) ha
end Go.Proofs.YtbcommnnnfilkaaDoor
