/-
  The law NameParts, walked.
-/
import Derived.Test.YtbcommnnnfilkabDoorKnown
import Derived.Test.YtbcommnnnfilkabDoorRefIs
import Derived.Test.YtbcommnnnfilkabDoorPlain7
set_option linter.unusedSimpArgs false
namespace Go.Proofs.YtbcommnnnfilkabDoor
open Go.RowKit

theorem isRef_v (s : ByteArray) (w : World) (hs : s.size ≤ maxLen) (b : Bool) (h : Hid (Sp.isB s.data.toList = b)) :
    Calls Tryd.prog 10 #[.string s] w fun e w' => e = .returned (.bool b) ∧ w' = w := by
  have := isRef_any s w hs
  rw [h.out] at this
  exact this
theorem split_v (s : ByteArray) (w : World) (hs : s.size ≤ 1000000) (hw : Ok w) (p q : ByteArray) (h : Hid (Sp.splitL s.data.toList = (p.data.toList, q.data.toList))) :
    Calls Tryd.prog 11 #[.string s] w fun e w' => e = .returned (.tuple #[.string p, .string q]) ∧ Below w.heap.size w w' := by
  have := split_any s w hs hw
  rw [h.out] at this
  exact this

set_option maxHeartbeats 1000000 in
set_option maxRecDepth 100000 in
theorem nameParts_in (a b : ByteArray) (w : World) (hw : Ok w) (ha : Sp.isB a.data.toList = true) (hb : Sp.isB b.data.toList = true) :
    Calls Tryd.prog 4 #[.string a, .string b] w fun e w' => e = .returned (.bool true) ∧ Below w.heap.size w w' := by
  have HW : Hid (Ok w) := hw
  have HA : Hid (Sp.isB a.data.toList = true) := ha
  have HB : Hid (Sp.isB b.data.toList = true) := hb
  have sa : a.size ≤ 12 := by rw [← Sp.len_byte]; exact (Sp.isB_mem _ ha).2.1
  have sb : b.size ≤ 12 := by rw [← Sp.len_byte]; exact (Sp.isB_mem _ hb).2.1
  have NA : Hid (∀ x ∈ a.data.toList, x ≠ 58) := Sp.isB_no_colon _ ha
  clear hw ha hb
  have ma : a.size ≤ maxLen := by unfold maxLen; omega
  have mb : b.size ≤ maxLen := by unfold maxLen; omega
  obtain ⟨z, HZ⟩ : ∃ z : ByteArray, Hid (a ++ ⟨#[58]⟩ ++ b = z) := ⟨a ++ (⟨#[58]⟩ : ByteArray) ++ b, rfl⟩
  have HZL : Hid (z.data.toList = a.data.toList ++ 58 :: b.data.toList) := by
    show z.data.toList = _
    rw [← HZ.out, Sp.cat_data, Sp.cat_data]
    simp
  have sz : z.size ≤ 25 := by
    rw [← Sp.len_byte, HZL.out, List.length_append, List.length_cons, Sp.len_byte, Sp.len_byte]
    omega
  obtain ⟨y, HY⟩ : ∃ y : ByteArray, Hid (z ++ ⟨#[58]⟩ ++ a = y) := ⟨z ++ (⟨#[58]⟩ : ByteArray) ++ a, rfl⟩
  have HYL : Hid (y.data.toList = a.data.toList ++ 58 :: (b.data.toList ++ 58 :: a.data.toList)) := by
    show y.data.toList = _
    rw [← HY.out, Sp.cat_data, Sp.cat_data, HZL.out]
    simp
  have sy : y.size ≤ 1000000 := by
    rw [← Sp.len_byte, HYL.out]
    simp
    omega
  obtain ⟨u, HU⟩ : ∃ u : ByteArray, Hid (⟨#[58]⟩ ++ a = u) := ⟨(⟨#[58]⟩ : ByteArray) ++ a, rfl⟩
  have HUL : Hid (u.data.toList = [] ++ 58 :: a.data.toList) := by
    show u.data.toList = _
    rw [← HU.out, Sp.cat_data]
    simp
  have su : u.size ≤ 1000000 := by
    rw [← Sp.len_byte, HUL.out]
    simp
    omega
  obtain ⟨v, HV⟩ : ∃ v : ByteArray, Hid (a ++ ⟨#[58]⟩ = v) := ⟨a ++ (⟨#[58]⟩ : ByteArray), rfl⟩
  have HVL : Hid (v.data.toList = a.data.toList ++ 58 :: []) := by
    show v.data.toList = _
    rw [← HV.out, Sp.cat_data]
  have sv : v.size ≤ 1000000 := by
    rw [← Sp.len_byte, HVL.out]
    simp
    omega
  have I1 : Hid (Sp.splitL z.data.toList = (a.data.toList, b.data.toList)) := by
    show Sp.splitL z.data.toList = _
    rw [HZL.out, Sp.splitL_two _ _ NA.out]
  have I2 : Hid (Sp.splitL a.data.toList = ((⟨#[]⟩ : ByteArray).data.toList, a.data.toList)) := by
    show Sp.splitL a.data.toList = _
    rw [Sp.splitL_none _ (by rw [Sp.indexByte_without 58 _ NA.out]; decide)]
  have I3 : Hid (Sp.qualB z.data.toList = true) := by
    show Sp.qualB z.data.toList = true
    rw [HZL.out, Sp.qualB_two _ _ NA.out, HA.out, HB.out]
    rfl
  have I4 : Hid (Sp.qualB y.data.toList = false) := by
    show Sp.qualB y.data.toList = false
    rw [HYL.out, Sp.qualB_two _ _ NA.out, HA.out, Sp.isB_colon]
    rfl
  have I5 : Hid (Sp.qualB u.data.toList = false) := by
    show Sp.qualB u.data.toList = false
    rw [HUL.out, Sp.qualB_two _ _ (by simp)]
    rfl
  have I6 : Hid (Sp.qualB v.data.toList = false) := by
    show Sp.qualB v.data.toList = false
    rw [HVL.out, Sp.qualB_two _ _ NA.out, HA.out]
    rfl
  go_enter Tryd.func4, Tryd.ntmps4
  go_wp2_with fail
  refine (isRef_v a _ ma true HA).mono ?_
  rintro e w1 ⟨rfl, rfl⟩
  go_wp2_with fail
  refine (isRef_v b _ mb true HB).mono ?_
  rintro e w1 ⟨rfl, rfl⟩
  go_wp2_with fail
  rw [HZ.out]
  refine (split_v z _ (by omega) HW.out a b I1).mono ?_
  rintro e w1 ⟨rfl, b1⟩
  have z1 := b1.size
  have W1 : Hid (Ok w1) := HW.out.below b1
  go_wp2_with fail
  refine (split_v a _ (by omega) W1.out ⟨#[]⟩ a I2).mono ?_
  rintro e w2 ⟨rfl, b2⟩
  have z2 := b2.size
  have W2 : Hid (Ok w2) := W1.out.below b2
  go_wp2_with fail
  rw [HZ.out]
  refine (isQual_v z _ (by omega) W2.out true I3).mono ?_
  rintro e w3 ⟨rfl, b3⟩
  have z3 := b3.size
  have W3 : Hid (Ok w3) := W2.out.below b3
  go_wp2_with fail
  rw [HZ.out, HY.out]
  refine (isQual_v y _ sy W3.out false I4).mono ?_
  rintro e w4 ⟨rfl, b4⟩
  have z4 := b4.size
  have W4 : Hid (Ok w4) := W3.out.below b4
  go_wp2_with fail
  rw [HU.out]
  refine (isQual_v u _ su W4.out false I5).mono ?_
  rintro e w5 ⟨rfl, b5⟩
  have z5 := b5.size
  have W5 : Hid (Ok w5) := W4.out.below b5
  go_wp2_with fail
  rw [HV.out]
  refine (isQual_v v _ sv W5.out false I6).mono ?_
  rintro e w6 ⟨rfl, b6⟩
  have z6 := b6.size
  have W6 : Hid (Ok w6) := W5.out.below b6
  go_wp2_with fail
  refine (known_any _ W6.out).mono ?_
  rintro e w7 ⟨rfl, b7⟩
  go_wp2_with fail
  go_ret
  exact ⟨rfl, (((((b1.trans (b2.mono (by omega))).trans (b3.mono (by omega))).trans (b4.mono (by omega))).trans (b5.mono (by omega))).trans (b6.mono (by omega))).trans (b7.mono (by omega))⟩

theorem nameParts_walk (a : ByteArray) (ma : a.size ≤ maxLen) (b : ByteArray) (mb : b.size ≤ maxLen) (w : World) (hw : Ok w) :
    Calls Tryd.prog 4 #[.string a, .string b] w fun e w' => e = .returned (.bool true) ∧ Below w.heap.size w w' := by
  cases ha : Sp.isB a.data.toList
  · have HA : Hid (Sp.isB a.data.toList = false) := ha
    clear ha hw
    go_enter Tryd.func4, Tryd.ntmps4
    go_wp2_with fail
    refine (isRef_v a _ ma false HA).mono ?_
    rintro e w1 ⟨rfl, rfl⟩
    go_wp2_with fail
    go_ret
    exact ⟨rfl, Below.refl _ _⟩
  cases hb : Sp.isB b.data.toList
  · have HA : Hid (Sp.isB a.data.toList = true) := ha
    have HB : Hid (Sp.isB b.data.toList = false) := hb
    clear ha hb hw
    go_enter Tryd.func4, Tryd.ntmps4
    go_wp2_with fail
    refine (isRef_v a _ ma true HA).mono ?_
    rintro e w1 ⟨rfl, rfl⟩
    go_wp2_with fail
    refine (isRef_v b _ mb false HB).mono ?_
    rintro e w1 ⟨rfl, rfl⟩
    go_wp2_with fail
    go_ret
    exact ⟨rfl, Below.refl _ _⟩
  exact nameParts_in a b w hw ha hb
end Go.Proofs.YtbcommnnnfilkabDoor
