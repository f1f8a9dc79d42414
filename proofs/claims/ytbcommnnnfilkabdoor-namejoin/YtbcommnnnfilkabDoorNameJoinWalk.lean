/-
  The law NameJoin, walked.
-/
import Derived.Test.YtbcommnnnfilkabDoorKnown
import Derived.Test.YtbcommnnnfilkabDoorSigns
import Derived.Test.YtbcommnnnfilkabDoorPlain11
set_option linter.unusedSimpArgs false
namespace Go.Proofs.YtbcommnnnfilkabDoor
open Go.RowKit

theorem signsJ_v (s : ByteArray) (w : World) (hs : s.size ≤ 1000000) (hw : Ok w) (b : Bool) (h : Hid (Sp.signsB s.data.toList = b)) :
    Calls Tryd.prog 6 #[.string s] w fun e w' => e = .returned (.bool b) ∧ Below w.heap.size w w' := by
  have := signs_any s w hs hw
  rw [h.out] at this
  exact this
set_option maxHeartbeats 1000000 in
set_option maxRecDepth 100000 in
theorem nameJoin_in (a b : ByteArray) (attr : Bool) (w : World) (hw : Ok w) (hs : a.size + b.size ≤ 300) (ha : Sp.signsB a.data.toList = true) (hb : Sp.signsB b.data.toList = true) :
    Calls Tryd.prog 3 #[.string a, .string b, .bool attr] w fun e w' => e = .returned (.bool true) ∧ Below w.heap.size w w' := by
  have HW : Hid (Ok w) := hw
  have HA : Hid (Sp.signsB a.data.toList = true) := ha
  have HB : Hid (Sp.signsB b.data.toList = true) := hb
  clear hw ha hb
  obtain ⟨x, HX⟩ : ∃ x : ByteArray, Hid (x = ⟨(Sp.esc attr a.data.toList).toArray⟩) := ⟨(⟨(Sp.esc attr a.data.toList).toArray⟩ : ByteArray), rfl⟩
  obtain ⟨y, HY⟩ : ∃ y : ByteArray, Hid (y = ⟨(Sp.esc attr b.data.toList).toArray⟩) := ⟨(⟨(Sp.esc attr b.data.toList).toArray⟩ : ByteArray), rfl⟩
  have HXL : Hid (x.data.toList = Sp.esc attr a.data.toList) := Sp.ba_eq HX.out
  have HYL : Hid (y.data.toList = Sp.esc attr b.data.toList) := Sp.ba_eq HY.out
  have hx : x.size ≤ 1800 := by
    have := Sp.esc_le attr a.data.toList
    rw [← HXL.out, Sp.len_byte, Sp.len_byte] at this
    omega
  have hy : y.size ≤ 1800 := by
    have := Sp.esc_le attr b.data.toList
    rw [← HYL.out, Sp.len_byte, Sp.len_byte] at this
    omega
  obtain ⟨c, HC⟩ : ∃ c : ByteArray, Hid (a ++ b = c) := ⟨a ++ b, rfl⟩
  have HCL : Hid (c.data.toList = a.data.toList ++ b.data.toList) := by
    show c.data.toList = _
    rw [← HC.out, Sp.cat_data]
  obtain ⟨z, HZ⟩ : ∃ z : ByteArray, Hid (x ++ y = z) := ⟨x ++ y, rfl⟩
  have HZL : Hid (z.data.toList = Sp.esc attr c.data.toList) := by
    show z.data.toList = _
    rw [← HZ.out, Sp.cat_data, HXL.out, HYL.out, HCL.out, Sp.esc_append]
  have HZE : Hid (z = ⟨(Sp.esc attr c.data.toList).toArray⟩) := Sp.ba_of HZL.out
  have hz : z.size ≤ 1000000 := by
    rw [← HZ.out, ByteArray.size_append]
    omega
  have hc : c.size ≤ 1000000 := by
    rw [← HC.out, ByteArray.size_append]
    omega
  have HU : Hid (Sp.textV (Sp.unesc z.data.toList) = .tuple #[.string c, .bool true]) := by
    rw [HZL.out, Sp.unesc_back attr _ (by rw [HCL.out]; exact Sp.signs_cat _ _ HA.out HB.out)]
    exact rfl
  go_enter Tryd.func3, Tryd.ntmps3
  go_wp2_with fail
  refine (signsJ_v a _ (by omega) HW.out true HA).mono ?_
  rintro e w1 ⟨rfl, b1⟩
  have z1 := b1.size
  have W1 : Hid (Ok w1) := HW.out.below b1
  go_wp2_with fail
  refine (signsJ_v b _ (by omega) W1.out true HB).mono ?_
  rintro e w2 ⟨rfl, b2⟩
  have z2 := b2.size
  have W2 : Hid (Ok w2) := W1.out.below b2
  go_wp2_with fail
  refine (escape_v a _ _ (by omega) x HX).mono ?_
  rintro e w3 ⟨rfl, b3⟩
  have z3 := b3.size
  have W3 : Hid (Ok w3) := W2.out.below b3
  go_wp2_with fail
  refine (escape_v b _ _ (by omega) y HY).mono ?_
  rintro e w4 ⟨rfl, b4⟩
  have z4 := b4.size
  have W4 : Hid (Ok w4) := W3.out.below b4
  go_wp2_with fail
  rw [HZ.out]
  refine (unescape_v z _ hz W4.out c true HU).mono ?_
  rintro e w5 ⟨rfl, b5⟩
  have z5 := b5.size
  have W5 : Hid (Ok w5) := W4.out.below b5
  go_wp2_with fail
  rw [HC.out]
  refine (escape_v c _ _ hc z HZE).mono ?_
  rintro e w6 ⟨rfl, b6⟩
  have z6 := b6.size
  have W6 : Hid (Ok w6) := W5.out.below b6
  have hcc : (a ++ b).toList = c.toList := by rw [HC.out]
  go_wp2_with fail
  refine (known_any _ W6.out).mono ?_
  rintro e w7 ⟨rfl, b7⟩
  go_wp2_with fail
  go_ret
  exact ⟨rfl, (((((b1.trans (b2.mono (by omega))).trans (b3.mono (by omega))).trans (b4.mono (by omega))).trans (b5.mono (by omega))).trans (b6.mono (by omega))).trans (b7.mono (by omega))⟩

theorem nameJoin_walk (a : ByteArray) (ma : a.size ≤ 140737488351232) (b : ByteArray) (mb : b.size ≤ 140737488351232) (attr : Bool) (w : World) (hw : Ok w) :
    Calls Tryd.prog 3 #[.string a, .string b, .bool attr] w fun e w' => e = .returned (.bool true) ∧ Below w.heap.size w w' := by
  by_cases h1 : 300 < a.size + b.size
  · clear hw
    go_enter Tryd.func3, Tryd.ntmps3
    go_wp2
    go_ret
    exact ⟨rfl, Below.refl _ _⟩
  have HW : Hid (Ok w) := hw
  cases ha : Sp.signsB a.data.toList
  · have HA : Hid (Sp.signsB a.data.toList = false) := ha
    clear hw ha
    go_enter Tryd.func3, Tryd.ntmps3
    go_wp2_with fail
    refine (signsJ_v a _ (by omega) HW.out false HA).mono ?_
    rintro e w1 ⟨rfl, b1⟩
    go_wp2_with fail
    go_ret
    exact ⟨rfl, b1⟩
  cases hb : Sp.signsB b.data.toList
  · have HA : Hid (Sp.signsB a.data.toList = true) := ha
    have HB : Hid (Sp.signsB b.data.toList = false) := hb
    clear hw ha hb
    go_enter Tryd.func3, Tryd.ntmps3
    go_wp2_with fail
    refine (signsJ_v a _ (by omega) HW.out true HA).mono ?_
    rintro e w1 ⟨rfl, b1⟩
    have z1 := b1.size
    have W1 : Hid (Ok w1) := HW.out.below b1
    go_wp2_with fail
    refine (signsJ_v b _ (by omega) W1.out false HB).mono ?_
    rintro e w2 ⟨rfl, b2⟩
    go_wp2_with fail
    go_ret
    exact ⟨rfl, b1.trans (b2.mono (by omega))⟩
  exact nameJoin_in a b attr w hw (by omega) ha hb
end Go.Proofs.YtbcommnnnfilkabDoor
