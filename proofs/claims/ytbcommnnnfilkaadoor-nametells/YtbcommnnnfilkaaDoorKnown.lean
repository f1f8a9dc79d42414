/-
  The laws' own 'known', by its contract.
-/
import Derived.Test.YtbcommnnnfilkaaDoorQual
set_option linter.unusedSimpArgs false
namespace Go.Proofs.YtbcommnnnfilkaaDoor
open Go.RowKit

theorem unescape_v (s : ByteArray) (w : World) (hs : s.size ≤ 1000000) (hw : Ok w) (t : ByteArray) (b : Bool) (h : Hid (Sp.textV (Sp.unesc s.data.toList) = .tuple #[.string t, .bool b])) :
    Calls Tryd.prog 11 #[.string s] w fun e w' => e = .returned (.tuple #[.string t, .bool b]) ∧ Below w.heap.size w w' := by
  have := unescape_any s w hs hw.1
  rw [h.out] at this
  exact this
theorem escape_v (s : ByteArray) (attr : Bool) (w : World) (hs : s.size ≤ 1000000) (t : ByteArray) (h : Hid (t = ⟨(Sp.esc attr s.data.toList).toArray⟩)) :
    Calls Tryd.prog 17 #[.string s, .bool attr] w fun e w' => e = .returned (.string t) ∧ Below w.heap.size w w' := by
  rw [h.out]
  exact escape_any s attr w hs
theorem isQual_v (s : ByteArray) (w : World) (hs : s.size ≤ 1000000) (hw : Ok w) (b : Bool) (h : Hid (Sp.qualB s.data.toList = b)) :
    Calls Tryd.prog 15 #[.string s] w fun e w' => e = .returned (.bool b) ∧ Below w.heap.size w w' := by
  have := isQual_any s w hs hw
  rw [h.out] at this
  exact this
theorem k1 : Sp.unesc [97, 38, 35, 120, 52, 49, 59, 38, 108, 116, 59] = some [97, 65, 60] := by decide +kernel

theorem known_any (w : World) (hw : Ok w) :
    Calls Tryd.prog 19 #[] w fun e w' => e = .returned (.bool true) ∧ Below w.heap.size w w' := by
  have HW : Hid (Ok w) := hw
  clear hw
  have K1 : Hid (Sp.textV (Sp.unesc (⟨#[97, 38, 35, 120, 52, 49, 59, 38, 108, 116, 59]⟩ : ByteArray).data.toList) = .tuple #[.string ⟨#[97, 65, 60]⟩, .bool true]) := by
    rw [show (⟨#[97, 38, 35, 120, 52, 49, 59, 38, 108, 116, 59]⟩ : ByteArray).data.toList = [97, 38, 35, 120, 52, 49, 59, 38, 108, 116, 59] from rfl, k1]
    exact rfl
  have K2 : Hid (Sp.isB (⟨#[97, 45, 49]⟩ : ByteArray).data.toList = true) := by exact (by decide +kernel : Sp.isB [97, 45, 49] = true)
  have K3 : Hid (Sp.isB (⟨#[49, 97]⟩ : ByteArray).data.toList = false) := by exact (by decide +kernel : Sp.isB [49, 97] = false)
  have K4 : Hid (Sp.qualB (⟨#[97, 58, 98]⟩ : ByteArray).data.toList = true) := by exact (by decide +kernel : Sp.qualB [97, 58, 98] = true)
  have K5 : Hid ((⟨#[38, 108, 116, 59]⟩ : ByteArray) = ⟨(Sp.esc false (⟨#[60]⟩ : ByteArray).data.toList).toArray⟩) := by
    show (⟨#[38, 108, 116, 59]⟩ : ByteArray) = ⟨(Sp.esc false [60]).toArray⟩
    rw [(by decide +kernel : Sp.esc false [60] = [38, 108, 116, 59])]
  go_enter Tryd.func19, Tryd.ntmps19
  go_wp2_with fail
  refine (unescape_v _ _ (by decide) HW.out ⟨#[97, 65, 60]⟩ true K1).mono ?_
  rintro e w1 ⟨rfl, hb1⟩
  have HW1 : Hid (Ok w1) := HW.out.below hb1
  have hz1 := hb1.size
  go_wp2_with fail
  refine (is_v _ _ (by decide) true K2).mono ?_
  rintro e w2 ⟨rfl, rfl⟩
  go_wp2_with fail
  refine (is_v _ _ (by decide) false K3).mono ?_
  rintro e w2 ⟨rfl, rfl⟩
  go_wp2_with fail
  refine (isQual_v _ _ (by decide) HW1.out true K4).mono ?_
  rintro e w2 ⟨rfl, hb2⟩
  have hz2 := hb2.size
  go_wp2_with fail
  refine (escape_v _ _ _ (by decide) ⟨#[38, 108, 116, 59]⟩ K5).mono ?_
  rintro e w3 ⟨rfl, hb3⟩
  go_wp2_with fail
  go_ret
  exact ⟨rfl, (hb1.trans (hb2.mono (by omega))).trans (hb3.mono (by omega))⟩
end Go.Proofs.YtbcommnnnfilkaaDoor
