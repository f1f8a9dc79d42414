/-
  The law NameTells, walked.
-/
import Derived.Test.YtbcommnnnfilkaaDoorKnown
import Derived.Test.YtbcommnnnfilkaaDoorRefUnescape2
set_option linter.unusedSimpArgs false
namespace Go.Proofs.YtbcommnnnfilkaaDoor
open Go.RowKit

theorem splitT_v (s : ByteArray) (w : World) (hs : s.size ≤ 1000000) (hw : Ok w) (p q : ByteArray) (h : Hid (Sp.splitL s.data.toList = (p.data.toList, q.data.toList))) :
    Calls Tryd.prog 9 #[.string s] w fun e w' => e = .returned (.tuple #[.string p, .string q]) ∧ Below w.heap.size w w' := by
  have := split_any s w hs hw
  rw [h.out] at this
  exact this
theorem unescRef_v (s : ByteArray) (w : World) (hs : s.size ≤ 1000000) (hw : Ok w) (t : ByteArray) (b : Bool) (h : Hid (Sp.textV (Sp.unesc s.data.toList) = .tuple #[.string t, .bool b])) :
    Calls Tryd.prog 12 #[.string s] w fun e w' => e = .returned (.tuple #[.string t, .bool b]) ∧ Below w.heap.size w w' := by
  have := unescRef_any s w hs hw
  rw [h.out] at this
  exact this
theorem isQualRef_v (s : ByteArray) (w : World) (hs : s.size ≤ 1000000) (b : Bool) (h : Hid (Sp.qualB s.data.toList = b)) :
    Calls Tryd.prog 16 #[.string s] w fun e w' => e = .returned (.bool b) ∧ Below w.heap.size w w' := by
  have := isQualRef_any s w hs
  rw [h.out] at this
  exact this
theorem escRefT_v (s : ByteArray) (attr : Bool) (w : World) (hs : s.size ≤ 1000000) (t : ByteArray) (h : Hid (t = ⟨(Sp.esc attr s.data.toList).toArray⟩)) :
    Calls Tryd.prog 18 #[.string s, .bool attr] w fun e w' => e = .returned (.string t) ∧ w' = w := by
  rw [h.out]
  exact escRef_any s attr w hs

set_option maxHeartbeats 2000000 in
set_option maxRecDepth 100000 in
theorem nameTells_walk (s : ByteArray) (_hs : s.size ≤ maxLen) (attr : Bool) (w : World) (hw : Ok w) :
    Calls Tryd.prog 3 #[.string s, .bool attr] w fun e w' => e = .returned (.bool true) ∧ Below w.heap.size w w' := by
  by_cases h1 : 300 < s.size
  · clear hw
    go_enter Tryd.func3, Tryd.ntmps3
    go_wp2_with fail
    go_ret
    exact ⟨rfl, Below.refl _ _⟩
  have HW : Hid (Ok w) := hw
  clear hw
  obtain ⟨p, HP⟩ : ∃ p : ByteArray, Hid (p = ⟨(Sp.splitL s.data.toList).1.toArray⟩) := ⟨(⟨(Sp.splitL s.data.toList).1.toArray⟩ : ByteArray), rfl⟩
  obtain ⟨q, HQ⟩ : ∃ q : ByteArray, Hid (q = ⟨(Sp.splitL s.data.toList).2.toArray⟩) := ⟨(⟨(Sp.splitL s.data.toList).2.toArray⟩ : ByteArray), rfl⟩
  have HS : Hid (Sp.splitL s.data.toList = (p.data.toList, q.data.toList)) := by
    show Sp.splitL s.data.toList = _
    rw [Sp.ba_eq HP.out, Sp.ba_eq HQ.out]
  obtain ⟨t, b, HU⟩ : ∃ t b, Hid (Sp.textV (Sp.unesc s.data.toList) = .tuple #[.string t, .bool b]) := ⟨_, _, rfl⟩
  obtain ⟨x, HX⟩ : ∃ x : ByteArray, Hid (x = ⟨(Sp.esc attr s.data.toList).toArray⟩) := ⟨(⟨(Sp.esc attr s.data.toList).toArray⟩ : ByteArray), rfl⟩
  obtain ⟨c, HC⟩ : ∃ c, Hid (Sp.isB s.data.toList = c) := ⟨Sp.isB s.data.toList, rfl⟩
  obtain ⟨d, HD⟩ : ∃ d, Hid (Sp.qualB s.data.toList = d) := ⟨Sp.qualB s.data.toList, rfl⟩
  go_enter Tryd.func3, Tryd.ntmps3
  go_wp2_with fail
  refine (splitT_v s _ (by omega) HW.out p q HS).mono ?_
  rintro e w1 ⟨rfl, b1⟩
  have z1 := b1.size
  have W1 : Hid (Ok w1) := HW.out.below b1
  go_wp2_with fail
  refine (splitRef_v s _ (by omega) p q HS).mono ?_
  rintro e w2 ⟨rfl, b2⟩
  have z2 := b2.size
  have W2 : Hid (Ok w2) := W1.out.below b2
  go_wp2_with fail
  refine (unescape_v s _ (by omega) W2.out t b HU).mono ?_
  rintro e w3 ⟨rfl, b3⟩
  have z3 := b3.size
  have W3 : Hid (Ok w3) := W2.out.below b3
  go_wp2_with fail
  refine (unescRef_v s _ (by omega) W3.out t b HU).mono ?_
  rintro e w4 ⟨rfl, b4⟩
  have z4 := b4.size
  have W4 : Hid (Ok w4) := W3.out.below b4
  go_wp2_with fail
  refine (is_v s _ (by omega) c HC).mono ?_
  rintro e w5 ⟨rfl, rfl⟩
  go_wp2_with fail
  refine (isRef_w s _ (by omega) c HC).mono ?_
  rintro e w5 ⟨rfl, rfl⟩
  go_wp2_with fail
  refine (isQual_v s _ (by omega) W4.out d HD).mono ?_
  rintro e w5 ⟨rfl, b5⟩
  have z5 := b5.size
  have W5 : Hid (Ok w5) := W4.out.below b5
  go_wp2_with fail
  refine (isQualRef_v s _ (by omega) d HD).mono ?_
  rintro e w6 ⟨rfl, b6⟩
  have z6 := b6.size
  have W6 : Hid (Ok w6) := W5.out.below b6
  go_wp2_with fail
  refine (escape_v s _ _ (by omega) x HX).mono ?_
  rintro e w7 ⟨rfl, b7⟩
  have z7 := b7.size
  have W7 : Hid (Ok w7) := W6.out.below b7
  go_wp2_with fail
  refine (escRefT_v s _ _ (by omega) x HX).mono ?_
  rintro e w8 ⟨rfl, rfl⟩
  go_wp2_with fail
  refine (known_any _ W7.out).mono ?_
  rintro e w8 ⟨rfl, b8⟩
  go_wp2_with fail
  go_ret
  exact ⟨rfl, ((((((b1.trans (b2.mono (by omega))).trans (b3.mono (by omega))).trans (b4.mono (by omega))).trans (b5.mono (by omega))).trans (b6.mono (by omega))).trans (b7.mono (by omega))).trans (b8.mono (by omega))⟩
end Go.Proofs.YtbcommnnnfilkaaDoor
