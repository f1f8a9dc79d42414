/-
  The document's entity and Unescape: each by its contract.
-/
import Derived.Test.YtbcommnnnfilkaaDoorRefRef
import Derived.Test.YtbcommnnnfilkaaDoorPlain13
set_option linter.unusedSimpArgs false
namespace Go.Proofs.YtbcommnnnfilkaaDoor
open Go.RowKit

theorem ref_v (s : ByteArray) (w : World) (hs : s.size ≤ 1000000) (t : ByteArray) (b : Bool) (h : Hid (Sp.textV ((Sp.refN s.data.toList).map Lib.encodeRune) = .tuple #[.string t, .bool b])) :
    Calls Tryd.prog 42 #[.string s] w fun e w' => e = .returned (.tuple #[.string t, .bool b]) ∧ Below w.heap.size w w' := by
  have h' := h.out
  unfold Sp.refN at h'
  by_cases hx : s.data.toList.getD 0 0 = 120
  · rw [if_pos hx] at h'
    have h0 : 0 < s.size := by
      rcases Nat.eq_zero_or_pos s.size with e | e
      · have : s.data.toList = [] := List.eq_nil_of_length_eq_zero (by rw [Sp.len_byte]; exact e)
        rw [this] at hx
        exact absurd hx (by decide)
      · exact e
    have := ref_hex s w hs h0 hx
    rw [h'] at this
    exact this
  · rw [if_neg hx] at h'
    have := ref_dec s w hs hx
    rw [h'] at this
    exact this

set_option maxRecDepth 100000 in
theorem entity_any (s : ByteArray) (w : World) (hs : s.size ≤ 1000000) :
    Calls Tryd.prog 28 #[.string s] w fun e w' => e = .returned (Sp.textV ((Sp.refd s.data.toList).map Lib.encodeRune)) ∧ Below w.heap.size w w' := by
  have HL : Hid (s.toList = s.data.toList) := Lib.toList_data s
  by_cases h1 : s.data.toList = [97, 109, 112]
  · have t1 : (s.toList == [97, 109, 112]) = true := by rw [HL.out, h1]; rfl
    have HF : Hid (Sp.refd s.data.toList = some 38) := by rw [h1]; exact rfl
    clear h1
    go_enter Tryd.func28, Tryd.ntmps28
    go_wp2_with fail
    go_ret2
    exact ⟨Sp.text_some (l := [38]) (by rw [HF.out]; rfl), Below.refl _ _⟩
  have t1 : (s.toList == [97, 109, 112]) = false := by rw [HL.out]; simpa using h1
  by_cases h2 : s.data.toList = [108, 116]
  · have t2 : (s.toList == [108, 116]) = true := by rw [HL.out, h2]; rfl
    have HF : Hid (Sp.refd s.data.toList = some 60) := by rw [h2]; exact rfl
    clear h1 h2
    go_enter Tryd.func28, Tryd.ntmps28
    go_wp2_with fail
    go_ret2
    exact ⟨Sp.text_some (l := [60]) (by rw [HF.out]; rfl), Below.refl _ _⟩
  have t2 : (s.toList == [108, 116]) = false := by rw [HL.out]; simpa using h2
  by_cases h3 : s.data.toList = [103, 116]
  · have t3 : (s.toList == [103, 116]) = true := by rw [HL.out, h3]; rfl
    have HF : Hid (Sp.refd s.data.toList = some 62) := by rw [h3]; exact rfl
    clear h1 h2 h3
    go_enter Tryd.func28, Tryd.ntmps28
    go_wp2_with fail
    go_ret2
    exact ⟨Sp.text_some (l := [62]) (by rw [HF.out]; rfl), Below.refl _ _⟩
  have t3 : (s.toList == [103, 116]) = false := by rw [HL.out]; simpa using h3
  by_cases h4 : s.data.toList = [113, 117, 111, 116]
  · have t4 : (s.toList == [113, 117, 111, 116]) = true := by rw [HL.out, h4]; rfl
    have HF : Hid (Sp.refd s.data.toList = some 34) := by rw [h4]; exact rfl
    clear h1 h2 h3 h4
    go_enter Tryd.func28, Tryd.ntmps28
    go_wp2_with fail
    go_ret2
    exact ⟨Sp.text_some (l := [34]) (by rw [HF.out]; rfl), Below.refl _ _⟩
  have t4 : (s.toList == [113, 117, 111, 116]) = false := by rw [HL.out]; simpa using h4
  by_cases h5 : s.data.toList = [97, 112, 111, 115]
  · have t5 : (s.toList == [97, 112, 111, 115]) = true := by rw [HL.out, h5]; rfl
    have HF : Hid (Sp.refd s.data.toList = some 39) := by rw [h5]; exact rfl
    clear h1 h2 h3 h4 h5
    go_enter Tryd.func28, Tryd.ntmps28
    go_wp2_with fail
    go_ret2
    exact ⟨Sp.text_some (l := [39]) (by rw [HF.out]; rfl), Below.refl _ _⟩
  have t5 : (s.toList == [97, 112, 111, 115]) = false := by rw [HL.out]; simpa using h5
  by_cases h0 : 0 < s.size
  · have hne : s.toList.isEmpty = false := by
      rw [HL.out]
      cases h : s.data.toList with
      | nil =>
        have := congrArg List.length h
        rw [Sp.len_byte, List.length_nil] at this
        omega
      | cons a b => rfl
    by_cases hx : s.data.toList.getD 0 0 = 35
    · have tx : ((s[0].toNat : Int) == 35) = true := by
        rw [Sp.getD_byte s 0 h0] at hx
        rw [hx]
        rfl
      obtain ⟨u, HU⟩ : ∃ u : ByteArray, Hid (s.extract 1 s.size = u) := ⟨s.extract 1 s.size, rfl⟩
      have hus : u.size ≤ 1000000 := by
        rw [← HU.out, ByteArray.size_extract]
        omega
      have HR : Hid (Sp.refd s.data.toList = Sp.refN u.data.toList) := by
        show Sp.refd s.data.toList = _
        have e := Sp.drop_byte s 0 h0
        rw [List.drop_zero] at e
        have e2 : s[0] = 35 := by rw [← Sp.getD_byte s 0 h0]; exact hx
        rw [e, e2, Sp.refd_sharp, ← HU.out, Lib.extract_to_end]
      obtain ⟨t, b, HV⟩ : ∃ t b, Hid (Sp.textV ((Sp.refN u.data.toList).map Lib.encodeRune) = .tuple #[.string t, .bool b]) := ⟨_, _, rfl⟩
      have HE : Hid (Ending.returned (.tuple #[.string t, .bool b]) = .returned (Sp.textV ((Sp.refd s.data.toList).map Lib.encodeRune))) := by
        show Ending.returned (.tuple #[.string t, .bool b]) = .returned (Sp.textV ((Sp.refd s.data.toList).map Lib.encodeRune))
        rw [HR.out, HV.out]
      clear hx h1 h2 h3 h4 h5
      go_enter Tryd.func28, Tryd.ntmps28
      go_wp2_with fail
      rw [HU.out]
      refine (ref_v u _ hus t b HV).mono ?_
      rintro e w1 ⟨rfl, b1⟩
      go_wp2_with fail
      go_ret2
      exact ⟨HE.out, b1⟩
    · have tx : ((s[0].toNat : Int) == 35) = false := by
        rw [beq_eq_false_iff_ne]
        intro e
        apply hx
        rw [Sp.getD_byte s 0 h0]
        apply UInt8.toNat_inj.1
        exact Int.ofNat.inj e
      have HF : Hid (Sp.refd s.data.toList = none) := Sp.refd_other _ hx h1 h2 h3 h4 h5
      clear hx h1 h2 h3 h4 h5
      go_enter Tryd.func28, Tryd.ntmps28
      go_wp2_with fail
      go_ret2
      exact ⟨Sp.text_none (by rw [HF.out]; rfl), Below.refl _ _⟩
  · have hnil : s.data.toList = [] := List.eq_nil_of_length_eq_zero (by rw [Sp.len_byte]; omega)
    have hne : s.toList.isEmpty = true := by
      rw [HL.out, hnil]
      rfl
    have HF : Hid (Sp.refd s.data.toList = none) := by rw [hnil]; exact rfl
    clear hnil h1 h2 h3 h4 h5
    go_enter Tryd.func28, Tryd.ntmps28
    go_wp2_with fail
    go_ret2
    exact ⟨Sp.text_none (by rw [HF.out]; rfl), Below.refl _ _⟩
end Go.Proofs.YtbcommnnnfilkaaDoor
