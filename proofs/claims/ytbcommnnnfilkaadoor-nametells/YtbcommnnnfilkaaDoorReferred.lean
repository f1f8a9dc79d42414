/-
  name.referred, name.reference, name.first: each by its contract.
-/
import Derived.Test.YtbcommnnnfilkaaDoorNumbered
import Derived.Test.YtbcommnnnfilkaaDoorPlain4
import Derived.Test.YtbcommnnnfilkaaDoorShelf
set_option linter.unusedSimpArgs false
namespace Go.Proofs.YtbcommnnnfilkaaDoor
open Go.RowKit

theorem numbered_vb (s : ByteArray) (base : Int) (w : World) (hs : s.size ≤ maxLen) (hb : base = 10 ∨ base = 16) (v : Int) (b : Bool) (h : Hid (Sp.optV (Sp.numb base s.data.toList) = .tuple #[.int .i32 v, .bool b])) :
    Calls Tryd.prog 56 #[.string s, .int .i32 base] w fun e w' => e = .returned (.tuple #[.int .i32 v, .bool b]) ∧ w' = w := by
  have := numbered_any s base w hs hb
  rw [h.out] at this
  exact this
theorem cutPrefix_yes (s p : ByteArray) (q : List UInt8) (w : World) (hp : p.data.toList = q) (h : Hid (Lib.hasPrefix s.data.toList q = true)) (t : ByteArray) (ht : Hid (t = ⟨(s.data.toList.drop q.length).toArray⟩)) :
    Calls Tryd.prog 55 #[.string s, .string p] w fun e w' => e = .returned (.tuple #[.string t, .bool true]) ∧ w' = w := by
  have := Tryd.strings_CutPrefix s p w
  rw [hp, Lib.trimPrefix, h.out, if_pos rfl, ← ht.out] at this
  exact this
theorem cutPrefix_no (s p : ByteArray) (q : List UInt8) (w : World) (hp : p.data.toList = q) (h : Hid (Lib.hasPrefix s.data.toList q = false)) :
    Calls Tryd.prog 55 #[.string s, .string p] w fun e w' => e = .returned (.tuple #[.string s, .bool false]) ∧ w' = w := by
  have := Tryd.strings_CutPrefix s p w
  rw [hp, Lib.trimPrefix, h.out, if_neg (by simp)] at this
  exact this

theorem referred_any (s : ByteArray) (w : World) (hs : s.size ≤ maxLen) :
    Calls Tryd.prog 47 #[.string s] w fun e w' => e = .returned (Sp.optV (Sp.refd s.data.toList)) ∧ w' = w := by
  have hl : s.toList = s.data.toList := Lib.toList_data s
  have HL : Hid (s.toList = s.data.toList) := hl
  clear hl
  by_cases h1 : s.data.toList = [97, 109, 112]
  · have t1 : (s.toList == [97, 109, 112]) = true := by rw [HL.out, h1]; rfl
    have HF : Hid (Sp.refd s.data.toList = some 38) := by rw [h1]; exact rfl
    clear h1
    go_enter Tryd.func47, Tryd.ntmps47
    go_wp2
    go_ret2
    exact ⟨Sp.ret_some HF.out, rfl⟩
  have t1 : (s.toList == [97, 109, 112]) = false := by rw [HL.out]; simpa using h1
  by_cases h2 : s.data.toList = [108, 116]
  · have t2 : (s.toList == [108, 116]) = true := by rw [HL.out, h2]; rfl
    have HF : Hid (Sp.refd s.data.toList = some 60) := by rw [h2]; exact rfl
    clear h1 h2
    go_enter Tryd.func47, Tryd.ntmps47
    go_wp2
    go_ret2
    exact ⟨Sp.ret_some HF.out, rfl⟩
  have t2 : (s.toList == [108, 116]) = false := by rw [HL.out]; simpa using h2
  by_cases h3 : s.data.toList = [103, 116]
  · have t3 : (s.toList == [103, 116]) = true := by rw [HL.out, h3]; rfl
    have HF : Hid (Sp.refd s.data.toList = some 62) := by rw [h3]; exact rfl
    clear h1 h2 h3
    go_enter Tryd.func47, Tryd.ntmps47
    go_wp2
    go_ret2
    exact ⟨Sp.ret_some HF.out, rfl⟩
  have t3 : (s.toList == [103, 116]) = false := by rw [HL.out]; simpa using h3
  by_cases h4 : s.data.toList = [113, 117, 111, 116]
  · have t4 : (s.toList == [113, 117, 111, 116]) = true := by rw [HL.out, h4]; rfl
    have HF : Hid (Sp.refd s.data.toList = some 34) := by rw [h4]; exact rfl
    clear h1 h2 h3 h4
    go_enter Tryd.func47, Tryd.ntmps47
    go_wp2
    go_ret2
    exact ⟨Sp.ret_some HF.out, rfl⟩
  have t4 : (s.toList == [113, 117, 111, 116]) = false := by rw [HL.out]; simpa using h4
  by_cases h5 : s.data.toList = [97, 112, 111, 115]
  · have t5 : (s.toList == [97, 112, 111, 115]) = true := by rw [HL.out, h5]; rfl
    have HF : Hid (Sp.refd s.data.toList = some 39) := by rw [h5]; exact rfl
    clear h1 h2 h3 h4 h5
    go_enter Tryd.func47, Tryd.ntmps47
    go_wp2
    go_ret2
    exact ⟨Sp.ret_some HF.out, rfl⟩
  have t5 : (s.toList == [97, 112, 111, 115]) = false := by rw [HL.out]; simpa using h5
  cases h6 : Lib.hasPrefix s.data.toList [35, 120]
  · cases h7 : Lib.hasPrefix s.data.toList [35]
    · have HF : Hid (Sp.refd s.data.toList = none) := by
        show Sp.refd s.data.toList = none
        unfold Sp.refd
        rw [if_neg h1, if_neg h2, if_neg h3, if_neg h4, if_neg h5, h6, h7]
        rfl
      have H6 : Hid (Lib.hasPrefix s.data.toList [35, 120] = false) := h6
      have H7 : Hid (Lib.hasPrefix s.data.toList [35] = false) := h7
      clear h1 h2 h3 h4 h5 h6 h7
      go_enter Tryd.func47, Tryd.ntmps47
      go_wp2_with fail
      refine (cutPrefix_no _ _ [35, 120] _ rfl H6).mono ?_
      rintro e w1 ⟨rfl, rfl⟩
      go_wp2_with fail
      refine (cutPrefix_no _ _ [35] _ rfl H7).mono ?_
      rintro e w1 ⟨rfl, rfl⟩
      go_wp2_with fail
      go_ret2
      exact ⟨Sp.ret_none HF.out, rfl⟩
    · have HF : Hid (Sp.refd s.data.toList = Sp.numb 10 (s.data.toList.drop 1)) := by
        show Sp.refd s.data.toList = _
        unfold Sp.refd
        rw [if_neg h1, if_neg h2, if_neg h3, if_neg h4, if_neg h5, h6, h7]
        rfl
      have H6 : Hid (Lib.hasPrefix s.data.toList [35, 120] = false) := h6
      have H7 : Hid (Lib.hasPrefix s.data.toList [35] = true) := h7
      clear h1 h2 h3 h4 h5 h6 h7
      obtain ⟨t, HT⟩ : ∃ t : ByteArray, Hid (t = ⟨(s.data.toList.drop ([35] : List UInt8).length).toArray⟩) := ⟨_, rfl⟩
      have htl : Hid (t.data.toList = s.data.toList.drop 1) := by rw [HT.out]; exact rfl
      have hts : t.size ≤ maxLen := by
        have : t.size = (s.data.toList.drop 1).length := by rw [← htl.out, Sp.len_byte]
        rw [this, List.length_drop, Sp.len_byte]
        omega
      obtain ⟨v, b, HV⟩ : ∃ v b, Hid (Sp.optV (Sp.numb 10 t.data.toList) = .tuple #[.int .i32 v, .bool b]) := ⟨_, _, rfl⟩
      have HE : Hid (Ending.returned (.tuple #[.int .i32 v, .bool b]) = .returned (Sp.optV (Sp.refd s.data.toList))) := by
        show Ending.returned (.tuple #[.int .i32 v, .bool b]) = .returned (Sp.optV (Sp.refd s.data.toList))
        rw [HF.out, ← htl.out, HV.out]
      go_enter Tryd.func47, Tryd.ntmps47
      go_wp2_with fail
      refine (cutPrefix_no _ _ [35, 120] _ rfl H6).mono ?_
      rintro e w1 ⟨rfl, rfl⟩
      go_wp2_with fail
      refine (cutPrefix_yes _ _ [35] _ rfl H7 t HT).mono ?_
      rintro e w1 ⟨rfl, rfl⟩
      go_wp2_with fail
      refine (numbered_vb t 10 _ hts (Or.inl rfl) v b HV).mono ?_
      rintro e w1 ⟨rfl, rfl⟩
      go_wp2_with fail
      go_ret2
      exact ⟨HE.out, rfl⟩
  · have HF : Hid (Sp.refd s.data.toList = Sp.numb 16 (s.data.toList.drop 2)) := by
      show Sp.refd s.data.toList = _
      unfold Sp.refd
      rw [if_neg h1, if_neg h2, if_neg h3, if_neg h4, if_neg h5, h6]
      rfl
    have H6 : Hid (Lib.hasPrefix s.data.toList [35, 120] = true) := h6
    clear h1 h2 h3 h4 h5 h6
    obtain ⟨t, HT⟩ : ∃ t : ByteArray, Hid (t = ⟨(s.data.toList.drop ([35, 120] : List UInt8).length).toArray⟩) := ⟨_, rfl⟩
    have htl : Hid (t.data.toList = s.data.toList.drop 2) := by rw [HT.out]; exact rfl
    have hts : t.size ≤ maxLen := by
      have : t.size = (s.data.toList.drop 2).length := by rw [← htl.out, Sp.len_byte]
      rw [this, List.length_drop, Sp.len_byte]
      omega
    obtain ⟨v, b, HV⟩ : ∃ v b, Hid (Sp.optV (Sp.numb 16 t.data.toList) = .tuple #[.int .i32 v, .bool b]) := ⟨_, _, rfl⟩
    have HE : Hid (Ending.returned (.tuple #[.int .i32 v, .bool b]) = .returned (Sp.optV (Sp.refd s.data.toList))) := by
      show Ending.returned (.tuple #[.int .i32 v, .bool b]) = .returned (Sp.optV (Sp.refd s.data.toList))
      rw [HF.out, ← htl.out, HV.out]
    go_enter Tryd.func47, Tryd.ntmps47
    go_wp2_with fail
    refine (cutPrefix_yes _ _ [35, 120] _ rfl H6 t HT).mono ?_
    rintro e w1 ⟨rfl, rfl⟩
    go_wp2_with fail
    refine (numbered_vb t 16 _ hts (Or.inr rfl) v b HV).mono ?_
    rintro e w1 ⟨rfl, rfl⟩
    go_wp2_with fail
    go_ret2
    exact ⟨HE.out, rfl⟩
end Go.Proofs.YtbcommnnnfilkaaDoor
