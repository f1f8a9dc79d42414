/-
  name.Escape, by its contract.
-/
import Derived.Test.YtbcommnnnfilkaaDoorUnescape
import Derived.Test.YtbcommnnnfilkaaDoorPlain5
set_option linter.unusedSimpArgs false
namespace Go.Proofs.YtbcommnnnfilkaaDoor
open Go.RowKit

theorem written_v (c : Int) (attr : Bool) (w : World) (t : ByteArray) (h : Hid (t = ⟨(Sp.writ c attr).toArray⟩)) :
    Calls Tryd.prog 33 #[.int .u8 c, .bool attr] w fun e w' => e = .returned (.string t) ∧ w' = w := by
  rw [h.out]
  exact written_any c attr w

set_option maxRecDepth 100000 in
theorem escape_any (s : ByteArray) (attr : Bool) (w : World) (hs : s.size ≤ 1000000) :
    Calls Tryd.prog 17 #[.string s, .bool attr] w fun e w' => e = .returned (.string ⟨(Sp.esc attr s.data.toList).toArray⟩) ∧ Below w.heap.size w w' := by
  go_enter Tryd.func17, Tryd.ntmps17
  go_wp2
  go_loopw [6, 7] (fun i _w wr => ∃ (k : Nat), i = .int .i64 k ∧ k ≤ s.size ∧ Hid (Lib.IsBuilderF 42 5 w.heap.size w.heap.size (Lib.byteCells (Sp.esc attr (s.data.toList.take k))) wr) ∧ Hid (Below w.heap.size w wr) ∧ w.heap.size < wr.heap.size) (fun i _ _ => s.size - (intOf i).toNat)
  case atStart =>
    exact ⟨0, rfl, by omega, (Lib.IsBuilderF.of (Lib.fresh_isBuilder 42 5 w)), (Below.refl _ w).alloc (Nat.le_refl _) _, by simp⟩
  case round =>
    obtain ⟨k, rfl, hk, HI, HB, hsz⟩ := hrel
    by_cases hlt : k < s.size
    · have HL : Hid ((Sp.esc attr (s.data.toList.take k)).length ≤ 6 * 1000000) := by
        have h1 := Sp.esc_le attr (s.data.toList.take k)
        have h2 : (s.data.toList.take k).length ≤ k := List.length_take_le _ _
        show _ ≤ _
        omega
      have HS : Hid (Sp.esc attr (s.data.toList.take (k + 1)) = Sp.esc attr (s.data.toList.take k) ++ Sp.esc1 attr s[k]) := by
        show Sp.esc attr (s.data.toList.take (k + 1)) = _
        rw [Sp.take_byte s k hlt, Sp.esc_snoc]
      by_cases hw : Sp.writ (s[k].toNat : Int) attr = []
      · have HE : Hid (Sp.esc1 attr s[k] = [s[k]]) := Sp.esc1_self _ _ hw
        have HT : Hid ((⟨#[]⟩ : ByteArray) = ⟨(Sp.writ (s[k].toNat : Int) attr).toArray⟩) := by rw [hw]; exact rfl
        clear hw
        go_wp2_with fail
        refine (written_v _ _ _ _ HT).mono ?_
        rintro e w1 ⟨rfl, rfl⟩
        go_wp2_with fail
        refine (Tryd.Builder_WriteByte_k w.heap.size w.heap.size _ _ _ HI.out (by rw [Lib.byteCells_length]; have := HL.out; omega) (by omega)).mono ?_
        rintro e w2 ⟨rfl, h2, b2, k2⟩
        have hz2 := b2.size
        go_wp2_with fail
        go_roundw
        case rel =>
          refine ⟨k + 1, by go_num, by omega, ?_, HB.out.trans b2, by omega⟩
          show Lib.IsBuilderF _ _ _ _ _ _
          rw [HS.out, HE.out, Lib.byteCells_append]
          exact Or.inr h2
        case measure => simp [intOf]; omega
      · have HE : Hid (Sp.esc1 attr s[k] = Sp.writ (s[k].toNat : Int) attr) := Sp.esc1_writ _ _ hw
        obtain ⟨t, HT⟩ : ∃ t : ByteArray, Hid (t = ⟨(Sp.writ (s[k].toNat : Int) attr).toArray⟩) := ⟨(⟨(Sp.writ (s[k].toNat : Int) attr).toArray⟩ : ByteArray), rfl⟩
        have htl : Hid (t.data.toList = Sp.writ (s[k].toNat : Int) attr) := by rw [HT.out]; exact rfl
        have hts : t.size ≤ 6 := by
          rw [← Sp.len_byte t, htl.out]
          exact Sp.writ_le _ _
        have hne : t.toList.isEmpty = false := by
          rw [Lib.toList_data, htl.out]
          simpa using hw
        clear hw
        go_wp2_with fail
        refine (written_v _ _ _ t HT).mono ?_
        rintro e w1 ⟨rfl, rfl⟩
        go_wp2_with fail
        refine (Tryd.Builder_WriteString_k w.heap.size w.heap.size _ t _ HI.out (by rw [Lib.byteCells_length]; have := HL.out; omega) (by omega)).mono ?_
        rintro e w2 ⟨rfl, h2, b2, k2⟩
        have hz2 := b2.size
        go_wp2_with fail
        go_roundw
        case rel =>
          refine ⟨k + 1, by go_num, by omega, ?_, HB.out.trans b2, by omega⟩
          show Lib.IsBuilderF _ _ _ _ _ _
          rw [HS.out, HE.out, Lib.byteCells_append, ← htl.out, ← Lib.strCells_eq]
          exact Or.inr h2
        case measure => simp [intOf]; omega
    · have HK : Hid (s.data.toList.take k = s.data.toList) := Sp.take_all s k (by omega)
      go_wp2_with fail
      refine (Tryd.Builder_String_any_k w.heap.size w.heap.size _ _ HI.out (by omega)).mono ?_
      rintro e w2 ⟨rfl, _, b2, _⟩
      go_wp2_with fail
      go_ret
      exact ⟨Sp.ret_str (by rw [HK.out]), HB.out.trans b2⟩
end Go.Proofs.YtbcommnnnfilkaaDoor
