/-
  The document's Unescape, by its contract.
-/
import Derived.Test.YtbcommnnnfilkaaDoorRefUnescape
import Derived.Test.YtbcommnnnfilkaaDoorRefEscape
import Derived.Test.YtbcommnnnfilkaaDoorRefQual
set_option linter.unusedSimpArgs false
namespace Go.Proofs.YtbcommnnnfilkaaDoor
open Go.RowKit

theorem entity_v (s : ByteArray) (w : World) (hs : s.size ≤ 1000000) (t : ByteArray) (b : Bool) (h : Hid (Sp.textV ((Sp.refd s.data.toList).map Lib.encodeRune) = .tuple #[.string t, .bool b])) :
    Calls Tryd.prog 28 #[.string s] w fun e w' => e = .returned (.tuple #[.string t, .bool b]) ∧ Below w.heap.size w w' := by
  have := entity_any s w hs
  rw [h.out] at this
  exact this
theorem signsU_v (s : ByteArray) (w : World) (hs : s.size ≤ 1000000) (hw : Ok w) (b : Bool) (h : Hid (Sp.signsB s.data.toList = b)) :
    Calls Tryd.prog 22 #[.string s] w fun e w' => e = .returned (.bool b) ∧ Below w.heap.size w w' := by
  have := signs_any s w hs hw
  rw [h.out] at this
  exact this
theorem Sp.enc_le (r : Int) : (Lib.encodeRune r).length ≤ 4 := by
  have := Lib.encodeRuneZ_length r
  simpa [Lib.encodeRune] using this.2

set_option maxHeartbeats 2000000 in
set_option maxRecDepth 100000 in
theorem unescRef_in (s : ByteArray) (w : World) (hs : s.size ≤ 1000000) (hw : Ok w) (hsg : Sp.signsB s.data.toList = true) :
    Calls Tryd.prog 12 #[.string s] w fun e w' => e = .returned (Sp.textV (Sp.unrA s.data.toList)) ∧ Below w.heap.size w w' := by
  have HW : Hid (Ok w) := hw
  have HS : Hid (Sp.signsB s.data.toList = true) := hsg
  clear hw hsg
  go_enter Tryd.func12, Tryd.ntmps12
  go_wp2_with fail
  refine (signsU_v s _ hs HW.out true HS).mono ?_
  rintro e w1 ⟨rfl, b1⟩
  have z1 := b1.size
  go_wp2_with fail
  go_loopw [4, 5, 6, 7, 8] (fun o i _k _x _ok wr => ∃ (pos : Nat) (acc : ByteArray), i = .int .i64 pos ∧ pos ≤ s.size ∧ o = .string acc ∧ acc.size ≤ 4 * pos ∧ Hid (Below w.heap.size w wr) ∧ w.heap.size ≤ wr.heap.size ∧ Hid (Sp.unrA s.data.toList = (Sp.unrA (s.data.toList.drop pos)).map fun t => acc.data.toList ++ t)) (fun _ i _ _ _ _ => s.size - (intOf i).toNat)
  case atStart =>
    refine ⟨0, ⟨#[]⟩, rfl, by omega, rfl, by decide, b1, z1, ?_⟩
    show Sp.unrA s.data.toList = _
    rw [List.drop_zero]
    generalize Sp.unrA s.data.toList = o
    cases o <;> rfl
  case round =>
    obtain ⟨pos, acc, rfl, hp, rfl, hacc, HB, hsz, HU⟩ := hrel
    by_cases hlt : pos < s.size
    · have HL : Hid (s.data.toList.drop pos = s[pos] :: s.data.toList.drop (pos + 1)) := Sp.drop_byte s pos hlt
      by_cases hc : s[pos] = 38
      · have t1 : ((s[pos].toNat : Int) != 38) = false := by rw [hc]; rfl
        have HL2 : Hid (s.data.toList.drop pos = 38 :: s.data.toList.drop (pos + 1)) := by
          show s.data.toList.drop pos = _
          rw [HL.out, hc]
        clear hc
        go_wp2_with fail
        go_loop [6] (fun kv => ∃ k : Nat, pos + 1 ≤ k ∧ k ≤ s.size ∧ kv = .int .i64 k ∧ Hid (∀ j, pos + 1 ≤ j → j < k → s.data.toList.getD j 0 ≠ 59)) (fun kv => s.size - (intOf kv).toNat)
        case atStart => exact ⟨pos + 1, by omega, by omega, by go_num, fun j h1 h2 => absurd h2 (by omega)⟩
        case round =>
          obtain ⟨k, hk1, hk2, rfl, HA⟩ := hrel
          by_cases hkl : k < s.size
          · by_cases hsc : s[k] = 59
            · have t2 : ((s[k].toNat : Int) != 59) = false := by rw [hsc]; rfl
              have t3 : ((k : Int) == (s.size : Int)) = false := by rw [beq_eq_false_iff_ne]; omega
              obtain ⟨e, he⟩ : ∃ e, k = pos + 1 + e := ⟨k - (pos + 1), by omega⟩
              have HI : Hid (Lib.indexByte (s.data.toList.drop (pos + 1)) 59 = e) := by
                apply Sp.indexByte_first
                · rw [List.length_drop, Sp.len_byte]
                  omega
                · rw [Sp.getD_drop, ← he, Sp.getD_byte s k hkl]
                  exact hsc
                · intro j hj
                  rw [Sp.getD_drop]
                  exact HA.out (pos + 1 + j) (by omega) (by omega)
              have HK : Hid (k = pos + 1 + e) := he
              clear he
              obtain ⟨m, HM⟩ : ∃ m : ByteArray, Hid (s.extract (pos + 1) k = m) := ⟨s.extract (pos + 1) k, rfl⟩
              have HML : Hid (m.data.toList = (s.data.toList.drop (pos + 1)).take e) := by
                show m.data.toList = _
                rw [← HM.out, Lib.extract_data]
                congr 1
                have := HK.out
                omega
              have hm : m.size ≤ 1000000 := by
                rw [← HM.out, ByteArray.size_extract]
                omega
              have HR : Hid (Sp.unrA (s.data.toList.drop pos) = ((Sp.refd m.data.toList).map Lib.encodeRune).bind fun x => (Sp.unrA (s.data.toList.drop (k + 1))).map fun r => x ++ r) := by
                show Sp.unrA (s.data.toList.drop pos) = _
                rw [HL2.out, Sp.unrA_ref _ e HI.out, ← HML.out, List.drop_drop, show pos + 1 + (e + 1) = k + 1 by have := HK.out; omega]
              clear hsc
              cases hrd : Sp.refd m.data.toList with
              | none =>
                have HV : Hid (Sp.textV ((Sp.refd m.data.toList).map Lib.encodeRune) = .tuple #[.string ⟨#[]⟩, .bool false]) := by rw [hrd]; exact rfl
                have HF : Hid (Sp.unrA s.data.toList = none) := by
                  show Sp.unrA s.data.toList = none
                  rw [HU.out, HR.out, hrd]
                  rfl
                clear hrd
                go_wp2_with fail
                rw [HM.out]
                refine (entity_v m _ hm ⟨#[]⟩ false HV).mono ?_
                rintro e w2 ⟨rfl, b2⟩
                go_wp2_with fail
                go_ret2
                exact ⟨Sp.text_none HF.out, HB.out.trans (b2.mono hsz)⟩
              | some r =>
                obtain ⟨x, HX⟩ : ∃ x : ByteArray, Hid (x = ⟨(Lib.encodeRune r).toArray⟩) := ⟨(⟨(Lib.encodeRune r).toArray⟩ : ByteArray), rfl⟩
                have hx : x.size ≤ 4 := by
                  rw [← Sp.len_byte x, Sp.ba_eq HX.out]
                  exact Sp.enc_le r
                have HV : Hid (Sp.textV ((Sp.refd m.data.toList).map Lib.encodeRune) = .tuple #[.string x, .bool true]) := by rw [hrd, HX.out]; exact rfl
                have HF : Hid (Sp.unrA s.data.toList = (Sp.unrA (s.data.toList.drop (k + 1))).map fun t => (acc ++ x).data.toList ++ t) := by
                  show Sp.unrA s.data.toList = _
                  rw [HU.out, HR.out, hrd, Sp.cat_data, Sp.ba_eq HX.out]
                  cases Sp.unrA (s.data.toList.drop (k + 1)) <;> simp
                have hsum : (acc ++ x).size ≤ 4 * (k + 1) := by
                  rw [ByteArray.size_append]
                  omega
                clear hrd
                go_wp2_with fail
                rw [HM.out]
                refine (entity_v m _ hm x true HV).mono ?_
                rintro e w2 ⟨rfl, b2⟩
                have z2 := b2.size
                go_wp2_with fail
                go_roundw
                case rel => exact ⟨k + 1, acc ++ x, by go_num, by omega, rfl, hsum, HB.out.trans (b2.mono hsz), by omega, HF⟩
                case measure => simp [intOf]; omega
            · have t2 : ((s[k].toNat : Int) != 59) = true := by
                rw [bne_iff_ne]
                intro e
                apply hsc
                apply UInt8.toNat_inj.1
                exact Int.ofNat.inj e
              have HA2 : Hid (∀ j, pos + 1 ≤ j → j < k + 1 → s.data.toList.getD j 0 ≠ 59) := by
                intro j h1 h2
                by_cases hj' : j < k
                · exact HA.out j h1 hj'
                · obtain rfl : j = k := by omega
                  rw [Sp.getD_byte s j hkl]
                  exact hsc
              clear hsc
              go_wp2_with fail
              go_round
              case rel => exact ⟨k + 1, by omega, by omega, by go_num, HA2⟩
              case measure => simp [intOf]; omega
          · have t3 : ((k : Int) == (s.size : Int)) = true := by rw [beq_iff_eq]; omega
            have HF : Hid (Sp.unrA s.data.toList = none) := by
              show Sp.unrA s.data.toList = none
              rw [HU.out, HL2.out, Sp.unrA_open]
              · rfl
              · rw [Sp.indexByte_no]
                · decide
                · intro j hj
                  rw [List.length_drop, Sp.len_byte] at hj
                  rw [Sp.getD_drop]
                  exact HA.out (pos + 1 + j) (by omega) (by omega)
            go_wp2_with fail
            go_ret2
            exact ⟨Sp.text_none HF.out, HB.out⟩
      · have t1 : ((s[pos].toNat : Int) != 38) = true := by
          rw [bne_iff_ne]
          intro e
          apply hc
          apply UInt8.toNat_inj.1
          exact Int.ofNat.inj e
        have HF : Hid (Sp.unrA s.data.toList = (Sp.unrA (s.data.toList.drop (pos + 1))).map fun t => (acc ++ s.extract pos (pos + 1)).data.toList ++ t) := by
          show Sp.unrA s.data.toList = _
          rw [HU.out, HL.out, Sp.unrA_plain _ _ hc, Sp.cat_data, Sp.extract_one s pos hlt]
          cases Sp.unrA (s.data.toList.drop (pos + 1)) <;> simp
        have hsum : (acc ++ s.extract pos (pos + 1)).size ≤ 4 * (pos + 1) := by
          rw [ByteArray.size_append, ByteArray.size_extract]
          omega
        clear hc
        go_wp2_with fail
        go_roundw
        case rel => exact ⟨pos + 1, _, by go_num, by omega, rfl, hsum, HB.out, hsz, HF⟩
        case measure => simp [intOf]; omega
    · have HF : Hid (Ending.returned (.tuple #[.string acc, .bool true]) = .returned (Sp.textV (Sp.unrA s.data.toList))) := by
        show Ending.returned (.tuple #[.string acc, .bool true]) = .returned (Sp.textV (Sp.unrA s.data.toList))
        rw [HU.out, Sp.drop_all s pos (by omega), Sp.unrA_nil]
        simp [Sp.textV]
      go_wp2_with fail
      go_ret2
      exact ⟨HF.out, HB.out⟩

theorem unescRef_any (s : ByteArray) (w : World) (hs : s.size ≤ 1000000) (hw : Ok w) :
    Calls Tryd.prog 12 #[.string s] w fun e w' => e = .returned (Sp.textV (Sp.unesc s.data.toList)) ∧ Below w.heap.size w w' := by
  cases hsg : Sp.signsB s.data.toList
  · have HW : Hid (Ok w) := hw
    have HS : Hid (Sp.signsB s.data.toList = false) := hsg
    have HF : Hid (Sp.unesc s.data.toList = none) := by
      show Sp.unesc s.data.toList = none
      rw [Sp.unesc_unr _ _ (Nat.le_refl _), hsg]
      rfl
    clear hw hsg
    go_enter Tryd.func12, Tryd.ntmps12
    go_wp2_with fail
    refine (signsU_v s _ hs HW.out false HS).mono ?_
    rintro e w1 ⟨rfl, b1⟩
    go_wp2_with fail
    go_ret2
    exact ⟨Sp.text_none HF.out, b1⟩
  · have := unescRef_in s w hs hw hsg
    rw [Sp.unesc_unr _ _ (Nat.le_refl _), hsg, if_pos rfl]
    exact this
end Go.Proofs.YtbcommnnnfilkaaDoor
