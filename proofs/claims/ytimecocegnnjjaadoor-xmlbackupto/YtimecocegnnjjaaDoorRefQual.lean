/-
  The document's Split and IsQual: each by its contract.
-/
import Derived.Test.YtimecocegnnjjaaDoorRefIs
import Derived.Test.YtimecocegnnjjaaDoorPartA
import Derived.Lib.IndexLaws
set_option linter.unusedSimpArgs false
namespace Go.Proofs.YtimecocegnnjjaaDoor
open Go.RowKit

theorem Sp.indexByte_first (l : List UInt8) (c : UInt8) (k : Nat) (hk : k < l.length) (h1 : l.getD k 0 = c) (h2 : ∀ j, j < k → l.getD j 0 ≠ c) : Lib.indexByte l c = k := by
  have e : l = l.take k ++ c :: l.drop (k + 1) := by
    conv => lhs; rw [← List.take_append_drop k l]
    rw [List.drop_eq_getElem_cons hk, ← Sp.getD_lt hk, h1]
  rw [e, Sp.indexByte_behind c _ _ (by
    intro b hb
    obtain ⟨j, hj, rfl⟩ := List.mem_iff_getElem.1 hb
    rw [List.length_take] at hj
    have := h2 j (by omega)
    rw [Sp.getD_lt (show j < l.length by omega)] at this
    rw [List.getElem_take]
    exact this)]
  rw [List.length_take]
  omega
theorem Sp.indexByte_no (l : List UInt8) (c : UInt8) (h2 : ∀ j, j < l.length → l.getD j 0 ≠ c) : Lib.indexByte l c = -1 := by
  apply Sp.indexByte_without
  intro b hb
  obtain ⟨j, hj, rfl⟩ := List.mem_iff_getElem.1 hb
  have := h2 j hj
  rwa [Sp.getD_lt hj] at this

set_option maxRecDepth 100000 in
theorem splitRef_any (s : ByteArray) (w : World) (hs : s.size ≤ 1000000) :
    Calls Tryd.prog 19 #[.string s] w fun e w' => e = .returned (Sp.twoV (Sp.splitL s.data.toList)) ∧ Below w.heap.size w w' := by
  go_enter Tryd.func19, Tryd.ntmps19
  go_wp2_with fail
  go_loop [4] (fun i => ∃ k : Nat, k ≤ s.size ∧ i = .int .i64 k ∧ Hid (∀ j, j < k → s.data.toList.getD j 0 ≠ 58)) (fun i => s.size - (intOf i).toNat)
  case atStart => exact ⟨0, by omega, rfl, fun j hj => absurd hj (by omega)⟩
  case round =>
    obtain ⟨k, hk, rfl, HA⟩ := hrel
    by_cases hlt : k < s.size
    · by_cases hc : s[k] = 58
      · have HN : Hid (Lib.indexByte s.data.toList 58 = k) := Sp.indexByte_first _ _ k (by rw [Sp.len_byte]; exact hlt) (by rw [Sp.getD_byte s k hlt]; exact hc) HA.out
        have t1 : ((s[k].toNat : Int) == 58) = true := by rw [hc]; rfl
        have HF : Hid (Ending.returned (.tuple #[.string (s.extract 0 k), .string (s.extract (k + 1) s.size)]) = .returned (Sp.twoV (Sp.splitL s.data.toList))) := by
          show Ending.returned (.tuple #[.string (s.extract 0 k), .string (s.extract (k + 1) s.size)]) = .returned (Sp.twoV (Sp.splitL s.data.toList))
          rw [Sp.splitL_found _ k HN.out, Sp.ba_of (show (s.extract 0 k).data.toList = s.data.toList.take k by rw [Lib.extract_data]; simp), Sp.ba_of (show (s.extract (k + 1) s.size).data.toList = s.data.toList.drop (k + 1) by rw [Lib.extract_to_end])]
          rfl
        have e3 : IntKind.i64.wrap ((k : Int) + 1) = (k : Int) + 1 := by
          rw [IntKind.wrap_i64]
          omega
        clear hc
        go_wp2_with fail
        go_region
        go_wp2_with fail
        go_ret2
        exact ⟨HF.out, (Below.refl _ _).drew⟩
      · have t1 : ((s[k].toNat : Int) == 58) = false := by
          rw [beq_eq_false_iff_ne]
          intro e
          apply hc
          apply UInt8.toNat_inj.1
          show s[k].toNat = 58
          omega
        have HB : Hid (∀ j, j < k + 1 → s.data.toList.getD j 0 ≠ 58) := by
          intro j hj
          by_cases hj' : j < k
          · exact HA.out j hj'
          · obtain rfl : j = k := by omega
            rw [Sp.getD_byte s j hlt]
            exact hc
        clear hc
        go_wp2_with fail
        go_round
        case rel => exact ⟨k + 1, by omega, by go_num, HB⟩
        case measure => simp [intOf]; omega
    · have HF : Hid (Ending.returned (.tuple #[.string ⟨#[]⟩, .string s]) = .returned (Sp.twoV (Sp.splitL s.data.toList))) := by
        show Ending.returned (.tuple #[.string ⟨#[]⟩, .string s]) = .returned (Sp.twoV (Sp.splitL s.data.toList))
        rw [Sp.splitL_none _ (by rw [Sp.indexByte_no _ _ (fun j hj => HA.out j (by rw [Sp.len_byte] at hj; omega))]; decide)]
        rfl
      go_wp2_with fail
      go_ret2
      exact ⟨HF.out, Below.refl _ _⟩
theorem isRef_w (s : ByteArray) (w : World) (hs : s.size ≤ 1000000) (b : Bool) (h : Hid (Sp.isB s.data.toList = b)) :
    Calls Tryd.prog 20 #[.string s] w fun e w' => e = .returned (.bool b) ∧ w' = w := by
  have := isRef_any s w (by unfold maxLen; omega)
  rw [h.out] at this
  exact this
theorem splitRef_v (s : ByteArray) (w : World) (hs : s.size ≤ 1000000) (p q : ByteArray) (h : Hid (Sp.splitL s.data.toList = (p.data.toList, q.data.toList))) :
    Calls Tryd.prog 19 #[.string s] w fun e w' => e = .returned (.tuple #[.string p, .string q]) ∧ Below w.heap.size w w' := by
  have := splitRef_any s w hs
  rw [h.out] at this
  exact this

theorem isQualRef_any (s : ByteArray) (w : World) (hs : s.size ≤ 1000000) :
    Calls Tryd.prog 10 #[.string s] w fun e w' => e = .returned (.bool (Sp.qualB s.data.toList)) ∧ Below w.heap.size w w' := by
  by_cases hneg : Lib.indexByte s.data.toList 58 < 0
  · obtain ⟨b, HB⟩ : ∃ b, Hid (Sp.isB s.data.toList = b) := ⟨Sp.isB s.data.toList, rfl⟩
    have HF : Hid (b = Sp.qualB s.data.toList) := by
      show b = Sp.qualB s.data.toList
      rw [Sp.qualB_none _ hneg, HB.out]
    have HS : Hid (Sp.splitL s.data.toList = ((⟨#[]⟩ : ByteArray).data.toList, s.data.toList)) := by
      show Sp.splitL s.data.toList = _
      rw [Sp.splitL_none _ hneg]
    clear hneg
    go_enter Tryd.func10, Tryd.ntmps10
    go_wp2_with fail
    refine (splitRef_v s _ hs ⟨#[]⟩ s HS).mono ?_
    rintro e w1 ⟨rfl, hb1⟩
    go_wp2_with fail
    refine (isRef_w s _ hs b HB).mono ?_
    rintro e w2 ⟨rfl, rfl⟩
    go_wp2_with fail
    go_ret
    exact ⟨Sp.ret_bool HF.out, hb1⟩
  · obtain ⟨n, hn⟩ := Int.eq_ofNat_of_zero_le (show 0 ≤ Lib.indexByte s.data.toList 58 by omega)
    have hlt : n < s.size := by
      have := Sp.indexByte_lt s.data.toList 58
      rw [hn, Sp.len_byte] at this
      omega
    obtain ⟨p, HP⟩ : ∃ p : ByteArray, Hid (p = ⟨(s.data.toList.take n).toArray⟩) := ⟨(⟨(s.data.toList.take n).toArray⟩ : ByteArray), rfl⟩
    obtain ⟨q, HQ⟩ : ∃ q : ByteArray, Hid (q = ⟨(s.data.toList.drop (n + 1)).toArray⟩) := ⟨(⟨(s.data.toList.drop (n + 1)).toArray⟩ : ByteArray), rfl⟩
    have hp : p.size ≤ 1000000 := by
      rw [← Sp.len_byte p, Sp.ba_eq HP.out, List.length_take, Sp.len_byte]
      omega
    have hq : q.size ≤ 1000000 := by
      rw [← Sp.len_byte q, Sp.ba_eq HQ.out, List.length_drop, Sp.len_byte]
      omega
    have hqs : ((q.size : Int) == (s.size : Int)) = false := by
      rw [beq_eq_false_iff_ne, ← Sp.len_byte q, Sp.ba_eq HQ.out, List.length_drop, Sp.len_byte]
      omega
    have HS : Hid (Sp.splitL s.data.toList = (p.data.toList, q.data.toList)) := by
      show Sp.splitL s.data.toList = _
      rw [Sp.splitL_found _ n hn, Sp.ba_eq HP.out, Sp.ba_eq HQ.out]
    obtain ⟨b, HB⟩ : ∃ b, Hid (Sp.isB p.data.toList = b) := ⟨Sp.isB p.data.toList, rfl⟩
    obtain ⟨c, HC⟩ : ∃ c, Hid (Sp.isB q.data.toList = c) := ⟨Sp.isB q.data.toList, rfl⟩
    have HF : Hid (Sp.qualB s.data.toList = (b && c)) := by
      show Sp.qualB s.data.toList = (b && c)
      rw [Sp.qualB_found _ n hn, ← HB.out, ← HC.out, Sp.ba_eq HP.out, Sp.ba_eq HQ.out]
    clear hneg hn
    cases b
    · go_enter Tryd.func10, Tryd.ntmps10
      go_wp2_with fail
      refine (splitRef_v s _ hs p q HS).mono ?_
      rintro e w1 ⟨rfl, hb1⟩
      go_wp2_with fail
      refine (isRef_w p _ hp false HB).mono ?_
      rintro e w2 ⟨rfl, rfl⟩
      go_wp2_with fail
      go_ret
      exact ⟨Sp.ret_bool HF.out.symm, hb1⟩
    · go_enter Tryd.func10, Tryd.ntmps10
      go_wp2_with fail
      refine (splitRef_v s _ hs p q HS).mono ?_
      rintro e w1 ⟨rfl, hb1⟩
      go_wp2_with fail
      refine (isRef_w p _ hp true HB).mono ?_
      rintro e w2 ⟨rfl, rfl⟩
      go_wp2_with fail
      refine (isRef_w q _ hq c HC).mono ?_
      rintro e w2 ⟨rfl, rfl⟩
      go_wp2_with fail
      go_ret
      exact ⟨Sp.ret_bool (by rw [HF.out]; simp), hb1⟩
end Go.Proofs.YtimecocegnnjjaaDoor
