/-
  name.reference, name.first: each by its contract.
-/
import Derived.Test.YtbcommnnnfilkaaDoorReferred
import Derived.Lib.TrimAscii
set_option linter.unusedSimpArgs false
namespace Go.Proofs.YtbcommnnnfilkaaDoor
open Go.RowKit

theorem indexByte_v (s : ByteArray) (w : World) (E : Int) (h : Hid (Lib.indexByte s.data.toList 59 = E)) :
    Calls Tryd.prog 46 #[.string s, .int .u8 59] w fun e w' => e = .returned (.int .i64 E) ∧ w' = w := by
  have := Tryd.strings_IndexByte s 59 w
  rw [show (59 : Int).toNat.toUInt8 = 59 from rfl, h.out] at this
  exact this
theorem referred_vb (s : ByteArray) (w : World) (hs : s.size ≤ maxLen) (v : Int) (b : Bool) (h : Hid (Sp.optV (Sp.refd s.data.toList) = .tuple #[.int .i32 v, .bool b])) :
    Calls Tryd.prog 47 #[.string s] w fun e w' => e = .returned (.tuple #[.int .i32 v, .bool b]) ∧ w' = w := by
  have := referred_any s w hs
  rw [h.out] at this
  exact this
theorem optV_false {o : Option Int} {v : Int} (h : Sp.optV o = .tuple #[.int .i32 v, .bool false]) : o = none := by
  cases o with
  | none => rfl
  | some x => simp [Sp.optV] at h
theorem optV_true {o : Option Int} {v : Int} (h : Sp.optV o = .tuple #[.int .i32 v, .bool true]) : o = some v := by
  cases o with
  | none => simp [Sp.optV] at h
  | some x => simp [Sp.optV] at h; rw [h]
theorem indexByte_head (b : UInt8) (t : List UInt8) (c : UInt8) (h : b ≠ c) : Lib.indexByte (b :: t) c < 0 ∨ 1 ≤ Lib.indexByte (b :: t) c := by
  rw [Lib.indexByte, if_neg (by simpa using h)]
  have := Lib.indexByte_ge t c
  split
  · omega
  · next hne =>
    have : Lib.indexByte t c ≠ -1 := by simpa using hne
    omega

theorem reference_any (s : ByteArray) (w : World) (hs : s.size ≤ maxLen) (h0 : 0 < s.size) (hamp : s.data.toList.getD 0 0 = 38) :
    Calls Tryd.prog 39 #[.string s] w fun e w' => e = .returned (Sp.pairV (Sp.refe s.data.toList)) ∧ w' = w := by
  obtain ⟨E, HE⟩ : ∃ E, Hid (Lib.indexByte s.data.toList 59 = E) := ⟨_, rfl⟩
  have hlt : E < s.size := by
    have := Sp.indexByte_lt s.data.toList 59
    rw [HE.out, Sp.len_byte] at this
    exact this
  by_cases hneg : E < 0
  · have HF : Hid (Sp.refe s.data.toList = none) := by
      show Sp.refe s.data.toList = none
      unfold Sp.refe
      rw [HE.out, if_pos hneg]
    clear hamp
    go_enter Tryd.func39, Tryd.ntmps39
    go_wp2_with fail
    refine (indexByte_v s _ E HE).mono ?_
    rintro e w1 ⟨rfl, rfl⟩
    go_wp2_with fail
    go_ret2
    exact ⟨Sp.pair_none HF.out, rfl⟩
  · obtain ⟨n, rfl⟩ := Int.eq_ofNat_of_zero_le (show 0 ≤ E by omega)
    have hn1 : 1 ≤ n := by
      have hh : s.data.toList = s[0] :: s.data.toList.drop 1 := by
        have := Sp.drop_byte s 0 h0
        simpa using this
      have h38 : s[0] = 38 := by rw [← Sp.getD_byte s 0 h0]; exact hamp
      have := indexByte_head s[0] (s.data.toList.drop 1) 59 (by rw [h38]; decide)
      rw [← hh, HE.out] at this
      omega
    have hn2 : n < s.size := by omega
    unfold maxLen at hs
    obtain ⟨t, HT⟩ : ∃ t : ByteArray, Hid (s.extract 1 n = t) := ⟨_, rfl⟩
    have htl : Hid (t.data.toList = (s.data.toList.take n).drop 1) := by
      show t.data.toList = _
      rw [← HT.out, Lib.extract_data, List.drop_take]
    have hts : t.size ≤ maxLen := by
      have : t.size = ((s.data.toList.take n).drop 1).length := by rw [← htl.out, Sp.len_byte]
      rw [this, List.length_drop, List.length_take, Sp.len_byte]
      unfold maxLen
      omega
    obtain ⟨v, b, HV⟩ : ∃ v b, Hid (Sp.optV (Sp.refd t.data.toList) = .tuple #[.int .i32 v, .bool b]) := ⟨_, _, rfl⟩
    have HR : Hid (Sp.refe s.data.toList = (Sp.refd t.data.toList).map fun r => (r, n + 1)) := by
      show Sp.refe s.data.toList = _
      unfold Sp.refe
      rw [HE.out, if_neg (by omega), htl.out]
      rfl
    clear hamp
    cases b
    · have HF : Hid (Sp.refe s.data.toList = none) := by
        show Sp.refe s.data.toList = none
        rw [HR.out, optV_false HV.out]
        rfl
      go_enter Tryd.func39, Tryd.ntmps39
      go_wp2_with fail
      refine (indexByte_v s _ n HE).mono ?_
      rintro e w1 ⟨rfl, rfl⟩
      go_wp2_with fail
      rw [HT.out]
      refine (referred_vb t _ hts v false HV).mono ?_
      rintro e w1 ⟨rfl, rfl⟩
      go_wp2_with fail
      go_ret2
      exact ⟨Sp.pair_none HF.out, rfl⟩
    · have HF : Hid (Sp.refe s.data.toList = some (v, n + 1)) := by
        show Sp.refe s.data.toList = some (v, n + 1)
        rw [HR.out, optV_true HV.out]
        rfl
      go_enter Tryd.func39, Tryd.ntmps39
      go_wp2_with fail
      refine (indexByte_v s _ n HE).mono ?_
      rintro e w1 ⟨rfl, rfl⟩
      go_wp2_with fail
      rw [HT.out]
      refine (referred_vb t _ hts v true HV).mono ?_
      rintro e w1 ⟨rfl, rfl⟩
      go_wp2_with fail
      go_ret2
      exact ⟨Sp.pair_some HF.out, rfl⟩

theorem decode_v (s : ByteArray) (w : World) (hT : Lib.Utf8Tabs 0 1 w) (h0 : 0 < s.size) (r n : Nat) (h : Hid (Lib.decodeL s.data.toList = (r, n))) :
    Calls Tryd.prog 38 #[.string s] w fun e w' => e = .returned (.tuple #[.int .i32 r, .int .i64 n]) ∧ Below w.heap.size w w' := by
  have := Tryd.utf8_DecodeRuneInString s w hT
  have e1 : Lib.decodeGo s = (r, n) := by
    rw [← h.out, Lib.decodeGo, if_neg (by omega), Lib.decodeL]
  rw [e1] at this
  exact this
theorem decodeL_amp (l : List UInt8) (hne : l ≠ []) (h : (Lib.decodeL l).1 = 38) : l.getD 0 0 = 38 := by
  match l, hne with
  | b :: t, _ =>
    by_cases hb : b.toNat < 128
    · rw [Lib.decodeL_ascii b t hb] at h
      show b = 38
      apply UInt8.toNat_inj.1
      simpa using h
    · have := decode_high ⟨(b :: t).toArray⟩ 0 (by simp [ByteArray.size]) (by show 128 ≤ b.toNat; omega)
      have h' : (Utf8.decode ⟨(b :: t).toArray⟩ 0).1 = 38 := h
      omega
theorem reference_v (s : ByteArray) (w : World) (hs : s.size ≤ maxLen) (h0 : 0 < s.size) (hamp : Hid (s.data.toList.getD 0 0 = 38)) (v m : Int) (h : Hid (Sp.pairV (Sp.refe s.data.toList) = .tuple #[.int .i32 v, .int .i64 m])) :
    Calls Tryd.prog 39 #[.string s] w fun e w' => e = .returned (.tuple #[.int .i32 v, .int .i64 m]) ∧ w' = w := by
  have := reference_any s w hs h0 hamp.out
  rw [h.out] at this
  exact this

theorem first_any (s : ByteArray) (w : World) (hs : s.size ≤ maxLen) (hT : Lib.Utf8Tabs 0 1 w) (h0 : 0 < s.size) :
    Calls Tryd.prog 25 #[.string s] w fun e w' => e = .returned (Sp.pairV (Sp.frst s.data.toList)) ∧ Below w.heap.size w w' := by
  obtain ⟨r, n, HD⟩ : ∃ r n, Hid (Lib.decodeL s.data.toList = (r, n)) := ⟨_, _, rfl⟩
  have hne : Hid (s.data.toList ≠ []) := fun h => by
    have := congrArg List.length h
    rw [Sp.len_byte, List.length_nil] at this
    omega
  have HT : Hid (Lib.Utf8Tabs 0 1 w) := hT
  clear hT
  have hr2 : r ≤ 1114111 := by
    have := Lib.decodeL_rune s.data.toList
    rw [HD.out] at this
    exact this
  have hn2 : n ≤ s.size := by
    have := Lib.decodeL_le s.data.toList hne.out
    rw [HD.out, Sp.len_byte] at this
    exact this
  by_cases h38 : r = 38
  · subst h38
    have HA : Hid (s.data.toList.getD 0 0 = 38) := decodeL_amp _ hne.out (by rw [HD.out])
    obtain ⟨v, m, HV⟩ : ∃ v m, Hid (Sp.pairV (Sp.refe s.data.toList) = .tuple #[.int .i32 v, .int .i64 m]) := ⟨_, _, rfl⟩
    have HF : Hid (Ending.returned (.tuple #[.int .i32 v, .int .i64 m]) = .returned (Sp.pairV (Sp.frst s.data.toList))) := by
      show Ending.returned (.tuple #[.int .i32 v, .int .i64 m]) = .returned (Sp.pairV (Sp.frst s.data.toList))
      rw [Sp.frst, HD.out, if_pos rfl, HV.out]
    go_enter Tryd.func25, Tryd.ntmps25
    go_wp2_with fail
    refine (decode_v s _ HT.out h0 38 n HD).mono ?_
    rintro e w1 ⟨rfl, hb1⟩
    go_wp2_with fail
    refine (reference_v s _ hs h0 HA v m HV).mono ?_
    rintro e w2 ⟨rfl, rfl⟩
    go_wp2_with fail
    go_ret2
    exact ⟨HF.out, hb1⟩
  · have t1 : ((r : Int) == 38) = false := by rw [beq_eq_false_iff_ne]; omega
    have HX : Hid (Sp.frst s.data.toList = if (r = 65533 ∧ n ≤ 1) ∨ Sp.charB (r : Int) = false then none else some ((r : Int), n)) := by
      show Sp.frst s.data.toList = _
      rw [Sp.frst, HD.out, if_neg h38]
    clear h38
    cases hc : Sp.charB (r : Int)
    · have HF : Hid (Sp.frst s.data.toList = none) := by
        show Sp.frst s.data.toList = none
        rw [HX.out, if_pos (Or.inr hc)]
      by_cases h3 : r = 65533
      · exact absurd hc (by rw [h3]; decide)
      · have t2 : ((r : Int) == 65533) = false := by rw [beq_eq_false_iff_ne]; omega
        clear h3
        go_enter Tryd.func25, Tryd.ntmps25
        go_wp2_with fail
        refine (decode_v s _ HT.out h0 r n HD).mono ?_
        rintro e w1 ⟨rfl, hb1⟩
        go_wp2_with fail
        refine (char_any _ _).mono ?_
        rintro e w2 ⟨rfl, rfl⟩
        go_wp2_with fail
        go_ret2
        exact ⟨Sp.pair_none HF.out, hb1⟩
    · by_cases h3 : r = 65533
      · subst h3
        by_cases h4 : n ≤ 1
        · have HF : Hid (Sp.frst s.data.toList = none) := by
            show Sp.frst s.data.toList = none
            rw [HX.out, if_pos (Or.inl ⟨rfl, h4⟩)]
          go_enter Tryd.func25, Tryd.ntmps25
          go_wp2_with fail
          refine (decode_v s _ HT.out h0 65533 n HD).mono ?_
          rintro e w1 ⟨rfl, hb1⟩
          go_wp2_with fail
          go_ret2
          exact ⟨Sp.pair_none HF.out, hb1⟩
        · have HF : Hid (Sp.frst s.data.toList = some ((65533 : Int), n)) := by
            show Sp.frst s.data.toList = _
            rw [HX.out, if_neg (by rw [hc]; simp; omega)]
            rfl
          have hc' : Sp.charB 65533 = true := hc
          clear hc HX
          go_enter Tryd.func25, Tryd.ntmps25
          go_wp2_with fail
          refine (decode_v s _ HT.out h0 65533 n HD).mono ?_
          rintro e w1 ⟨rfl, hb1⟩
          go_wp2_with fail
          refine (char_any _ _).mono ?_
          rintro e w2 ⟨rfl, rfl⟩
          go_wp2_with fail
          go_ret2
          exact ⟨Sp.pair_some HF.out, hb1⟩
      · have t2 : ((r : Int) == 65533) = false := by rw [beq_eq_false_iff_ne]; omega
        have HF : Hid (Sp.frst s.data.toList = some ((r : Int), n)) := by
          show Sp.frst s.data.toList = _
          rw [HX.out, if_neg (by rw [hc]; simp [h3])]
        clear h3
        go_enter Tryd.func25, Tryd.ntmps25
        go_wp2_with fail
        refine (decode_v s _ HT.out h0 r n HD).mono ?_
        rintro e w1 ⟨rfl, hb1⟩
        go_wp2_with fail
        refine (char_any _ _).mono ?_
        rintro e w2 ⟨rfl, rfl⟩
        go_wp2_with fail
        go_ret2
        exact ⟨Sp.pair_some HF.out, hb1⟩
end Go.Proofs.YtbcommnnnfilkaaDoor
