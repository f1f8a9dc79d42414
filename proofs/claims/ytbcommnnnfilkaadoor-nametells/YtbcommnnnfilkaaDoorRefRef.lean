/-
  The document's ref, by its contract.
-/
import Derived.Test.YtbcommnnnfilkaaDoorRefDigit
import Derived.Test.YtbcommnnnfilkaaDoorPlain12
import Derived.Test.YtbcommnnnfilkaaDoorSigns
set_option linter.unusedSimpArgs false
namespace Go.Proofs.YtbcommnnnfilkaaDoor
open Go.RowKit
/-- 'string([]rune{n})' of a sign. -/
theorem conv_rune1 (n : Int) (y : ByteArray) (w : World) (hc : Sp.charB n = true) (hy : y = ⟨(Lib.encodeRune n).toArray⟩) : (convert 32 9 (.slice (some ⟨w.heap.size, 0, none⟩) 1 1)).run Tryd.prog (w.alloc (.cells #[.int .i32 n] 21)) = .ok (.string y) (w.alloc (.cells #[.int .i32 n] 21)) := by
  have := run_convert_runes (P := Tryd.prog) (w.alloc (.cells #[.int .i32 n] 21)) 32 9 21 ⟨w.heap.size, 0, none⟩ 1 1 [n] (by simp) Tryd.underlying32 Tryd.underlying21 Tryd.underlying9 (by
    intro j hj
    obtain rfl : j = 0 := by simpa using hj
    show (w.alloc (.cells #[.int .i32 n] 21)).cell? ⟨w.heap.size, 0, none⟩ = _
    rw [cell_new]
    rfl)
  rw [this, hy, ← Sp.encode_same _ hc]
  have e : runesBytes ([n].take 1) = Utf8.encode n := by
    show ByteArray.empty ++ Utf8.encode n = _
    simp
  rw [e]
theorem Sp.digR_dec (c : Int) : (Sp.digR c false < 0 ↔ Sp.digZ c < 0 ∨ 10 ≤ Sp.digZ c) ∧ (¬ Sp.digR c false < 0 → Sp.digR c false = Sp.digZ c) := by
  unfold Sp.digR Sp.digZ
  simp only [Bool.false_eq_true, false_and, if_false]
  repeat' split
  all_goals omega
theorem Sp.digR_hex (c : Int) : (Sp.digR c true < 0 ↔ Sp.digZ c < 0 ∨ 16 ≤ Sp.digZ c) ∧ (¬ Sp.digR c true < 0 → Sp.digR c true = Sp.digZ c) := by
  have e : Sp.digR c true = Sp.digZ c := by
    unfold Sp.digR Sp.digZ
    simp
  have h : Sp.digZ c ≤ 15 := by
    unfold Sp.digZ
    repeat' split
    all_goals omega
  rw [e]
  exact ⟨by omega, fun _ => rfl⟩

set_option maxHeartbeats 2000000 in
set_option maxRecDepth 100000 in
theorem ref_dec (s : ByteArray) (w : World) (hs : s.size ≤ 1000000) (hx : s.data.toList.getD 0 0 ≠ 120) :
    Calls Tryd.prog 42 #[.string s] w fun e w' => e = .returned (Sp.textV ((Sp.numb 10 s.data.toList).map Lib.encodeRune)) ∧ Below w.heap.size w w' := by
  by_cases h0 : 0 < s.size
  · have hne : s.toList.isEmpty = false := by
      rw [Lib.toList_data]
      cases h : s.data.toList with
      | nil =>
        have := congrArg List.length h
        rw [Sp.len_byte, List.length_nil] at this
        omega
      | cons a b => rfl
    have t0 : ((s[0].toNat : Int) == 120) = false := by
      rw [beq_eq_false_iff_ne]
      intro e
      apply hx
      rw [Sp.getD_byte s 0 h0]
      apply UInt8.toNat_inj.1
      exact Int.ofNat.inj e
    clear hx
    have h1 : ¬ s.size < 1 := by omega
    by_cases h2 : 7 < s.size
    · have HF : Hid (Sp.numb 10 s.data.toList = none) := Sp.numb_len _ _ (by rw [Sp.len_byte]; omega)
      go_enter Tryd.func42, Tryd.ntmps42
      go_wp2_with fail
      go_ret2
      exact ⟨Sp.text_none (by rw [HF.out]; rfl), Below.refl _ _⟩
    have HN : Hid (Sp.numb 10 s.data.toList = (Sp.numd 10 0 s.data.toList).bind Sp.chk) := Sp.numb_of _ _ (by rw [Sp.len_byte]; omega)
    go_enter Tryd.func42, Tryd.ntmps42
    go_wp2_with fail
    go_loop [6, 7, 8] (fun r i _d => ∃ (k : Nat) (acc : Int), k ≤ s.size ∧ i = .int .i64 k ∧ r = .int .i64 acc ∧ 0 ≤ acc ∧ acc ≤ 268435455 ∧ Hid (acc < 16 ^ k) ∧ Hid (Sp.numd 10 0 s.data.toList = Sp.numd 10 acc (s.data.toList.drop k))) (fun _ i _ => s.size - (intOf i).toNat)
    case atStart => exact ⟨0, 0, by omega, rfl, rfl, by omega, by omega, show (0 : Int) < 16 ^ 0 by simp, rfl⟩
    case round =>
      obtain ⟨k, acc, hk, rfl, rfl, ha0, ha1, HA, HD⟩ := hrel
      by_cases hlt : k < s.size
      · have hc := UInt8.toNat_lt s[k]
        have HL : Hid (s.data.toList.drop k = s[k] :: s.data.toList.drop (k + 1)) := Sp.drop_byte s k hlt
        have hdr := Sp.digR_dec (s[k].toNat : Int)
        have hrg := Sp.digZ_range (s[k].toNat : Int) (by omega) (by omega)
        by_cases hbad : Sp.digR (s[k].toNat : Int) false < 0
        · have HF : Hid (Sp.numb 10 s.data.toList = none) := by
            show Sp.numb 10 s.data.toList = none
            rw [HN.out, HD.out, HL.out, Sp.numd_bad _ _ _ _ (hdr.1.1 hbad)]
            rfl
          clear hdr hrg
          go_wp2_with fail
          refine (digit_ref _ _ _ (by omega) (by omega)).mono ?_
          rintro e w' ⟨rfl, rfl⟩
          go_wp2_with fail
          go_ret2
          exact ⟨Sp.text_none (by rw [HF.out]; rfl), Below.refl _ _⟩
        · have hgood : ¬ (Sp.digZ (s[k].toNat : Int) < 0 ∨ 10 ≤ Sp.digZ (s[k].toNat : Int)) := fun x => hbad (hdr.1.2 x)
          have heq := hdr.2 hbad
          have hst := Sp.bd_step k (by omega) acc (Sp.digR (s[k].toNat : Int) false) 10 ha0 HA.out (by omega) (by omega) (by omega)
          have HS : Hid (acc * 10 + Sp.digR (s[k].toNat : Int) false < 16 ^ (k + 1)) := hst.2.1
          have hs0 := hst.1
          have hs1 := hst.2.2.1
          have hn0 : 0 ≤ Sp.digR (s[k].toNat : Int) false := by omega
          have hn1 : Sp.digR (s[k].toNat : Int) false ≤ 15 := by omega
          have HD2 : Hid (Sp.numd 10 0 s.data.toList = Sp.numd 10 (acc * 10 + Sp.digR (s[k].toNat : Int) false) (s.data.toList.drop (k + 1))) := by
            show Sp.numd 10 0 s.data.toList = _
            rw [HD.out, HL.out, Sp.numd_ok _ _ _ _ hgood, heq]
          clear hst hbad hdr hrg heq hgood
          go_wp2_with fail
          refine (digit_ref _ _ _ (by omega) (by omega)).mono ?_
          rintro e w' ⟨rfl, rfl⟩
          go_wp2_with fail
          go_round
          case rel => exact ⟨k + 1, _, by omega, by go_num, rfl, hs0, hs1, HS, HD2⟩
          case measure => simp [intOf]; omega
      · have HE : Hid (Sp.numb 10 s.data.toList = Sp.chk acc) := by
          show Sp.numb 10 s.data.toList = _
          rw [HN.out, HD.out, Sp.drop_all s k (by omega)]
          rfl
        cases hch : Sp.charB acc
        · have HF : Hid (Sp.numb 10 s.data.toList = none) := by
            show Sp.numb 10 s.data.toList = none
            rw [HE.out, Sp.chk, hch]
            rfl
          by_cases hbig : 1114111 < acc
          · go_wp2_with fail
            go_ret2
            exact ⟨Sp.text_none (by rw [HF.out]; rfl), Below.refl _ _⟩
          · go_wp2_with fail
            refine (char_ref _ _).mono ?_
            rintro e w' ⟨rfl, rfl⟩
            go_wp2_with fail
            go_ret2
            exact ⟨Sp.text_none (by rw [HF.out]; rfl), Below.refl _ _⟩
        · have hrng := Sp.charB_range _ hch
          have HF : Hid (Sp.numb 10 s.data.toList = some acc) := by
            show Sp.numb 10 s.data.toList = some acc
            rw [HE.out, Sp.chk, hch]
            rfl
          obtain ⟨y, HY⟩ : ∃ y : ByteArray, Hid (y = ⟨(Lib.encodeRune acc).toArray⟩) := ⟨(⟨(Lib.encodeRune acc).toArray⟩ : ByteArray), rfl⟩
          have HO : Hid (Ending.returned (.tuple #[.string y, .bool true]) = .returned (Sp.textV ((Sp.numb 10 s.data.toList).map Lib.encodeRune))) := by
            show Ending.returned (.tuple #[.string y, .bool true]) = .returned (Sp.textV ((Sp.numb 10 s.data.toList).map Lib.encodeRune))
            rw [HF.out, HY.out]
            rfl
          have HCH : Hid (Sp.charB acc = true) := hch
          go_wp2_with fail
          refine (char_ref _ _).mono ?_
          rintro e w5 ⟨rfl, rfl⟩
          have hcv := conv_rune1 acc y w5 HCH.out HY.out
          go_wp2_with fail
          go_ret2
          exact ⟨HO.out, (Below.refl _ _).alloc (Nat.le_refl _) _⟩
  · have HF : Hid (Sp.numb 10 s.data.toList = none) := Sp.numb_len _ _ (by rw [Sp.len_byte]; omega)
    have hne : s.toList.isEmpty = true := by
      rw [Lib.toList_data]
      have h : s.data.toList = [] := List.eq_nil_of_length_eq_zero (by rw [Sp.len_byte]; omega)
      rw [h]
      rfl
    clear hx
    go_enter Tryd.func42, Tryd.ntmps42
    go_wp2_with fail
    go_ret2
    exact ⟨Sp.text_none (by rw [HF.out]; rfl), Below.refl _ _⟩

set_option maxHeartbeats 2000000 in
set_option maxRecDepth 100000 in
theorem ref_hex (s : ByteArray) (w : World) (hs : s.size ≤ 1000000) (h0 : 0 < s.size) (hx : s.data.toList.getD 0 0 = 120) :
    Calls Tryd.prog 42 #[.string s] w fun e w' => e = .returned (Sp.textV ((Sp.numb 16 (s.data.toList.drop 1)).map Lib.encodeRune)) ∧ Below w.heap.size w w' := by
  have hne : s.toList.isEmpty = false := by
    rw [Lib.toList_data]
    cases h : s.data.toList with
    | nil =>
      have := congrArg List.length h
      rw [Sp.len_byte, List.length_nil] at this
      omega
    | cons a b => rfl
  have t0 : ((s[0].toNat : Int) == 120) = true := by
    rw [Sp.getD_byte s 0 h0] at hx
    rw [hx]
    rfl
  clear hx
  obtain ⟨t, HT⟩ : ∃ t : ByteArray, Hid (s.extract 1 s.size = t) := ⟨s.extract 1 s.size, rfl⟩
  have hts : t.size ≤ 1000000 := by
    rw [← HT.out, ByteArray.size_extract]
    omega
  have hex : s.extract 1 s.size = t := HT.out
  have htl : s.data.toList.drop 1 = t.data.toList := by rw [← HT.out, Lib.extract_to_end]
  rw [htl]
  clear htl HT
  by_cases h1 : t.size < 1
  · have HF : Hid (Sp.numb 16 t.data.toList = none) := Sp.numb_len _ _ (by rw [Sp.len_byte]; omega)
    go_enter Tryd.func42, Tryd.ntmps42
    go_wp2_with fail
    go_ret2
    exact ⟨Sp.text_none (by rw [HF.out]; rfl), Below.refl _ _⟩
  by_cases h2 : 7 < t.size
  · have HF : Hid (Sp.numb 16 t.data.toList = none) := Sp.numb_len _ _ (by rw [Sp.len_byte]; omega)
    go_enter Tryd.func42, Tryd.ntmps42
    go_wp2_with fail
    go_ret2
    exact ⟨Sp.text_none (by rw [HF.out]; rfl), Below.refl _ _⟩
  have HN : Hid (Sp.numb 16 t.data.toList = (Sp.numd 16 0 t.data.toList).bind Sp.chk) := Sp.numb_of _ _ (by rw [Sp.len_byte]; omega)
  go_enter Tryd.func42, Tryd.ntmps42
  go_wp2_with fail
  go_loop [6, 7, 8] (fun r i _d => ∃ (k : Nat) (acc : Int), k ≤ t.size ∧ i = .int .i64 k ∧ r = .int .i64 acc ∧ 0 ≤ acc ∧ acc ≤ 268435455 ∧ Hid (acc < 16 ^ k) ∧ Hid (Sp.numd 16 0 t.data.toList = Sp.numd 16 acc (t.data.toList.drop k))) (fun _ i _ => t.size - (intOf i).toNat)
  case atStart => exact ⟨0, 0, by omega, rfl, rfl, by omega, by omega, show (0 : Int) < 16 ^ 0 by simp, rfl⟩
  case round =>
    obtain ⟨k, acc, hk, rfl, rfl, ha0, ha1, HA, HD⟩ := hrel
    by_cases hlt : k < t.size
    · have hc := UInt8.toNat_lt t[k]
      have HL : Hid (t.data.toList.drop k = t[k] :: t.data.toList.drop (k + 1)) := Sp.drop_byte t k hlt
      have hdr := Sp.digR_hex (t[k].toNat : Int)
      have hrg := Sp.digZ_range (t[k].toNat : Int) (by omega) (by omega)
      by_cases hbad : Sp.digR (t[k].toNat : Int) true < 0
      · have HF : Hid (Sp.numb 16 t.data.toList = none) := by
          show Sp.numb 16 t.data.toList = none
          rw [HN.out, HD.out, HL.out, Sp.numd_bad _ _ _ _ (hdr.1.1 hbad)]
          rfl
        clear hdr hrg
        go_wp2_with fail
        refine (digit_ref _ _ _ (by omega) (by omega)).mono ?_
        rintro e w' ⟨rfl, rfl⟩
        go_wp2_with fail
        go_ret2
        exact ⟨Sp.text_none (by rw [HF.out]; rfl), Below.refl _ _⟩
      · have hgood : ¬ (Sp.digZ (t[k].toNat : Int) < 0 ∨ 16 ≤ Sp.digZ (t[k].toNat : Int)) := fun x => hbad (hdr.1.2 x)
        have heq := hdr.2 hbad
        have hst := Sp.bd_step k (by omega) acc (Sp.digR (t[k].toNat : Int) true) 16 ha0 HA.out (by omega) (by omega) (by omega)
        have HS : Hid (acc * 16 + Sp.digR (t[k].toNat : Int) true < 16 ^ (k + 1)) := hst.2.1
        have hs0 := hst.1
        have hs1 := hst.2.2.1
        have hn0 : 0 ≤ Sp.digR (t[k].toNat : Int) true := by omega
        have hn1 : Sp.digR (t[k].toNat : Int) true ≤ 15 := by omega
        have HD2 : Hid (Sp.numd 16 0 t.data.toList = Sp.numd 16 (acc * 16 + Sp.digR (t[k].toNat : Int) true) (t.data.toList.drop (k + 1))) := by
          show Sp.numd 16 0 t.data.toList = _
          rw [HD.out, HL.out, Sp.numd_ok _ _ _ _ hgood, heq]
        clear hst hbad hdr hrg heq hgood
        go_wp2_with fail
        refine (digit_ref _ _ _ (by omega) (by omega)).mono ?_
        rintro e w' ⟨rfl, rfl⟩
        go_wp2_with fail
        go_round
        case rel => exact ⟨k + 1, _, by omega, by go_num, rfl, hs0, hs1, HS, HD2⟩
        case measure => simp [intOf]; omega
    · have HE : Hid (Sp.numb 16 t.data.toList = Sp.chk acc) := by
        show Sp.numb 16 t.data.toList = _
        rw [HN.out, HD.out, Sp.drop_all t k (by omega)]
        rfl
      cases hch : Sp.charB acc
      · have HF : Hid (Sp.numb 16 t.data.toList = none) := by
          show Sp.numb 16 t.data.toList = none
          rw [HE.out, Sp.chk, hch]
          rfl
        by_cases hbig : 1114111 < acc
        · go_wp2_with fail
          go_ret2
          exact ⟨Sp.text_none (by rw [HF.out]; rfl), Below.refl _ _⟩
        · go_wp2_with fail
          refine (char_ref _ _).mono ?_
          rintro e w' ⟨rfl, rfl⟩
          go_wp2_with fail
          go_ret2
          exact ⟨Sp.text_none (by rw [HF.out]; rfl), Below.refl _ _⟩
      · have hrng := Sp.charB_range _ hch
        have HF : Hid (Sp.numb 16 t.data.toList = some acc) := by
          show Sp.numb 16 t.data.toList = some acc
          rw [HE.out, Sp.chk, hch]
          rfl
        obtain ⟨y, HY⟩ : ∃ y : ByteArray, Hid (y = ⟨(Lib.encodeRune acc).toArray⟩) := ⟨(⟨(Lib.encodeRune acc).toArray⟩ : ByteArray), rfl⟩
        have HO : Hid (Ending.returned (.tuple #[.string y, .bool true]) = .returned (Sp.textV ((Sp.numb 16 t.data.toList).map Lib.encodeRune))) := by
          show Ending.returned (.tuple #[.string y, .bool true]) = .returned (Sp.textV ((Sp.numb 16 t.data.toList).map Lib.encodeRune))
          rw [HF.out, HY.out]
          rfl
        have HCH : Hid (Sp.charB acc = true) := hch
        go_wp2_with fail
        refine (char_ref _ _).mono ?_
        rintro e w5 ⟨rfl, rfl⟩
        have hcv := conv_rune1 acc y w5 HCH.out HY.out
        go_wp2_with fail
        go_ret2
        exact ⟨HO.out, (Below.refl _ _).alloc (Nat.le_refl _) _⟩
end Go.Proofs.YtbcommnnnfilkaaDoor
