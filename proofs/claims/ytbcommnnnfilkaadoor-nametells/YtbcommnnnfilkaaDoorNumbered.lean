/-
  name.numbered, by its contract.
-/
import Derived.Test.YtbcommnnnfilkaaDoorSmall
import Derived.Test.YtbcommnnnfilkaaDoorPlain3
set_option linter.unusedSimpArgs false
namespace Go.Proofs.YtbcommnnnfilkaaDoor
open Go.RowKit

theorem numbered_any (s : ByteArray) (base : Int) (w : World) (hs : s.size ≤ maxLen) (hb : base = 10 ∨ base = 16) :
    Calls Tryd.prog 56 #[.string s, .int .i32 base] w fun e w' => e = .returned (Sp.optV (Sp.numb base s.data.toList)) ∧ w' = w := by
  unfold maxLen at hs
  by_cases h1 : s.size < 1
  · have HF : Hid (Sp.numb base s.data.toList = none) := Sp.numb_len _ _ (by rw [Sp.len_byte]; omega)
    go_enter Tryd.func56, Tryd.ntmps56
    go_wp2
    go_ret2
    exact ⟨Sp.ret_none HF.out, rfl⟩
  by_cases h2 : 7 < s.size
  · have HF : Hid (Sp.numb base s.data.toList = none) := Sp.numb_len _ _ (by rw [Sp.len_byte]; omega)
    go_enter Tryd.func56, Tryd.ntmps56
    go_wp2
    go_ret2
    exact ⟨Sp.ret_none HF.out, rfl⟩
  have HN : Hid (Sp.numb base s.data.toList = (Sp.numd base 0 s.data.toList).bind Sp.chk) := Sp.numb_of _ _ (by rw [Sp.len_byte]; omega)
  have HB : Hid (base = 10 ∨ base = 16) := hb
  have hb0 : 10 ≤ base := by omega
  have hb1 : base ≤ 16 := by omega
  clear hb
  go_enter Tryd.func56, Tryd.ntmps56
  go_wp2
  go_loop [6, 7, 8] (fun r i _d => ∃ (k : Nat) (acc : Int), k ≤ s.size ∧ i = .int .i64 k ∧ r = .int .i32 acc ∧ 0 ≤ acc ∧ Hid (acc < 16 ^ k) ∧ Hid (Sp.numd base 0 s.data.toList = Sp.numd base acc (s.data.toList.drop k))) (fun _ i _ => s.size - (intOf i).toNat)
  case atStart => exact ⟨0, 0, by omega, rfl, rfl, by omega, show (0 : Int) < 16 ^ 0 by simp, rfl⟩
  case round =>
    obtain ⟨k, acc, hk, rfl, rfl, ha0, HA, HD⟩ := hrel
    by_cases hlt : k < s.size
    · have hc := UInt8.toNat_lt s[k]
      have hdr := Sp.digZ_range (s[k].toNat : Int) (by omega) (by omega)
      have HL : Hid (s.data.toList.drop k = s[k] :: s.data.toList.drop (k + 1)) := Sp.drop_byte s k hlt
      by_cases hbad : Sp.digZ (s[k].toNat : Int) < 0 ∨ base ≤ Sp.digZ (s[k].toNat : Int)
      · have HF : Hid (Sp.numb base s.data.toList = none) := by
          show Sp.numb base s.data.toList = none
          rw [HN.out, HD.out, HL.out, Sp.numd_bad _ _ _ _ hbad]
          rfl
        rcases hbad with hbad | hbad
        all_goals go_wp2_with (go_at_call 60; refine (digit_any _ _ (by omega) (by omega)).mono ?_; rintro e w' ⟨rfl, rfl⟩)
        all_goals go_ret2
        all_goals exact ⟨Sp.ret_none HF.out, rfl⟩
      · have hst := Sp.bd_step k (by omega) acc (Sp.digZ (s[k].toNat : Int)) base ha0 HA.out HB.out (by omega) (by omega)
        have HS : Hid (acc * base + Sp.digZ (s[k].toNat : Int) < 16 ^ (k + 1)) := hst.2.1
        have hs0 := hst.1
        have hs1 := hst.2.2.1
        have hs2 := hst.2.2.2.1
        have hs3 := hst.2.2.2.2
        have hn0 : 0 ≤ Sp.digZ (s[k].toNat : Int) := by omega
        have hn1 : Sp.digZ (s[k].toNat : Int) < base := by omega
        have HD2 : Hid (Sp.numd base 0 s.data.toList = Sp.numd base (acc * base + Sp.digZ (s[k].toNat : Int)) (s.data.toList.drop (k + 1))) := by
          show Sp.numd base 0 s.data.toList = _
          rw [HD.out, HL.out, Sp.numd_ok _ _ _ _ hbad]
        clear hst hbad
        go_wp2_with (go_at_call 60; refine (digit_any _ _ (by omega) (by omega)).mono ?_; rintro e w' ⟨rfl, rfl⟩)
        go_round
        case rel => exact ⟨k + 1, _, by omega, by go_num, rfl, hs0, HS, HD2⟩
        case measure => simp [intOf]; omega
    · have HE : Hid (Sp.numb base s.data.toList = Sp.chk acc) := by
        show Sp.numb base s.data.toList = _
        rw [HN.out, HD.out, Sp.drop_all s k (by omega)]
        rfl
      cases hch : Sp.charB acc
      · have HF : Hid (Sp.numb base s.data.toList = none) := by
          show Sp.numb base s.data.toList = none
          rw [HE.out, Sp.chk, hch]
          rfl
        go_wp2_with (go_at_call 20; refine (char_any _ _).mono ?_; rintro e w' ⟨rfl, rfl⟩)
        go_ret2
        exact ⟨Sp.ret_none HF.out, rfl⟩
      · have HF : Hid (Sp.numb base s.data.toList = some acc) := by
          show Sp.numb base s.data.toList = some acc
          rw [HE.out, Sp.chk, hch]
          rfl
        go_wp2_with (go_at_call 20; refine (char_any _ _).mono ?_; rintro e w' ⟨rfl, rfl⟩)
        go_ret2
        exact ⟨Sp.ret_some HF.out, rfl⟩
end Go.Proofs.YtbcommnnnfilkaaDoor
