/-
  name.Is and the document's Is: each by its contract.
-/
import Derived.Test.YtpipjkbgbhefcaaGreatSmall
import Derived.Test.YtpipjkbgbhefcaaGreatPartA
set_option linter.unusedSimpArgs false
namespace Go.Proofs.YtpipjkbgbhefcaaGreat
open Go.RowKit

theorem is_any (s : ByteArray) (w : World) (hs : s.size ≤ maxLen) :
    Calls Tryz.prog 103 #[.string s] w fun e w' => e = .returned (.bool (Sp.isB s.data.toList)) ∧ w' = w := by
  unfold maxLen at hs
  by_cases h1 : s.size < 1
  · have HF : Hid (Sp.isB s.data.toList = false) := Sp.isB_len _ (by rw [Sp.len_byte]; omega)
    go_enter Tryz.func103, Tryz.ntmps103
    go_wp2
    go_ret
    exact ⟨Sp.ret_bool HF.out.symm, rfl⟩
  by_cases h2 : 12 < s.size
  · have HF : Hid (Sp.isB s.data.toList = false) := Sp.isB_len _ (by rw [Sp.len_byte]; omega)
    go_enter Tryz.func103, Tryz.ntmps103
    go_wp2
    go_ret
    exact ⟨Sp.ret_bool HF.out.symm, rfl⟩
  have h0 : 0 < s.size := by omega
  cases hb : Sp.begZ (s[0].toNat : Int)
  · have HF : Hid (Sp.isB s.data.toList = false) := Sp.isB_beg _ (by rw [Sp.getD_byte s 0 h0]; exact hb)
    go_enter Tryz.func103, Tryz.ntmps103
    go_wp2_with (go_at_call 118; refine (begins_any _ _).mono ?_; rintro e w' ⟨rfl, rfl⟩)
    go_ret
    exact ⟨Sp.ret_bool HF.out.symm, rfl⟩
  · have HB : Hid (Sp.begZ (s[0].toNat : Int) = true) := hb
    go_enter Tryz.func103, Tryz.ntmps103
    go_wp2_with (go_at_call 118; refine (begins_any _ _).mono ?_; rintro e w' ⟨rfl, rfl⟩)
    go_loop [3] (fun i => ∃ k : Nat, 1 ≤ k ∧ k ≤ s.size ∧ i = .int .i64 k ∧ ∀ j, j < k → Sp.goZ ((s.data.toList.getD j 0).toNat : Int) = true) (fun i => s.size - (intOf i).toNat)
    case atStart =>
      refine ⟨1, by omega, by omega, rfl, fun j hj => ?_⟩
      obtain rfl : j = 0 := by omega
      rw [Sp.getD_byte s 0 h0]
      exact Sp.begZ_goZ _ HB.out
    case round =>
      obtain ⟨k, hk1, hk2, rfl, hall⟩ := hrel
      have HA : Hid (∀ j, j < k → Sp.goZ ((s.data.toList.getD j 0).toNat : Int) = true) := hall
      clear hall
      by_cases hlt : k < s.size
      · cases hg : Sp.goZ (s[k].toNat : Int)
        · have HF : Hid (Sp.isB s.data.toList = false) := Sp.isB_go _ k (by rw [Sp.len_byte]; omega) (by rw [Sp.getD_byte s k hlt]; exact hg)
          go_wp2_with (go_at_call 119; refine (goesOn_any _ _).mono ?_; rintro e w' ⟨rfl, rfl⟩)
          go_ret
          exact ⟨Sp.ret_bool HF.out.symm, rfl⟩
        · have HG : Hid (Sp.goZ (s[k].toNat : Int) = true) := hg
          go_wp2_with (go_at_call 119; refine (goesOn_any _ _).mono ?_; rintro e w' ⟨rfl, rfl⟩)
          go_round
          case rel =>
            refine ⟨k + 1, by omega, by omega, by go_num, fun j hj => ?_⟩
            by_cases hj' : j < k
            · exact HA.out j hj'
            · obtain rfl : j = k := by omega
              rw [Sp.getD_byte s j hlt]
              exact HG.out
          case measure => simp [intOf]; omega
      · have HF : Hid (Sp.isB s.data.toList = true) := Sp.isB_yes _ (by rw [Sp.len_byte]; omega) (by rw [Sp.len_byte]; omega) (by rw [Sp.getD_byte s 0 h0]; exact HB.out) (fun j hj => HA.out j (by rw [Sp.len_byte] at hj; omega))
        go_wp2
        go_ret
        exact ⟨Sp.ret_bool HF.out.symm, rfl⟩
end Go.Proofs.YtpipjkbgbhefcaaGreat
