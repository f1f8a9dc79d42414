/-
  The document's Escape, by its contract.
-/
import Derived.Test.YtbcommnnnfilkaaDoorSmall
import Derived.Test.YtbcommnnnfilkaaDoorPlain7
set_option linter.unusedSimpArgs false
set_option linter.unusedVariables false
namespace Go.Proofs.YtbcommnnnfilkaaDoor
open Go.RowKit
theorem Sp.ret_ba {t : ByteArray} {l : List UInt8} (h : t = ⟨l.toArray⟩) : Ending.returned (.string t) = .returned (.string ⟨l.toArray⟩) := by rw [h]
theorem Sp.extract_one (s : ByteArray) (k : Nat) (h : k < s.size) : (s.extract k (k + 1)).data.toList = [s[k]] := by
  rw [Lib.extract_data, Sp.drop_byte s k h]
  simp

set_option maxHeartbeats 1000000 in
set_option maxRecDepth 100000 in
theorem escRef_false (s : ByteArray) (w : World) (hs : s.size ≤ 1000000) :
    Calls Tryd.prog 18 #[.string s, .bool false] w fun e w' => e = .returned (.string ⟨(Sp.esc false s.data.toList).toArray⟩) ∧ w' = w := by
  go_enter Tryd.func18, Tryd.ntmps18
  go_wp2_with fail
  go_loop [5, 6, 7] (fun o i _x => ∃ (k : Nat) (x : ByteArray), i = .int .i64 k ∧ k ≤ s.size ∧ o = .string x ∧ x.size ≤ 10000000 ∧ Hid (x.data.toList = Sp.esc false (s.data.toList.take k))) (fun _ i _ => s.size - (intOf i).toNat)
  case atStart => exact ⟨0, ⟨#[]⟩, rfl, by omega, rfl, by decide, rfl⟩
  case round =>
    obtain ⟨k, x, rfl, hk, rfl, _hx, HX⟩ := hrel
    by_cases hlt : k < s.size
    · have hx6 : x.size ≤ 6 * k := by
        have h1 := Sp.esc_le false (s.data.toList.take k)
        have h2 : (s.data.toList.take k).length ≤ k := List.length_take_le _ _
        rw [← HX.out, Sp.len_byte] at h1
        omega
      have HS : Hid (Sp.esc false (s.data.toList.take (k + 1)) = Sp.esc false (s.data.toList.take k) ++ Sp.esc1 false s[k]) := by
        show Sp.esc false (s.data.toList.take (k + 1)) = _
        rw [Sp.take_byte s k hlt, Sp.esc_snoc]
      have hcl : s[k].toNat = 38 ∨ s[k].toNat = 60 ∨ s[k].toNat = 62 ∨ (s[k].toNat ≠ 38 ∧ s[k].toNat ≠ 60 ∧ s[k].toNat ≠ 62) := by omega
      rcases hcl with hcl | hcl | hcl | hcl
      · have t0 : ((s[k].toNat : Int) == 38) = true := by rw [beq_iff_eq]; omega
        have hr : s[k].toNat = 38 := by omega
        have HE : Hid (Sp.esc1 false s[k] = [38, 97, 109, 112, 59]) := by
          show Sp.esc1 false s[k] = [38, 97, 109, 112, 59]
          rw [Sp.esc1_writ _ _ (by rw [hr]; decide), hr]
          rfl
        clear hr
        have hy : (x ++ ⟨#[38, 97, 109, 112, 59]⟩).size ≤ 10000000 := by rw [ByteArray.size_append]; have : ((⟨#[38, 97, 109, 112, 59]⟩ : ByteArray)).size = 5 := rfl; omega
        have HN : Hid ((x ++ ⟨#[38, 97, 109, 112, 59]⟩).data.toList = Sp.esc false (s.data.toList.take (k + 1))) := by
          show (x ++ ⟨#[38, 97, 109, 112, 59]⟩).data.toList = _
          rw [Sp.cat_data, HX.out, HS.out, HE.out]
        clear hcl
        go_wp2_with fail
        all_goals go_round
        all_goals first | exact ⟨k + 1, _, by go_num, by omega, rfl, hy, HN⟩ | (simp [intOf]; omega)
      · have t0 : ((s[k].toNat : Int) == 38) = false := by rw [beq_eq_false_iff_ne]; omega
        have t1 : ((s[k].toNat : Int) == 60) = true := by rw [beq_iff_eq]; omega
        have hr : s[k].toNat = 60 := by omega
        have HE : Hid (Sp.esc1 false s[k] = [38, 108, 116, 59]) := by
          show Sp.esc1 false s[k] = [38, 108, 116, 59]
          rw [Sp.esc1_writ _ _ (by rw [hr]; decide), hr]
          rfl
        clear hr
        have hy : (x ++ ⟨#[38, 108, 116, 59]⟩).size ≤ 10000000 := by rw [ByteArray.size_append]; have : ((⟨#[38, 108, 116, 59]⟩ : ByteArray)).size = 4 := rfl; omega
        have HN : Hid ((x ++ ⟨#[38, 108, 116, 59]⟩).data.toList = Sp.esc false (s.data.toList.take (k + 1))) := by
          show (x ++ ⟨#[38, 108, 116, 59]⟩).data.toList = _
          rw [Sp.cat_data, HX.out, HS.out, HE.out]
        clear hcl
        go_wp2_with fail
        all_goals go_round
        all_goals first | exact ⟨k + 1, _, by go_num, by omega, rfl, hy, HN⟩ | (simp [intOf]; omega)
      · have t0 : ((s[k].toNat : Int) == 38) = false := by rw [beq_eq_false_iff_ne]; omega
        have t1 : ((s[k].toNat : Int) == 60) = false := by rw [beq_eq_false_iff_ne]; omega
        have t2 : ((s[k].toNat : Int) == 62) = true := by rw [beq_iff_eq]; omega
        have hr : s[k].toNat = 62 := by omega
        have HE : Hid (Sp.esc1 false s[k] = [38, 103, 116, 59]) := by
          show Sp.esc1 false s[k] = [38, 103, 116, 59]
          rw [Sp.esc1_writ _ _ (by rw [hr]; decide), hr]
          rfl
        clear hr
        have hy : (x ++ ⟨#[38, 103, 116, 59]⟩).size ≤ 10000000 := by rw [ByteArray.size_append]; have : ((⟨#[38, 103, 116, 59]⟩ : ByteArray)).size = 4 := rfl; omega
        have HN : Hid ((x ++ ⟨#[38, 103, 116, 59]⟩).data.toList = Sp.esc false (s.data.toList.take (k + 1))) := by
          show (x ++ ⟨#[38, 103, 116, 59]⟩).data.toList = _
          rw [Sp.cat_data, HX.out, HS.out, HE.out]
        clear hcl
        go_wp2_with fail
        all_goals go_round
        all_goals first | exact ⟨k + 1, _, by go_num, by omega, rfl, hy, HN⟩ | (simp [intOf]; omega)
      · have t0 : ((s[k].toNat : Int) == 38) = false := by rw [beq_eq_false_iff_ne]; omega
        have t1 : ((s[k].toNat : Int) == 60) = false := by rw [beq_eq_false_iff_ne]; omega
        have t2 : ((s[k].toNat : Int) == 62) = false := by rw [beq_eq_false_iff_ne]; omega
        have HE : Hid (Sp.esc1 false s[k] = [s[k]]) := by
          apply Sp.esc1_self
          unfold Sp.writ
          rw [if_neg (by omega), if_neg (by omega), if_neg (by omega)]
          rfl
        have hy : (x ++ s.extract k (k + 1)).size ≤ 10000000 := by rw [ByteArray.size_append, ByteArray.size_extract]; omega
        have HN : Hid ((x ++ s.extract k (k + 1)).data.toList = Sp.esc false (s.data.toList.take (k + 1))) := by
          show (x ++ s.extract k (k + 1)).data.toList = _
          rw [Sp.cat_data, HX.out, HS.out, HE.out, Sp.extract_one s k hlt]
        clear hcl
        go_wp2_with fail
        all_goals go_round
        all_goals first | exact ⟨k + 1, _, by go_num, by omega, rfl, hy, HN⟩ | (simp [intOf]; omega)
    · have HF : Hid (x = ⟨(Sp.esc false s.data.toList).toArray⟩) := by
        apply Sp.ba_of
        rw [HX.out, Sp.take_all s k (by omega)]
      go_wp2_with fail
      go_ret
      exact ⟨Sp.ret_ba HF.out, rfl⟩

set_option maxHeartbeats 1000000 in
set_option maxRecDepth 100000 in
theorem escRef_true (s : ByteArray) (w : World) (hs : s.size ≤ 1000000) :
    Calls Tryd.prog 18 #[.string s, .bool true] w fun e w' => e = .returned (.string ⟨(Sp.esc true s.data.toList).toArray⟩) ∧ w' = w := by
  go_enter Tryd.func18, Tryd.ntmps18
  go_wp2_with fail
  go_loop [5, 6, 7] (fun o i _x => ∃ (k : Nat) (x : ByteArray), i = .int .i64 k ∧ k ≤ s.size ∧ o = .string x ∧ x.size ≤ 10000000 ∧ Hid (x.data.toList = Sp.esc true (s.data.toList.take k))) (fun _ i _ => s.size - (intOf i).toNat)
  case atStart => exact ⟨0, ⟨#[]⟩, rfl, by omega, rfl, by decide, rfl⟩
  case round =>
    obtain ⟨k, x, rfl, hk, rfl, _hx, HX⟩ := hrel
    by_cases hlt : k < s.size
    · have hx6 : x.size ≤ 6 * k := by
        have h1 := Sp.esc_le true (s.data.toList.take k)
        have h2 : (s.data.toList.take k).length ≤ k := List.length_take_le _ _
        rw [← HX.out, Sp.len_byte] at h1
        omega
      have HS : Hid (Sp.esc true (s.data.toList.take (k + 1)) = Sp.esc true (s.data.toList.take k) ++ Sp.esc1 true s[k]) := by
        show Sp.esc true (s.data.toList.take (k + 1)) = _
        rw [Sp.take_byte s k hlt, Sp.esc_snoc]
      have hcl : s[k].toNat = 38 ∨ s[k].toNat = 60 ∨ s[k].toNat = 62 ∨ s[k].toNat = 34 ∨ s[k].toNat = 9 ∨ s[k].toNat = 10 ∨ s[k].toNat = 13 ∨ (s[k].toNat ≠ 38 ∧ s[k].toNat ≠ 60 ∧ s[k].toNat ≠ 62 ∧ s[k].toNat ≠ 34 ∧ s[k].toNat ≠ 9 ∧ s[k].toNat ≠ 10 ∧ s[k].toNat ≠ 13) := by omega
      rcases hcl with hcl | hcl | hcl | hcl | hcl | hcl | hcl | hcl
      · have t0 : ((s[k].toNat : Int) == 38) = true := by rw [beq_iff_eq]; omega
        have hr : s[k].toNat = 38 := by omega
        have HE : Hid (Sp.esc1 true s[k] = [38, 97, 109, 112, 59]) := by
          show Sp.esc1 true s[k] = [38, 97, 109, 112, 59]
          rw [Sp.esc1_writ _ _ (by rw [hr]; decide), hr]
          rfl
        clear hr
        have hy : (x ++ ⟨#[38, 97, 109, 112, 59]⟩).size ≤ 10000000 := by rw [ByteArray.size_append]; have : ((⟨#[38, 97, 109, 112, 59]⟩ : ByteArray)).size = 5 := rfl; omega
        have HN : Hid ((x ++ ⟨#[38, 97, 109, 112, 59]⟩).data.toList = Sp.esc true (s.data.toList.take (k + 1))) := by
          show (x ++ ⟨#[38, 97, 109, 112, 59]⟩).data.toList = _
          rw [Sp.cat_data, HX.out, HS.out, HE.out]
        clear hcl
        go_wp2_with fail
        all_goals go_round
        all_goals first | exact ⟨k + 1, _, by go_num, by omega, rfl, hy, HN⟩ | (simp [intOf]; omega)
      · have t0 : ((s[k].toNat : Int) == 38) = false := by rw [beq_eq_false_iff_ne]; omega
        have t1 : ((s[k].toNat : Int) == 60) = true := by rw [beq_iff_eq]; omega
        have hr : s[k].toNat = 60 := by omega
        have HE : Hid (Sp.esc1 true s[k] = [38, 108, 116, 59]) := by
          show Sp.esc1 true s[k] = [38, 108, 116, 59]
          rw [Sp.esc1_writ _ _ (by rw [hr]; decide), hr]
          rfl
        clear hr
        have hy : (x ++ ⟨#[38, 108, 116, 59]⟩).size ≤ 10000000 := by rw [ByteArray.size_append]; have : ((⟨#[38, 108, 116, 59]⟩ : ByteArray)).size = 4 := rfl; omega
        have HN : Hid ((x ++ ⟨#[38, 108, 116, 59]⟩).data.toList = Sp.esc true (s.data.toList.take (k + 1))) := by
          show (x ++ ⟨#[38, 108, 116, 59]⟩).data.toList = _
          rw [Sp.cat_data, HX.out, HS.out, HE.out]
        clear hcl
        go_wp2_with fail
        all_goals go_round
        all_goals first | exact ⟨k + 1, _, by go_num, by omega, rfl, hy, HN⟩ | (simp [intOf]; omega)
      · have t0 : ((s[k].toNat : Int) == 38) = false := by rw [beq_eq_false_iff_ne]; omega
        have t1 : ((s[k].toNat : Int) == 60) = false := by rw [beq_eq_false_iff_ne]; omega
        have t2 : ((s[k].toNat : Int) == 62) = true := by rw [beq_iff_eq]; omega
        have hr : s[k].toNat = 62 := by omega
        have HE : Hid (Sp.esc1 true s[k] = [38, 103, 116, 59]) := by
          show Sp.esc1 true s[k] = [38, 103, 116, 59]
          rw [Sp.esc1_writ _ _ (by rw [hr]; decide), hr]
          rfl
        clear hr
        have hy : (x ++ ⟨#[38, 103, 116, 59]⟩).size ≤ 10000000 := by rw [ByteArray.size_append]; have : ((⟨#[38, 103, 116, 59]⟩ : ByteArray)).size = 4 := rfl; omega
        have HN : Hid ((x ++ ⟨#[38, 103, 116, 59]⟩).data.toList = Sp.esc true (s.data.toList.take (k + 1))) := by
          show (x ++ ⟨#[38, 103, 116, 59]⟩).data.toList = _
          rw [Sp.cat_data, HX.out, HS.out, HE.out]
        clear hcl
        go_wp2_with fail
        all_goals go_round
        all_goals first | exact ⟨k + 1, _, by go_num, by omega, rfl, hy, HN⟩ | (simp [intOf]; omega)
      · have t0 : ((s[k].toNat : Int) == 38) = false := by rw [beq_eq_false_iff_ne]; omega
        have t1 : ((s[k].toNat : Int) == 60) = false := by rw [beq_eq_false_iff_ne]; omega
        have t2 : ((s[k].toNat : Int) == 62) = false := by rw [beq_eq_false_iff_ne]; omega
        have t3 : ((s[k].toNat : Int) == 34) = true := by rw [beq_iff_eq]; omega
        have hr : s[k].toNat = 34 := by omega
        have HE : Hid (Sp.esc1 true s[k] = [38, 113, 117, 111, 116, 59]) := by
          show Sp.esc1 true s[k] = [38, 113, 117, 111, 116, 59]
          rw [Sp.esc1_writ _ _ (by rw [hr]; decide), hr]
          rfl
        clear hr
        have hy : (x ++ ⟨#[38, 113, 117, 111, 116, 59]⟩).size ≤ 10000000 := by rw [ByteArray.size_append]; have : ((⟨#[38, 113, 117, 111, 116, 59]⟩ : ByteArray)).size = 6 := rfl; omega
        have HN : Hid ((x ++ ⟨#[38, 113, 117, 111, 116, 59]⟩).data.toList = Sp.esc true (s.data.toList.take (k + 1))) := by
          show (x ++ ⟨#[38, 113, 117, 111, 116, 59]⟩).data.toList = _
          rw [Sp.cat_data, HX.out, HS.out, HE.out]
        clear hcl
        go_wp2_with fail
        all_goals go_round
        all_goals first | exact ⟨k + 1, _, by go_num, by omega, rfl, hy, HN⟩ | (simp [intOf]; omega)
      · have t0 : ((s[k].toNat : Int) == 38) = false := by rw [beq_eq_false_iff_ne]; omega
        have t1 : ((s[k].toNat : Int) == 60) = false := by rw [beq_eq_false_iff_ne]; omega
        have t2 : ((s[k].toNat : Int) == 62) = false := by rw [beq_eq_false_iff_ne]; omega
        have t3 : ((s[k].toNat : Int) == 34) = false := by rw [beq_eq_false_iff_ne]; omega
        have t4 : ((s[k].toNat : Int) == 9) = true := by rw [beq_iff_eq]; omega
        have hr : s[k].toNat = 9 := by omega
        have HE : Hid (Sp.esc1 true s[k] = [38, 35, 57, 59]) := by
          show Sp.esc1 true s[k] = [38, 35, 57, 59]
          rw [Sp.esc1_writ _ _ (by rw [hr]; decide), hr]
          rfl
        clear hr
        have hy : (x ++ ⟨#[38, 35, 57, 59]⟩).size ≤ 10000000 := by rw [ByteArray.size_append]; have : ((⟨#[38, 35, 57, 59]⟩ : ByteArray)).size = 4 := rfl; omega
        have HN : Hid ((x ++ ⟨#[38, 35, 57, 59]⟩).data.toList = Sp.esc true (s.data.toList.take (k + 1))) := by
          show (x ++ ⟨#[38, 35, 57, 59]⟩).data.toList = _
          rw [Sp.cat_data, HX.out, HS.out, HE.out]
        clear hcl
        go_wp2_with fail
        all_goals go_round
        all_goals first | exact ⟨k + 1, _, by go_num, by omega, rfl, hy, HN⟩ | (simp [intOf]; omega)
      · have t0 : ((s[k].toNat : Int) == 38) = false := by rw [beq_eq_false_iff_ne]; omega
        have t1 : ((s[k].toNat : Int) == 60) = false := by rw [beq_eq_false_iff_ne]; omega
        have t2 : ((s[k].toNat : Int) == 62) = false := by rw [beq_eq_false_iff_ne]; omega
        have t3 : ((s[k].toNat : Int) == 34) = false := by rw [beq_eq_false_iff_ne]; omega
        have t4 : ((s[k].toNat : Int) == 9) = false := by rw [beq_eq_false_iff_ne]; omega
        have t5 : ((s[k].toNat : Int) == 10) = true := by rw [beq_iff_eq]; omega
        have hr : s[k].toNat = 10 := by omega
        have HE : Hid (Sp.esc1 true s[k] = [38, 35, 49, 48, 59]) := by
          show Sp.esc1 true s[k] = [38, 35, 49, 48, 59]
          rw [Sp.esc1_writ _ _ (by rw [hr]; decide), hr]
          rfl
        clear hr
        have hy : (x ++ ⟨#[38, 35, 49, 48, 59]⟩).size ≤ 10000000 := by rw [ByteArray.size_append]; have : ((⟨#[38, 35, 49, 48, 59]⟩ : ByteArray)).size = 5 := rfl; omega
        have HN : Hid ((x ++ ⟨#[38, 35, 49, 48, 59]⟩).data.toList = Sp.esc true (s.data.toList.take (k + 1))) := by
          show (x ++ ⟨#[38, 35, 49, 48, 59]⟩).data.toList = _
          rw [Sp.cat_data, HX.out, HS.out, HE.out]
        clear hcl
        go_wp2_with fail
        all_goals go_round
        all_goals first | exact ⟨k + 1, _, by go_num, by omega, rfl, hy, HN⟩ | (simp [intOf]; omega)
      · have t0 : ((s[k].toNat : Int) == 38) = false := by rw [beq_eq_false_iff_ne]; omega
        have t1 : ((s[k].toNat : Int) == 60) = false := by rw [beq_eq_false_iff_ne]; omega
        have t2 : ((s[k].toNat : Int) == 62) = false := by rw [beq_eq_false_iff_ne]; omega
        have t3 : ((s[k].toNat : Int) == 34) = false := by rw [beq_eq_false_iff_ne]; omega
        have t4 : ((s[k].toNat : Int) == 9) = false := by rw [beq_eq_false_iff_ne]; omega
        have t5 : ((s[k].toNat : Int) == 10) = false := by rw [beq_eq_false_iff_ne]; omega
        have t6 : ((s[k].toNat : Int) == 13) = true := by rw [beq_iff_eq]; omega
        have hr : s[k].toNat = 13 := by omega
        have HE : Hid (Sp.esc1 true s[k] = [38, 35, 49, 51, 59]) := by
          show Sp.esc1 true s[k] = [38, 35, 49, 51, 59]
          rw [Sp.esc1_writ _ _ (by rw [hr]; decide), hr]
          rfl
        clear hr
        have hy : (x ++ ⟨#[38, 35, 49, 51, 59]⟩).size ≤ 10000000 := by rw [ByteArray.size_append]; have : ((⟨#[38, 35, 49, 51, 59]⟩ : ByteArray)).size = 5 := rfl; omega
        have HN : Hid ((x ++ ⟨#[38, 35, 49, 51, 59]⟩).data.toList = Sp.esc true (s.data.toList.take (k + 1))) := by
          show (x ++ ⟨#[38, 35, 49, 51, 59]⟩).data.toList = _
          rw [Sp.cat_data, HX.out, HS.out, HE.out]
        clear hcl
        go_wp2_with fail
        all_goals go_round
        all_goals first | exact ⟨k + 1, _, by go_num, by omega, rfl, hy, HN⟩ | (simp [intOf]; omega)
      · have t0 : ((s[k].toNat : Int) == 38) = false := by rw [beq_eq_false_iff_ne]; omega
        have t1 : ((s[k].toNat : Int) == 60) = false := by rw [beq_eq_false_iff_ne]; omega
        have t2 : ((s[k].toNat : Int) == 62) = false := by rw [beq_eq_false_iff_ne]; omega
        have t3 : ((s[k].toNat : Int) == 34) = false := by rw [beq_eq_false_iff_ne]; omega
        have t4 : ((s[k].toNat : Int) == 9) = false := by rw [beq_eq_false_iff_ne]; omega
        have t5 : ((s[k].toNat : Int) == 10) = false := by rw [beq_eq_false_iff_ne]; omega
        have t6 : ((s[k].toNat : Int) == 13) = false := by rw [beq_eq_false_iff_ne]; omega
        have HE : Hid (Sp.esc1 true s[k] = [s[k]]) := by
          apply Sp.esc1_self
          unfold Sp.writ
          rw [if_neg (by omega), if_neg (by omega), if_neg (by omega), if_neg (by simp), if_neg (by omega), if_neg (by omega), if_neg (by omega), if_neg (by omega)]
        have hy : (x ++ s.extract k (k + 1)).size ≤ 10000000 := by rw [ByteArray.size_append, ByteArray.size_extract]; omega
        have HN : Hid ((x ++ s.extract k (k + 1)).data.toList = Sp.esc true (s.data.toList.take (k + 1))) := by
          show (x ++ s.extract k (k + 1)).data.toList = _
          rw [Sp.cat_data, HX.out, HS.out, HE.out, Sp.extract_one s k hlt]
        clear hcl
        go_wp2_with fail
        all_goals go_round
        all_goals first | exact ⟨k + 1, _, by go_num, by omega, rfl, hy, HN⟩ | (simp [intOf]; omega)
    · have HF : Hid (x = ⟨(Sp.esc true s.data.toList).toArray⟩) := by
        apply Sp.ba_of
        rw [HX.out, Sp.take_all s k (by omega)]
      go_wp2_with fail
      go_ret
      exact ⟨Sp.ret_ba HF.out, rfl⟩

theorem escRef_any (s : ByteArray) (attr : Bool) (w : World) (hs : s.size ≤ 1000000) :
    Calls Tryd.prog 18 #[.string s, .bool attr] w fun e w' => e = .returned (.string ⟨(Sp.esc attr s.data.toList).toArray⟩) ∧ w' = w := by
  cases attr
  · exact escRef_false s w hs
  · exact escRef_true s w hs
end Go.Proofs.YtbcommnnnfilkaaDoor
