/-
  The law XmlLong, walked.
-/
import Derived.Test.YtkcpaigogekimabDoorPartG
import Derived.OpenShut
set_option linter.unusedSimpArgs false
set_option linter.unusedVariables false
namespace Go.Proofs.YtkcpaigogekimabDoor
open Go.RowKit
namespace Xp
def longL (k : Nat) : List UInt8 := 60 :: 97 :: 47 :: 62 :: List.replicate k 32
theorem skipL_rep (k : Nat) : skipL (List.replicate k 32) = k := by
  induction k with
  | zero => rfl
  | succ k ih =>
    rw [List.replicate_succ, skipL, if_pos (by decide), ih]
theorem long_misc0 (r : List UInt8) : misc (60 :: 97 :: 47 :: 62 :: r) 0 = .ok 0 := by rfl
theorem long_elem (r : List UInt8) : elem 12 (60 :: 97 :: 47 :: 62 :: r) 0 0 = .ok (mkT ⟨#[97]⟩ [] [] 0, 4, 1) := by rfl
theorem long_len (k : Nat) : (longL k).length = k + 4 := by
  unfold longL
  simp
theorem long_misc4 (k : Nat) : misc (longL k) 4 = .ok (k + 4) := by
  have hs : skip (longL k) 4 = k + 4 := by
    unfold skip
    show 4 + skipL (List.replicate k 32) = _
    rw [skipL_rep]
    omega
  rw [misc_step, hs, if_neg]
  rw [hasL_far (by rw [long_len]; show k + 4 < k + 4 + 4; omega) (by decide)]
  simp
theorem long_parse (k : Nat) (h : k + 4 ≤ 8000) : parse (longL k) = .ok (mkT ⟨#[97]⟩ [] [] 0) := by
  unfold parse
  rw [if_neg (by rw [long_len]; omega)]
  have h0 : misc (longL k) 0 = .ok 0 := long_misc0 _
  have h1 : elem 12 (longL k) 0 0 = .ok (mkT ⟨#[97]⟩ [] [] 0, 4, 1) := long_elem _
  rw [h0]
  dsimp only
  rw [h1]
  dsimp only
  rw [long_misc4]
  dsimp only
  rw [if_neg (by rw [long_len]; omega)]
theorem long_over (k : Nat) (h : ¬ k + 4 ≤ 8000) : parse (longL k) = .error (0, 3) := by
  unfold parse
  rw [if_pos (by rw [long_len]; omega)]
theorem long_snoc (k : Nat) : longL k ++ [32] = longL (k + 1) := by
  unfold longL
  rw [List.replicate_succ']
  rfl
end Xp
set_option maxHeartbeats 2000000 in
set_option maxRecDepth 100000 in
theorem xmlLong_in (n : Nat) (hn : n ≤ 20) (w : World) (hw : Ok w) :
    Calls Tryd.prog 5 #[.int .i64 n] w fun e w' => e = .returned (.bool true) ∧ Below w.heap.size w w' := by
  have HW := hideB hw
  clear hw
  go_enter Tryd.func5, Tryd.ntmps5
  go_wp2_with fail
  go_loop [3] (fun a => ∃ (k : Nat) (x : ByteArray), a = .string x ∧ x.size = k + 4 ∧ k + 4 ≤ 7990 + n ∧ Hid (x.data.toList = Xp.longL k)) (fun a => match a with | .string x => 9000 - x.size | _ => 0)
  case atStart => exact ⟨0, ⟨#[60, 97, 47, 62]⟩, rfl, rfl, by omega, rfl⟩
  case round =>
    obtain ⟨k, x, rfl, hx, hk, HX⟩ := hrel
    have HXS := hideB hx
    by_cases hlt : x.size < 7990 + n
    · have hx2 : (x ++ ⟨#[32]⟩ : ByteArray).size = x.size + 1 := by rw [ByteArray.size_append]; rfl
      have HX2 : Hid ((x ++ ⟨#[32]⟩ : ByteArray).data.toList = Xp.longL (k + 1)) := by
        show _ = _
        rw [Sp.cat_data, HX.out, ← Xp.long_snoc]
      have hlt' : (x.size : Int) < 7990 + (n : Int) := by omega
      have HX3 := hideB hx2
      have hb : x.size ≤ 8010 := by omega
      clear hx hx2
      go_wp2_with fail
      go_round
      case rel => exact ⟨k + 1, _, rfl, by rw [HX3.out, HXS.out], by have := HXS.out; omega, HX2⟩
      case measure =>
        show 9000 - (x ++ ⟨#[32]⟩ : ByteArray).size < 9000 - x.size
        rw [HX3.out]
        omega
    · have hxs : x.size ≤ 8010 := by omega
      have hlt' : ¬ (x.size : Int) < 7990 + (n : Int) := by omega
      by_cases h8 : k + 4 ≤ 8000
      · have HP : Hid (Xp.parse x.data.toList = .ok (Xp.mkT ⟨#[97]⟩ [] [] 0)) := by
          show _ = _
          rw [HX.out]
          exact Xp.long_parse k h8
        have t8 : ¬ (8000 : Int) < (x.size : Int) := by omega
        clear hx
        go_wp2_with fail
        refine (parse_ok_v x w (by omega) HW.out _ HP).mono ?_
        rintro e w1 ⟨⟨c0, c1, c2, c3, rfl, h1⟩, b1⟩
        have B1 := hideB b1
        obtain ⟨nm, a1, n1, k1, a2, n2, k2, p, rfl, rfl, rfl, rfl⟩ := elem_form h1
        obtain ⟨V, hV⟩ : ∃ V, w1.alloc (.cells #[.string nm, .slice a1 n1 k1, .slice a2 n2 k2, .int .i64 p] 27) = V := ⟨_, rfl⟩
        have BV : Hid (Below w1.heap.size w1 V) := by rw [← hV]; exact (Below.refl _ w1).alloc (Nat.le_refl _) _
        have HVq := hideB hV
        have B2 := hideB (B1.out.trans (BV.out.mono B1.out.size))
        clear b1 h1 hV
        go_wp2_with fail
        rw [HVq.out]
        refine (knownD V (HW.out.below B2.out)).mono ?_
        rintro e w2 ⟨rfl, b2⟩
        go_wp2_with fail
        go_ret
        exact ⟨rfl, B2.out.trans (b2.mono B2.out.size)⟩
      · have HP : Hid (Xp.parse x.data.toList = .error (0, 3)) := by
          show _ = _
          rw [HX.out]
          exact Xp.long_over k h8
        have t8 : (8000 : Int) < (x.size : Int) := by omega
        clear hx
        go_wp2_with fail
        refine (parse_err_v x w (by omega) HW.out 0 3 HP).mono ?_
        rintro e w1 ⟨rfl, b1⟩
        have B1 := hideB b1
        obtain ⟨V, hV⟩ : ∃ V, w1.alloc (.cells #[.string ⟨#[]⟩, .slice none 0 0, .slice none 0 0, .int .i64 0] 27) = V := ⟨_, rfl⟩
        have BV : Hid (Below w1.heap.size w1 V) := by rw [← hV]; exact (Below.refl _ w1).alloc (Nat.le_refl _) _
        have HVq := hideB hV
        have B2 := hideB (B1.out.trans (BV.out.mono B1.out.size))
        clear b1 hV
        go_wp2_with fail
        rw [HVq.out]
        refine (knownD V (HW.out.below B2.out)).mono ?_
        rintro e w2 ⟨rfl, b2⟩
        go_wp2_with fail
        go_ret
        exact ⟨rfl, B2.out.trans (b2.mono B2.out.size)⟩
theorem xmlLong_walk (n : Int) (_hn : (Lit.int .i64 n).wf = true) (w : World) (hw : Ok w) :
    Calls Tryd.prog 5 #[.int .i64 n] w fun e w' => e = .returned (.bool true) ∧ Below w.heap.size w w' := by
  by_cases h0 : n < 0
  · clear hw
    go_enter Tryd.func5, Tryd.ntmps5
    go_wp2_with fail
    go_ret
    exact ⟨rfl, Below.refl _ _⟩
  · by_cases h1 : 20 < n
    · clear hw
      go_enter Tryd.func5, Tryd.ntmps5
      go_wp2_with fail
      go_ret
      exact ⟨rfl, Below.refl _ _⟩
    · obtain ⟨k, rfl⟩ := Int.eq_ofNat_of_zero_le (show 0 ≤ n by omega)
      exact xmlLong_in k (by omega) w hw
end Go.Proofs.YtkcpaigogekimabDoor
