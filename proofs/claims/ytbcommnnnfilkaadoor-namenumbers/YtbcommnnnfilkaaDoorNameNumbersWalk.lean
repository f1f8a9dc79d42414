/-
  The law NameNumbers, walked.
-/
import Derived.Test.YtbcommnnnfilkaaDoorDigits
import Derived.Test.YtbcommnnnfilkaaDoorSigns
set_option linter.unusedSimpArgs false
namespace Go.Proofs.YtbcommnnnfilkaaDoor
open Go.RowKit
/-- 'string([]rune{n})' of a sign. -/
theorem conv_rune (n : Nat) (y : ByteArray) (w : World) (hc : Sp.charB (n : Int) = true) (hy : y = ⟨(Lib.encodeRune (n : Int)).toArray⟩) : (convert 32 9 (.slice (some ⟨w.heap.size, 0, none⟩) 1 1)).run Tryd.prog (w.alloc (.cells #[.int .i32 (n : Int)] 21)) = .ok (.string y) (w.alloc (.cells #[.int .i32 (n : Int)] 21)) := by
  have := run_convert_runes (P := Tryd.prog) (w.alloc (.cells #[.int .i32 (n : Int)] 21)) 32 9 21 ⟨w.heap.size, 0, none⟩ 1 1 [(n : Int)] (by simp) Tryd.underlying32 Tryd.underlying21 Tryd.underlying9 (by
    intro j hj
    obtain rfl : j = 0 := by simpa using hj
    show (w.alloc (.cells #[.int .i32 (n : Int)] 21)).cell? ⟨w.heap.size, 0, none⟩ = _
    rw [cell_new]
    rfl)
  rw [this, hy, ← Sp.encode_same _ hc]
  show _ = Result.ok (Value.string (Utf8.encode (n : Int))) _
  have e : runesBytes ([(n : Int)].take 1) = Utf8.encode (n : Int) := by
    show ByteArray.empty ++ Utf8.encode (n : Int) = _
    simp
  rw [e]

set_option maxHeartbeats 2000000 in
set_option maxRecDepth 100000 in
theorem nameNumbers_dec (n k : Nat) (hn : n ≤ 33554431) (hk : k ≤ 8) (w : World) (hw : Ok w) :
    Calls Tryd.prog 6 #[.int .i64 n, .int .i64 k, .bool false] w fun e w' => e = .returned (.bool true) ∧ Below w.heap.size w w' := by
  have HW : Hid (Ok w) := hw
  clear hw
  obtain ⟨t0, HT0⟩ : ∃ t : ByteArray, Hid (t = ⟨(Sp.digs 10 (n + 1) n).toArray⟩) := ⟨(⟨(Sp.digs 10 (n + 1) n).toArray⟩ : ByteArray), rfl⟩
  have D0 : Hid (∀ w : World, Calls Tryd.prog 23 #[.int .i64 n, .int .i64 10] w fun e w' => e = .returned (.string t0) ∧ Below w.heap.size w w') := by
    intro w
    rw [HT0.out]
    exact digits_10 (n + 1) n w (by omega) (by omega) (by omega)
  obtain ⟨t, HT⟩ : ∃ t : ByteArray, Hid (t = ⟨(Sp.digs 10 (n + 1) n).toArray⟩) := ⟨t0, HT0⟩
  clear D0
  have D0 : Hid (∀ w : World, Calls Tryd.prog 23 #[.int .i64 n, .int .i64 10] w fun e w' => e = .returned (.string t) ∧ Below w.heap.size w w') := by
    intro w
    rw [HT.out]
    exact digits_10 (n + 1) n w (by omega) (by omega) (by omega)
  have ht : t.size ≤ 8 := by
    have := Sp.digs_pow 10 (by omega) 7 (n + 1) n (by show n < 100000000; omega)
    rw [← Sp.len_byte t, Sp.ba_eq HT.out]
    omega
  go_enter Tryd.func6, Tryd.ntmps6
  go_wp2_with fail
  refine (D0.out _).mono ?_
  rintro e w0 ⟨rfl, b0⟩
  have z0 := b0.size
  have W0 : Hid (Ok w0) := HW.out.below b0
  go_wp2_with fail
  obtain ⟨w1, rfl⟩ : ∃ w1, w1 = w0 := ⟨w0, rfl⟩
  have b1 := b0
  have W1 := W0
  have z1 := b1.size
  go_loop [7, 8] (fun a i => ∃ (j : Nat) (x : ByteArray), j ≤ k ∧ i = .int .i64 j ∧ a = .string x ∧ x.size ≤ 16 ∧ Hid (x.data.toList = List.replicate j 48 ++ Sp.digs 10 (n + 1) n)) (fun _ i => k - (intOf i).toNat)
  case atStart => exact ⟨0, t, by omega, rfl, rfl, by omega, Sp.ba_eq HT.out⟩
  case round =>
    obtain ⟨j, x, hj, rfl, rfl, hx, HX⟩ := hrel
    have hx8 : x.size ≤ j + 8 := by
      have := Sp.digs_pow 10 (by omega) 7 (n + 1) n (by show n < 100000000; omega)
      rw [← Sp.len_byte x, HX.out, List.length_append, List.length_replicate]
      omega
    by_cases hlt : j < k
    · have HX2 : Hid ((⟨#[48]⟩ ++ x).data.toList = List.replicate (j + 1) 48 ++ Sp.digs 10 (n + 1) n) := by
        show (⟨#[48]⟩ ++ x).data.toList = _
        rw [Sp.cat_data, HX.out, List.replicate_succ]
        rfl
      have hx2 : (⟨#[48]⟩ ++ x).size ≤ 16 := by
        rw [ByteArray.size_append]
        have : (⟨#[48]⟩ : ByteArray).size = 1 := rfl
        omega
      go_wp2_with fail
      go_round
      case rel => exact ⟨j + 1, _, by omega, by go_num, rfl, hx2, HX2⟩
      case measure => simp [intOf]; omega
    · obtain rfl : j = k := by omega
      clear hlt hj
      obtain ⟨z, HZ⟩ : ∃ z : ByteArray, Hid (⟨#[38, 35]⟩ ++ x ++ ⟨#[59]⟩ = z) := ⟨(⟨#[38, 35]⟩ : ByteArray) ++ x ++ (⟨#[59]⟩ : ByteArray), rfl⟩
      have HZL : Hid (z.data.toList = [38, 35] ++ x.data.toList ++ [59]) := by
        show z.data.toList = _
        rw [← HZ.out, Sp.cat_data, Sp.cat_data]
      have hz : z.size ≤ 1000000 := by
        rw [← Sp.len_byte, HZL.out]
        simp
        omega
      have HU0 : Hid (Sp.unesc z.data.toList = if x.size ≤ 7 then (Sp.chk n).map Lib.encodeRune else none) := by
        show Sp.unesc z.data.toList = _
        rw [HZL.out, Sp.unesc_dec x.data.toList n j HX.out, Sp.len_byte]
      by_cases h7 : x.size ≤ 7
      · cases hc : Sp.charB (n : Int)
        · have HU : Hid (Sp.textV (Sp.unesc z.data.toList) = .tuple #[.string ⟨#[]⟩, .bool false]) := by
            rw [HU0.out, if_pos h7, Sp.chk, hc]
            exact rfl
          by_cases hbig : n ≤ 1114111
          · go_wp2_with fail
            rw [HZ.out]
            refine (unescape_v z _ hz W1.out ⟨#[]⟩ false HU).mono ?_
            rintro e w2 ⟨rfl, b2⟩
            have z2 := b2.size
            have W2 : Hid (Ok w2) := W1.out.below b2
            go_wp2_with fail
            refine (char_ref _ _).mono ?_
            rintro e w3 ⟨rfl, rfl⟩
            go_wp2_with fail
            refine (known_any _ W2.out).mono ?_
            rintro e w4 ⟨rfl, b4⟩
            go_wp2_with fail
            go_ret
            exact ⟨rfl, (b1.trans (b2.mono (by omega))).trans (b4.mono (by omega))⟩
          · go_wp2_with fail
            rw [HZ.out]
            refine (unescape_v z _ hz W1.out ⟨#[]⟩ false HU).mono ?_
            rintro e w2 ⟨rfl, b2⟩
            have z2 := b2.size
            have W2 : Hid (Ok w2) := W1.out.below b2
            go_wp2_with fail
            refine (known_any _ W2.out).mono ?_
            rintro e w4 ⟨rfl, b4⟩
            go_wp2_with fail
            go_ret
            exact ⟨rfl, (b1.trans (b2.mono (by omega))).trans (b4.mono (by omega))⟩
        · have hrng := Sp.charB_range _ hc
          obtain ⟨y, HY⟩ : ∃ y : ByteArray, Hid (y = ⟨(Lib.encodeRune (n : Int)).toArray⟩) := ⟨(⟨(Lib.encodeRune (n : Int)).toArray⟩ : ByteArray), rfl⟩
          have HU : Hid (Sp.textV (Sp.unesc z.data.toList) = .tuple #[.string y, .bool true]) := by
            rw [HU0.out, if_pos h7, Sp.chk, hc, HY.out]
            exact rfl
          have HCH : Hid (Sp.charB (n : Int) = true) := hc
          go_wp2_with fail
          rw [HZ.out]
          refine (unescape_v z _ hz W1.out y true HU).mono ?_
          rintro e w2 ⟨rfl, b2⟩
          have z2 := b2.size
          have W2 : Hid (Ok w2) := W1.out.below b2
          have hcv := conv_rune n y w2 HCH.out HY.out
          go_wp2_with fail
          refine (char_ref _ _).mono ?_
          rintro e w3 ⟨rfl, rfl⟩
          go_wp2_with fail
          refine (known_any _ (W2.out.below ((Below.refl _ _).alloc (Nat.le_refl _) _))).mono ?_
          rintro e w4 ⟨rfl, b4⟩
          go_wp2_with fail
          go_ret
          exact ⟨rfl, ((b1.trans (b2.mono (by omega))).alloc (by omega) _).trans (b4.mono (by simp; omega))⟩
      · have HU : Hid (Sp.textV (Sp.unesc z.data.toList) = .tuple #[.string ⟨#[]⟩, .bool false]) := by
          rw [HU0.out, if_neg h7]
          exact rfl
        go_wp2_with fail
        rw [HZ.out]
        refine (unescape_v z _ hz W1.out ⟨#[]⟩ false HU).mono ?_
        rintro e w2 ⟨rfl, b2⟩
        have z2 := b2.size
        have W2 : Hid (Ok w2) := W1.out.below b2
        go_wp2_with fail
        refine (known_any _ W2.out).mono ?_
        rintro e w4 ⟨rfl, b4⟩
        go_wp2_with fail
        go_ret
        exact ⟨rfl, (b1.trans (b2.mono (by omega))).trans (b4.mono (by omega))⟩

set_option maxHeartbeats 2000000 in
set_option maxRecDepth 100000 in
theorem nameNumbers_hex (n k : Nat) (hn : n ≤ 33554431) (hk : k ≤ 8) (w : World) (hw : Ok w) :
    Calls Tryd.prog 6 #[.int .i64 n, .int .i64 k, .bool true] w fun e w' => e = .returned (.bool true) ∧ Below w.heap.size w w' := by
  have HW : Hid (Ok w) := hw
  clear hw
  obtain ⟨t0, HT0⟩ : ∃ t : ByteArray, Hid (t = ⟨(Sp.digs 10 (n + 1) n).toArray⟩) := ⟨(⟨(Sp.digs 10 (n + 1) n).toArray⟩ : ByteArray), rfl⟩
  have D0 : Hid (∀ w : World, Calls Tryd.prog 23 #[.int .i64 n, .int .i64 10] w fun e w' => e = .returned (.string t0) ∧ Below w.heap.size w w') := by
    intro w
    rw [HT0.out]
    exact digits_10 (n + 1) n w (by omega) (by omega) (by omega)
  obtain ⟨t, HT⟩ : ∃ t : ByteArray, Hid (t = ⟨(Sp.digs 16 (n + 1) n).toArray⟩) := ⟨(⟨(Sp.digs 16 (n + 1) n).toArray⟩ : ByteArray), rfl⟩
  have D1 : Hid (∀ w : World, Calls Tryd.prog 23 #[.int .i64 n, .int .i64 16] w fun e w' => e = .returned (.string t) ∧ Below w.heap.size w w') := by
    intro w
    rw [HT.out]
    exact digits_16 (n + 1) n w (by omega) (by omega) (by omega)
  have ht : t.size ≤ 8 := by
    have := Sp.digs_pow 16 (by omega) 6 (n + 1) n (by show n < 268435456; omega)
    rw [← Sp.len_byte t, Sp.ba_eq HT.out]
    omega
  go_enter Tryd.func6, Tryd.ntmps6
  go_wp2_with fail
  refine (D0.out _).mono ?_
  rintro e w0 ⟨rfl, b0⟩
  have z0 := b0.size
  have W0 : Hid (Ok w0) := HW.out.below b0
  go_wp2_with fail
  refine (D1.out _).mono ?_
  rintro e w1 ⟨rfl, b1'⟩
  have z1' := b1'.size
  have b1 : Below w.heap.size w w1 := b0.trans (b1'.mono (by omega))
  have W1 : Hid (Ok w1) := W0.out.below b1'
  go_wp2_with fail
  have z1 := b1.size
  go_loop [7, 8] (fun a i => ∃ (j : Nat) (x : ByteArray), j ≤ k ∧ i = .int .i64 j ∧ a = .string x ∧ x.size ≤ 16 ∧ Hid (x.data.toList = List.replicate j 48 ++ Sp.digs 16 (n + 1) n)) (fun _ i => k - (intOf i).toNat)
  case atStart => exact ⟨0, t, by omega, rfl, rfl, by omega, Sp.ba_eq HT.out⟩
  case round =>
    obtain ⟨j, x, hj, rfl, rfl, hx, HX⟩ := hrel
    have hx8 : x.size ≤ j + 8 := by
      have := Sp.digs_pow 16 (by omega) 6 (n + 1) n (by show n < 268435456; omega)
      rw [← Sp.len_byte x, HX.out, List.length_append, List.length_replicate]
      omega
    by_cases hlt : j < k
    · have HX2 : Hid ((⟨#[48]⟩ ++ x).data.toList = List.replicate (j + 1) 48 ++ Sp.digs 16 (n + 1) n) := by
        show (⟨#[48]⟩ ++ x).data.toList = _
        rw [Sp.cat_data, HX.out, List.replicate_succ]
        rfl
      have hx2 : (⟨#[48]⟩ ++ x).size ≤ 16 := by
        rw [ByteArray.size_append]
        have : (⟨#[48]⟩ : ByteArray).size = 1 := rfl
        omega
      go_wp2_with fail
      go_round
      case rel => exact ⟨j + 1, _, by omega, by go_num, rfl, hx2, HX2⟩
      case measure => simp [intOf]; omega
    · obtain rfl : j = k := by omega
      clear hlt hj
      obtain ⟨z, HZ⟩ : ∃ z : ByteArray, Hid (⟨#[38, 35, 120]⟩ ++ x ++ ⟨#[59]⟩ = z) := ⟨(⟨#[38, 35, 120]⟩ : ByteArray) ++ x ++ (⟨#[59]⟩ : ByteArray), rfl⟩
      have HZL : Hid (z.data.toList = [38, 35, 120] ++ x.data.toList ++ [59]) := by
        show z.data.toList = _
        rw [← HZ.out, Sp.cat_data, Sp.cat_data]
      have hz : z.size ≤ 1000000 := by
        rw [← Sp.len_byte, HZL.out]
        simp
        omega
      have HU0 : Hid (Sp.unesc z.data.toList = if x.size ≤ 7 then (Sp.chk n).map Lib.encodeRune else none) := by
        show Sp.unesc z.data.toList = _
        rw [HZL.out, Sp.unesc_hex x.data.toList n j HX.out, Sp.len_byte]
      by_cases h7 : x.size ≤ 7
      · cases hc : Sp.charB (n : Int)
        · have HU : Hid (Sp.textV (Sp.unesc z.data.toList) = .tuple #[.string ⟨#[]⟩, .bool false]) := by
            rw [HU0.out, if_pos h7, Sp.chk, hc]
            exact rfl
          by_cases hbig : n ≤ 1114111
          · go_wp2_with fail
            rw [HZ.out]
            refine (unescape_v z _ hz W1.out ⟨#[]⟩ false HU).mono ?_
            rintro e w2 ⟨rfl, b2⟩
            have z2 := b2.size
            have W2 : Hid (Ok w2) := W1.out.below b2
            go_wp2_with fail
            refine (char_ref _ _).mono ?_
            rintro e w3 ⟨rfl, rfl⟩
            go_wp2_with fail
            refine (known_any _ W2.out).mono ?_
            rintro e w4 ⟨rfl, b4⟩
            go_wp2_with fail
            go_ret
            exact ⟨rfl, (b1.trans (b2.mono (by omega))).trans (b4.mono (by omega))⟩
          · go_wp2_with fail
            rw [HZ.out]
            refine (unescape_v z _ hz W1.out ⟨#[]⟩ false HU).mono ?_
            rintro e w2 ⟨rfl, b2⟩
            have z2 := b2.size
            have W2 : Hid (Ok w2) := W1.out.below b2
            go_wp2_with fail
            refine (known_any _ W2.out).mono ?_
            rintro e w4 ⟨rfl, b4⟩
            go_wp2_with fail
            go_ret
            exact ⟨rfl, (b1.trans (b2.mono (by omega))).trans (b4.mono (by omega))⟩
        · have hrng := Sp.charB_range _ hc
          obtain ⟨y, HY⟩ : ∃ y : ByteArray, Hid (y = ⟨(Lib.encodeRune (n : Int)).toArray⟩) := ⟨(⟨(Lib.encodeRune (n : Int)).toArray⟩ : ByteArray), rfl⟩
          have HU : Hid (Sp.textV (Sp.unesc z.data.toList) = .tuple #[.string y, .bool true]) := by
            rw [HU0.out, if_pos h7, Sp.chk, hc, HY.out]
            exact rfl
          have HCH : Hid (Sp.charB (n : Int) = true) := hc
          go_wp2_with fail
          rw [HZ.out]
          refine (unescape_v z _ hz W1.out y true HU).mono ?_
          rintro e w2 ⟨rfl, b2⟩
          have z2 := b2.size
          have W2 : Hid (Ok w2) := W1.out.below b2
          have hcv := conv_rune n y w2 HCH.out HY.out
          go_wp2_with fail
          refine (char_ref _ _).mono ?_
          rintro e w3 ⟨rfl, rfl⟩
          go_wp2_with fail
          refine (known_any _ (W2.out.below ((Below.refl _ _).alloc (Nat.le_refl _) _))).mono ?_
          rintro e w4 ⟨rfl, b4⟩
          go_wp2_with fail
          go_ret
          exact ⟨rfl, ((b1.trans (b2.mono (by omega))).alloc (by omega) _).trans (b4.mono (by simp; omega))⟩
      · have HU : Hid (Sp.textV (Sp.unesc z.data.toList) = .tuple #[.string ⟨#[]⟩, .bool false]) := by
          rw [HU0.out, if_neg h7]
          exact rfl
        go_wp2_with fail
        rw [HZ.out]
        refine (unescape_v z _ hz W1.out ⟨#[]⟩ false HU).mono ?_
        rintro e w2 ⟨rfl, b2⟩
        have z2 := b2.size
        have W2 : Hid (Ok w2) := W1.out.below b2
        go_wp2_with fail
        refine (known_any _ W2.out).mono ?_
        rintro e w4 ⟨rfl, b4⟩
        go_wp2_with fail
        go_ret
        exact ⟨rfl, (b1.trans (b2.mono (by omega))).trans (b4.mono (by omega))⟩

theorem nameNumbers_walk (n : Int) (_hn : (Lit.int .i64 n).wf = true) (k : Int) (_hk : (Lit.int .i64 k).wf = true) (hex : Bool) (w : World) (hw : Ok w) :
    Calls Tryd.prog 6 #[.int .i64 n, .int .i64 k, .bool hex] w fun e w' => e = .returned (.bool true) ∧ Below w.heap.size w w' := by
  by_cases h1 : n < 0
  · clear hw
    go_enter Tryd.func6, Tryd.ntmps6
    go_wp2_with fail
    go_ret
    exact ⟨rfl, Below.refl _ _⟩
  by_cases h2 : 33554431 < n
  · clear hw
    go_enter Tryd.func6, Tryd.ntmps6
    go_wp2_with fail
    go_ret
    exact ⟨rfl, Below.refl _ _⟩
  by_cases h3 : k < 0
  · clear hw
    go_enter Tryd.func6, Tryd.ntmps6
    go_wp2_with fail
    go_ret
    exact ⟨rfl, Below.refl _ _⟩
  by_cases h4 : 8 < k
  · clear hw
    go_enter Tryd.func6, Tryd.ntmps6
    go_wp2_with fail
    go_ret
    exact ⟨rfl, Below.refl _ _⟩
  obtain ⟨n', rfl⟩ := Int.eq_ofNat_of_zero_le (show 0 ≤ n by omega)
  obtain ⟨k', rfl⟩ := Int.eq_ofNat_of_zero_le (show 0 ≤ k by omega)
  cases hex
  · exact nameNumbers_dec n' k' (by omega) (by omega) w hw
  · exact nameNumbers_hex n' k' (by omega) (by omega) w hw
end Go.Proofs.YtbcommnnnfilkaaDoor
