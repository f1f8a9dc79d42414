/-
  PLAIN: signs by their numbers. No program in this text.
-/
import Derived.Test.YtbcommnnnfilkaaDoorPlain10
import Derived.Laws.Cover4
namespace Go.Proofs.YtbcommnnnfilkaaDoor
namespace Sp
open Go.Lib (decodeL encodeRune encodeRuneZ indexByte)

def hexl : List UInt8 := [48, 49, 50, 51, 52, 53, 54, 55, 56, 57, 97, 66, 99, 68, 101, 70]
def digs (base : Nat) : Nat → Nat → List UInt8
  | 0, _ => []
  | f + 1, n => if n < base then [hexl.getD n 0] else digs base f (n / base) ++ [hexl.getD (n % base) 0]
theorem hexl_dig (d : Nat) (h : d < 16) : digZ ((hexl.getD d 0).toNat : Int) = d := by
  have : d = 0 ∨ d = 1 ∨ d = 2 ∨ d = 3 ∨ d = 4 ∨ d = 5 ∨ d = 6 ∨ d = 7 ∨ d = 8 ∨ d = 9 ∨ d = 10 ∨ d = 11 ∨ d = 12 ∨ d = 13 ∨ d = 14 ∨ d = 15 := by omega
  rcases this with rfl | rfl | rfl | rfl | rfl | rfl | rfl | rfl | rfl | rfl | rfl | rfl | rfl | rfl | rfl | rfl <;> decide
theorem hexl_mem (d : Nat) (h : d < 16) : hexl.getD d 0 ≠ 59 ∧ hexl.getD d 0 ≠ 120 := by
  have : d = 0 ∨ d = 1 ∨ d = 2 ∨ d = 3 ∨ d = 4 ∨ d = 5 ∨ d = 6 ∨ d = 7 ∨ d = 8 ∨ d = 9 ∨ d = 10 ∨ d = 11 ∨ d = 12 ∨ d = 13 ∨ d = 14 ∨ d = 15 := by omega
  rcases this with rfl | rfl | rfl | rfl | rfl | rfl | rfl | rfl | rfl | rfl | rfl | rfl | rfl | rfl | rfl | rfl <;> decide
theorem numd_append (base : Int) : ∀ (l m : List UInt8) (acc : Int), numd base acc (l ++ m) = (numd base acc l).bind fun a => numd base a m
  | [], m, acc => rfl
  | c :: t, m, acc => by
    by_cases hbad : digZ (c.toNat : Int) < 0 ∨ base ≤ digZ (c.toNat : Int)
    · rw [List.cons_append, numd_bad _ _ _ _ hbad, numd_bad _ _ _ _ hbad]
      rfl
    · rw [List.cons_append, numd_ok _ _ _ _ hbad, numd_ok _ _ _ _ hbad, numd_append base t m]
theorem numd_digs (base : Nat) (hb : base = 10 ∨ base = 16) : ∀ (f n : Nat), n < f → numd base 0 (digs base f n) = some (n : Int)
  | 0, n, h => absurd h (by omega)
  | f + 1, n, h => by
    rw [digs]
    by_cases hn : n < base
    · rw [if_pos hn, numd_ok _ _ _ _ (by rw [hexl_dig n (by omega)]; omega), hexl_dig n (by omega)]
      simp [numd]
    · have hlt : n / base < n := Nat.div_lt_self (by omega) (by omega)
      have hm : n % base < base := Nat.mod_lt _ (by omega)
      rw [if_neg hn, numd_append, numd_digs base hb f (n / base) (by omega)]
      show numd base ((n / base : Nat) : Int) _ = _
      rw [numd_ok _ _ _ _ (by rw [hexl_dig _ (by omega)]; omega), hexl_dig _ (by omega), numd]
      congr 1
      have := Nat.div_add_mod n base
      rcases hb with rfl | rfl <;> omega
theorem numd_zeros (base : Int) (hb : 0 < base) (l : List UInt8) : ∀ k : Nat, numd base 0 (List.replicate k 48 ++ l) = numd base 0 l
  | 0 => rfl
  | k + 1 => by
    rw [List.replicate_succ, List.cons_append, numd_ok _ _ _ _ (by rw [(by decide : digZ (((48 : UInt8).toNat : Nat) : Int) = 0)]; omega), (by decide : digZ (((48 : UInt8).toNat : Nat) : Int) = 0)]
    simpa using numd_zeros base hb l k
theorem digs_mem (base : Nat) (hb : base = 10 ∨ base = 16) : ∀ (f n : Nat), ∀ c ∈ digs base f n, c ≠ 59 ∧ c ≠ 120
  | 0, _, c, hc => by simp [digs] at hc
  | f + 1, n, c, hc => by
    rw [digs] at hc
    split at hc
    · have e : c = hexl.getD n 0 := by simpa using hc
      rw [e]
      exact hexl_mem n (by omega)
    · rcases List.mem_append.1 hc with hc | hc
      · exact digs_mem base hb f (n / base) c hc
      · have e : c = hexl.getD (n % base) 0 := by simpa using hc
        rw [e]
        have hm : n % base < base := Nat.mod_lt _ (by omega)
        exact hexl_mem _ (by omega)
theorem digs_pos (base f n : Nat) : 1 ≤ (digs base (f + 1) n).length := by
  rw [digs]
  split <;> simp
theorem digs_len (base : Nat) (hb : 2 ≤ base) : ∀ (f n : Nat), (digs base f n).length ≤ n + 1
  | 0, n => by simp [digs]
  | f + 1, n => by
    rw [digs]
    split
    · simp
    · have h1 := digs_len base hb f (n / base)
      have h2 : n / base < n := Nat.div_lt_self (by omega) (by omega)
      simp
      omega
theorem digs_pow (base : Nat) (hb : 2 ≤ base) : ∀ (k f n : Nat), n < base ^ (k + 1) → (digs base f n).length ≤ k + 1
  | _, 0, n, _ => by simp [digs]
  | 0, f + 1, n, h => by
    rw [digs, if_pos (by simpa using h)]
    simp
  | k + 1, f + 1, n, h => by
    rw [digs]
    split
    · simp
    · have h2 : n / base < base ^ (k + 1) := by
        rw [Nat.div_lt_iff_lt_mul (by omega)]
        rw [Nat.pow_succ] at h
        exact h
      have h1 := digs_pow base hb k f (n / base) h2
      simp
      omega
theorem digs_fuel (base : Nat) (hb : base = 10 ∨ base = 16) : ∀ (f g n : Nat), n < f → n < g → digs base f n = digs base g n
  | 0, _, n, h, _ => absurd h (by omega)
  | _ + 1, 0, n, _, h => absurd h (by omega)
  | f + 1, g + 1, n, hf, hg => by
    rw [digs, digs]
    by_cases hn : n < base
    · rw [if_pos hn, if_pos hn]
    · have hlt : n / base < n := Nat.div_lt_self (by omega) (by omega)
      rw [if_neg hn, if_neg hn, digs_fuel base hb f g (n / base) (by omega) (by omega)]
theorem frst_ref_none (mid X : List UInt8) (hm : ∀ b ∈ mid, b ≠ 59) (h : refd mid = none) : frst (38 :: (mid ++ 59 :: X)) = none := by
  have hi : indexByte (38 :: (mid ++ 59 :: X)) 59 = ((38 :: mid).length : Nat) := by
    have := indexByte_behind 59 X (38 :: mid) (by
      intro b hb
      rcases List.mem_cons.1 hb with rfl | hb
      · decide
      · exact hm b hb)
    simpa using this
  unfold frst
  rw [Lib.decodeL_ascii 38 _ (by decide), if_pos (by rfl)]
  unfold refe
  rw [hi, if_neg (by omega)]
  have ht : ((38 :: (mid ++ 59 :: X)).take ((((38 :: mid).length : Nat) : Int)).toNat).drop 1 = mid := by
    rw [Int.toNat_natCast]
    simp
  rw [ht, h]
  rfl
theorem unesc_num (mid : List UInt8) (hm : ∀ b ∈ mid, b ≠ 59) : unesc (38 :: (mid ++ [59])) = (refd mid).map encodeRune := by
  cases h : refd mid with
  | none => rw [unesc_fail _ (by simp) (frst_ref_none mid [] hm h)]; rfl
  | some r =>
    rw [unesc_ref mid [] r hm h, unesc_nil]
    simp
theorem refd_dec (l : List UInt8) (h : ∀ c ∈ l, c ≠ 120) : refd (35 :: l) = numb 10 l := by
  have hp : Lib.hasPrefix (35 :: l) [35, 120] = false := by
    cases l with
    | nil => rfl
    | cons c t =>
      have := h c (by simp)
      simp [Lib.hasPrefix, List.isPrefixOf]
      exact fun e => this e.symm
  have hq : Lib.hasPrefix (35 :: l) [35] = true := by simp [Lib.hasPrefix, List.isPrefixOf]
  unfold refd
  rw [if_neg (by simp), if_neg (by simp), if_neg (by simp), if_neg (by simp), if_neg (by simp), hp, hq]
  rfl
theorem refd_hex (l : List UInt8) : refd (35 :: 120 :: l) = numb 16 l := by
  have hp : Lib.hasPrefix (35 :: 120 :: l) [35, 120] = true := by simp [Lib.hasPrefix, List.isPrefixOf]
  unfold refd
  rw [if_neg (by simp), if_neg (by simp), if_neg (by simp), if_neg (by simp), if_neg (by simp), hp]
  rfl
theorem numb_digs (base : Nat) (hb : base = 10 ∨ base = 16) (f n k : Nat) (h : n < f) (l : List UInt8) (hl : l = List.replicate k 48 ++ digs base f n) :
    numb base l = if l.length ≤ 7 then chk n else none := by
  have h1 : 1 ≤ l.length := by
    obtain ⟨g, rfl⟩ : ∃ g, f = g + 1 := ⟨f - 1, by omega⟩
    have := digs_pos base g n
    rw [hl, List.length_append]
    omega
  by_cases h7 : l.length ≤ 7
  · rw [if_pos h7, numb_of _ _ (by omega), hl, numd_zeros _ (by omega), numd_digs base hb f n h]
    rfl
  · rw [if_neg h7, numb_len _ _ (by omega)]
theorem byte_eq (a : Nat) (z : Int) (h : z.toNat = a) : UInt8.ofNat a = z.toNat.toUInt8 := by
  rw [h]
theorem encode_same (r : Int) (hc : charB r = true) : Utf8.encode r = ⟨(encodeRune r).toArray⟩ := by
  have hr : r = 9 ∨ r = 10 ∨ r = 13 ∨ (32 ≤ r ∧ r ≤ 55295) ∨ (57344 ≤ r ∧ r ≤ 65533) ∨ (65536 ≤ r ∧ r ≤ 1114111) := by simpa [charB] using hc
  obtain ⟨n, rfl⟩ := Int.eq_ofNat_of_zero_le (show 0 ≤ r by omega)
  have v : Utf8.valid (n : Int) = true := by
    simp [Utf8.valid]
    omega
  by_cases h1 : n < 128
  · rw [encodeRune, Lib.encodeRuneZ_one (by omega) (by omega)]
    unfold Utf8.encode
    simp only [v, if_true, Int.toNat_natCast]
    rw [if_pos (by omega)]
    show (⟨#[UInt8.ofNat (n)]⟩ : ByteArray) = ⟨#[((n : Int)).toNat.toUInt8]⟩
    rw [byte_eq (n) ((n : Int)) (by omega)]
  by_cases h2 : n < 2048
  · rw [encodeRune, Lib.encodeRuneZ_two (by omega) (by omega)]
    unfold Utf8.encode
    simp only [v, if_true, Int.toNat_natCast]
    rw [if_neg (by omega), if_pos (by omega)]
    show (⟨#[UInt8.ofNat (192 + n / 64), UInt8.ofNat (128 + n % 64)]⟩ : ByteArray) = ⟨#[(192 + (n : Int) / 64).toNat.toUInt8, (128 + (n : Int) % 64).toNat.toUInt8]⟩
    rw [byte_eq (192 + n / 64) (192 + (n : Int) / 64) (by omega), byte_eq (128 + n % 64) (128 + (n : Int) % 64) (by omega)]
  by_cases h3 : n < 65536
  · rw [encodeRune, Lib.encodeRuneZ_three (by omega)]
    unfold Utf8.encode
    simp only [v, if_true, Int.toNat_natCast]
    rw [if_neg (by omega), if_neg (by omega), if_pos (by omega)]
    show (⟨#[UInt8.ofNat (224 + n / 4096), UInt8.ofNat (128 + n / 64 % 64), UInt8.ofNat (128 + n % 64)]⟩ : ByteArray) = ⟨#[(224 + (n : Int) / 4096).toNat.toUInt8, (128 + (n : Int) / 64 % 64).toNat.toUInt8, (128 + (n : Int) % 64).toNat.toUInt8]⟩
    rw [byte_eq (224 + n / 4096) (224 + (n : Int) / 4096) (by omega), byte_eq (128 + n / 64 % 64) (128 + (n : Int) / 64 % 64) (by omega), byte_eq (128 + n % 64) (128 + (n : Int) % 64) (by omega)]
  · rw [encodeRune, Lib.encodeRuneZ_four (by omega) (by omega)]
    unfold Utf8.encode
    simp only [v, if_true, Int.toNat_natCast]
    rw [if_neg (by omega), if_neg (by omega), if_neg (by omega)]
    show (⟨#[UInt8.ofNat (240 + n / 262144), UInt8.ofNat (128 + n / 4096 % 64), UInt8.ofNat (128 + n / 64 % 64), UInt8.ofNat (128 + n % 64)]⟩ : ByteArray) = ⟨#[(240 + (n : Int) / 262144).toNat.toUInt8, (128 + (n : Int) / 4096 % 64).toNat.toUInt8, (128 + (n : Int) / 64 % 64).toNat.toUInt8, (128 + (n : Int) % 64).toNat.toUInt8]⟩
    rw [byte_eq (240 + n / 262144) (240 + (n : Int) / 262144) (by omega), byte_eq (128 + n / 4096 % 64) (128 + (n : Int) / 4096 % 64) (by omega), byte_eq (128 + n / 64 % 64) (128 + (n : Int) / 64 % 64) (by omega), byte_eq (128 + n % 64) (128 + (n : Int) % 64) (by omega)]
theorem unesc_dec (x : List UInt8) (n k : Nat) (hx : x = List.replicate k 48 ++ digs 10 (n + 1) n) : unesc ([38, 35] ++ x ++ [59]) = if x.length ≤ 7 then (chk n).map encodeRune else none := by
  have hm : ∀ c ∈ x, c ≠ 59 ∧ c ≠ 120 := by
    intro c hc
    rw [hx] at hc
    rcases List.mem_append.1 hc with hc | hc
    · rw [(List.mem_replicate.1 hc).2]
      decide
    · exact digs_mem 10 (Or.inl rfl) _ _ c hc
  have e : [38, 35] ++ x ++ [59] = 38 :: ((35 :: x) ++ [59]) := by simp
  rw [e, unesc_num (35 :: x) (by
    intro b hb
    rcases List.mem_cons.1 hb with rfl | hb
    · decide
    · exact (hm b hb).1), refd_dec x (fun c hc => (hm c hc).2)]
  have := numb_digs 10 (Or.inl rfl) (n + 1) n k (by omega) x hx
  rw [show ((10 : Nat) : Int) = 10 from rfl] at this
  rw [this]
  split <;> rfl
theorem unesc_hex (x : List UInt8) (n k : Nat) (hx : x = List.replicate k 48 ++ digs 16 (n + 1) n) : unesc ([38, 35, 120] ++ x ++ [59]) = if x.length ≤ 7 then (chk n).map encodeRune else none := by
  have hm : ∀ c ∈ x, c ≠ 59 ∧ c ≠ 120 := by
    intro c hc
    rw [hx] at hc
    rcases List.mem_append.1 hc with hc | hc
    · rw [(List.mem_replicate.1 hc).2]
      decide
    · exact digs_mem 16 (Or.inr rfl) _ _ c hc
  have e : [38, 35, 120] ++ x ++ [59] = 38 :: ((35 :: 120 :: x) ++ [59]) := by simp
  rw [e, unesc_num (35 :: 120 :: x) (by
    intro b hb
    rcases List.mem_cons.1 hb with rfl | hb
    · decide
    · rcases List.mem_cons.1 hb with rfl | hb
      · decide
      · exact (hm b hb).1), refd_hex x]
  have := numb_digs 16 (Or.inr rfl) (n + 1) n k (by omega) x hx
  rw [show ((16 : Nat) : Int) = 16 from rfl] at this
  rw [this]
  split <;> rfl
end Sp
end Go.Proofs.YtbcommnnnfilkaaDoor
