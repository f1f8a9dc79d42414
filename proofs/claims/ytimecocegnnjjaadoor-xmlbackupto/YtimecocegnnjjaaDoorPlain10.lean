/-
  PLAIN: what is written stands for what it was, second part. No program in this text.
-/
import Derived.Test.YtimecocegnnjjaaDoorPlain9
namespace Go.Proofs.YtimecocegnnjjaaDoor
namespace Sp
open Go.Lib (decodeL encodeRune encodeRuneZ indexByte)

theorem frst_ref (mid X : List UInt8) (r : Int) (hm : ∀ b ∈ mid, b ≠ 59) (h : refd mid = some r) : frst (38 :: (mid ++ 59 :: X)) = some (r, mid.length + 2) := by
  have hi : indexByte (38 :: (mid ++ 59 :: X)) 59 = ((38 :: mid).length : Nat) := by
    have := indexByte_behind 59 X (38 :: mid) (by
      intro b hb
      rcases List.mem_cons.1 hb with rfl | hb
      · decide
      · exact hm b hb)
    simpa using this
  unfold frst
  rw [Lib.decodeL_ascii 38 _ (by decide), if_pos (by rfl)]
  unfold refe
  rw [hi, if_neg (by omega)]
  have ht : ((38 :: (mid ++ 59 :: X)).take ((((38 :: mid).length : Nat) : Int)).toNat).drop 1 = mid := by
    rw [Int.toNat_natCast]
    simp
  rw [ht, h]
  simp
theorem unesc_ref (mid X : List UInt8) (r : Int) (hm : ∀ b ∈ mid, b ≠ 59) (h : refd mid = some r) : unesc (38 :: (mid ++ 59 :: X)) = (unesc X).map fun t => encodeRune r ++ t := by
  rw [unesc_step _ (by simp) r _ (frst_ref mid X r hm h)]
  have : (38 :: (mid ++ 59 :: X)).drop (mid.length + 2) = X := by simp
  rw [this]
theorem frst_plain (r : Int) (hr : charB r = true) (h38 : r ≠ 38) (X : List UInt8) : frst (encodeRune r ++ X) = some (r, (encodeRune r).length) := by
  have hd := decode_encode r hr X
  have hrange := charB_range r hr
  have hcr : ((r.toNat : Nat) : Int) = r := by omega
  unfold frst
  rw [hd]
  simp only [hcr, hr]
  rw [if_neg (by omega), if_neg]
  rintro (⟨h1, h2⟩ | h1)
  · have e1 : r = 65533 := by omega
    rw [e1] at h2
    revert h2
    decide
  · cases h1
theorem unesc_plain (r : Int) (hr : charB r = true) (h38 : r ≠ 38) (X : List UInt8) : unesc (encodeRune r ++ X) = (unesc X).map fun t => encodeRune r ++ t := by
  have hp := enc_pos r
  rw [unesc_step _ (fun e => by have := congrArg List.length e; rw [List.length_append, List.length_nil] at this; omega) r _ (frst_plain r hr h38 X), List.drop_left]
theorem esc_one (attr : Bool) (b : UInt8) : esc attr [b] = esc1 attr b := by simp [esc]
theorem unesc_written (attr : Bool) (r : Int) (hr : charB r = true) (X : List UInt8) : unesc (esc attr (encodeRune r) ++ X) = (unesc X).map fun t => encodeRune r ++ t := by
  have hrange := charB_range r hr
  by_cases h1 : r ≤ 127
  · have he := enc_ascii r (by omega) h1
    have hb : ((r.toNat.toUInt8).toNat : Int) = r := by rw [byte_toNat r (by omega) (by omega)]; omega
    by_cases hw : writ r attr = []
    · have h38 : r ≠ 38 := fun e => by
        rw [e] at hw
        simp [writ] at hw
      have e2 : esc attr (encodeRune r) = encodeRune r := by
        rw [he, esc_one, esc1_self _ _ (by rw [hb]; exact hw)]
      rw [e2, unesc_plain r hr h38 X]
    · have e2 : esc attr (encodeRune r) = writ r attr := by
        rw [he, esc_one, esc1_writ _ _ (by rw [hb]; exact hw), hb]
      rw [e2]
      by_cases c1 : r = 38
      · subst c1
        exact unesc_ref [97, 109, 112] X 38 (by decide) (by decide)
      by_cases c2 : r = 60
      · subst c2
        exact unesc_ref [108, 116] X 60 (by decide) (by decide)
      by_cases c3 : r = 62
      · subst c3
        exact unesc_ref [103, 116] X 62 (by decide) (by decide)
      cases attr
      · exact absurd (by simp [writ, c1, c2, c3]) hw
      by_cases c4 : r = 34
      · subst c4
        exact unesc_ref [113, 117, 111, 116] X 34 (by decide) (by decide)
      by_cases c5 : r = 9
      · subst c5
        exact unesc_ref [35, 57] X 9 (by decide) (by decide)
      by_cases c6 : r = 10
      · subst c6
        exact unesc_ref [35, 49, 48] X 10 (by decide) (by decide)
      by_cases c7 : r = 13
      · subst c7
        exact unesc_ref [35, 49, 51] X 13 (by decide) (by decide)
      exact absurd (by simp [writ, c1, c2, c3, c4, c5, c6, c7]) hw
  · rw [esc_high attr _ (enc_high r (by omega) (by omega)), unesc_plain r hr (by omega) X]
theorem unesc_esc (attr : Bool) (X : List UInt8) : ∀ rs : List Int, (∀ r ∈ rs, charB r = true) → unesc (esc attr (flat rs) ++ X) = (unesc X).map fun t => flat rs ++ t
  | [], _ => by
    show unesc ([] ++ X) = _
    cases h : unesc X <;> simp [flat, h]
  | r :: rs, h => by
    rw [flat_cons, esc_append, List.append_assoc, unesc_written attr r (h r (by simp)), unesc_esc attr X rs (fun x hx => h x (by simp [hx]))]
    cases unesc X <;> simp
/-- P1.3. -/
theorem unesc_back (attr : Bool) (l : List UInt8) (h : signsB l = true) : unesc (esc attr l) = some l := by
  obtain ⟨rs, h1, rfl⟩ := signs_flat l.length l (Nat.le_refl _) h
  have := unesc_esc attr [] rs h1
  rw [List.append_nil, unesc_nil] at this
  simpa using this
theorem unesc_tail (attr : Bool) (l X : List UInt8) (h : signsB l = true) : unesc (esc attr l ++ X) = (unesc X).map fun t => l ++ t := by
  obtain ⟨rs, h1, rfl⟩ := signs_flat l.length l (Nat.le_refl _) h
  exact unesc_esc attr X rs h1
theorem esc_mem (attr : Bool) (l : List UInt8) (b : UInt8) (hb : b ∈ esc attr l) : b.toNat ≠ 60 ∧ b.toNat ≠ 62 ∧ (attr = true → b.toNat ≠ 34 ∧ b.toNat ≠ 9 ∧ b.toNat ≠ 10 ∧ b.toNat ≠ 13) := by
  rw [esc, List.mem_flatMap] at hb
  obtain ⟨c, _, hb⟩ := hb
  by_cases hw : writ (c.toNat : Int) attr = []
  · rw [esc1_self attr c hw] at hb
    have e : b = c := by simpa using hb
    subst e
    refine ⟨fun e => ?_, fun e => ?_, ?_⟩
    · rw [e] at hw
      simp [writ] at hw
    · rw [e] at hw
      simp [writ] at hw
    · rintro rfl
      refine ⟨fun e => ?_, fun e => ?_, fun e => ?_, fun e => ?_⟩
      all_goals rw [e] at hw; simp [writ] at hw
  · rw [esc1_writ attr c hw] at hb
    have all : ∀ x ∈ writ (c.toNat : Int) attr, x.toNat ≠ 60 ∧ x.toNat ≠ 62 ∧ (attr = true → x.toNat ≠ 34 ∧ x.toNat ≠ 9 ∧ x.toNat ≠ 10 ∧ x.toNat ≠ 13) := by
      unfold writ
      repeat' split
      all_goals first | (intro x hx; cases hx; done) | (intro x hx; revert x; simp)
    exact all b hb
end Sp
end Go.Proofs.YtimecocegnnjjaaDoor
