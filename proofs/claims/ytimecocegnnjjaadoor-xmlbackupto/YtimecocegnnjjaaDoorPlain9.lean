/-
  PLAIN: what is written stands for what it was. No program in this text.
-/
import Derived.Test.YtimecocegnnjjaaDoorPartA
namespace Go.Proofs.YtimecocegnnjjaaDoor
namespace Sp
open Go.Lib (decodeL encodeRune encodeRuneZ indexByte)

theorem byte_toNat (z : Int) (_h0 : 0 ≤ z) (h1 : z < 256) : (z.toNat.toUInt8).toNat = z.toNat := by
  simp
  omega
theorem enc_ascii (r : Int) (h0 : 0 ≤ r) (h1 : r ≤ 127) : encodeRune r = [r.toNat.toUInt8] := by
  rw [encodeRune, Lib.encodeRuneZ_one h0 h1]
  rfl
theorem getD_cons0 (a : UInt8) (l : List UInt8) : (a :: l).getD 0 0 = a := rfl
theorem getD_cons1 (a b : UInt8) (l : List UInt8) : (a :: b :: l).getD 1 0 = b := rfl
theorem getD_cons2 (a b c : UInt8) (l : List UInt8) : (a :: b :: c :: l).getD 2 0 = c := rfl
theorem getD_cons3 (a b c d : UInt8) (l : List UInt8) : (a :: b :: c :: d :: l).getD 3 0 = d := rfl
theorem decode_encode (r : Int) (hc : charB r = true) (X : List UInt8) : decodeL (encodeRune r ++ X) = (r.toNat, (encodeRune r).length) := by
  have hr : r = 9 ∨ r = 10 ∨ r = 13 ∨ (32 ≤ r ∧ r ≤ 55295) ∨ (57344 ≤ r ∧ r ≤ 65533) ∨ (65536 ≤ r ∧ r ≤ 1114111) := by simpa [charB] using hc
  by_cases h1 : r ≤ 127
  · rw [enc_ascii r (by omega) h1]
    have := Lib.decodeL_ascii r.toNat.toUInt8 X (by rw [byte_toNat r (by omega) (by omega)]; omega)
    rw [byte_toNat r (by omega) (by omega)] at this
    exact this
  by_cases h2 : r ≤ 2047
  · rw [encodeRune, Lib.encodeRuneZ_two (by omega) h2]
    simp only [List.map_cons, List.map_nil, List.cons_append, List.nil_append]
    rw [Lib.decodeL_N, getD_cons0, getD_cons1, byte_toNat _ (by omega) (by omega), byte_toNat _ (by omega) (by omega)]
    unfold Lib.decodeN
    rw [if_neg (by omega), if_pos ⟨by omega, by simp, by omega⟩, if_pos (by omega)]
    exact Prod.ext (by show _ = r.toNat; omega) rfl
  by_cases h3 : r ≤ 65535
  · rw [encodeRune, Lib.encodeRuneZ_three (by omega)]
    simp only [List.map_cons, List.map_nil, List.cons_append, List.nil_append]
    rw [Lib.decodeL_N, getD_cons0, getD_cons1, getD_cons2, byte_toNat _ (by omega) (by omega), byte_toNat _ (by omega) (by omega), byte_toNat _ (by omega) (by omega)]
    unfold Lib.decodeN
    rw [if_neg (by omega), if_neg (by omega), if_pos ⟨by omega, ⟨by simp, by omega⟩, ⟨by simp, by omega⟩⟩, if_pos (by omega)]
    exact Prod.ext (by show _ = r.toNat; omega) rfl
  · rw [encodeRune, Lib.encodeRuneZ_four (by omega) (by omega)]
    simp only [List.map_cons, List.map_nil, List.cons_append, List.nil_append]
    rw [Lib.decodeL_N, getD_cons0, getD_cons1, getD_cons2, getD_cons3, byte_toNat _ (by omega) (by omega), byte_toNat _ (by omega) (by omega), byte_toNat _ (by omega) (by omega), byte_toNat _ (by omega) (by omega)]
    unfold Lib.decodeN
    rw [if_neg (by omega), if_neg (by omega), if_neg (by omega), if_pos ⟨by omega, ⟨by simp, by omega⟩, ⟨by simp, by omega⟩, ⟨by simp, by omega⟩⟩, if_pos (by omega)]
    exact Prod.ext (by show _ = r.toNat; omega) rfl

def flat (rs : List Int) : List UInt8 := rs.flatMap encodeRune
theorem flat_cons (r : Int) (rs : List Int) : flat (r :: rs) = encodeRune r ++ flat rs := by simp [flat]
theorem flat_append (a b : List Int) : flat (a ++ b) = flat a ++ flat b := by simp [flat]
theorem enc_pos (r : Int) : 1 ≤ (encodeRune r).length := by
  have := Lib.encodeRuneZ_length r
  simpa [encodeRune] using this.1
/-- A text of signs is its signs, one behind the other. -/
theorem signs_flat : ∀ (n : Nat) (l : List UInt8), l.length ≤ n → signsB l = true → ∃ rs : List Int, (∀ r ∈ rs, charB r = true) ∧ l = flat rs
  | 0, l, hl, _ => by
    have : l = [] := List.eq_nil_of_length_eq_zero (by omega)
    subst this
    exact ⟨[], by simp, rfl⟩
  | n + 1, l, hl, h => by
    by_cases hne : l = []
    · subst hne
      exact ⟨[], by simp, rfl⟩
    · have hw := Lib.decodeL_width l
      have hlen : 0 < l.length := List.length_pos_iff.2 hne
      rw [signsB_step l hne] at h
      split at h
      · cases h
      · next hbad =>
        have hv : ¬ ((decodeL l).1 = 65533 ∧ (decodeL l).2 = 1) := fun x => hbad (Or.inl x)
        have hch : charB ((decodeL l).1 : Int) = true := by
          cases hx : charB ((decodeL l).1 : Int)
          · exact absurd (Or.inr hx) hbad
          · rfl
        obtain ⟨rs, h1, h2⟩ := signs_flat n (l.drop (decodeL l).2) (by rw [List.length_drop]; omega) h
        refine ⟨((decodeL l).1 : Int) :: rs, ?_, ?_⟩
        · intro r hr
          rcases List.mem_cons.1 hr with rfl | hr
          · exact hch
          · exact h1 r hr
        · rw [flat_cons, ← h2, Lib.encode_decode l hne hv, List.take_append_drop]
theorem flat_signs : ∀ rs : List Int, (∀ r ∈ rs, charB r = true) → signsB (flat rs) = true
  | [], _ => signsB_nil
  | r :: rs, h => by
    have hr := h r (by simp)
    have hp := enc_pos r
    have hne : flat (r :: rs) ≠ [] := by
      rw [flat_cons]
      intro e
      have := congrArg List.length e
      rw [List.length_append, List.length_nil] at this
      omega
    have hd := decode_encode r hr (flat rs)
    have hrange := charB_range r hr
    rw [signsB_step _ hne, flat_cons, hd]
    have hcr : ((r.toNat : Nat) : Int) = r := by omega
    rw [if_neg]
    · simp only [List.drop_left]
      exact flat_signs rs (fun x hx => h x (by simp [hx]))
    · simp only [hcr, hr]
      rintro (⟨h1, h2⟩ | h1)
      · have e1 : r = 65533 := by omega
        rw [e1] at h2
        revert h2
        decide
      · cases h1
theorem unes_fuel : ∀ (f g : Nat) (l : List UInt8), l.length ≤ f → l.length ≤ g → unes f l = unes g l
  | 0, g, l, hf, _ => by
    have : l = [] := List.eq_nil_of_length_eq_zero (by omega)
    subst this
    rw [unes_nil, unes_nil]
  | f + 1, 0, l, _, hg => by
    have : l = [] := List.eq_nil_of_length_eq_zero (by omega)
    subst this
    rw [unes_nil, unes_nil]
  | f + 1, g + 1, l, hf, hg => by
    by_cases hne : l = []
    · subst hne
      rw [unes_nil, unes_nil]
    · cases hx : frst l with
      | none => rw [unes_fail f l hne hx, unes_fail g l hne hx]
      | some p =>
        obtain ⟨r, n⟩ := p
        have hok := frst_ok l hne r n hx
        rw [unes_step f l hne r n hx, unes_step g l hne r n hx, unes_fuel f g (l.drop n) (by rw [List.length_drop]; omega) (by rw [List.length_drop]; omega)]
theorem unesc_step (l : List UInt8) (hne : l ≠ []) (r : Int) (n : Nat) (h : frst l = some (r, n)) : unesc l = (unesc (l.drop n)).map fun t => encodeRune r ++ t := by
  have hok := frst_ok l hne r n h
  obtain ⟨f, hf⟩ : ∃ f, l.length = f + 1 := ⟨l.length - 1, by omega⟩
  rw [unesc, hf, unes_step f l hne r n h, unesc, unes_fuel f (l.drop n).length (l.drop n) (by rw [List.length_drop]; omega) (by omega)]
theorem unesc_fail (l : List UInt8) (hne : l ≠ []) (h : frst l = none) : unesc l = none := by
  have hlen : 0 < l.length := List.length_pos_iff.2 hne
  obtain ⟨f, hf⟩ : ∃ f, l.length = f + 1 := ⟨l.length - 1, by omega⟩
  rw [unesc, hf, unes_fail f l hne h]
theorem unesc_nil : unesc [] = some [] := rfl

theorem writ_none (c : Int) (attr : Bool) (h : 128 ≤ c) : writ c attr = [] := by
  unfold writ
  rw [if_neg (by omega), if_neg (by omega), if_neg (by omega)]
  cases attr
  · rfl
  · rw [if_neg (by simp), if_neg (by omega), if_neg (by omega), if_neg (by omega), if_neg (by omega)]
theorem esc_high (attr : Bool) : ∀ l : List UInt8, (∀ b ∈ l, 128 ≤ b.toNat) → esc attr l = l
  | [], _ => rfl
  | b :: t, h => by
    rw [esc_cons, esc_high attr t (fun x hx => h x (by simp [hx])), esc1_self attr b (writ_none _ _ (by have := h b (by simp); omega))]
    rfl
theorem enc_high (r : Int) (h0 : 128 ≤ r) (h1 : r ≤ 1114111) : ∀ b ∈ encodeRune r, 128 ≤ b.toNat := by
  intro b hb
  rw [encodeRune, List.mem_map] at hb
  obtain ⟨z, hz, rfl⟩ := hb
  have h2 := Lib.encodeRuneZ_byte r z hz
  rw [byte_toNat z h2.1 h2.2]
  unfold Lib.encodeRuneZ at hz
  rw [if_neg (by omega)] at hz
  split at hz
  · simp at hz
    omega
  · split at hz
    · simp at hz
      omega
    · split at hz
      · simp at hz
        omega
      · simp at hz
        omega
end Sp
end Go.Proofs.YtimecocegnnjjaaDoor
