/-
  PLAIN: the document's way to read a text. No program in this text.
-/
import Derived.Test.YtbcommnnnfilkaaDoorPlain12
import Derived.Test.YtbcommnnnfilkaaDoorPlain11
import Derived.Laws.RangeAny
namespace Go.Proofs.YtbcommnnnfilkaaDoor
namespace Sp
open Go.Lib (decodeL encodeRune indexByte)
theorem getD_drop (l : List UInt8) (p k : Nat) : (l.drop p).getD k 0 = l.getD (p + k) 0 := by simp [List.getD, List.getElem?_drop]
def refN (l : List UInt8) : Option Int := if l.getD 0 0 = 120 then numb 16 (l.drop 1) else numb 10 l
theorem refd_sharp (u : List UInt8) : refd (35 :: u) = refN u := by
  unfold refN
  by_cases h : u.getD 0 0 = 120
  · rw [if_pos h]
    cases u with
    | nil => exact absurd h (by decide)
    | cons c t =>
      have e : c = 120 := h
      subst e
      rw [refd_hex]
      rfl
  · rw [if_neg h]
    have hp : Lib.hasPrefix (35 :: u) [35, 120] = false := by
      cases u with
      | nil => rfl
      | cons c t =>
        have hc : c ≠ 120 := h
        simp [Lib.hasPrefix, List.isPrefixOf]
        exact fun e => hc e.symm
    have hq : Lib.hasPrefix (35 :: u) [35] = true := by simp [Lib.hasPrefix, List.isPrefixOf]
    unfold refd
    rw [if_neg (by simp), if_neg (by simp), if_neg (by simp), if_neg (by simp), if_neg (by simp), hp, hq]
    rfl
theorem refd_other (l : List UInt8) (h : l.getD 0 0 ≠ 35) (h1 : ¬ l = [97, 109, 112]) (h2 : ¬ l = [108, 116]) (h3 : ¬ l = [103, 116]) (h4 : ¬ l = [113, 117, 111, 116]) (h5 : ¬ l = [97, 112, 111, 115]) : refd l = none := by
  have hp : Lib.hasPrefix l [35, 120] = false := by
    cases l with
    | nil => rfl
    | cons c t =>
      have hc : c ≠ 35 := h
      simp [Lib.hasPrefix, List.isPrefixOf]
      exact fun e => absurd e.symm hc
  have hq : Lib.hasPrefix l [35] = false := by
    cases l with
    | nil => rfl
    | cons c t =>
      have hc : c ≠ 35 := h
      simp [Lib.hasPrefix, List.isPrefixOf]
      exact fun e => absurd e.symm hc
  unfold refd
  rw [if_neg h1, if_neg h2, if_neg h3, if_neg h4, if_neg h5, hp, hq]
  rfl
def unr : Nat → List UInt8 → Option (List UInt8)
  | 0, _ => some []
  | _ + 1, [] => some []
  | f + 1, c :: t => if c ≠ 38 then (unr f t).map fun r => c :: r
    else if indexByte t 59 < 0 then none else ((refd (t.take (indexByte t 59).toNat)).map encodeRune).bind fun x => (unr f (t.drop ((indexByte t 59).toNat + 1))).map fun r => x ++ r
def unescR (l : List UInt8) : Option (List UInt8) := if signsB l = true then unr l.length l else none
theorem unr_nil (f : Nat) : unr f [] = some [] := by cases f <;> rfl
theorem unr_plain (f : Nat) (c : UInt8) (t : List UInt8) (h : c ≠ 38) : unr (f + 1) (c :: t) = (unr f t).map fun r => c :: r := by rw [unr, if_pos h]
theorem unr_open (f : Nat) (t : List UInt8) (h : indexByte t 59 < 0) : unr (f + 1) (38 :: t) = none := by rw [unr, if_neg (by simp), if_pos h]
theorem unr_ref (f : Nat) (t : List UInt8) (e : Nat) (h : indexByte t 59 = e) : unr (f + 1) (38 :: t) = ((refd (t.take e)).map encodeRune).bind fun x => (unr f (t.drop (e + 1))).map fun r => x ++ r := by
  rw [unr, if_neg (by simp), h, if_neg (by omega)]
  rfl
theorem unr_fuel : ∀ (f g : Nat) (l : List UInt8), l.length ≤ f → l.length ≤ g → unr f l = unr g l
  | 0, g, l, hf, _ => by
    have : l = [] := List.eq_nil_of_length_eq_zero (by omega)
    subst this
    rw [unr_nil, unr_nil]
  | f + 1, 0, l, _, hg => by
    have : l = [] := List.eq_nil_of_length_eq_zero (by omega)
    subst this
    rw [unr_nil, unr_nil]
  | f + 1, g + 1, [], _, _ => by rw [unr_nil, unr_nil]
  | f + 1, g + 1, c :: t, hf, hg => by
    simp only [List.length_cons] at hf hg
    by_cases hc : c = 38
    · subst hc
      by_cases hi : indexByte t 59 < 0
      · rw [unr_open f t hi, unr_open g t hi]
      · obtain ⟨e, he⟩ := Int.eq_ofNat_of_zero_le (show 0 ≤ indexByte t 59 by omega)
        rw [unr_ref f t e he, unr_ref g t e he, unr_fuel f g (t.drop (e + 1)) (by rw [List.length_drop]; omega) (by rw [List.length_drop]; omega)]
    · rw [unr_plain f c t hc, unr_plain g c t hc, unr_fuel f g t (by omega) (by omega)]
def unrA (l : List UInt8) : Option (List UInt8) := unr l.length l
theorem unrA_nil : unrA [] = some [] := rfl
theorem unrA_plain (c : UInt8) (t : List UInt8) (h : c ≠ 38) : unrA (c :: t) = (unrA t).map fun r => c :: r := by
  rw [unrA, List.length_cons, unr_plain _ c t h]
  rfl
theorem unrA_open (t : List UInt8) (h : indexByte t 59 < 0) : unrA (38 :: t) = none := by rw [unrA, List.length_cons, unr_open _ t h]
theorem unrA_ref (t : List UInt8) (e : Nat) (h : indexByte t 59 = e) : unrA (38 :: t) = ((refd (t.take e)).map encodeRune).bind fun x => (unrA (t.drop (e + 1))).map fun r => x ++ r := by
  rw [unrA, List.length_cons, unr_ref _ t e h, unrA, unr_fuel t.length (t.drop (e + 1)).length (t.drop (e + 1)) (by rw [List.length_drop]; omega) (by omega)]
theorem unrA_many (X : List UInt8) : ∀ l : List UInt8, (∀ c ∈ l, c ≠ 38) → unrA (l ++ X) = (unrA X).map fun r => l ++ r
  | [], _ => by cases h : unrA X <;> simp [h]
  | c :: t, h => by
    rw [List.cons_append, unrA_plain _ _ (h c (by simp)), unrA_many X t (fun x hx => h x (by simp [hx]))]
    cases unrA X <;> simp
/-! ### both ways are one -/
theorem numd_digits (base : Int) : ∀ (l : List UInt8) (acc r : Int), numd base acc l = some r → ∀ c ∈ l, 0 ≤ digZ (c.toNat : Int)
  | [], _, _, _, c, hc => by cases hc
  | b :: t, acc, r, h, c, hc => by
    by_cases hbad : digZ (b.toNat : Int) < 0 ∨ base ≤ digZ (b.toNat : Int)
    · rw [numd_bad _ _ _ _ hbad] at h
      cases h
    · rw [numd_ok _ _ _ _ hbad] at h
      rcases List.mem_cons.1 hc with rfl | hc
      · omega
      · exact numd_digits base t _ r h c hc
theorem digZ_ok (c : UInt8) (h : 0 ≤ digZ (c.toNat : Int)) : okByte c = true := by
  simp only [okByte, decide_eq_true_eq]
  unfold digZ at h
  split at h
  · omega
  · split at h
    · omega
    · split at h
      · omega
      · omega
theorem numb_ok (base : Int) (l : List UInt8) (r : Int) (h : numb base l = some r) : ∀ c ∈ l, okByte c = true := by
  unfold numb at h
  split at h
  · cases h
  · rw [Option.bind_eq_some_iff] at h
    obtain ⟨x, hx, _⟩ := h
    intro c hc
    exact digZ_ok c (numd_digits base l 0 x hx c hc)
theorem refd_ok (l : List UInt8) (r : Int) (h : refd l = some r) : ∀ c ∈ l, okByte c = true := by
  unfold refd at h
  split at h
  · next e => rw [e]; decide
  split at h
  · next e => rw [e]; decide
  split at h
  · next e => rw [e]; decide
  split at h
  · next e => rw [e]; decide
  split at h
  · next e => rw [e]; decide
  split at h
  · next e =>
    intro c hc
    have hp := numb_ok _ _ _ h
    match l, e, hc, hp with
    | a :: b :: t, e, hc, hp =>
      simp only [Lib.hasPrefix, List.isPrefixOf, Bool.and_eq_true, beq_iff_eq, Bool.and_true] at e
      obtain ⟨ea, eb⟩ := e
      rcases List.mem_cons.1 hc with rfl | hc
      · rw [← ea]; decide
      · rcases List.mem_cons.1 hc with rfl | hc
        · rw [← eb]; decide
        · exact hp c hc
  split at h
  · next e =>
    intro c hc
    have hp := numb_ok _ _ _ h
    match l, e, hc, hp with
    | a :: t, e, hc, hp =>
      simp only [Lib.hasPrefix, List.isPrefixOf, Bool.and_true, beq_iff_eq] at e
      rcases List.mem_cons.1 hc with rfl | hc
      · rw [← e]; decide
      · exact hp c hc
  · cases h
theorem signs_cons (c : UInt8) (t : List UInt8) (h : okByte c = true) : signsB (c :: t) = signsB t := by
  simp only [okByte, decide_eq_true_eq] at h
  rw [signsB_step (c :: t) (by simp), Lib.decodeL_ascii c t (by omega), if_neg]
  · rfl
  · rintro (⟨h1, _⟩ | h1)
    · have : c.toNat = 65533 := h1
      omega
    · revert h1
      simp only [charB, decide_eq_false_iff_not]
      omega
theorem signs_skip (X : List UInt8) : ∀ l : List UInt8, (∀ c ∈ l, okByte c = true) → signsB (l ++ X) = signsB X
  | [], _ => rfl
  | c :: t, h => by rw [List.cons_append, signs_cons c _ (h c (by simp)), signs_skip X t (fun x hx => h x (by simp [hx]))]
theorem cut_at (t : List UInt8) (e : Nat) (h : indexByte t 59 = e) : t = t.take e ++ 59 :: t.drop (e + 1) ∧ ∀ b ∈ t.take e, b ≠ 59 := by
  obtain ⟨h1, h2⟩ := Lib.indexByte_some h
  have hlt : e < t.length := (List.getElem?_eq_some_iff.1 h1).1
  refine ⟨?_, ?_⟩
  · conv => lhs; rw [← List.take_append_drop e t]
    rw [List.drop_eq_getElem_cons hlt]
    congr 2
    rw [List.getElem?_eq_getElem hlt] at h1
    exact Option.some.inj h1
  · intro b hb
    obtain ⟨j, hj, rfl⟩ := List.mem_iff_getElem.1 hb
    rw [List.length_take] at hj
    have := h2 j (by omega)
    rw [List.getElem_take]
    intro e2
    apply this
    rw [List.getElem?_eq_getElem (by omega), e2]
/-- The two ways to read a text are one. -/
theorem unesc_unr : ∀ (n : Nat) (l : List UInt8), l.length ≤ n → unesc l = if signsB l = true then unrA l else none
  | 0, l, hl => by
    have : l = [] := List.eq_nil_of_length_eq_zero (by omega)
    subst this
    rfl
  | n + 1, l, hl => by
    match l, hl with
    | [], _ => rfl
    | c :: t, hl =>
      simp only [List.length_cons] at hl
      have hne : c :: t ≠ [] := by simp
      by_cases h38 : c = 38
      · subst h38
        have hs : signsB (38 :: t) = signsB t := signs_cons 38 t (by decide)
        rw [hs]
        by_cases hi : indexByte t 59 < 0
        · have hf : frst (38 :: t) = none := by
            unfold frst
            rw [Lib.decodeL_ascii 38 t (by decide), if_pos (by rfl)]
            unfold refe
            rw [if_pos]
            rw [indexByte, if_neg (by decide), if_pos]
            · decide
            · have := Lib.indexByte_ge t 59
              rw [beq_iff_eq]
              omega
          rw [unesc_fail _ hne hf, unrA_open t hi]
          simp
        · obtain ⟨e, he⟩ := Int.eq_ofNat_of_zero_le (show 0 ≤ indexByte t 59 by omega)
          obtain ⟨hcut, hmid⟩ := cut_at t e he
          rw [unrA_ref t e he]
          cases hr : refd (t.take e) with
          | none =>
            have hf := frst_ref_none (t.take e) (t.drop (e + 1)) hmid hr
            rw [← hcut] at hf
            rw [unesc_fail _ hne hf]
            simp
          | some r =>
            have hu := unesc_ref (t.take e) (t.drop (e + 1)) r hmid hr
            rw [← hcut] at hu
            have hsk : signsB t = signsB (t.drop (e + 1)) := by
              conv => lhs; rw [hcut]
              rw [signs_skip _ _ (refd_ok _ r hr), signs_cons 59 _ (by decide)]
            rw [hu, unesc_unr n (t.drop (e + 1)) (by rw [List.length_drop]; omega), hsk]
            split
            · cases unrA (t.drop (e + 1)) <;> rfl
            · rfl
      · by_cases hbad : ((decodeL (c :: t)).1 = 65533 ∧ (decodeL (c :: t)).2 = 1) ∨ charB ((decodeL (c :: t)).1 : Int) = false
        · have hs : signsB (c :: t) = false := by rw [signsB_step _ hne, if_pos hbad]
          have hf : frst (c :: t) = none := by
            unfold frst
            by_cases hd : (decodeL (c :: t)).1 = 38
            · exfalso
              by_cases hc : c.toNat < 128
              · rw [Lib.decodeL_ascii c t hc] at hd
                exact h38 (UInt8.toNat_inj.1 (by simpa using hd))
              · have := decode_high ⟨(c :: t).toArray⟩ 0 (by simp [ByteArray.size]) (by show 128 ≤ c.toNat; omega)
                have h' : (Utf8.decode ⟨(c :: t).toArray⟩ 0).1 = 38 := hd
                omega
            · rw [if_neg hd, if_pos]
              rcases hbad with ⟨h1, h2⟩ | h1
              · exact Or.inl ⟨h1, by omega⟩
              · exact Or.inr h1
          rw [unesc_fail _ hne hf, hs]
          simp
        · have hv : ¬ ((decodeL (c :: t)).1 = 65533 ∧ (decodeL (c :: t)).2 = 1) := fun x => hbad (Or.inl x)
          have hch : charB ((decodeL (c :: t)).1 : Int) = true := by
            cases hx : charB ((decodeL (c :: t)).1 : Int)
            · exact absurd (Or.inr hx) hbad
            · rfl
          have hs : signsB (c :: t) = signsB ((c :: t).drop (decodeL (c :: t)).2) := by rw [signsB_step _ hne, if_neg hbad]
          have henc := Lib.encode_decode (c :: t) hne hv
          have hw := Lib.decodeL_width (c :: t)
          obtain ⟨r, hr⟩ : ∃ r : Int, r = ((decodeL (c :: t)).1 : Int) := ⟨_, rfl⟩
          obtain ⟨m, hm⟩ : ∃ m : Nat, m = (decodeL (c :: t)).2 := ⟨_, rfl⟩
          rw [← hr] at hch henc
          rw [← hm] at henc hs hw
          have hsplit : c :: t = encodeRune r ++ (c :: t).drop m := by rw [henc, List.take_append_drop]
          have hr38 : r ≠ 38 := by
            intro e
            by_cases hc : c.toNat < 128
            · rw [hr, Lib.decodeL_ascii c t hc] at e
              exact h38 (UInt8.toNat_inj.1 (by show c.toNat = 38; have : ((c.toNat : Nat) : Int) = 38 := e; omega))
            · have := decode_high ⟨(c :: t).toArray⟩ 0 (by simp [ByteArray.size]) (by show 128 ≤ c.toNat; omega)
              have h' : (((Utf8.decode ⟨(c :: t).toArray⟩ 0).1 : Nat) : Int) = 38 := by rw [← e, hr]; rfl
              omega
          have hbytes : ∀ b ∈ encodeRune r, b ≠ 38 := by
            intro b hb e
            have hrange := charB_range r hch
            by_cases h7 : r ≤ 127
            · rw [enc_ascii r (by omega) h7] at hb
              have e2 : b = r.toNat.toUInt8 := by simpa using hb
              rw [e2] at e
              have := congrArg UInt8.toNat e
              rw [byte_toNat r (by omega) (by omega)] at this
              have e3 : r.toNat = 38 := this
              omega
            · have := enc_high r (by omega) (by omega) b hb
              rw [e] at this
              exact absurd this (by decide)
          have hu := unesc_plain r hch hr38 ((c :: t).drop m)
          have hn := unrA_many ((c :: t).drop m) (encodeRune r) hbytes
          rw [← hsplit] at hu hn
          rw [hu, hn, hs, unesc_unr n ((c :: t).drop m) (by rw [List.length_drop, List.length_cons]; omega)]
          split <;> rfl
end Sp
end Go.Proofs.YtbcommnnnfilkaaDoor
