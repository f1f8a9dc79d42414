/-
  Several texts in one: each opens with its own word.
-/
import Derived.Test.YtkcpaigogekimabDoorPartA
import Derived.Test.YtkcpaigogekimabDoorShelf2
/-
  PLAIN: what is written stands for what it was. No program in this text.
-/
namespace Go.Proofs.YtkcpaigogekimabDoor
namespace Sp
open Go.Lib (decodeL encodeRune encodeRuneZ indexByte)

theorem byte_toNat (z : Int) (_h0 : 0 ≤ z) (h1 : z < 256) : (z.toNat.toUInt8).toNat = z.toNat := by
  simp
  omega
theorem enc_ascii (r : Int) (h0 : 0 ≤ r) (h1 : r ≤ 127) : encodeRune r = [r.toNat.toUInt8] := by
  rw [encodeRune, Lib.encodeRuneZ_one h0 h1]
  rfl
theorem getD_cons0 (a : UInt8) (l : List UInt8) : (a :: l).getD 0 0 = a := rfl
theorem getD_cons1 (a b : UInt8) (l : List UInt8) : (a :: b :: l).getD 1 0 = b := rfl
theorem getD_cons2 (a b c : UInt8) (l : List UInt8) : (a :: b :: c :: l).getD 2 0 = c := rfl
theorem getD_cons3 (a b c d : UInt8) (l : List UInt8) : (a :: b :: c :: d :: l).getD 3 0 = d := rfl
theorem decode_encode (r : Int) (hc : charB r = true) (X : List UInt8) : decodeL (encodeRune r ++ X) = (r.toNat, (encodeRune r).length) := by
  have hr : r = 9 ∨ r = 10 ∨ r = 13 ∨ (32 ≤ r ∧ r ≤ 55295) ∨ (57344 ≤ r ∧ r ≤ 65533) ∨ (65536 ≤ r ∧ r ≤ 1114111) := by simpa [charB] using hc
  by_cases h1 : r ≤ 127
  · rw [enc_ascii r (by omega) h1]
    have := Lib.decodeL_ascii r.toNat.toUInt8 X (by rw [byte_toNat r (by omega) (by omega)]; omega)
    rw [byte_toNat r (by omega) (by omega)] at this
    exact this
  by_cases h2 : r ≤ 2047
  · rw [encodeRune, Lib.encodeRuneZ_two (by omega) h2]
    simp only [List.map_cons, List.map_nil, List.cons_append, List.nil_append]
    rw [Lib.decodeL_N, getD_cons0, getD_cons1, byte_toNat _ (by omega) (by omega), byte_toNat _ (by omega) (by omega)]
    unfold Lib.decodeN
    rw [if_neg (by omega), if_pos ⟨by omega, by simp, by omega⟩, if_pos (by omega)]
    exact Prod.ext (by show _ = r.toNat; omega) rfl
  by_cases h3 : r ≤ 65535
  · rw [encodeRune, Lib.encodeRuneZ_three (by omega)]
    simp only [List.map_cons, List.map_nil, List.cons_append, List.nil_append]
    rw [Lib.decodeL_N, getD_cons0, getD_cons1, getD_cons2, byte_toNat _ (by omega) (by omega), byte_toNat _ (by omega) (by omega), byte_toNat _ (by omega) (by omega)]
    unfold Lib.decodeN
    rw [if_neg (by omega), if_neg (by omega), if_pos ⟨by omega, ⟨by simp, by omega⟩, ⟨by simp, by omega⟩⟩, if_pos (by omega)]
    exact Prod.ext (by show _ = r.toNat; omega) rfl
  · rw [encodeRune, Lib.encodeRuneZ_four (by omega) (by omega)]
    simp only [List.map_cons, List.map_nil, List.cons_append, List.nil_append]
    rw [Lib.decodeL_N, getD_cons0, getD_cons1, getD_cons2, getD_cons3, byte_toNat _ (by omega) (by omega), byte_toNat _ (by omega) (by omega), byte_toNat _ (by omega) (by omega), byte_toNat _ (by omega) (by omega)]
    unfold Lib.decodeN
    rw [if_neg (by omega), if_neg (by omega), if_neg (by omega), if_pos ⟨by omega, ⟨by simp, by omega⟩, ⟨by simp, by omega⟩, ⟨by simp, by omega⟩⟩, if_pos (by omega)]
    exact Prod.ext (by show _ = r.toNat; omega) rfl

def flat (rs : List Int) : List UInt8 := rs.flatMap encodeRune
theorem flat_cons (r : Int) (rs : List Int) : flat (r :: rs) = encodeRune r ++ flat rs := by simp [flat]
theorem flat_append (a b : List Int) : flat (a ++ b) = flat a ++ flat b := by simp [flat]
theorem enc_pos (r : Int) : 1 ≤ (encodeRune r).length := by
  have := Lib.encodeRuneZ_length r
  simpa [encodeRune] using this.1
/-- A text of signs is its signs, one behind the other. -/
theorem signs_flat : ∀ (n : Nat) (l : List UInt8), l.length ≤ n → signsB l = true → ∃ rs : List Int, (∀ r ∈ rs, charB r = true) ∧ l = flat rs
  | 0, l, hl, _ => by
    have : l = [] := List.eq_nil_of_length_eq_zero (by omega)
    subst this
    exact ⟨[], by simp, rfl⟩
  | n + 1, l, hl, h => by
    by_cases hne : l = []
    · subst hne
      exact ⟨[], by simp, rfl⟩
    · have hw := Lib.decodeL_width l
      have hlen : 0 < l.length := List.length_pos_iff.2 hne
      rw [signsB_step l hne] at h
      split at h
      · cases h
      · next hbad =>
        have hv : ¬ ((decodeL l).1 = 65533 ∧ (decodeL l).2 = 1) := fun x => hbad (Or.inl x)
        have hch : charB ((decodeL l).1 : Int) = true := by
          cases hx : charB ((decodeL l).1 : Int)
          · exact absurd (Or.inr hx) hbad
          · rfl
        obtain ⟨rs, h1, h2⟩ := signs_flat n (l.drop (decodeL l).2) (by rw [List.length_drop]; omega) h
        refine ⟨((decodeL l).1 : Int) :: rs, ?_, ?_⟩
        · intro r hr
          rcases List.mem_cons.1 hr with rfl | hr
          · exact hch
          · exact h1 r hr
        · rw [flat_cons, ← h2, Lib.encode_decode l hne hv, List.take_append_drop]
theorem flat_signs : ∀ rs : List Int, (∀ r ∈ rs, charB r = true) → signsB (flat rs) = true
  | [], _ => signsB_nil
  | r :: rs, h => by
    have hr := h r (by simp)
    have hp := enc_pos r
    have hne : flat (r :: rs) ≠ [] := by
      rw [flat_cons]
      intro e
      have := congrArg List.length e
      rw [List.length_append, List.length_nil] at this
      omega
    have hd := decode_encode r hr (flat rs)
    have hrange := charB_range r hr
    rw [signsB_step _ hne, flat_cons, hd]
    have hcr : ((r.toNat : Nat) : Int) = r := by omega
    rw [if_neg]
    · simp only [List.drop_left]
      exact flat_signs rs (fun x hx => h x (by simp [hx]))
    · simp only [hcr, hr]
      rintro (⟨h1, h2⟩ | h1)
      · have e1 : r = 65533 := by omega
        rw [e1] at h2
        revert h2
        decide
      · cases h1
theorem unes_fuel : ∀ (f g : Nat) (l : List UInt8), l.length ≤ f → l.length ≤ g → unes f l = unes g l
  | 0, g, l, hf, _ => by
    have : l = [] := List.eq_nil_of_length_eq_zero (by omega)
    subst this
    rw [unes_nil, unes_nil]
  | f + 1, 0, l, _, hg => by
    have : l = [] := List.eq_nil_of_length_eq_zero (by omega)
    subst this
    rw [unes_nil, unes_nil]
  | f + 1, g + 1, l, hf, hg => by
    by_cases hne : l = []
    · subst hne
      rw [unes_nil, unes_nil]
    · cases hx : frst l with
      | none => rw [unes_fail f l hne hx, unes_fail g l hne hx]
      | some p =>
        obtain ⟨r, n⟩ := p
        have hok := frst_ok l hne r n hx
        rw [unes_step f l hne r n hx, unes_step g l hne r n hx, unes_fuel f g (l.drop n) (by rw [List.length_drop]; omega) (by rw [List.length_drop]; omega)]
theorem unesc_step (l : List UInt8) (hne : l ≠ []) (r : Int) (n : Nat) (h : frst l = some (r, n)) : unesc l = (unesc (l.drop n)).map fun t => encodeRune r ++ t := by
  have hok := frst_ok l hne r n h
  obtain ⟨f, hf⟩ : ∃ f, l.length = f + 1 := ⟨l.length - 1, by omega⟩
  rw [unesc, hf, unes_step f l hne r n h, unesc, unes_fuel f (l.drop n).length (l.drop n) (by rw [List.length_drop]; omega) (by omega)]
theorem unesc_fail (l : List UInt8) (hne : l ≠ []) (h : frst l = none) : unesc l = none := by
  have hlen : 0 < l.length := List.length_pos_iff.2 hne
  obtain ⟨f, hf⟩ : ∃ f, l.length = f + 1 := ⟨l.length - 1, by omega⟩
  rw [unesc, hf, unes_fail f l hne h]
theorem unesc_nil : unesc [] = some [] := rfl

theorem writ_none (c : Int) (attr : Bool) (h : 128 ≤ c) : writ c attr = [] := by
  unfold writ
  rw [if_neg (by omega), if_neg (by omega), if_neg (by omega)]
  cases attr
  · rfl
  · rw [if_neg (by simp), if_neg (by omega), if_neg (by omega), if_neg (by omega), if_neg (by omega)]
theorem esc_high (attr : Bool) : ∀ l : List UInt8, (∀ b ∈ l, 128 ≤ b.toNat) → esc attr l = l
  | [], _ => rfl
  | b :: t, h => by
    rw [esc_cons, esc_high attr t (fun x hx => h x (by simp [hx])), esc1_self attr b (writ_none _ _ (by have := h b (by simp); omega))]
    rfl
theorem enc_high (r : Int) (h0 : 128 ≤ r) (h1 : r ≤ 1114111) : ∀ b ∈ encodeRune r, 128 ≤ b.toNat := by
  intro b hb
  rw [encodeRune, List.mem_map] at hb
  obtain ⟨z, hz, rfl⟩ := hb
  have h2 := Lib.encodeRuneZ_byte r z hz
  rw [byte_toNat z h2.1 h2.2]
  unfold Lib.encodeRuneZ at hz
  rw [if_neg (by omega)] at hz
  split at hz
  · simp at hz
    omega
  · split at hz
    · simp at hz
      omega
    · split at hz
      · simp at hz
        omega
      · simp at hz
        omega
end Sp
end Go.Proofs.YtkcpaigogekimabDoor
/-
  PLAIN: what is written stands for what it was, second part. No program in this text.
-/
namespace Go.Proofs.YtkcpaigogekimabDoor
namespace Sp
open Go.Lib (decodeL encodeRune encodeRuneZ indexByte)

theorem frst_ref (mid X : List UInt8) (r : Int) (hm : ∀ b ∈ mid, b ≠ 59) (h : refd mid = some r) : frst (38 :: (mid ++ 59 :: X)) = some (r, mid.length + 2) := by
  have hi : indexByte (38 :: (mid ++ 59 :: X)) 59 = ((38 :: mid).length : Nat) := by
    have := indexByte_behind 59 X (38 :: mid) (by
      intro b hb
      rcases List.mem_cons.1 hb with rfl | hb
      · decide
      · exact hm b hb)
    simpa using this
  unfold frst
  rw [Lib.decodeL_ascii 38 _ (by decide), if_pos (by rfl)]
  unfold refe
  rw [hi, if_neg (by omega)]
  have ht : ((38 :: (mid ++ 59 :: X)).take ((((38 :: mid).length : Nat) : Int)).toNat).drop 1 = mid := by
    rw [Int.toNat_natCast]
    simp
  rw [ht, h]
  simp
theorem unesc_ref (mid X : List UInt8) (r : Int) (hm : ∀ b ∈ mid, b ≠ 59) (h : refd mid = some r) : unesc (38 :: (mid ++ 59 :: X)) = (unesc X).map fun t => encodeRune r ++ t := by
  rw [unesc_step _ (by simp) r _ (frst_ref mid X r hm h)]
  have : (38 :: (mid ++ 59 :: X)).drop (mid.length + 2) = X := by simp
  rw [this]
theorem frst_plain (r : Int) (hr : charB r = true) (h38 : r ≠ 38) (X : List UInt8) : frst (encodeRune r ++ X) = some (r, (encodeRune r).length) := by
  have hd := decode_encode r hr X
  have hrange := charB_range r hr
  have hcr : ((r.toNat : Nat) : Int) = r := by omega
  unfold frst
  rw [hd]
  simp only [hcr, hr]
  rw [if_neg (by omega), if_neg]
  rintro (⟨h1, h2⟩ | h1)
  · have e1 : r = 65533 := by omega
    rw [e1] at h2
    revert h2
    decide
  · cases h1
theorem unesc_plain (r : Int) (hr : charB r = true) (h38 : r ≠ 38) (X : List UInt8) : unesc (encodeRune r ++ X) = (unesc X).map fun t => encodeRune r ++ t := by
  have hp := enc_pos r
  rw [unesc_step _ (fun e => by have := congrArg List.length e; rw [List.length_append, List.length_nil] at this; omega) r _ (frst_plain r hr h38 X), List.drop_left]
theorem esc_one (attr : Bool) (b : UInt8) : esc attr [b] = esc1 attr b := by simp [esc]
theorem unesc_written (attr : Bool) (r : Int) (hr : charB r = true) (X : List UInt8) : unesc (esc attr (encodeRune r) ++ X) = (unesc X).map fun t => encodeRune r ++ t := by
  have hrange := charB_range r hr
  by_cases h1 : r ≤ 127
  · have he := enc_ascii r (by omega) h1
    have hb : ((r.toNat.toUInt8).toNat : Int) = r := by rw [byte_toNat r (by omega) (by omega)]; omega
    by_cases hw : writ r attr = []
    · have h38 : r ≠ 38 := fun e => by
        rw [e] at hw
        simp [writ] at hw
      have e2 : esc attr (encodeRune r) = encodeRune r := by
        rw [he, esc_one, esc1_self _ _ (by rw [hb]; exact hw)]
      rw [e2, unesc_plain r hr h38 X]
    · have e2 : esc attr (encodeRune r) = writ r attr := by
        rw [he, esc_one, esc1_writ _ _ (by rw [hb]; exact hw), hb]
      rw [e2]
      by_cases c1 : r = 38
      · subst c1
        exact unesc_ref [97, 109, 112] X 38 (by decide) (by decide)
      by_cases c2 : r = 60
      · subst c2
        exact unesc_ref [108, 116] X 60 (by decide) (by decide)
      by_cases c3 : r = 62
      · subst c3
        exact unesc_ref [103, 116] X 62 (by decide) (by decide)
      cases attr
      · exact absurd (by simp [writ, c1, c2, c3]) hw
      by_cases c4 : r = 34
      · subst c4
        exact unesc_ref [113, 117, 111, 116] X 34 (by decide) (by decide)
      by_cases c5 : r = 9
      · subst c5
        exact unesc_ref [35, 57] X 9 (by decide) (by decide)
      by_cases c6 : r = 10
      · subst c6
        exact unesc_ref [35, 49, 48] X 10 (by decide) (by decide)
      by_cases c7 : r = 13
      · subst c7
        exact unesc_ref [35, 49, 51] X 13 (by decide) (by decide)
      exact absurd (by simp [writ, c1, c2, c3, c4, c5, c6, c7]) hw
  · rw [esc_high attr _ (enc_high r (by omega) (by omega)), unesc_plain r hr (by omega) X]
theorem unesc_esc (attr : Bool) (X : List UInt8) : ∀ rs : List Int, (∀ r ∈ rs, charB r = true) → unesc (esc attr (flat rs) ++ X) = (unesc X).map fun t => flat rs ++ t
  | [], _ => by
    show unesc ([] ++ X) = _
    cases h : unesc X <;> simp [flat, h]
  | r :: rs, h => by
    rw [flat_cons, esc_append, List.append_assoc, unesc_written attr r (h r (by simp)), unesc_esc attr X rs (fun x hx => h x (by simp [hx]))]
    cases unesc X <;> simp
/-- P1.3. -/
theorem unesc_back (attr : Bool) (l : List UInt8) (h : signsB l = true) : unesc (esc attr l) = some l := by
  obtain ⟨rs, h1, rfl⟩ := signs_flat l.length l (Nat.le_refl _) h
  have := unesc_esc attr [] rs h1
  rw [List.append_nil, unesc_nil] at this
  simpa using this
theorem unesc_tail (attr : Bool) (l X : List UInt8) (h : signsB l = true) : unesc (esc attr l ++ X) = (unesc X).map fun t => l ++ t := by
  obtain ⟨rs, h1, rfl⟩ := signs_flat l.length l (Nat.le_refl _) h
  exact unesc_esc attr X rs h1
theorem esc_mem (attr : Bool) (l : List UInt8) (b : UInt8) (hb : b ∈ esc attr l) : b.toNat ≠ 60 ∧ b.toNat ≠ 62 ∧ (attr = true → b.toNat ≠ 34 ∧ b.toNat ≠ 9 ∧ b.toNat ≠ 10 ∧ b.toNat ≠ 13) := by
  rw [esc, List.mem_flatMap] at hb
  obtain ⟨c, _, hb⟩ := hb
  by_cases hw : writ (c.toNat : Int) attr = []
  · rw [esc1_self attr c hw] at hb
    have e : b = c := by simpa using hb
    subst e
    refine ⟨fun e => ?_, fun e => ?_, ?_⟩
    · rw [e] at hw
      simp [writ] at hw
    · rw [e] at hw
      simp [writ] at hw
    · rintro rfl
      refine ⟨fun e => ?_, fun e => ?_, fun e => ?_, fun e => ?_⟩
      all_goals rw [e] at hw; simp [writ] at hw
  · rw [esc1_writ attr c hw] at hb
    have all : ∀ x ∈ writ (c.toNat : Int) attr, x.toNat ≠ 60 ∧ x.toNat ≠ 62 ∧ (attr = true → x.toNat ≠ 34 ∧ x.toNat ≠ 9 ∧ x.toNat ≠ 10 ∧ x.toNat ≠ 13) := by
      unfold writ
      repeat' split
      all_goals first | (intro x hx; cases hx; done) | (intro x hx; revert x; simp)
    exact all b hb
end Sp
end Go.Proofs.YtkcpaigogekimabDoor
/-
  The document's Signs, by its contract.
-/
set_option linter.unusedSimpArgs false
namespace Go.Proofs.YtkcpaigogekimabDoor
open Go.RowKit
/-- The two tables of unicode/utf8 are there. -/
def Tabs (w : World) : Prop := Lib.Utf8Tabs 0 1 w
theorem Tabs.below {w w' : World} (h : Tabs w) (hb : Below w.heap.size w w') : Tabs w' := Utf8Tabs_below h hb

theorem valid_v (s : ByteArray) (w : World) (hs : s.size ≤ 2000000) (hw : Tabs w) (b : Bool) (h : Hid (Lib.validD s.data.toList = b)) :
    Calls Tryd.prog 14 #[.string s] w fun e w' => e = .returned (.bool b) ∧ Below w.heap.size w w' := by
  have := Tryd.utf8_ValidString s w (by omega) hw
  rw [h.out] at this
  exact this

/-- What '[]rune(s)' makes, told by variables. -/
theorem conv_runes (s : ByteArray) (w : World) (hs : s.size ≤ 2000000) : ∃ (C : Array Value) (N cap : Nat), Hid (N = (Sp.runes s.size s.data.toList).length) ∧ N ≤ 2000000 ∧ N ≤ cap ∧
    Hid (∀ k, k < N → C[k]? = some (.int .i32 (((Sp.runes s.size s.data.toList).getD k 0 : Nat) : Int))) ∧
    (convert 9 41 (.string s)).run Tryd.prog w = .ok (.slice (some ⟨w.heap.size, 0, none⟩) N cap) (w.drew.alloc (.cells C 21)) := by
  have hz := size_runesFrom s s.size 0 #[]
  have hr := Sp.runes_all s
  have hlen : (Conv.runesFrom s s.size 0 #[]).size = (Sp.runes s.size s.data.toList).length := by rw [hr]; simp
  refine ⟨_, _, _, hlen, by simp at hz; omega, grownCap_ge w _ 0 21, ?_, run_runes_of_string w 9 41 21 s Tryd.underlying9 Tryd.underlying41 Tryd.underlying21 (by simp at hz; omega)⟩
  intro k hk
  rw [Array.getElem?_append_left hk, hr]
  rw [hlen] at hk
  simp [hk, List.getD]

set_option maxRecDepth 100000 in
theorem signsT_any (s : ByteArray) (w : World) (hs : s.size ≤ 2000000) (hw : Tabs w) :
    Calls Tryd.prog 8 #[.string s] w fun e w' => e = .returned (.bool (Sp.signsB s.data.toList)) ∧ Below w.heap.size w w' := by
  have HW : Hid (Tabs w) := hw
  clear hw
  cases hv : Lib.validD s.data.toList
  · have HV : Hid (Lib.validD s.data.toList = false) := hv
    have HF : Hid (Sp.signsB s.data.toList = false) := by
      show Sp.signsB s.data.toList = false
      rw [Sp.signsB, hv]
      rfl
    clear hv
    go_enter Tryd.func8, Tryd.ntmps8
    go_wp2_with fail
    refine (valid_v s _ hs HW.out false HV).mono ?_
    rintro e w1 ⟨rfl, hb1⟩
    go_wp2_with fail
    go_ret
    exact ⟨Sp.ret_bool HF.out.symm, hb1⟩
  · have HV : Hid (Lib.validD s.data.toList = true) := hv
    have HS : Hid (Sp.signsB s.data.toList = (Sp.runes s.size s.data.toList).all fun r => Sp.charB (r : Int)) := by
      show Sp.signsB s.data.toList = _
      rw [Sp.signsB, hv, Bool.true_and, Sp.len_byte]
    clear hv
    go_enter Tryd.func8, Tryd.ntmps8
    go_wp2_with fail
    refine (valid_v s _ hs HW.out true HV).mono ?_
    rintro e w1 ⟨rfl, hb1⟩
    obtain ⟨C, N, cap, HN, hN, hcap, HC, hconv⟩ := conv_runes s w1 hs
    have hz1 := hb1.size
    go_wp2_with fail
    go_loop [4] (fun i => ∃ k : Nat, k ≤ N ∧ i = .int .i64 k ∧ Hid (∀ j, j < k → Sp.charB (((Sp.runes s.size s.data.toList).getD j 0 : Nat) : Int) = true)) (fun i => N - (intOf i).toNat)
    case atStart => exact ⟨0, by omega, rfl, fun j hj => absurd hj (by omega)⟩
    case round =>
      obtain ⟨k, hk, rfl, HA⟩ := hrel
      by_cases hlt : k < N
      · obtain ⟨r, HR⟩ : ∃ r : Nat, Hid ((Sp.runes s.size s.data.toList).getD k 0 = r) := ⟨(Sp.runes s.size s.data.toList).getD k 0, rfl⟩
        have hcell : (w1.alloc (.cells C 21)).cell? ⟨w1.heap.size, k, none⟩ = some (.int .i32 (r : Int)) := by
          have := HC.out k hlt
          rw [HR.out] at this
          rw [cell_new, this]
        have HM : Hid (r ∈ Sp.runes s.size s.data.toList) := by
          show r ∈ Sp.runes s.size s.data.toList
          have hl : k < (Sp.runes s.size s.data.toList).length := by rw [← HN.out]; exact hlt
          rw [← HR.out, List.getD_eq_getElem?_getD, List.getElem?_eq_getElem hl]
          exact List.getElem_mem hl
        cases hch : Sp.charB (r : Int)
        · have HF : Hid (Sp.signsB s.data.toList = false) := by
            show Sp.signsB s.data.toList = false
            rw [HS.out, List.all_eq_false]
            exact ⟨r, HM.out, by rw [hch]; simp⟩
          go_wp2_with fail
          refine (char_ref _ _).mono ?_
          rintro e w2 ⟨rfl, rfl⟩
          go_wp2_with fail
          go_ret
          exact ⟨Sp.ret_bool HF.out.symm, (hb1.alloc (by omega) _).drew⟩
        · have HG : Hid (Sp.charB (r : Int) = true) := hch
          go_wp2_with fail
          refine (char_ref _ _).mono ?_
          rintro e w2 ⟨rfl, rfl⟩
          go_wp2_with fail
          go_round
          case rel =>
            refine ⟨k + 1, by omega, by go_num, fun j hj => ?_⟩
            by_cases hj' : j < k
            · exact HA.out j hj'
            · obtain rfl : j = k := by omega
              rw [HR.out]
              exact HG.out
          case measure => simp [intOf]; omega
      · have HF : Hid (Sp.signsB s.data.toList = true) := by
          show Sp.signsB s.data.toList = true
          rw [HS.out, List.all_eq_true]
          intro r hr
          obtain ⟨j, hj, rfl⟩ := List.mem_iff_getElem.1 hr
          have := HA.out j (by rw [← HN.out] at hj; omega)
          rw [List.getD_eq_getElem?_getD, List.getElem?_eq_getElem hj] at this
          exact this
        go_wp2_with fail
        go_ret
        exact ⟨Sp.ret_bool HF.out.symm, (hb1.alloc (by omega) _).drew⟩
end Go.Proofs.YtkcpaigogekimabDoor
