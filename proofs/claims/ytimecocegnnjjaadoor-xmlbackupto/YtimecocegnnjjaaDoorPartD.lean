/-
  Several texts in one: each opens with its own word.
-/
import Derived.Test.YtimecocegnnjjaaDoorPartC
import Derived.Test.YtimecocegnnjjaaDoorShelfT
import Derived.Test.YtimecocegnnjjaaDoorPartA
import Derived.Deep.RegionHeld3
import Derived.Deep.RegionWith
import Derived.Test.YtimecocegnnjjaaDoorShelf2
import Derived.Shelf.Abstract
import Derived.LoopN
import Derived.Deep.LoopGhost
/-
  The program's parser in memory; its small methods.
-/
set_option linter.unusedSimpArgs false
set_option linter.unusedVariables false
namespace Go.Proofs.YtimecocegnnjjaaDoor
open Go.RowKit
/-- What the parser has besides its text, its place and its fault: the open elements, how many have begun, the outermost one. -/
structure PRest where
  vo : Value
  n : Int
  o0 : Value
  o1 : Value
  o2 : Value
  o3 : Value
def PIn (w : World) (b : Nat) (s : ByteArray) (p e : Int) (R : PRest) : Prop :=
  Lies w b 46 #[.string s, .int .i64 p, .int .i64 e, R.vo, .int .i64 R.n, R.o0, R.o1, R.o2, R.o3]
theorem PIn.below {w w' : World} {b : Nat} {s : ByteArray} {p e : Int} {R : PRest} (h : PIn w b s p e R) (k : Below w.heap.size w w') : PIn w' b s p e R := Lies.below h k
theorem ret_b {a v : Bool} (h : a = v) : Ending.returned (.bool a) = .returned (.bool v) := by rw [h]
theorem failD (w : World) (b : Nat) (s : ByteArray) (p e x y : Int) (R : PRest) (h : PIn w b s p e R) :
    Calls Tryd.prog 31 #[.pointer (some ⟨b, 0, none⟩), .int .i64 x, .int .i64 y] w fun d w' => d = .returned (.bool false) ∧ PIn w' b s x y R ∧ Keep (· = b) w w' := by
  have H : Hid (PIn w b s p e R) := h
  have x1 : w.cell? ⟨b, 1, none⟩ = some (.int .i64 p) := h.cell 1
  have x2 : w.cell? ⟨b, 2, none⟩ = some (.int .i64 e) := h.cell 2
  have f1 : w.frozen? ⟨b, 1, none⟩ = false := h.free 1
  have f2 : w.frozen? ⟨b, 2, none⟩ = false := h.free 2
  clear h
  go_enter Tryd.func31, Tryd.ntmps31
  go_wp2_with fail
  go_ret
  exact ⟨rfl, (H.out.set 1 _).set 2 _, (Keep.set (S := (· = b)) w ⟨b, 1, none⟩ _ rfl).trans (Keep.set _ ⟨b, 2, none⟩ _ rfl)⟩
theorem prefix_v (s x : ByteArray) (w : World) (v : Bool) (h : Hid (Lib.hasPrefix s.data.toList x.data.toList = v)) :
    Calls Tryd.prog 50 #[.string s, .string x] w fun e w' => e = .returned (.bool v) ∧ w' = w := by
  have := Tryd.strings_HasPrefix s x w
  rw [h.out] at this
  exact this
theorem Xp.tail_has (s m : ByteArray) (x : List UInt8) (p : Nat) (h : s.extract p s.size = m) : Lib.hasPrefix m.data.toList x = Xp.hasL s.data.toList p x := by
  rw [← h, Lib.extract_data, List.take_of_length_le (by rw [List.length_drop, Array.length_toList]; exact Nat.le_refl _)]
  rfl
set_option maxHeartbeats 1000000 in
theorem aheadX (w : World) (b : Nat) (s x : ByteArray) (p : Nat) (e : Int) (R : PRest) (v : Bool) (hs : s.size ≤ 1000000) (hp : p ≤ s.size) (h : PIn w b s p e R) (hv : Hid (Xp.hasL s.data.toList p x.data.toList = v)) :
    Calls Tryd.prog 40 #[.pointer (some ⟨b, 0, none⟩), .string x] w fun d w' => d = .returned (.bool v) ∧ w' = w.drew := by
  have x0 : w.cell? ⟨b, 0, none⟩ = some (.string s) := h.cell 0
  have x1 : w.cell? ⟨b, 1, none⟩ = some (.int .i64 p) := h.cell 1
  clear h
  have t0 : (0 : Int) ≤ (p : Int) := by omega
  have t1 : (p : Int) ≤ (s.size : Int) := by omega
  obtain ⟨m, hm⟩ : ∃ m : ByteArray, s.extract p s.size = m := ⟨_, rfl⟩
  have HV : Hid (Lib.hasPrefix m.data.toList x.data.toList = v) := (Xp.tail_has s m _ p hm).trans hv.out
  go_enter Tryd.func40, Tryd.ntmps40
  go_wp2_with fail
  go_region_held3 (fun w' => w'.cell? ⟨b, 0, none⟩ = some (.string s) ∧ w'.cell? ⟨b, 1, none⟩ = some (.int .i64 p)) (go_keep) ((go_at_call 50; refine (prefix_v m x _ v HV).mono ?_; rintro e w' ⟨rfl, rfl⟩))
  all_goals go_wp2_with fail
  go_ret
  exact ⟨rfl, rfl⟩
theorem aheadD (w : World) (b : Nat) (s x : ByteArray) (p : Nat) (e : Int) (R : PRest) (v : Bool) (hs : s.size ≤ 1000000) (hp : p ≤ s.size) (h : PIn w b s p e R) (hv : Hid (Xp.hasL s.data.toList p x.data.toList = v)) :
    Calls Tryd.prog 40 #[.pointer (some ⟨b, 0, none⟩), .string x] w fun d w' => d = .returned (.bool v) ∧ Below w.heap.size w w' :=
  (aheadX w b s x p e R v hs hp h hv).mono fun _ _ ⟨h1, h2⟩ => ⟨h1, by rw [h2]; exact (Below.refl _ w).drew⟩
theorem below_drews (w : World) : ∀ n, Below w.heap.size w (w.drewN n)
  | 0 => Below.refl _ _
  | n + 1 => (below_drews w n).drew
theorem aheadQ (w : World) (n : Nat) (b : Nat) (s x : ByteArray) (p : Nat) (e : Int) (R : PRest) (v : Bool) (hs : s.size ≤ 1000000) (hp : p ≤ s.size) (h : PIn w b s p e R) (hv : Hid (Xp.hasL s.data.toList p x.data.toList = v)) :
    Calls Tryd.prog 40 #[.pointer (some ⟨b, 0, none⟩), .string x] (w.drewN n) fun d w' => d = .returned (.bool v) ∧ ∃ m, w' = (w.drewN n).drewN m :=
  (aheadX (w.drewN n) b s x p e R v hs hp (h.below (below_drews w n)) hv).mono fun _ _ ⟨h1, h2⟩ => ⟨h1, 1, h2⟩
theorem endD (w : World) (b : Nat) (s : ByteArray) (p : Nat) (e : Int) (R : PRest) (hs : s.size ≤ 1000000) (hp : p ≤ s.size) (h : PIn w b s p 0 R) :
    Calls Tryd.prog 17 #[.pointer (some ⟨b, 0, none⟩)] w fun d w' => d = .returned (.bool (decide (p = s.size))) ∧ PIn w' b s p (if p = s.size then 0 else 2) R ∧ Keep (· = b) w w' := by
  have H : Hid (PIn w b s p 0 R) := h
  have x0 : w.cell? ⟨b, 0, none⟩ = some (.string s) := h.cell 0
  have x1 : w.cell? ⟨b, 1, none⟩ = some (.int .i64 p) := h.cell 1
  clear h
  by_cases hlt : p < s.size
  · have HD : Hid (decide (p = s.size) = false) := decide_eq_false (by omega)
    have HN : Hid (¬ p = s.size) := by show ¬ _; omega
    go_enter Tryd.func17, Tryd.ntmps17
    go_wp2_with fail
    go_region_held3 (fun w' => w'.cell? ⟨b, 0, none⟩ = some (.string s) ∧ w'.cell? ⟨b, 1, none⟩ = some (.int .i64 p)) (go_keep) (fail)
    go_wp2_with fail
    refine (failD _ b s p 0 p 2 R (H.out.below (Below.refl _ w).drew)).mono ?_
    rintro d w1 ⟨rfl, r1, k1⟩
    go_wp2_with fail
    go_ret
    try rw [if_neg HN.out, HD.out]
    exact ⟨rfl, r1, (Keep.of_below (Below.refl _ w).drew).trans k1⟩
  · have HD : Hid (decide (p = s.size) = true) := decide_eq_true (by omega)
    have HN : Hid (p = s.size) := by show _ = _; omega
    go_enter Tryd.func17, Tryd.ntmps17
    go_wp2_with fail
    go_region_held3 (fun w' => w'.cell? ⟨b, 0, none⟩ = some (.string s) ∧ w'.cell? ⟨b, 1, none⟩ = some (.int .i64 p)) (go_keep) (fail)
    go_wp2_with fail
    go_ret
    try rw [if_pos HN.out, HD.out]
    have r1 := H.out.below (Below.refl _ w).drew
    rw [HN.out] at r1
    exact ⟨rfl, r1, Keep.of_below (Below.refl _ w).drew⟩
/-- What must stand: it stands there, and is taken; or the fault is told. -/
theorem mustD (w : World) (b : Nat) (s x : ByteArray) (p : Nat) (R : PRest) (v : Bool) (hs : s.size ≤ 1000000) (hp : p ≤ s.size) (hx : x.size ≤ 1000) (h : PIn w b s p 0 R) (hv : Hid (Xp.hasL s.data.toList p x.data.toList = v)) :
    Calls Tryd.prog 42 #[.pointer (some ⟨b, 0, none⟩), .string x] w fun d w' => d = .returned (.bool v) ∧ Keep (· = b) w w' ∧ (v = true → PIn w' b s (p + x.size : Nat) 0 R) ∧ (v = false → PIn w' b s p 2 R) := by
  have H : Hid (PIn w b s p 0 R) := h
  clear h
  cases v
  case true =>
    go_enter Tryd.func42, Tryd.ntmps42
    go_wp2_with fail
    refine (aheadD w b s x p 0 R true hs hp H.out hv).mono ?_
    rintro d w1 ⟨rfl, b1⟩
    have R1 : Hid (PIn w1 b s p 0 R) := H.out.below b1
    have K1 : Hid (Keep (· = b) w w1) := Keep.of_below b1
    have x1 : w1.cell? ⟨b, 1, none⟩ = some (.int .i64 p) := R1.out.cell 1
    have f1 : w1.frozen? ⟨b, 1, none⟩ = false := R1.out.free 1
    clear b1
    go_wp2_with fail
    go_ret
    exact ⟨rfl, K1.out.trans (Keep.set _ ⟨b, 1, none⟩ _ rfl), fun _ => R1.out.set 1 _, fun h => by cases h⟩
  case false =>
    go_enter Tryd.func42, Tryd.ntmps42
    go_wp2_with fail
    refine (aheadD w b s x p 0 R false hs hp H.out hv).mono ?_
    rintro d w1 ⟨rfl, b1⟩
    have R1 : Hid (PIn w1 b s p 0 R) := H.out.below b1
    have K1 : Hid (Keep (· = b) w w1) := Keep.of_below b1
    have x1 : w1.cell? ⟨b, 1, none⟩ = some (.int .i64 p) := R1.out.cell 1
    clear b1
    go_wp2_with fail
    refine (failD _ b s p 0 p 2 R R1.out).mono ?_
    rintro d w2 ⟨rfl, r2, k2⟩
    go_wp2_with fail
    go_ret
    exact ⟨rfl, K1.out.trans k2, fun h => (by cases h), fun _ => r2⟩
/-- A blank stands at the place. -/
theorem blankAheadD (w : World) (b : Nat) (s : ByteArray) (p : Nat) (e : Int) (R : PRest) (v : Bool) (hs : s.size ≤ 1000000) (hp : p ≤ s.size) (h : PIn w b s p e R) (hv : Hid (decide (p < Xp.skip s.data.toList p) = v)) :
    Calls Tryd.prog 38 #[.pointer (some ⟨b, 0, none⟩)] w fun d w' => d = .returned (.bool v) ∧ Below w.heap.size w w' := by
  have H : Hid (PIn w b s p e R) := h
  clear h
  obtain ⟨v1, V1⟩ : ∃ v, Hid (Xp.hasL s.data.toList p [32] = v) := ⟨_, rfl⟩
  obtain ⟨v2, V2⟩ : ∃ v, Hid (Xp.hasL s.data.toList p [9] = v) := ⟨_, rfl⟩
  obtain ⟨v3, V3⟩ : ∃ v, Hid (Xp.hasL s.data.toList p [10] = v) := ⟨_, rfl⟩
  obtain ⟨v4, V4⟩ : ∃ v, Hid (Xp.hasL s.data.toList p [13] = v) := ⟨_, rfl⟩
  have HV : Hid (v = (v1 || v2 || v3 || v4)) := by
    show _ = _
    rw [← hv.out, ← V1.out, ← V2.out, ← V3.out, ← V4.out, Xp.has1, Xp.has1, Xp.has1, Xp.has1]
    cases hc : s.data.toList[p]? with
    | none =>
      rw [Xp.skip_stop (fun c h => by rw [hc] at h; cases h)]
      simp
    | some c =>
      by_cases hb : Xp.blankB c = true
      · rw [Xp.skip_more hc hb, decide_eq_true (Nat.lt_of_lt_of_le (Nat.lt_succ_self p) (Xp.skip_ge _ _))]
        simpa [Xp.blankB] using hb.symm
      · rw [Xp.skip_stop (fun d h => by rw [hc] at h; cases h; simpa using hb)]
        simpa [Xp.blankB] using hb
  cases v1
  case true =>
    go_enter Tryd.func38, Tryd.ntmps38
    go_wp2_with fail
    refine (aheadD w b s ⟨#[32]⟩ p e R true hs hp H.out V1).mono ?_
    rintro d w1 ⟨rfl, b1⟩
    go_wp2_with fail
    go_ret
    exact ⟨ret_b (by rw [HV.out]; rfl), b1⟩
  cases v2
  case true =>
    go_enter Tryd.func38, Tryd.ntmps38
    go_wp2_with fail
    refine (aheadD w b s ⟨#[32]⟩ p e R false hs hp H.out V1).mono ?_
    rintro d w1 ⟨rfl, b1⟩
    go_wp2_with fail
    refine (aheadD w1 b s ⟨#[9]⟩ p e R true hs hp (H.out.below b1) V2).mono ?_
    rintro d w2 ⟨rfl, b2⟩
    go_wp2_with fail
    go_ret
    exact ⟨ret_b (by rw [HV.out]; rfl), b1.trans (b2.mono b1.size)⟩
  cases v3
  case true =>
    go_enter Tryd.func38, Tryd.ntmps38
    go_wp2_with fail
    refine (aheadD w b s ⟨#[32]⟩ p e R false hs hp H.out V1).mono ?_
    rintro d w1 ⟨rfl, b1⟩
    go_wp2_with fail
    refine (aheadD w1 b s ⟨#[9]⟩ p e R false hs hp (H.out.below b1) V2).mono ?_
    rintro d w2 ⟨rfl, b2⟩
    have B2 : Hid (Below w.heap.size w w2) := b1.trans (b2.mono b1.size)
    clear b1 b2
    go_wp2_with fail
    refine (aheadD w2 b s ⟨#[10]⟩ p e R true hs hp (H.out.below B2.out) V3).mono ?_
    rintro d w3 ⟨rfl, b3⟩
    go_wp2_with fail
    go_ret
    exact ⟨ret_b (by rw [HV.out]; rfl), B2.out.trans (b3.mono B2.out.size)⟩
  go_enter Tryd.func38, Tryd.ntmps38
  go_wp2_with fail
  refine (aheadD w b s ⟨#[32]⟩ p e R false hs hp H.out V1).mono ?_
  rintro d w1 ⟨rfl, b1⟩
  go_wp2_with fail
  refine (aheadD w1 b s ⟨#[9]⟩ p e R false hs hp (H.out.below b1) V2).mono ?_
  rintro d w2 ⟨rfl, b2⟩
  have B2 : Hid (Below w.heap.size w w2) := b1.trans (b2.mono b1.size)
  clear b1 b2
  go_wp2_with fail
  refine (aheadD w2 b s ⟨#[10]⟩ p e R false hs hp (H.out.below B2.out) V3).mono ?_
  rintro d w3 ⟨rfl, b3⟩
  have B3 : Hid (Below w.heap.size w w3) := B2.out.trans (b3.mono B2.out.size)
  clear b3
  go_wp2_with fail
  refine (aheadD w3 b s ⟨#[13]⟩ p e R v4 hs hp (H.out.below B3.out) V4).mono ?_
  rintro d w4 ⟨rfl, b4⟩
  go_wp2_with fail
  go_ret
  exact ⟨ret_b (by rw [HV.out]; cases v4 <;> rfl), B3.out.trans (b4.mono B3.out.size)⟩
end Go.Proofs.YtimecocegnnjjaaDoor
/-
  The program's blanks, inQual, qual, signs.
-/
set_option linter.unusedSimpArgs false
set_option linter.unusedVariables false
namespace Go.Proofs.YtimecocegnnjjaaDoor
open Go.RowKit
/-- The place in the struct at block b. -/
def placeP (w : World) (b : Nat) : Nat := (intOf ((w.cell? ⟨b, 1, none⟩).getD (.bool false))).toNat
theorem placeP_of {w : World} {b : Nat} {k : Nat} (h : w.cell? ⟨b, 1, none⟩ = some (.int .i64 (k : Int))) : placeP w b = k := by
  unfold placeP
  rw [h]
  simp [intOf]
set_option maxHeartbeats 1000000 in
theorem blanksD (w : World) (b : Nat) (s : ByteArray) (p : Nat) (R : PRest) (hs : s.size ≤ 1000000) (hp : p ≤ s.size) (h : PIn w b s p 0 R) :
    Calls Tryd.prog 39 #[.pointer (some ⟨b, 0, none⟩)] w fun d w' => d = .returned (.bool true) ∧ PIn w' b s (Xp.skip s.data.toList p) 0 R ∧ Keep (· = b) w w' := by
  have H : Hid (PIn w b s p 0 R) := h
  have HL : Hid (s.data.toList.length = s.size) := Array.length_toList
  clear h
  go_enter Tryd.func39, Tryd.ntmps39
  go_wp2_with fail
  go_loopw [] (fun wr => ∃ k : Nat, p ≤ k ∧ k ≤ s.size ∧ Hid (PIn wr b s k 0 R) ∧ Hid (Keep (· = b) w wr) ∧ Hid (Xp.skip s.data.toList p = Xp.skip s.data.toList k)) (fun wr => s.size - placeP wr b)
  case atStart => exact ⟨p, Nat.le_refl _, hp, H, Keep.refl _ _, rfl⟩
  case round =>
    obtain ⟨k, hpk, hk, HR, HK, HS⟩ := hrel
    obtain ⟨v, V⟩ : ∃ v, Hid (decide (k < Xp.skip s.data.toList k) = v) := ⟨_, rfl⟩
    cases v
    case true =>
      have hlt : k < s.size := by
        have h1 := of_decide_eq_true V.out
        have h2 := Xp.skip_le (s := s.data.toList) (p := k) (by rw [HL.out]; exact hk)
        have := HL.out
        omega
      have HN : Hid (Xp.skip s.data.toList p = Xp.skip s.data.toList (k + 1)) := by
        refine HS.out.trans (Xp.skip_more (Xp.at_byte s k hlt) ?_)
        cases hb : Xp.blankB s[k] with
        | true => rfl
        | false =>
          have := Xp.skip_stop (s := s.data.toList) (k := k) (fun c hc => by rw [Xp.at_byte s k hlt] at hc; cases hc; exact hb)
          have h1 := of_decide_eq_true V.out
          omega
      go_wp2_with fail
      refine (blankAheadD wr b s k 0 R true hs hk HR.out V).mono ?_
      rintro d w1 ⟨rfl, b1⟩
      have R1 : Hid (PIn w1 b s k 0 R) := HR.out.below b1
      have K1 : Hid (Keep (· = b) w w1) := HK.out.trans (Keep.of_below b1)
      have x1 : w1.cell? ⟨b, 1, none⟩ = some (.int .i64 k) := R1.out.cell 1
      have f1 : w1.frozen? ⟨b, 1, none⟩ = false := R1.out.free 1
      clear b1
      go_wp2_with fail
      go_roundw
      case rel => exact ⟨k + 1, by omega, by omega, R1.out.set 1 _, K1.out.trans (Keep.set _ ⟨b, 1, none⟩ _ rfl), HN⟩
      case measure =>
        rw [placeP_of (k := k) (HR.out.cell 1), placeP_of (k := k + 1) ((R1.out.set 1 (.int .i64 ((k : Int) + 1))).cell 1)]
        omega
    case false =>
      have HF : Hid (Xp.skip s.data.toList p = k) := by
        have h1 := of_decide_eq_false V.out
        have h2 := Xp.skip_ge s.data.toList k
        refine HS.out.trans ?_
        omega
      go_wp2_with fail
      refine (blankAheadD wr b s k 0 R false hs hk HR.out V).mono ?_
      rintro d w1 ⟨rfl, b1⟩
      have R1 : Hid (PIn w1 b s k 0 R) := HR.out.below b1
      have K1 : Hid (Keep (· = b) w w1) := HK.out.trans (Keep.of_below b1)
      clear b1
      go_wp2_with fail
      go_ret
      rw [HF.out]
      exact ⟨rfl, R1.out, K1.out⟩
theorem Sp.isB_two (c : UInt8) : Sp.isB [95, c] = Sp.goZ (c.toNat : Int) := by
  unfold Sp.isB
  rw [show (decide (1 ≤ [95, c].length ∧ [95, c].length ≤ 12) && Sp.begZ ((([95, c] : List UInt8).getD 0 0).toNat : Int)) = true by rfl]
  simp only [List.all_cons, List.all_nil, Bool.and_true, Bool.true_and]
  rw [show Sp.goZ ((95 : UInt8).toNat : Int) = true by decide, Bool.true_and]
theorem inQualD (c : UInt8) (w : World) (v : Bool) (h : Hid (Xp.nameB c = v)) :
    Calls Tryd.prog 53 #[.string ⟨#[c]⟩] w fun e w' => e = .returned (.bool v) ∧ w' = w := by
  by_cases hc : c = 58
  · subst hc
    have hv : true = v := h.out
    subst hv
    go_enter Tryd.func53, Tryd.ntmps53
    go_wp2_with fail
    go_ret
    exact ⟨rfl, rfl⟩
  · have HV : Hid (Sp.isB (⟨#[95, c]⟩ : ByteArray).data.toList = v) := by
      show Sp.isB [95, c] = v
      rw [Sp.isB_two, ← h.out]
      unfold Xp.nameB
      rw [beq_eq_false_iff_ne.2 hc, Bool.or_false]
    have t1 : ((⟨#[c]⟩ : ByteArray).toList == (⟨#[58]⟩ : ByteArray).toList) = false := by
      rw [Lib.toList_data, Lib.toList_data, beq_eq_false_iff_ne]
      intro e
      exact hc (List.cons.inj e).1
    have HE : Hid ((⟨#[95]⟩ : ByteArray) ++ ⟨#[c]⟩ = ⟨#[95, c]⟩) := by
      show (⟨#[95]⟩ : ByteArray) ++ ⟨#[c]⟩ = ⟨#[95, c]⟩
      apply ByteArray.ext
      simp
    go_enter Tryd.func53, Tryd.ntmps53
    go_wp2_with fail
    rw [HE.out]
    refine (is_v ⟨#[95, c]⟩ _ (show 2 ≤ 1000000 by decide) v HV).mono ?_
    rintro e w1 ⟨rfl, rfl⟩
    have tb : (c == 58) = false := beq_eq_false_iff_ne.2 hc
    go_wp2_with fail
    go_ret
    refine ⟨ret_b ?_, rfl⟩
    first | rfl | (rw [tb]; rfl)
theorem cloneD (s : ByteArray) (w : World) (hs : s.size ≤ 1000000) :
    Calls Tryd.prog 55 #[.string s] w fun e w' => e = .returned (.string s) ∧ Below w.heap.size w w' := by
  go_enter Tryd.func55, Tryd.ntmps55
  go_wp2_with fail
  refine (Tryd.stringslite_Clone s _ (by omega)).mono ?_
  rintro e w1 ⟨rfl, b1⟩
  go_wp2_with fail
  go_ret
  exact ⟨rfl, b1⟩
theorem isQualD_v (s : ByteArray) (w : World) (hs : s.size ≤ 1000000) (hw : Ok w) (b : Bool) (h : Hid (Sp.qualB s.data.toList = b)) :
    Calls Tryd.prog 54 #[.string s] w fun e w' => e = .returned (.bool b) ∧ Below w.heap.size w w' := by
  have := isQual_any s w hs hw
  rw [h.out] at this
  exact this
/-- Block b holds none of the library's variables. -/
def Off (b : Nat) : Prop := b ≠ 0 ∧ b ≠ 1 ∧ b ≠ 2
theorem Ok.keep {S : Nat → Prop} {w w' : World} (h : Ok w) (hb : Keep S w w') (hS : ∀ k, S k → Off k) : Ok w' := by
  obtain ⟨⟨h1, h2⟩, m, h3⟩ := h
  refine ⟨⟨fun c hc => ?_, fun i hi => ?_⟩, m, ?_⟩
  · exact (hb.cell (cell_lt (h1 c hc)) (fun e => (hS _ e).1 rfl)).trans (h1 c hc)
  · exact ⟨(hb.cell (cell_lt (h2 i hi).1) (fun e => (hS _ e).2.1 rfl)).trans (h2 i hi).1, (hb.cell (cell_lt (h2 i hi).2) (fun e => (hS _ e).2.1 rfl)).trans (h2 i hi).2⟩
  · exact (hb.cell (cell_lt h3) (fun e => (hS _ e).2.2 rfl)).trans h3
theorem Xp.one_byte (s : ByteArray) (k : Nat) (h : k < s.size) : s.extract k (k + 1) = ⟨#[s[k]]⟩ := by
  apply Sp.ba_of
  rw [Lib.extract_data, Nat.add_sub_cancel_left, Xp.drop_one (Xp.at_byte s k h)]
  rfl
set_option maxHeartbeats 2000000 in
theorem qualD (w : World) (b : Nat) (s : ByteArray) (p : Nat) (R : PRest) (hs : s.size ≤ 1000000) (hp : p ≤ s.size) (hw : Ok w) (h : PIn w b s p 0 R) :
    Calls Tryd.prog 43 #[.pointer (some ⟨b, 0, none⟩)] w fun d w' => Keep (· = b) w w' ∧
      (∀ k, Xp.qual s.data.toList p = some k → d = .returned (.tuple #[.string (s.extract p k), .bool true]) ∧ p ≤ k ∧ k ≤ s.size ∧ PIn w' b s k 0 R) ∧ (Xp.qual s.data.toList p = none → d = .returned (.tuple #[.string ⟨#[]⟩, .bool false]) ∧ PIn w' b s p 2 R) := by
  have H : Hid (PIn w b s p 0 R) := h
  have HW : Hid (Ok w) := hw
  have HL : Hid (s.data.toList.length = s.size) := Array.length_toList
  have x0 : w.cell? ⟨b, 0, none⟩ = some (.string s) := h.cell 0
  have x1 : w.cell? ⟨b, 1, none⟩ = some (.int .i64 p) := h.cell 1
  clear h hw
  go_enter Tryd.func43, Tryd.ntmps43
  go_wp2_with fail
  go_loop [4] (fun i => ∃ k : Nat, p ≤ k ∧ k ≤ s.size ∧ i = .int .i64 k ∧ Hid (Xp.run s.data.toList p = Xp.run s.data.toList k)) (fun i => s.size - (intOf i).toNat)
  case atStart => exact ⟨p, Nat.le_refl _, hp, rfl, rfl⟩
  case round =>
    obtain ⟨k, hpk, hk, rfl, HD⟩ := hrel
    obtain ⟨m, HM⟩ : ∃ m : ByteArray, Hid (s.extract p k = m) := ⟨_, rfl⟩
    have hm : m.size ≤ 1000000 := by rw [← HM.out, ByteArray.size_extract]; omega
    obtain ⟨u, HU⟩ : ∃ u, Hid (Sp.qualB m.data.toList = u) := ⟨Sp.qualB m.data.toList, rfl⟩
    have HML : Hid (m.data.toList = (s.data.toList.drop p).take (k - p)) := by
      show _ = _
      rw [← HM.out, Lib.extract_data]
    have HQ : Hid (Xp.run s.data.toList p = k → Xp.qual s.data.toList p = if u = true then some k else none) := by
      intro hF
      unfold Xp.qual
      rw [hF, ← HML.out, HU.out]
    have t0 : (0 : Int) ≤ (p : Int) := by omega
    have t1 : (p : Int) ≤ (k : Int) := by omega
    have t2 : (k : Int) ≤ (s.size : Int) := by omega
    by_cases hlt : k < s.size
    · have HA : Hid (s.data.toList[k]? = some s[k]) := Xp.at_byte s k hlt
      obtain ⟨v, V⟩ : ∃ v, Hid (Xp.nameB s[k] = v) := ⟨Xp.nameB s[k], rfl⟩
      have HE : Hid (s.extract k (k + 1) = ⟨#[s[k]]⟩) := Xp.one_byte s k hlt
      have he : s.extract k (k + 1) = ⟨#[s[k]]⟩ := HE.out
      cases v
      case true =>
        have HG : Hid (Xp.run s.data.toList p = Xp.run s.data.toList (k + 1)) := HD.out.trans (Xp.run_on HA.out V.out)
        go_wp2_with fail
        refine (inQualD _ _ true V).mono ?_
        (rintro e w0 ⟨rfl, e0⟩; have e1 := e0.symm; subst e1; clear e0)
        go_wp2_with fail
        go_round
        case rel => exact ⟨k + 1, by omega, by omega, by go_num, HG⟩
        case measure => simp [intOf]; omega
      have HF : Hid (Xp.run s.data.toList p = k) := HD.out.trans (Xp.run_stop HA.out V.out)
      go_wp2_with fail
      refine (inQualD _ _ false V).mono ?_
      (rintro e w0 ⟨rfl, e0⟩; have e1 := e0.symm; subst e1; clear e0)
      clear he
      go_wp2_with fail
      have hm' : s.extract p k = m := HM.out
      cases u
      case true =>
        have HN : Hid (Xp.qual s.data.toList p = some k) := HQ.out HF.out
        go_region_held3 (fun w' => w'.cell? ⟨b, 0, none⟩ = some (.string s) ∧ w'.cell? ⟨b, 1, none⟩ = some (.int .i64 p)) (go_keep) (fail)
        go_wp2_with fail
        refine (isQualD_v m _ hm (HW.out.below (Below.refl _ w).drew) true HU).mono ?_
        rintro e w1 ⟨rfl, b1⟩
        have R1 : Hid (PIn w1 b s p 0 R) := H.out.below ((Below.refl _ w).drew.trans b1)
        have K1 : Hid (Keep (· = b) w w1) := Keep.of_below ((Below.refl _ w).drew.trans b1)
        have x1 : w1.cell? ⟨b, 1, none⟩ = some (.int .i64 p) := R1.out.cell 1
        have f1 : w1.frozen? ⟨b, 1, none⟩ = false := R1.out.free 1
        have R2 : Hid (PIn (w1.setCell ⟨b, 1, none⟩ (.int .i64 k)) b s k 0 R) := R1.out.set 1 _
        have K2 : Hid (Keep (· = b) w (w1.setCell ⟨b, 1, none⟩ (.int .i64 k))) := K1.out.trans (Keep.set _ ⟨b, 1, none⟩ _ rfl)
        clear b1
        go_wp2_with fail
        refine (cloneD m _ hm).mono ?_
        rintro e w2 ⟨rfl, b2⟩
        have R3 : Hid (PIn w2 b s k 0 R) := R2.out.below b2
        have K3 : Hid (Keep (· = b) w w2) := K2.out.trans (Keep.of_below b2)
        clear b2
        go_wp2_with fail
        go_ret2
        refine ⟨K3.out, fun j hj => ?_, fun hj => absurd (HN.out.symm.trans hj) (by simp)⟩
        obtain rfl : k = j := Option.some.inj (HN.out.symm.trans hj)
        exact ⟨by rw [HM.out]; rfl, by omega, by omega, R3.out⟩
      have HN : Hid (Xp.qual s.data.toList p = none) := HQ.out HF.out
      go_region_held3 (fun w' => w'.cell? ⟨b, 0, none⟩ = some (.string s) ∧ w'.cell? ⟨b, 1, none⟩ = some (.int .i64 p)) (go_keep) (fail)
      go_wp2_with fail
      refine (isQualD_v m _ hm (HW.out.below (Below.refl _ w).drew) false HU).mono ?_
      rintro e w1 ⟨rfl, b1⟩
      have R1 : Hid (PIn w1 b s p 0 R) := H.out.below ((Below.refl _ w).drew.trans b1)
      have K1 : Hid (Keep (· = b) w w1) := Keep.of_below ((Below.refl _ w).drew.trans b1)
      have x1 : w1.cell? ⟨b, 1, none⟩ = some (.int .i64 p) := R1.out.cell 1
      clear b1
      go_wp2_with fail
      refine (failD _ b s p 0 p 2 R R1.out).mono ?_
      rintro e w2 ⟨rfl, r2, k2⟩
      go_wp2_with fail
      go_ret2
      exact ⟨K1.out.trans k2, fun j hj => absurd (HN.out.symm.trans hj) (by simp), fun _ => ⟨rfl, r2⟩⟩
    · have HF : Hid (Xp.run s.data.toList p = k) := HD.out.trans (Xp.run_end (by rw [HL.out]; omega))
      go_wp2_with fail
      have hm' : s.extract p k = m := HM.out
      cases u
      case true =>
        have HN : Hid (Xp.qual s.data.toList p = some k) := HQ.out HF.out
        go_region_held3 (fun w' => w'.cell? ⟨b, 0, none⟩ = some (.string s) ∧ w'.cell? ⟨b, 1, none⟩ = some (.int .i64 p)) (go_keep) (fail)
        go_wp2_with fail
        refine (isQualD_v m _ hm (HW.out.below (Below.refl _ w).drew) true HU).mono ?_
        rintro e w1 ⟨rfl, b1⟩
        have R1 : Hid (PIn w1 b s p 0 R) := H.out.below ((Below.refl _ w).drew.trans b1)
        have K1 : Hid (Keep (· = b) w w1) := Keep.of_below ((Below.refl _ w).drew.trans b1)
        have x1 : w1.cell? ⟨b, 1, none⟩ = some (.int .i64 p) := R1.out.cell 1
        have f1 : w1.frozen? ⟨b, 1, none⟩ = false := R1.out.free 1
        have R2 : Hid (PIn (w1.setCell ⟨b, 1, none⟩ (.int .i64 k)) b s k 0 R) := R1.out.set 1 _
        have K2 : Hid (Keep (· = b) w (w1.setCell ⟨b, 1, none⟩ (.int .i64 k))) := K1.out.trans (Keep.set _ ⟨b, 1, none⟩ _ rfl)
        clear b1
        go_wp2_with fail
        refine (cloneD m _ hm).mono ?_
        rintro e w2 ⟨rfl, b2⟩
        have R3 : Hid (PIn w2 b s k 0 R) := R2.out.below b2
        have K3 : Hid (Keep (· = b) w w2) := K2.out.trans (Keep.of_below b2)
        clear b2
        go_wp2_with fail
        go_ret2
        refine ⟨K3.out, fun j hj => ?_, fun hj => absurd (HN.out.symm.trans hj) (by simp)⟩
        obtain rfl : k = j := Option.some.inj (HN.out.symm.trans hj)
        exact ⟨by rw [HM.out]; rfl, by omega, by omega, R3.out⟩
      have HN : Hid (Xp.qual s.data.toList p = none) := HQ.out HF.out
      go_region_held3 (fun w' => w'.cell? ⟨b, 0, none⟩ = some (.string s) ∧ w'.cell? ⟨b, 1, none⟩ = some (.int .i64 p)) (go_keep) (fail)
      go_wp2_with fail
      refine (isQualD_v m _ hm (HW.out.below (Below.refl _ w).drew) false HU).mono ?_
      rintro e w1 ⟨rfl, b1⟩
      have R1 : Hid (PIn w1 b s p 0 R) := H.out.below ((Below.refl _ w).drew.trans b1)
      have K1 : Hid (Keep (· = b) w w1) := Keep.of_below ((Below.refl _ w).drew.trans b1)
      have x1 : w1.cell? ⟨b, 1, none⟩ = some (.int .i64 p) := R1.out.cell 1
      clear b1
      go_wp2_with fail
      refine (failD _ b s p 0 p 2 R R1.out).mono ?_
      rintro e w2 ⟨rfl, r2, k2⟩
      go_wp2_with fail
      go_ret2
      exact ⟨K1.out.trans k2, fun j hj => absurd (HN.out.symm.trans hj) (by simp), fun _ => ⟨rfl, r2⟩⟩
end Go.Proofs.YtimecocegnnjjaaDoor
/-
  The program's signs and remark.
-/
set_option linter.unusedSimpArgs false
set_option linter.unusedVariables false
namespace Go.Proofs.YtimecocegnnjjaaDoor
open Go.RowKit
theorem sign1D (w : World) : PredGrows Tryd.prog 61 #[] (fun x : Nat => !Sp.charB (x : Int)) w := by
  intro W x hx hb
  show Calls Tryd.prog 61 #[.int .i32 (x : Int)] W fun e w' => e = .returned (.bool (!Sp.charB (x : Int))) ∧ Below W.heap.size W w'
  obtain ⟨v, V⟩ : ∃ v, Hid (Sp.charB (x : Int) = v) := ⟨Sp.charB (x : Int), rfl⟩
  have hv : (!Sp.charB (x : Int)) = !v := by rw [V.out]
  rw [hv]
  clear hv
  go_enter Tryd.func61, Tryd.ntmps61
  go_wp2_with fail
  have c := char_any (x : Int) W
  rw [V.out] at c
  refine c.mono ?_
  rintro e w1 ⟨rfl, rfl⟩
  go_wp2_with fail
  go_ret
  exact ⟨rfl, Below.refl _ _⟩
theorem containsD (s : ByteArray) (w : World) (v : Bool) (h : Hid (decide (0 ≤ Lib.idxFunc (fun x : Nat => !Sp.charB (x : Int)) true s) = v)) :
    Calls Tryd.prog 60 #[.string s, .func (.func 61) #[] #[]] w fun e w' => e = .returned (.bool v) ∧ Below w.heap.size w w' := by
  have eg : Enters Tryd.prog 61 := enters_of Tryd.func61 (by kernel_rfl) rfl
  have c1 : ∀ w : World, Calls Tryd.prog 67 #[.string s, .func (.func 61) #[] #[]] w fun e w' => e = .returned (.int .i64 (Lib.idxFunc (fun x : Nat => !Sp.charB (x : Int)) true s)) ∧ Below w.heap.size w w' := by
    intro w
    obtain ⟨I, HI⟩ : ∃ I, Hid (Lib.idxFunc (fun x : Nat => !Sp.charB (x : Int)) true s = I) := ⟨_, rfl⟩
    rw [HI.out]
    go_enter Tryd.func67, Tryd.ntmps67
    go_wp2_with fail
    have c := Tryd.strings_indexFunc_grows 61 #[] eg (fun x : Nat => !Sp.charB (x : Int)) true s w (sign1D w)
    rw [HI.out] at c
    refine c.mono ?_
    rintro e w1 ⟨rfl, b1⟩
    go_wp2_with fail
    go_ret
    exact ⟨rfl, b1⟩
  obtain ⟨I, HI⟩ : ∃ I, Hid (Lib.idxFunc (fun x : Nat => !Sp.charB (x : Int)) true s = I) := ⟨_, rfl⟩
  have hv := h.out
  rw [HI.out] at hv
  have C1 : Hid (Calls Tryd.prog 67 #[.string s, .func (.func 61) #[] #[]] w fun e w' => e = .returned (.int .i64 I) ∧ Below w.heap.size w w') := by
    have := c1 w
    rw [HI.out] at this
    exact this
  have HV : Hid (decide (0 ≤ I) = v) := hv
  clear c1 hv
  go_enter Tryd.func60, Tryd.ntmps60
  go_wp2_with fail
  refine C1.out.mono ?_
  rintro e w1 ⟨rfl, b1⟩
  go_wp2_with fail
  go_ret
  exact ⟨ret_b HV.out, b1⟩
theorem signsD (s : ByteArray) (w : World) (hs : s.size ≤ 1000000) (hw : Ok w) (v : Bool) (h : Hid (Sp.signsB s.data.toList = v)) :
    Calls Tryd.prog 52 #[.string s] w fun e w' => e = .returned (.bool v) ∧ Below w.heap.size w w' := by
  have HW : Hid (Ok w) := hw
  clear hw
  obtain ⟨u, HU⟩ : ∃ u, Hid (Lib.validD s.data.toList = u) := ⟨_, rfl⟩
  have c1 : Hid (∀ w : World, Ok w → Calls Tryd.prog 21 #[.string s] w fun e w' => e = .returned (.bool u) ∧ Below w.heap.size w w') := by
    intro w hw
    have := Tryd.utf8_ValidString s w (by omega) hw.1
    rw [HU.out] at this
    exact this
  cases u
  case false =>
    have HF : Hid (false = v) := by
      show _ = _
      rw [← h.out]
      unfold Sp.signsB
      rw [HU.out]
      rfl
    go_enter Tryd.func52, Tryd.ntmps52
    go_wp2_with fail
    refine (c1.out w HW.out).mono ?_
    rintro e w1 ⟨rfl, b1⟩
    go_wp2_with fail
    go_ret
    exact ⟨ret_b HF.out, b1⟩
  case true =>
    obtain ⟨x, HX⟩ : ∃ x, Hid (decide (0 ≤ Lib.idxFunc (fun x : Nat => !Sp.charB (x : Int)) true s) = x) := ⟨_, rfl⟩
    have HF : Hid ((!x) = v) := by
      show _ = _
      rw [← h.out, ← HX.out]
      exact Sp.any_signs s HU.out
    go_enter Tryd.func52, Tryd.ntmps52
    go_wp2_with fail
    refine (c1.out w HW.out).mono ?_
    rintro e w1 ⟨rfl, b1⟩
    go_wp2_with fail
    refine (containsD s w1 x HX).mono ?_
    rintro e w2 ⟨rfl, b2⟩
    go_wp2_with fail
    go_ret
    exact ⟨ret_b (by rw [← HF.out]), b1.trans (b2.mono b1.size)⟩
theorem cutD (s sep : ByteArray) (w : World) (hs : s.size ≤ 1000000) (hw : Ok w) (p q : ByteArray) (v : Bool) (h : Hid (Lib.cut s.data.toList sep.data.toList = (p.data.toList, q.data.toList, v))) :
    Calls Tryd.prog 51 #[.string s, .string sep] w fun e w' => e = .returned (.tuple #[.string p, .string q, .bool v]) ∧ Below w.heap.size w w' := by
  obtain ⟨_, m, hm⟩ := hw
  have := Tryd.strings_Cut s sep m w (by omega) hm
  rw [h.out] at this
  refine this.mono ?_
  rintro e w' ⟨rfl, k, rfl⟩
  exact ⟨rfl, below_drewNg w k⟩
/-- A remark by the first two dashes behind its beginning. -/
theorem Xp.remark_cut (s : List UInt8) (p : Nat) (u q : List UInt8) (v : Bool) (h : Lib.cut (s.drop (p + 4)) [45, 45] = (u, q, v)) (hp : p + 4 ≤ s.length) :
    Xp.remark s p = (if v = true ∧ Lib.hasPrefix q [62] = true ∧ Sp.signsB u = true then some (s.length - q.length + 1) else none) ∧ q.length ≤ s.length ∧ u.length ≤ s.length := by
  obtain ⟨h1, h2⟩ := Xp.index_dash (s.drop (p + 4))
  unfold Lib.cut at h
  unfold Xp.remark
  by_cases h0 : 0 ≤ Lib.index (s.drop (p + 4)) [45, 45]
  · obtain ⟨e1, e2⟩ := h1 h0
    rw [if_pos h0] at h
    obtain ⟨n, hn⟩ := Int.eq_ofNat_of_zero_le h0
    rw [hn, show ((n : Int)).toNat = n by omega] at e1 h
    have hd : Xp.dash s (p + 4) = p + 4 + n := by unfold Xp.dash; rw [e1]
    rw [List.length_drop, e1] at e2
    simp only [Prod.mk.injEq] at h
    obtain ⟨hu, hq, hv⟩ := h
    have hql : q.length = s.length - (p + 4 + n + 2) := by
      rw [← hq, List.length_drop, List.length_drop]
      simp only [List.length_cons, List.length_nil]
      omega
    have hul : u.length ≤ s.length := by
      rw [← hu, List.length_take, List.length_drop]
      omega
    have hpre : Lib.hasPrefix q [62] = (s[p + 4 + n + 2]? == some 62) := by
      rw [← Xp.has1, ← hq, List.drop_drop]
      rfl
    refine ⟨?_, by omega, hul⟩
    rw [hd, show p + 4 + n - (p + 4) = n by omega, hu]
    by_cases hc : s[p + 4 + n + 2]? = some 62
    · have hlt := (List.getElem?_eq_some_iff.1 hc).1
      by_cases hsg : Sp.signsB u = true
      · rw [if_pos ⟨hc, hsg⟩, if_pos ⟨hv.symm, by rw [hpre, hc]; rfl, hsg⟩]
        congr 1
        omega
      · rw [if_neg (fun h => hsg h.2), if_neg (fun h => hsg h.2.2)]
    · rw [if_neg (fun h => hc h.1), if_neg (fun h => hc (by have := h.2.1; rw [hpre] at this; exact beq_iff_eq.1 this))]
  · have e2 := h2 h0
    rw [if_neg h0] at h
    simp only [Prod.mk.injEq] at h
    obtain ⟨hu, hq, hv⟩ := h
    rw [List.length_drop] at e2
    have hd : s.length ≤ Xp.dash s (p + 4) + 2 := by unfold Xp.dash; omega
    refine ⟨?_, by rw [← hq]; exact Nat.zero_le _, by rw [← hu, List.length_drop]; omega⟩
    rw [if_neg (fun h => by rw [List.getElem?_eq_none hd] at h; cases h.1), if_neg (fun h => by rw [← hv] at h; cases h.1)]
set_option maxHeartbeats 2000000 in
theorem remarkD (w : World) (b : Nat) (s : ByteArray) (p : Nat) (R : PRest) (hs : s.size ≤ 1000000) (hp : p + 4 ≤ s.size) (hw : Ok w) (hoff : Off b) (h : PIn w b s p 0 R) :
    Calls Tryd.prog 41 #[.pointer (some ⟨b, 0, none⟩)] w fun d w' => Keep (· = b) w w' ∧
      (∀ k, Xp.remark s.data.toList p = some k → d = .returned (.bool true) ∧ PIn w' b s k 0 R) ∧ (Xp.remark s.data.toList p = none → d = .returned (.bool false) ∧ PIn w' b s p 2 R) := by
  have H : Hid (PIn w b s p 0 R) := h
  have HW : Hid (Ok w) := hw
  have HL : Hid (s.data.toList.length = s.size) := Array.length_toList
  have x0 : w.cell? ⟨b, 0, none⟩ = some (.string s) := h.cell 0
  have x1 : w.cell? ⟨b, 1, none⟩ = some (.int .i64 p) := h.cell 1
  clear h hw
  obtain ⟨m, HM⟩ : ∃ m : ByteArray, Hid (s.extract (p + 4) s.size = m) := ⟨_, rfl⟩
  have hml : m.data.toList = s.data.toList.drop (p + 4) := by
    rw [← HM.out, Lib.extract_data, List.take_of_length_le (by rw [List.length_drop, HL.out]; exact Nat.le_refl _)]
  have hm : m.size ≤ 1000000 := by rw [← HM.out, ByteArray.size_extract]; omega
  obtain ⟨u, q, v, HC⟩ : ∃ (u q : ByteArray) (v : Bool), Hid (Lib.cut m.data.toList (⟨#[45, 45]⟩ : ByteArray).data.toList = (u.data.toList, q.data.toList, v)) := ⟨⟨(Lib.cut m.data.toList [45, 45]).1.toArray⟩, ⟨(Lib.cut m.data.toList [45, 45]).2.1.toArray⟩, (Lib.cut m.data.toList [45, 45]).2.2, rfl⟩
  have hrc := HC.out
  rw [hml] at hrc
  obtain ⟨hr, hq, hu⟩ := Xp.remark_cut s.data.toList p _ _ _ hrc (by rw [HL.out]; exact hp)
  have hq' : q.size ≤ s.size := by have := HL.out; rw [this] at hq; simpa using hq
  have hu' : u.size ≤ 1000000 := by have := HL.out; rw [this] at hu; have h3 : u.data.toList.length = u.size := Array.length_toList; omega
  have HR : Hid (Xp.remark s.data.toList p = if v = true ∧ Lib.hasPrefix q.data.toList [62] = true ∧ Sp.signsB u.data.toList = true then some (s.size - q.size + 1) else none) := by
    show _ = _
    rw [hr, HL.out]
    rfl
  clear hr hq hu hrc hml
  have t0 : (0 : Int) ≤ (p : Int) + 4 := by omega
  have t1 : (p : Int) + 4 ≤ (s.size : Int) := by omega
  have t2 : IntKind.i64.wrap ((p : Int) + 4) = (p : Int) + 4 := by rw [IntKind.wrap_i64]; omega
  have hme : s.extract ((p : Int) + 4).toNat s.size = m := by rw [show ((p : Int) + 4).toNat = p + 4 by omega]; exact HM.out
  have hme2 : s.extract (p + 4) s.size = m := HM.out
  obtain ⟨v2, V2⟩ : ∃ v2, Hid (Lib.hasPrefix q.data.toList (⟨#[62]⟩ : ByteArray).data.toList = v2) := ⟨_, rfl⟩
  obtain ⟨v3, V3⟩ : ∃ v3, Hid (Sp.signsB u.data.toList = v3) := ⟨_, rfl⟩
  have HR2 : Hid (Xp.remark s.data.toList p = if v = true ∧ v2 = true ∧ v3 = true then some (s.size - q.size + 1) else none) := by
    show _ = _
    rw [HR.out, ← V2.out, ← V3.out]
  go_enter Tryd.func41, Tryd.ntmps41
  go_wp2_with fail
  go_region_held3 (fun w' => w'.cell? ⟨b, 0, none⟩ = some (.string s) ∧ w'.cell? ⟨b, 1, none⟩ = some (.int .i64 p)) (go_keep) ((go_at_call 51; refine (cutD m ⟨#[45, 45]⟩ _ hm (HW.out.below (Below.refl _ w).drew) u q v HC).mono ?_; rintro e w1 ⟨rfl, b1⟩; have R1 : PIn w1 b s p 0 R := (H.out.below (Below.refl _ w).drew).below b1; have y0 : w1.cell? ⟨b, 0, none⟩ = some (.string s) := R1.cell 0; have y1 : w1.cell? ⟨b, 1, none⟩ = some (.int .i64 p) := R1.cell 1))
  have K1 : Hid (Keep (· = b) w w1) := Keep.of_below ((Below.refl _ w).drew.trans b1)
  have HR1 : Hid (PIn w1 b s p 0 R) := R1
  have HW1 : Hid (Ok w1) := HW.out.keep K1.out (fun k hk => by subst hk; exact hoff)
  clear R1 b1
  cases v
  case false =>
    have HN : Hid (Xp.remark s.data.toList p = none) := by
      show _ = _
      rw [HR2.out, if_neg (by simp)]
    go_wp2_with fail
    refine (failD _ b s p 0 p 2 R HR1.out).mono ?_
    rintro e w2 ⟨rfl, r2, k2⟩
    go_wp2_with fail
    go_ret
    exact ⟨K1.out.trans k2, fun j hj => absurd (HN.out.symm.trans hj) (by simp), fun _ => ⟨rfl, r2⟩⟩
  cases v2
  case false =>
    have HN : Hid (Xp.remark s.data.toList p = none) := by
      show _ = _
      rw [HR2.out, if_neg (by simp)]
    go_wp2_with fail
    refine (prefix_v q ⟨#[62]⟩ _ false V2).mono ?_
    rintro e w0 ⟨rfl, rfl⟩
    go_wp2_with fail
    refine (failD _ b s p 0 p 2 R HR1.out).mono ?_
    rintro e w2 ⟨rfl, r2, k2⟩
    go_wp2_with fail
    go_ret
    exact ⟨K1.out.trans k2, fun j hj => absurd (HN.out.symm.trans hj) (by simp), fun _ => ⟨rfl, r2⟩⟩
  cases v3
  case false =>
    have HN : Hid (Xp.remark s.data.toList p = none) := by
      show _ = _
      rw [HR2.out, if_neg (by simp)]
    go_wp2_with fail
    refine (prefix_v q ⟨#[62]⟩ _ true V2).mono ?_
    rintro e w0 ⟨rfl, rfl⟩
    go_wp2_with fail
    refine (signsD u _ hu' HW1.out false V3).mono ?_
    rintro e w3 ⟨rfl, b3⟩
    have R3 : Hid (PIn w3 b s p 0 R) := HR1.out.below b3
    have K3 : Hid (Keep (· = b) w w3) := K1.out.trans (Keep.of_below b3)
    have z1 : w3.cell? ⟨b, 1, none⟩ = some (.int .i64 p) := R3.out.cell 1
    clear b3 y0 y1
    go_wp2_with fail
    refine (failD _ b s p 0 p 2 R R3.out).mono ?_
    rintro e w2 ⟨rfl, r2, k2⟩
    go_wp2_with fail
    go_ret
    exact ⟨K3.out.trans k2, fun j hj => absurd (HN.out.symm.trans hj) (by simp), fun _ => ⟨rfl, r2⟩⟩
  have HN : Hid (Xp.remark s.data.toList p = some (s.size - q.size + 1)) := by
    show _ = _
    rw [HR2.out, if_pos (by simp)]
  go_wp2_with fail
  refine (prefix_v q ⟨#[62]⟩ _ true V2).mono ?_
  rintro e w0 ⟨rfl, rfl⟩
  go_wp2_with fail
  refine (signsD u _ hu' HW1.out true V3).mono ?_
  rintro e w3 ⟨rfl, b3⟩
  have R3 : Hid (PIn w3 b s p 0 R) := HR1.out.below b3
  have K3 : Hid (Keep (· = b) w w3) := K1.out.trans (Keep.of_below b3)
  have z0 : w3.cell? ⟨b, 0, none⟩ = some (.string s) := R3.out.cell 0
  have z1 : w3.cell? ⟨b, 1, none⟩ = some (.int .i64 p) := R3.out.cell 1
  have f1 : w3.frozen? ⟨b, 1, none⟩ = false := R3.out.free 1
  clear b3 y0 y1
  go_wp2_with fail
  go_ret
  refine ⟨K3.out.trans (Keep.set _ ⟨b, 1, none⟩ _ rfl), fun j hj => ⟨rfl, ?_⟩, fun hj => absurd (HN.out.symm.trans hj) (by simp)⟩
  obtain rfl : s.size - q.size + 1 = j := Option.some.inj (HN.out.symm.trans hj)
  have r4 := R3.out.set 1 (.int .i64 ((s.size : Int) - (q.size : Int) + 1))
  rw [show ((s.size - q.size + 1 : Nat) : Int) = (s.size : Int) - (q.size : Int) + 1 by omega]
  exact r4
end Go.Proofs.YtimecocegnnjjaaDoor
/-
  The program's inTurn and repeat: parts as function values, one behind the other.
-/
set_option linter.unusedSimpArgs false
set_option linter.unusedVariables false
namespace Go.Proofs.YtimecocegnnjjaaDoor
open Go.RowKit
set_option maxRecDepth 100000
theorem hideT {p : Prop} (h : p) : Hid p := h
/-- A method of the parser at P, as a value. -/
abbrev meth (f : Nat) (P : Value) : Value := .func (.func f) #[P] #[]
/-- What a part's call comes to: true, and T holds; or false, and F does. -/
def Told (T F : World → Prop) (e : Ending) (w : World) : Prop := (e = .returned (.bool true) ∧ T w) ∨ (e = .returned (.bool false) ∧ F w)
set_option maxHeartbeats 1000000 in
theorem inTurnD (P X : Value) (g n c : Nat) (fs : Nat → Nat) (I : Nat → World → Prop) (F : World → Prop) (hn : n ≤ 1000)
    (he : ∀ i, i < n → Enters Tryd.prog (fs i))
    (hcell : ∀ i w, i < n → I i w → w.cell? ⟨g, i, none⟩ = some (meth (fs i) P))
    (hstep : ∀ i w, i < n → I i w → Calls Tryd.prog (fs i) #[P] w (Told (I (i + 1)) F)) (w : World) (h0 : I 0 w) :
    Calls Tryd.prog 14 #[X, .slice (some ⟨g, 0, none⟩) n c] w (Told (I n) F) := by
  have HE : Hid (∀ i, i < n → Enters Tryd.prog (fs i)) := he
  have HC : Hid (∀ i w, i < n → I i w → w.cell? ⟨g, i, none⟩ = some (meth (fs i) P)) := hcell
  have HS : Hid (∀ i w, i < n → I i w → Calls Tryd.prog (fs i) #[P] w (Told (I (i + 1)) F)) := hstep
  have H0 : Hid (I 0 w) := h0
  clear he hcell hstep h0
  go_enter Tryd.func14, Tryd.ntmps14
  go_wp2_with fail
  go_loopw [9] (fun i wr => ∃ k : Nat, k ≤ n ∧ i = .int .i64 k ∧ Hid (I k wr)) (fun i _ => n - (intOf i).toNat)
  case atStart => exact ⟨0, Nat.zero_le _, rfl, H0⟩
  case round =>
    obtain ⟨k, hk, rfl, HI⟩ := hrel
    by_cases hlt : k < n
    · have x := HC.out k wr hlt HI.out
      have e := HE.out k hlt
      unfold Enters at e
      have t0 : (0 : Int) ≤ (k : Int) := by omega
      have t1 : (k : Int) < (n : Int) := by omega
      go_wp2_with fail
      refine (HS.out k wr hlt HI.out).mono ?_
      rintro d w1 (⟨rfl, hT⟩ | ⟨rfl, hF⟩)
      · have HT : Hid (I (k + 1) w1) := hT
        clear hT e x
        go_wp2_with fail
        go_roundw
        case rel => exact ⟨k + 1, by omega, by go_num, HT⟩
        case measure => simp [intOf]; omega
      · have HF : Hid (F w1) := hF
        clear hF e x
        go_wp2_with fail
        go_ret
        exact .inr ⟨rfl, HF.out⟩
    · obtain rfl : k = n := by omega
      go_wp2_with fail
      go_ret
      exact .inl ⟨rfl, HI.out⟩
set_option maxRecDepth 100000 in
set_option maxHeartbeats 1000000 in
theorem repeatD (P X : Value) (nx : Nat) (I T F : World → Prop) (mu : World → Nat) (hx : Enters Tryd.prog nx)
    (hnext : ∀ w, I w → Calls Tryd.prog nx #[P] w fun e w' => (e = .returned .nilFunc ∧ T w') ∨ ∃ f, e = .returned (meth f P) ∧ Enters Tryd.prog f ∧ Calls Tryd.prog f #[P] w' (Told (fun w'' => I w'' ∧ mu w'' < mu w) F)) (w : World) (h0 : I w) :
    Calls Tryd.prog 25 #[X, meth nx P] w (Told T F) := by
  have HN : Hid (∀ w, I w → Calls Tryd.prog nx #[P] w fun e w' => (e = .returned .nilFunc ∧ T w') ∨ ∃ f, e = .returned (meth f P) ∧ Enters Tryd.prog f ∧ Calls Tryd.prog f #[P] w' (Told (fun w'' => I w'' ∧ mu w'' < mu w) F)) := hnext
  have H0 : Hid (I w) := h0
  unfold Enters at hx
  clear hnext h0
  have q0 : ∀ (w : World), (binOp .neq 60 .nilFunc .nilFunc).run Tryd.prog w = .ok (.bool false) w := fun _ => rfl
  have q1 : ∀ (w : World) (f : Nat), (binOp .neq 60 (meth f P) .nilFunc).run Tryd.prog w = .ok (.bool true) w := fun _ _ => rfl
  go_enter Tryd.func25, Tryd.ntmps25
  go_wp2_with fail
  refine (HN.out w H0.out).mono ?_
  intro e0 w0 h1
  obtain ⟨r, hr, H1⟩ : ∃ r, e0 = .returned r ∧ Hid ((r = .nilFunc ∧ T w0) ∨ ∃ f, r = meth f P ∧ Enters Tryd.prog f ∧ Calls Tryd.prog f #[P] w0 (Told (fun w'' => I w'' ∧ mu w'' < mu w) F)) := by
    rcases h1 with ⟨rfl, h⟩ | ⟨f, rfl, h⟩
    · exact ⟨_, rfl, .inl ⟨rfl, h⟩⟩
    · exact ⟨_, rfl, .inr ⟨f, rfl, h⟩⟩
  subst hr
  clear h1
  go_wp2_with fail
  go_loopg [5] (mu w) (fun gg r wr => Hid ((r = .nilFunc ∧ T wr) ∨ ∃ f, r = meth f P ∧ Enters Tryd.prog f ∧ Calls Tryd.prog f #[P] wr (Told (fun w'' => I w'' ∧ mu w'' < gg) F)))
  case atStart => exact H1
  case round =>
    rcases hrel.out with ⟨hr, hT⟩ | ⟨f, hr, he, hc⟩
    · subst hr
      have HT : Hid (T wr) := hT
      clear hT hrel
      go_wp2_with fail
      go_ret
      exact .inl ⟨rfl, HT.out⟩
    · subst hr
      have HC : Hid (Calls Tryd.prog f #[P] wr (Told (fun w'' => I w'' ∧ mu w'' < gk) F)) := hc
      unfold Enters at he
      clear hc hrel
      have q2 := q1 wr f
      go_wp2_with fail
      refine HC.out.mono ?_
      rintro d w1 (⟨rfl, hI, hm⟩ | ⟨rfl, hF⟩)
      · have HI : Hid (I w1) := hI
        clear hI q2 he
        go_wp2_with fail
        refine (HN.out w1 HI.out).mono ?_
        intro e2 w2 h1
        obtain ⟨r, hr, H1⟩ : ∃ r, e2 = .returned r ∧ Hid ((r = .nilFunc ∧ T w2) ∨ ∃ f, r = meth f P ∧ Enters Tryd.prog f ∧ Calls Tryd.prog f #[P] w2 (Told (fun w'' => I w'' ∧ mu w'' < mu w1) F)) := by
          rcases h1 with ⟨rfl, h⟩ | ⟨f, rfl, h⟩
          · exact ⟨_, rfl, .inl ⟨rfl, h⟩⟩
          · exact ⟨_, rfl, .inr ⟨f, rfl, h⟩⟩
        subst hr
        clear h1
        go_wp2_with fail
        go_roundg (mu w1)
        case measure => exact hm
        case rel => exact H1
      · have HF : Hid (F w1) := hF
        clear hF q2 he
        go_wp2_with fail
        go_ret
        exact .inr ⟨rfl, HF.out⟩
end Go.Proofs.YtimecocegnnjjaaDoor
/-
  The program's nextAround and around.
-/
set_option linter.unusedSimpArgs false
set_option linter.unusedVariables false
namespace Go.Proofs.YtimecocegnnjjaaDoor
open Go.RowKit
abbrev ptr (b : Nat) : Value := .pointer (some ⟨b, 0, none⟩)
/-- Which part nextAround finds. -/
def nextA (s : List UInt8) (p : Nat) (P : Value) : Value :=
  if decide (p < Xp.skip s p) = true then meth 39 P else if Xp.hasL s p [60, 33, 45, 45] = true then meth 41 P else .nilFunc
theorem nextAroundD (w : World) (b : Nat) (s : ByteArray) (p : Nat) (R : PRest) (hs : s.size ≤ 1000000) (hp : p ≤ s.size) (h : PIn w b s p 0 R) :
    Calls Tryd.prog 26 #[ptr b] w fun e w' => e = .returned (nextA s.data.toList p (ptr b)) ∧ Below w.heap.size w w' := by
  have H : Hid (PIn w b s p 0 R) := h
  clear h
  have hmf : ∀ (fn : Fn) (first cap : Array Value) (w : World), (Instr.makeFunc fn first cap).run Tryd.prog w = .ok (.func fn first cap) w := fun _ _ _ _ => rfl
  obtain ⟨v, V⟩ : ∃ v, Hid (decide (p < Xp.skip s.data.toList p) = v) := ⟨decide (p < Xp.skip s.data.toList p), rfl⟩
  obtain ⟨u, U⟩ : ∃ v, Hid (Xp.hasL s.data.toList p (⟨#[60, 33, 45, 45]⟩ : ByteArray).data.toList = v) := ⟨_, rfl⟩
  cases v
  case true =>
    have HN : Hid (nextA s.data.toList p (ptr b) = meth 39 (ptr b)) := if_pos V.out
    go_enter Tryd.func26, Tryd.ntmps26
    go_wp2_with fail
    refine (blankAheadD w b s p 0 R true hs hp H.out V).mono ?_
    rintro d w1 ⟨rfl, b1⟩
    go_wp2_with fail
    go_ret
    rw [HN.out]
    exact ⟨rfl, b1⟩
  cases u
  case true =>
    have HN : Hid (nextA s.data.toList p (ptr b) = meth 41 (ptr b)) := by
      show nextA _ _ _ = _
      unfold nextA
      rw [if_neg (by rw [V.out]; simp), if_pos U.out]
    go_enter Tryd.func26, Tryd.ntmps26
    go_wp2_with fail
    refine (blankAheadD w b s p 0 R false hs hp H.out V).mono ?_
    rintro d w1 ⟨rfl, b1⟩
    go_wp2_with fail
    refine (aheadD w1 b s ⟨#[60, 33, 45, 45]⟩ p 0 R true hs hp (H.out.below b1) U).mono ?_
    rintro d w2 ⟨rfl, b2⟩
    go_wp2_with fail
    go_ret
    rw [HN.out]
    exact ⟨rfl, b1.trans (b2.mono b1.size)⟩
  have HN : Hid (nextA s.data.toList p (ptr b) = .nilFunc) := by
    show nextA _ _ _ = _
    unfold nextA
    rw [if_neg (by rw [V.out]; simp), if_neg (by rw [show Xp.hasL s.data.toList p [60, 33, 45, 45] = false from U.out]; simp)]
  go_enter Tryd.func26, Tryd.ntmps26
  go_wp2_with fail
  refine (blankAheadD w b s p 0 R false hs hp H.out V).mono ?_
  rintro d w1 ⟨rfl, b1⟩
  go_wp2_with fail
  refine (aheadD w1 b s ⟨#[60, 33, 45, 45]⟩ p 0 R false hs hp (H.out.below b1) U).mono ?_
  rintro d w2 ⟨rfl, b2⟩
  go_wp2_with fail
  go_ret
  rw [HN.out]
  exact ⟨rfl, b1.trans (b2.mono b1.size)⟩
theorem enterB : Enters Tryd.prog 39 := enters_of Tryd.func39 (by kernel_rfl) rfl
theorem enterR : Enters Tryd.prog 41 := enters_of Tryd.func41 (by kernel_rfl) rfl
theorem enterA : Enters Tryd.prog 26 := enters_of Tryd.func26 (by kernel_rfl) rfl
theorem Xp.has_room {s : ByteArray} {p : Nat} {x : List UInt8} (h : Xp.hasL s.data.toList p x = true) (h0 : 0 < x.length) : p + x.length ≤ s.size := by
  rcases Nat.lt_or_ge s.size (p + x.length) with h' | h'
  · rw [Xp.hasL_far (by rw [Array.length_toList]; exact h') h0] at h
    cases h
  · exact h'
/-- What one part found by nextAround does. -/
theorem stepA (w : World) (b : Nat) (s : ByteArray) (p : Nat) (R : PRest) (hs : s.size ≤ 1000000) (hp : p ≤ s.size) (hw : Ok w) (hoff : Off b) (h : PIn w b s p 0 R) :
    (nextA s.data.toList p (ptr b) = .nilFunc ∧ Xp.misc s.data.toList p = .ok p) ∨
    ∃ f, nextA s.data.toList p (ptr b) = meth f (ptr b) ∧ Enters Tryd.prog f ∧ Calls Tryd.prog f #[ptr b] w (Told (fun w' => Keep (· = b) w w' ∧ ∃ k : Nat, p < k ∧ k ≤ s.size ∧ PIn w' b s k 0 R ∧ Xp.misc s.data.toList p = Xp.misc s.data.toList k) (fun w' => Keep (· = b) w w' ∧ ∃ k : Nat, PIn w' b s k 2 R ∧ Xp.misc s.data.toList p = .error k)) := by
  have hL : s.data.toList.length = s.size := Array.length_toList
  unfold nextA
  by_cases hv : decide (p < Xp.skip s.data.toList p) = true
  · right
    refine ⟨39, if_pos hv, enterB, ?_⟩
    refine (blanksD w b s p R hs hp h).mono ?_
    rintro d w1 ⟨rfl, r1, k1⟩
    refine .inl ⟨rfl, k1, Xp.skip s.data.toList p, of_decide_eq_true hv, ?_, r1, Xp.misc_skip _ _⟩
    rw [← hL]
    exact Xp.skip_le (by rw [hL]; exact hp)
  · have hsk : Xp.skip s.data.toList p = p := by
      have := Xp.skip_ge s.data.toList p
      have h1 := of_decide_eq_false (Bool.not_eq_true _ ▸ hv)
      omega
    by_cases hu : Xp.hasL s.data.toList p [60, 33, 45, 45] = true
    · right
      refine ⟨41, by rw [if_neg hv, if_pos hu], enterR, ?_⟩
      have hrm := Xp.has_room hu (by decide)
      refine (remarkD w b s p R hs hrm hw hoff h).mono ?_
      rintro d w1 ⟨k1, g1, e1⟩
      have hst := Xp.misc_step s.data.toList p
      rw [hsk, if_pos (show Xp.hasL s.data.toList p Xp.remB = true from hu)] at hst
      cases hr : Xp.remark s.data.toList p with
      | none =>
        rw [hr] at hst
        obtain ⟨rfl, r1⟩ := e1 hr
        exact .inr ⟨rfl, k1, p, r1, hst⟩
      | some k =>
        rw [hr] at hst
        obtain ⟨rfl, r1⟩ := g1 k hr
        have := Xp.remark_gt hr
        exact .inl ⟨rfl, k1, k, by omega, by omega, r1, hst⟩
    · left
      refine ⟨by rw [if_neg hv, if_neg hu], ?_⟩
      rw [Xp.misc_step, hsk, if_neg (show ¬ Xp.hasL s.data.toList p Xp.remB = true from hu)]
/-- Blanks and remarks round the outermost element. -/
theorem aroundD (w : World) (b : Nat) (s : ByteArray) (p : Nat) (R : PRest) (hs : s.size ≤ 1000000) (hp : p ≤ s.size) (hw : Ok w) (hoff : Off b) (h : PIn w b s p 0 R) :
    Calls Tryd.prog 15 #[ptr b] w (Told (fun w' => Keep (· = b) w w' ∧ ∃ k : Nat, p ≤ k ∧ k ≤ s.size ∧ PIn w' b s k 0 R ∧ Xp.misc s.data.toList p = .ok k) (fun w' => Keep (· = b) w w' ∧ ∃ k : Nat, PIn w' b s k 2 R ∧ Xp.misc s.data.toList p = .error k)) := by
  have hmf : ∀ (fn : Fn) (first cap : Array Value) (w : World), (Instr.makeFunc fn first cap).run Tryd.prog w = .ok (.func fn first cap) w := fun _ _ _ _ => rfl
  have C : Hid (Calls Tryd.prog 25 #[ptr b, meth 26 (ptr b)] w (Told (fun w' => Keep (· = b) w w' ∧ ∃ k : Nat, p ≤ k ∧ k ≤ s.size ∧ PIn w' b s k 0 R ∧ Xp.misc s.data.toList p = .ok k) (fun w' => Keep (· = b) w w' ∧ ∃ k : Nat, PIn w' b s k 2 R ∧ Xp.misc s.data.toList p = .error k))) := by
    refine repeatD (ptr b) (ptr b) 26 (fun w' => Keep (· = b) w w' ∧ ∃ k : Nat, p ≤ k ∧ k ≤ s.size ∧ PIn w' b s k 0 R ∧ Xp.misc s.data.toList p = Xp.misc s.data.toList k) _ _ (fun w' => s.size - placeP w' b) enterA ?_ w ⟨Keep.refl _ _, p, Nat.le_refl _, hp, h, rfl⟩
    rintro w1 ⟨k1, k, hpk, hk, r1, e1⟩
    refine (nextAroundD w1 b s k R hs hk r1).mono ?_
    rintro d w2 ⟨rfl, b2⟩
    have k2 := k1.trans (Keep.of_below b2)
    have r2 := r1.below b2
    rcases stepA w2 b s k R hs hk (hw.keep k2 (fun i hi => by rw [hi]; exact hoff)) hoff r2 with ⟨h1, h2⟩ | ⟨f, h1, h2, h3⟩
    · exact .inl ⟨by rw [h1], k2, k, hpk, hk, r2, e1.trans h2⟩
    · refine .inr ⟨f, by rw [h1], h2, h3.mono ?_⟩
      rintro d w3 (⟨rfl, k3, j, hj, hjs, r3, e3⟩ | ⟨rfl, k3, j, r3, e3⟩)
      · refine .inl ⟨rfl, ⟨k2.trans k3, j, by omega, hjs, r3, e1.trans e3⟩, ?_⟩
        rw [placeP_of (k := k) (r1.cell 1), placeP_of (k := j) (r3.cell 1)]
        omega
      · exact .inr ⟨rfl, k2.trans k3, j, r3, e1.trans e3⟩
  go_enter Tryd.func15, Tryd.ntmps15
  go_wp2_with fail
  refine C.out.mono ?_
  rintro d w1 (⟨rfl, h1⟩ | ⟨rfl, h1⟩)
  · have H1 := hideT h1
    clear h1
    go_wp2_with fail
    go_ret
    exact .inl ⟨rfl, H1.out⟩
  · have H1 := hideT h1
    clear h1
    go_wp2_with fail
    go_ret
    exact .inr ⟨rfl, H1.out⟩
end Go.Proofs.YtimecocegnnjjaaDoor
/-
  The program's value.
-/
set_option linter.unusedSimpArgs false
set_option linter.unusedVariables false
namespace Go.Proofs.YtimecocegnnjjaaDoor
open Go.RowKit
/-- What stands between quotes, by the first quote behind it. -/
theorem Xp.value_cut (d : UInt8) (hd : d ≠ 60) (s : List UInt8) (p : Nat) (u q : List UInt8) (v : Bool) (h : Lib.cut (s.drop (p + 1)) [d] = (u, q, v)) :
    Xp.valueIn d s p = (if v = true ∧ Lib.indexByte u 60 < 0 then (match Sp.unesc u with | some t => if t.length ≤ 60 then some (t, p + 1 + u.length + 1) else none | none => none) else none) ∧ u.length ≤ s.length ∧ (v = true → p + 1 + u.length + 1 ≤ s.length) := by
  obtain ⟨h1, h2⟩ := Xp.stop_index d hd (s.drop (p + 1))
  unfold Lib.cut at h
  rw [Lib.index_one] at h
  unfold Xp.valueIn Xp.stop
  by_cases h0 : 0 ≤ Lib.indexByte (s.drop (p + 1)) d
  · rw [if_pos h0] at h
    obtain ⟨n, hn⟩ := Int.eq_ofNat_of_zero_le h0
    have hlt := (List.getElem?_eq_some_iff.1 (Lib.indexByte_some hn).1).1
    rw [hn, show ((n : Int)).toNat = n by omega] at h1 h2 h
    simp only [Prod.mk.injEq] at h
    obtain ⟨hu, hq, hv⟩ := h
    rw [List.length_drop] at hlt
    have hul : u.length = n := by
      rw [← hu, List.length_take, List.length_drop]
      omega
    refine ⟨?_, by omega, fun _ => by omega⟩
    rw [hu] at h1 h2
    by_cases h6 : Lib.indexByte u 60 < 0
    · obtain ⟨e1, e2⟩ := h1 ⟨by omega, h6⟩
      rw [e1] at e2
      rw [e1, if_pos (by rw [List.getElem?_drop] at e2; exact e2), if_pos ⟨hv.symm, h6⟩, show p + 1 + n - (p + 1) = n by omega, hu, hul]
      try (cases Sp.unesc u <;> rfl)
    · have e2 := h2 (fun hh => h6 hh.2)
      rw [if_neg (fun hh => e2 (by rw [List.getElem?_drop]; exact hh)), if_neg (fun hh => h6 hh.2)]
  · rw [if_neg h0] at h
    simp only [Prod.mk.injEq] at h
    obtain ⟨hu, hq, hv⟩ := h
    have e2 := h2 (fun hh => h0 hh.1)
    refine ⟨?_, by rw [← hu, List.length_drop]; omega, fun hh => by rw [← hv] at hh; cases hh⟩
    rw [if_neg (fun hh => e2 (by rw [List.getElem?_drop]; exact hh)), if_neg (fun hh => by rw [← hv] at hh; cases hh.1)]
theorem contains60 (s : ByteArray) (w : World) (v : Bool) (h : Hid (decide (0 ≤ Lib.indexByte s.data.toList 60) = v)) :
    Calls Tryd.prog 79 #[.string s, .string ⟨#[60]⟩] w fun e w' => e = .returned (.bool v) ∧ w' = w := by
  have := Tryd.strings_Contains_one s 60 w
  rw [h.out] at this
  exact this
set_option maxHeartbeats 4000000 in
theorem valueD (w : World) (b : Nat) (s : ByteArray) (p : Nat) (R : PRest) (hs : s.size ≤ 1000000) (hp : p ≤ s.size) (hw : Ok w) (hoff : Off b) (h : PIn w b s p 0 R) :
    Calls Tryd.prog 72 #[.pointer (some ⟨b, 0, none⟩)] w fun d w' => Keep (· = b) w w' ∧
      (∀ t k, Xp.value s.data.toList p = some (t, k) → d = .returned (.tuple #[.string ⟨t.toArray⟩, .bool true]) ∧ k ≤ s.size ∧ PIn w' b s k 0 R) ∧ (Xp.value s.data.toList p = none → d = .returned (.tuple #[.string ⟨#[]⟩, .bool false]) ∧ PIn w' b s p 2 R) := by
  have H : Hid (PIn w b s p 0 R) := h
  have HW : Hid (Ok w) := hw
  have HL : Hid (s.data.toList.length = s.size) := Array.length_toList
  clear h hw
  obtain ⟨v1, V1⟩ : ∃ v, Hid (Xp.hasL s.data.toList p (⟨#[34]⟩ : ByteArray).data.toList = v) := ⟨_, rfl⟩
  obtain ⟨v2, V2⟩ : ∃ v, Hid (Xp.hasL s.data.toList p (⟨#[39]⟩ : ByteArray).data.toList = v) := ⟨_, rfl⟩
  have E1 : Hid ((s.data.toList[p]? == some 34) = v1) := by
    show _ = _
    rw [← V1.out, ← Xp.has1]
  have E2 : Hid ((s.data.toList[p]? == some 39) = v2) := by
    show _ = _
    rw [← V2.out, ← Xp.has1]
  cases v1
  case true =>
    have HQ : Hid (Xp.value s.data.toList p = Xp.valueIn 34 s.data.toList p) := by
      show _ = _
      unfold Xp.value
      rw [if_pos (beq_iff_eq.1 E1.out)]
    have hc : s.data.toList[p]? = some 34 := beq_iff_eq.1 E1.out
    have hlt : p < s.size := by have := (List.getElem?_eq_some_iff.1 hc).1; have := HL.out; omega
    have hsc : s.extract p (p + 1) = ⟨#[34]⟩ := by
      rw [Xp.one_byte s p hlt]
      rw [Xp.at_byte s p hlt] at hc
      rw [Option.some.inj hc]
    obtain ⟨m, HM⟩ : ∃ m : ByteArray, Hid (s.extract (p + 1) s.size = m) := ⟨_, rfl⟩
    have hml : m.data.toList = s.data.toList.drop (p + 1) := by
      rw [← HM.out, Lib.extract_data, List.take_of_length_le (by rw [List.length_drop, HL.out]; exact Nat.le_refl _)]
    have hm : m.size ≤ 1000000 := by rw [← HM.out, ByteArray.size_extract]; omega
    obtain ⟨u, q, v, HC⟩ : ∃ (u q : ByteArray) (v : Bool), Hid (Lib.cut m.data.toList (⟨#[34]⟩ : ByteArray).data.toList = (u.data.toList, q.data.toList, v)) := ⟨⟨(Lib.cut m.data.toList [34]).1.toArray⟩, ⟨(Lib.cut m.data.toList [34]).2.1.toArray⟩, (Lib.cut m.data.toList [34]).2.2, rfl⟩
    have hrc := HC.out
    rw [hml] at hrc
    obtain ⟨hr, hu, hk⟩ := Xp.value_cut 34 (by decide) s.data.toList p _ _ _ hrc
    have hul : u.data.toList.length = u.size := Array.length_toList
    rw [hul] at hr hu hk
    have hu' : u.size ≤ 1000000 := by have := HL.out; omega
    have HK : Hid (v = true → p + 1 + u.size + 1 ≤ s.size) := by rw [HL.out] at hk; exact hk
    obtain ⟨v4, V4⟩ : ∃ v4, Hid (decide (0 ≤ Lib.indexByte u.data.toList 60) = v4) := ⟨_, rfl⟩
    obtain ⟨t, g, HT⟩ : ∃ (t : ByteArray) (g : Bool), Hid (Sp.textV (Sp.unesc u.data.toList) = .tuple #[.string t, .bool g]) := by
      cases hx : Sp.unesc u.data.toList with
      | none => exact ⟨⟨#[]⟩, false, rfl⟩
      | some t => exact ⟨⟨t.toArray⟩, true, rfl⟩
    have HV : Hid (Xp.value s.data.toList p = if v = true ∧ v4 = false ∧ g = true ∧ t.size ≤ 60 then some (t.data.toList, p + 1 + u.size + 1) else none) := by
      show _ = _
      have hi := Lib.indexByte_ge u.data.toList 60
      have h4 : (Lib.indexByte u.data.toList 60 < 0) ↔ v4 = false := by
        rw [← V4.out, decide_eq_false_iff_not]
        omega
      have hT := HT.out
      rw [HQ.out, hr]
      by_cases c1 : v = true
      · by_cases c2 : v4 = false
        · rw [if_pos ⟨c1, h4.2 c2⟩]
          cases hx : Sp.unesc u.data.toList with
          | none =>
            rw [hx] at hT
            have : g = false := by simp [Sp.textV] at hT; exact hT.2
            rw [if_neg (by rw [this]; simp)]
          | some y =>
            rw [hx] at hT
            have h5 : g = true ∧ t = ⟨y.toArray⟩ := by simp [Sp.textV] at hT; exact ⟨hT.2, hT.1.symm⟩
            have h6 : t.size = y.length := by rw [h5.2]; exact List.size_toArray
            have h7 : t.data.toList = y := by rw [h5.2]
            rw [h6, h7]
            by_cases c3 : y.length ≤ 60
            · simp only [c3, if_true]
              rw [if_pos ⟨c1, c2, h5.1, trivial⟩]
            · simp only [c3, if_false]
              rw [if_neg (fun hh => hh.2.2.2)]
        · rw [if_neg (fun hh => c2 (h4.1 hh.2)), if_neg (fun hh => c2 hh.2.1)]
      · rw [if_neg (fun hh => c1 hh.1), if_neg (fun hh => c1 hh.1)]
    clear hr hu hk hrc hml hul hc
    have hme2 : s.extract (p + 1) s.size = m := HM.out
    have t0 : (0 : Int) ≤ (p : Int) + 1 := by omega
    have t1 : (p : Int) + 1 ≤ (s.size : Int) := by omega
    have t2 : (0 : Int) ≤ (p : Int) := by omega
    have t3 : (p : Int) ≤ (p : Int) + 1 := by omega
    go_enter Tryd.func72, Tryd.ntmps72
    go_wp2_with fail
    refine (aheadD w b s ⟨#[34]⟩ p 0 R true hs hp H.out V1).mono ?_
    rintro e wa ⟨rfl, ba⟩
    have RA : Hid (PIn wa b s p 0 R) := H.out.below ba
    have KA : Hid (Keep (· = b) w wa) := Keep.of_below ba
    have HA : Hid (Ok wa) := HW.out.below ba
    have x0 : wa.cell? ⟨b, 0, none⟩ = some (.string s) := RA.out.cell 0
    have x1 : wa.cell? ⟨b, 1, none⟩ = some (.int .i64 p) := RA.out.cell 1
    clear ba
    go_wp2_with fail
    go_region_held3 (fun w' => w'.cell? ⟨b, 0, none⟩ = some (.string s) ∧ w'.cell? ⟨b, 1, none⟩ = some (.int .i64 p)) (go_keep) ((go_at_call 51; refine (cutD m ⟨#[34]⟩ _ hm (HA.out.below (Below.refl _ _).drew) u q v HC).mono ?_; rintro e w1 ⟨rfl, b1⟩; have R1 : PIn w1 b s p 0 R := (RA.out.below (Below.refl _ _).drew).below b1; have y0 : w1.cell? ⟨b, 0, none⟩ = some (.string s) := R1.cell 0; have y1 : w1.cell? ⟨b, 1, none⟩ = some (.int .i64 p) := R1.cell 1))
    have K1 : Hid (Keep (· = b) w w1) := KA.out.trans (Keep.of_below ((Below.refl _ _).drew.trans b1))
    have HR1 : Hid (PIn w1 b s p 0 R) := R1
    have HW1 : Hid (Ok w1) := HW.out.keep K1.out (fun k hk => by subst hk; exact hoff)
    clear R1 b1 x0 x1
    cases v
    case false =>
      have HN : Hid (Xp.value s.data.toList p = none) := by
        show _ = _
        rw [HV.out, if_neg (by simp)]
      go_wp2_with fail
      refine (failD _ b s p 0 p 2 R HR1.out).mono ?_
      rintro e w2 ⟨rfl, r2, k2⟩
      go_wp2_with fail
      go_ret2
      exact ⟨K1.out.trans k2, fun t j hj => absurd (HN.out.symm.trans hj) (by simp), fun _ => ⟨rfl, r2⟩⟩
    have hkk : p + 1 + u.size + 1 ≤ s.size := HK.out rfl
    cases v4
    case true =>
      have HN : Hid (Xp.value s.data.toList p = none) := by
        show _ = _
        rw [HV.out, if_neg (by simp)]
      go_wp2_with fail
      refine (contains60 u _ true V4).mono ?_
      rintro e w0 ⟨rfl, rfl⟩
      go_wp2_with fail
      refine (failD _ b s p 0 p 2 R HR1.out).mono ?_
      rintro e w2 ⟨rfl, r2, k2⟩
      go_wp2_with fail
      go_ret2
      exact ⟨K1.out.trans k2, fun t j hj => absurd (HN.out.symm.trans hj) (by simp), fun _ => ⟨rfl, r2⟩⟩
    go_wp2_with fail
    refine (contains60 u _ false V4).mono ?_
    rintro e w0 ⟨rfl, rfl⟩
    go_wp2_with fail
    refine (unescape_v u _ hu' HW1.out t g HT).mono ?_
    rintro e w3 ⟨rfl, b3⟩
    have R3 : Hid (PIn w3 b s p 0 R) := HR1.out.below b3
    have K3 : Hid (Keep (· = b) w w3) := K1.out.trans (Keep.of_below b3)
    have z1 : w3.cell? ⟨b, 1, none⟩ = some (.int .i64 p) := R3.out.cell 1
    have f1 : w3.frozen? ⟨b, 1, none⟩ = false := R3.out.free 1
    clear b3 y0 y1
    cases g
    case false =>
      have HN : Hid (Xp.value s.data.toList p = none) := by
        show _ = _
        rw [HV.out, if_neg (by simp)]
      go_wp2_with fail
      refine (failD _ b s p 0 p 2 R R3.out).mono ?_
      rintro e w2 ⟨rfl, r2, k2⟩
      go_wp2_with fail
      go_ret2
      exact ⟨K3.out.trans k2, fun t j hj => absurd (HN.out.symm.trans hj) (by simp), fun _ => ⟨rfl, r2⟩⟩
    by_cases h60 : t.size ≤ 60
    · have HN : Hid (Xp.value s.data.toList p = some (t.data.toList, p + 1 + u.size + 1)) := by
        show _ = _
        rw [HV.out, if_pos (by simpa using h60)]
      have h60' : ¬ (60 : Int) < (t.size : Int) := by omega
      go_wp2_with fail
      go_ret2
      refine ⟨K3.out.trans (Keep.set _ ⟨b, 1, none⟩ _ rfl), fun t' j hj => ?_, fun hj => absurd (HN.out.symm.trans hj) (by simp)⟩
      have e := Option.some.inj (HN.out.symm.trans hj)
      simp only [Prod.mk.injEq] at e
      obtain ⟨rfl, rfl⟩ := e
      exact ⟨rfl, hkk, R3.out.set 1 _⟩
    · have HN : Hid (Xp.value s.data.toList p = none) := by
        show _ = _
        rw [HV.out, if_neg (fun hh => h60 hh.2.2.2)]
      have h60' : (60 : Int) < (t.size : Int) := by omega
      go_wp2_with fail
      refine (failD _ b s p 0 p 2 R R3.out).mono ?_
      rintro e w2 ⟨rfl, r2, k2⟩
      go_wp2_with fail
      go_ret2
      exact ⟨K3.out.trans k2, fun t j hj => absurd (HN.out.symm.trans hj) (by simp), fun _ => ⟨rfl, r2⟩⟩
  cases v2
  case true =>
    have HQ : Hid (Xp.value s.data.toList p = Xp.valueIn 39 s.data.toList p) := by
      show _ = _
      unfold Xp.value
      rw [if_neg (beq_eq_false_iff_ne.1 E1.out), if_pos (beq_iff_eq.1 E2.out)]
    have hc : s.data.toList[p]? = some 39 := beq_iff_eq.1 E2.out
    have hlt : p < s.size := by have := (List.getElem?_eq_some_iff.1 hc).1; have := HL.out; omega
    have hsc : s.extract p (p + 1) = ⟨#[39]⟩ := by
      rw [Xp.one_byte s p hlt]
      rw [Xp.at_byte s p hlt] at hc
      rw [Option.some.inj hc]
    obtain ⟨m, HM⟩ : ∃ m : ByteArray, Hid (s.extract (p + 1) s.size = m) := ⟨_, rfl⟩
    have hml : m.data.toList = s.data.toList.drop (p + 1) := by
      rw [← HM.out, Lib.extract_data, List.take_of_length_le (by rw [List.length_drop, HL.out]; exact Nat.le_refl _)]
    have hm : m.size ≤ 1000000 := by rw [← HM.out, ByteArray.size_extract]; omega
    obtain ⟨u, q, v, HC⟩ : ∃ (u q : ByteArray) (v : Bool), Hid (Lib.cut m.data.toList (⟨#[39]⟩ : ByteArray).data.toList = (u.data.toList, q.data.toList, v)) := ⟨⟨(Lib.cut m.data.toList [39]).1.toArray⟩, ⟨(Lib.cut m.data.toList [39]).2.1.toArray⟩, (Lib.cut m.data.toList [39]).2.2, rfl⟩
    have hrc := HC.out
    rw [hml] at hrc
    obtain ⟨hr, hu, hk⟩ := Xp.value_cut 39 (by decide) s.data.toList p _ _ _ hrc
    have hul : u.data.toList.length = u.size := Array.length_toList
    rw [hul] at hr hu hk
    have hu' : u.size ≤ 1000000 := by have := HL.out; omega
    have HK : Hid (v = true → p + 1 + u.size + 1 ≤ s.size) := by rw [HL.out] at hk; exact hk
    obtain ⟨v4, V4⟩ : ∃ v4, Hid (decide (0 ≤ Lib.indexByte u.data.toList 60) = v4) := ⟨_, rfl⟩
    obtain ⟨t, g, HT⟩ : ∃ (t : ByteArray) (g : Bool), Hid (Sp.textV (Sp.unesc u.data.toList) = .tuple #[.string t, .bool g]) := by
      cases hx : Sp.unesc u.data.toList with
      | none => exact ⟨⟨#[]⟩, false, rfl⟩
      | some t => exact ⟨⟨t.toArray⟩, true, rfl⟩
    have HV : Hid (Xp.value s.data.toList p = if v = true ∧ v4 = false ∧ g = true ∧ t.size ≤ 60 then some (t.data.toList, p + 1 + u.size + 1) else none) := by
      show _ = _
      have hi := Lib.indexByte_ge u.data.toList 60
      have h4 : (Lib.indexByte u.data.toList 60 < 0) ↔ v4 = false := by
        rw [← V4.out, decide_eq_false_iff_not]
        omega
      have hT := HT.out
      rw [HQ.out, hr]
      by_cases c1 : v = true
      · by_cases c2 : v4 = false
        · rw [if_pos ⟨c1, h4.2 c2⟩]
          cases hx : Sp.unesc u.data.toList with
          | none =>
            rw [hx] at hT
            have : g = false := by simp [Sp.textV] at hT; exact hT.2
            rw [if_neg (by rw [this]; simp)]
          | some y =>
            rw [hx] at hT
            have h5 : g = true ∧ t = ⟨y.toArray⟩ := by simp [Sp.textV] at hT; exact ⟨hT.2, hT.1.symm⟩
            have h6 : t.size = y.length := by rw [h5.2]; exact List.size_toArray
            have h7 : t.data.toList = y := by rw [h5.2]
            rw [h6, h7]
            by_cases c3 : y.length ≤ 60
            · simp only [c3, if_true]
              rw [if_pos ⟨c1, c2, h5.1, trivial⟩]
            · simp only [c3, if_false]
              rw [if_neg (fun hh => hh.2.2.2)]
        · rw [if_neg (fun hh => c2 (h4.1 hh.2)), if_neg (fun hh => c2 hh.2.1)]
      · rw [if_neg (fun hh => c1 hh.1), if_neg (fun hh => c1 hh.1)]
    clear hr hu hk hrc hml hul hc
    have hme2 : s.extract (p + 1) s.size = m := HM.out
    have t0 : (0 : Int) ≤ (p : Int) + 1 := by omega
    have t1 : (p : Int) + 1 ≤ (s.size : Int) := by omega
    have t2 : (0 : Int) ≤ (p : Int) := by omega
    have t3 : (p : Int) ≤ (p : Int) + 1 := by omega
    go_enter Tryd.func72, Tryd.ntmps72
    go_wp2_with fail
    refine (aheadD w b s ⟨#[34]⟩ p 0 R false hs hp H.out V1).mono ?_
    rintro e wz ⟨rfl, bz⟩
    go_wp2_with fail
    refine (aheadD wz b s ⟨#[39]⟩ p 0 R true hs hp (H.out.below bz) V2).mono ?_
    rintro e wa ⟨rfl, ba⟩
    have RA : Hid (PIn wa b s p 0 R) := (H.out.below bz).below ba
    have KA : Hid (Keep (· = b) w wa) := (Keep.of_below bz).trans (Keep.of_below ba)
    have HA : Hid (Ok wa) := (HW.out.below bz).below ba
    have x0 : wa.cell? ⟨b, 0, none⟩ = some (.string s) := RA.out.cell 0
    have x1 : wa.cell? ⟨b, 1, none⟩ = some (.int .i64 p) := RA.out.cell 1
    clear ba bz
    go_wp2_with fail
    go_region_held3 (fun w' => w'.cell? ⟨b, 0, none⟩ = some (.string s) ∧ w'.cell? ⟨b, 1, none⟩ = some (.int .i64 p)) (go_keep) ((go_at_call 51; refine (cutD m ⟨#[39]⟩ _ hm (HA.out.below (Below.refl _ _).drew) u q v HC).mono ?_; rintro e w1 ⟨rfl, b1⟩; have R1 : PIn w1 b s p 0 R := (RA.out.below (Below.refl _ _).drew).below b1; have y0 : w1.cell? ⟨b, 0, none⟩ = some (.string s) := R1.cell 0; have y1 : w1.cell? ⟨b, 1, none⟩ = some (.int .i64 p) := R1.cell 1))
    have K1 : Hid (Keep (· = b) w w1) := KA.out.trans (Keep.of_below ((Below.refl _ _).drew.trans b1))
    have HR1 : Hid (PIn w1 b s p 0 R) := R1
    have HW1 : Hid (Ok w1) := HW.out.keep K1.out (fun k hk => by subst hk; exact hoff)
    clear R1 b1 x0 x1
    cases v
    case false =>
      have HN : Hid (Xp.value s.data.toList p = none) := by
        show _ = _
        rw [HV.out, if_neg (by simp)]
      go_wp2_with fail
      refine (failD _ b s p 0 p 2 R HR1.out).mono ?_
      rintro e w2 ⟨rfl, r2, k2⟩
      go_wp2_with fail
      go_ret2
      exact ⟨K1.out.trans k2, fun t j hj => absurd (HN.out.symm.trans hj) (by simp), fun _ => ⟨rfl, r2⟩⟩
    have hkk : p + 1 + u.size + 1 ≤ s.size := HK.out rfl
    cases v4
    case true =>
      have HN : Hid (Xp.value s.data.toList p = none) := by
        show _ = _
        rw [HV.out, if_neg (by simp)]
      go_wp2_with fail
      refine (contains60 u _ true V4).mono ?_
      rintro e w0 ⟨rfl, rfl⟩
      go_wp2_with fail
      refine (failD _ b s p 0 p 2 R HR1.out).mono ?_
      rintro e w2 ⟨rfl, r2, k2⟩
      go_wp2_with fail
      go_ret2
      exact ⟨K1.out.trans k2, fun t j hj => absurd (HN.out.symm.trans hj) (by simp), fun _ => ⟨rfl, r2⟩⟩
    go_wp2_with fail
    refine (contains60 u _ false V4).mono ?_
    rintro e w0 ⟨rfl, rfl⟩
    go_wp2_with fail
    refine (unescape_v u _ hu' HW1.out t g HT).mono ?_
    rintro e w3 ⟨rfl, b3⟩
    have R3 : Hid (PIn w3 b s p 0 R) := HR1.out.below b3
    have K3 : Hid (Keep (· = b) w w3) := K1.out.trans (Keep.of_below b3)
    have z1 : w3.cell? ⟨b, 1, none⟩ = some (.int .i64 p) := R3.out.cell 1
    have f1 : w3.frozen? ⟨b, 1, none⟩ = false := R3.out.free 1
    clear b3 y0 y1
    cases g
    case false =>
      have HN : Hid (Xp.value s.data.toList p = none) := by
        show _ = _
        rw [HV.out, if_neg (by simp)]
      go_wp2_with fail
      refine (failD _ b s p 0 p 2 R R3.out).mono ?_
      rintro e w2 ⟨rfl, r2, k2⟩
      go_wp2_with fail
      go_ret2
      exact ⟨K3.out.trans k2, fun t j hj => absurd (HN.out.symm.trans hj) (by simp), fun _ => ⟨rfl, r2⟩⟩
    by_cases h60 : t.size ≤ 60
    · have HN : Hid (Xp.value s.data.toList p = some (t.data.toList, p + 1 + u.size + 1)) := by
        show _ = _
        rw [HV.out, if_pos (by simpa using h60)]
      have h60' : ¬ (60 : Int) < (t.size : Int) := by omega
      go_wp2_with fail
      go_ret2
      refine ⟨K3.out.trans (Keep.set _ ⟨b, 1, none⟩ _ rfl), fun t' j hj => ?_, fun hj => absurd (HN.out.symm.trans hj) (by simp)⟩
      have e := Option.some.inj (HN.out.symm.trans hj)
      simp only [Prod.mk.injEq] at e
      obtain ⟨rfl, rfl⟩ := e
      exact ⟨rfl, hkk, R3.out.set 1 _⟩
    · have HN : Hid (Xp.value s.data.toList p = none) := by
        show _ = _
        rw [HV.out, if_neg (fun hh => h60 hh.2.2.2)]
      have h60' : (60 : Int) < (t.size : Int) := by omega
      go_wp2_with fail
      refine (failD _ b s p 0 p 2 R R3.out).mono ?_
      rintro e w2 ⟨rfl, r2, k2⟩
      go_wp2_with fail
      go_ret2
      exact ⟨K3.out.trans k2, fun t j hj => absurd (HN.out.symm.trans hj) (by simp), fun _ => ⟨rfl, r2⟩⟩
  have HN : Hid (Xp.value s.data.toList p = none) := by
    show _ = _
    unfold Xp.value
    rw [if_neg (beq_eq_false_iff_ne.1 E1.out), if_neg (beq_eq_false_iff_ne.1 E2.out)]
  go_enter Tryd.func72, Tryd.ntmps72
  go_wp2_with fail
  refine (aheadD w b s ⟨#[34]⟩ p 0 R false hs hp H.out V1).mono ?_
  rintro e wz ⟨rfl, bz⟩
  go_wp2_with fail
  refine (aheadD wz b s ⟨#[39]⟩ p 0 R false hs hp (H.out.below bz) V2).mono ?_
  rintro e wa ⟨rfl, ba⟩
  have RA : Hid (PIn wa b s p 0 R) := (H.out.below bz).below ba
  have KA : Hid (Keep (· = b) w wa) := (Keep.of_below bz).trans (Keep.of_below ba)
  have x1 : wa.cell? ⟨b, 1, none⟩ = some (.int .i64 p) := RA.out.cell 1
  clear ba bz
  go_wp2_with fail
  refine (failD _ b s p 0 p 2 R RA.out).mono ?_
  rintro e w2 ⟨rfl, r2, k2⟩
  go_wp2_with fail
  go_ret2
  exact ⟨KA.out.trans k2, fun t j hj => absurd (HN.out.symm.trans hj) (by simp), fun _ => ⟨rfl, r2⟩⟩
end Go.Proofs.YtimecocegnnjjaaDoor
