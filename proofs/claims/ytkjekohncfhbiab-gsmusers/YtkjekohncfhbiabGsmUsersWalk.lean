/-
  GsmUsers' walk (written by GsmUsersWalk.py).
-/
import Derived.Test.YtkjekohncfhbiabGLawK
set_option linter.unusedSimpArgs false
set_option linter.unusedVariables false
namespace Go.Proofs.Ytkjekohncfhbiab
open Go.RowKit
set_option maxRecDepth 100000
namespace Gp
open Rp
def fsU (a b : Bool) : List Int := (bif a then [0] else []) ++ (bif b then [1] else [])
def pu (a b : Bool) : Prog := ⟨6, 4, fsU a b, [], 1, [], [(1, [(4, false)], [], [(2, true)]), (1, [(5, false)], [], [(3, true)])], [], [(⟨#[120]⟩, 1, [(0, false)], 4), (⟨#[120]⟩, 1, [(1, false)], 5)], []⟩
theorem pu_is (a b : Bool) : IsP (pu a b) := by cases a <;> cases b <;> exact is_of (by decide) (by decide) (by decide) (by decide) (by decide) (by decide) (by decide) (by decide) (by decide) (by decide) (by decide)
theorem pu_small (a b : Bool) : SmallP (pu a b) := by cases a <;> cases b <;> exact ⟨by decide, by decide, by decide, by decide, by decide, by decide, by decide⟩
def u0 (a b : Bool) : St := ⟨[a, b, false, false, false, false], [], []⟩
def u1 (a b : Bool) : St := ⟨[a, b, a, b && !a, false, false], [], []⟩
theorem pu_new (a b : Bool) : newP (pu a b) = some (u0 a b) := by cases a <;> cases b <;> kernel_rfl
def actU (s : ByteArray) (n : Int) : Act := ⟨1, s, n, ⟨#[]⟩, 0⟩
theorem pu_d1 (a b : Bool) : doS (kept (pu a b)) (u0 a b) (actU ⟨#[120]⟩ 1) = (bif a || b then 0 else 8, u1 a b) := by cases a <;> cases b <;> kernel_rfl
theorem pu_d2 (a b : Bool) : doS (kept (pu a b)) (u1 a b) (actU ⟨#[120]⟩ 2) = (8, u1 a b) := by cases a <;> cases b <;> kernel_rfl
theorem pu_d3 (a b : Bool) : doS (kept (pu a b)) (u1 a b) (actU ⟨#[121]⟩ 1) = (1, u1 a b) := by cases a <;> cases b <;> kernel_rfl
end Gp
abbrev prU (b : Nat) (v : Value) : Array Value := #[.int .i64 6, .int .i64 4, v, .slice none 0 0, .int .i64 1, .slice none 0 0, .slice (some ⟨b + 7, 0, none⟩) 2 2, .slice none 0 0, .slice (some ⟨b + 2, 0, none⟩) 2 2, .slice none 0 0]
theorem builtU (w : World) : ∃ V, (((((((((w.alloc (.cells #[.int .i64 0, .bool false] 36)).alloc (.cells #[.int .i64 1, .bool false] 36)).alloc (.cells #[.string ⟨#[120]⟩, .int .i64 1, .slice (some ⟨w.heap.size, 0, none⟩) 1 1, .int .i64 4, .string ⟨#[120]⟩, .int .i64 1, .slice (some ⟨w.heap.size + 1, 0, none⟩) 1 1, .int .i64 5] 39)).alloc (.cells #[.int .i64 4, .bool false] 36)).alloc (.cells #[.int .i64 2, .bool true] 42)).alloc (.cells #[.int .i64 5, .bool false] 36)).alloc (.cells #[.int .i64 3, .bool true] 42)).alloc (.cells #[.int .i64 1, .slice (some ⟨w.heap.size + 3, 0, none⟩) 1 1, .slice none 0 0, .slice (some ⟨w.heap.size + 4, 0, none⟩) 1 1, .int .i64 1, .slice (some ⟨w.heap.size + 5, 0, none⟩) 1 1, .slice none 0 0, .slice (some ⟨w.heap.size + 6, 0, none⟩) 1 1] 46)).alloc (.cells (prU w.heap.size (.slice none 0 0)) 53)) = V ∧ Below w.heap.size w V ∧ V.heap.size = w.heap.size + 9 ∧ Lies V w.heap.size 36 #[.int .i64 0, .bool false] ∧ Lies V (w.heap.size + 1) 36 #[.int .i64 1, .bool false] ∧ Lies V (w.heap.size + 2) 39 #[.string ⟨#[120]⟩, .int .i64 1, .slice (some ⟨w.heap.size, 0, none⟩) 1 1, .int .i64 4, .string ⟨#[120]⟩, .int .i64 1, .slice (some ⟨w.heap.size + 1, 0, none⟩) 1 1, .int .i64 5] ∧ Lies V (w.heap.size + 3) 36 #[.int .i64 4, .bool false] ∧ Lies V (w.heap.size + 4) 42 #[.int .i64 2, .bool true] ∧ Lies V (w.heap.size + 5) 36 #[.int .i64 5, .bool false] ∧ Lies V (w.heap.size + 6) 42 #[.int .i64 3, .bool true] ∧ Lies V (w.heap.size + 7) 46 #[.int .i64 1, .slice (some ⟨w.heap.size + 3, 0, none⟩) 1 1, .slice none 0 0, .slice (some ⟨w.heap.size + 4, 0, none⟩) 1 1, .int .i64 1, .slice (some ⟨w.heap.size + 5, 0, none⟩) 1 1, .slice none 0 0, .slice (some ⟨w.heap.size + 6, 0, none⟩) 1 1] ∧ Lies V (w.heap.size + 8) 53 (prU w.heap.size (.slice none 0 0)) := by
  obtain ⟨W1, h1, b1, l0, s1⟩ := box1 w 36 #[.int .i64 0, .bool false]
  obtain ⟨W2, h2, b2, l1, s2⟩ := box1 W1 36 #[.int .i64 1, .bool false]
  rw [s1] at l1 s2
  obtain ⟨W3, h3, b3, l2, s3⟩ := box1 W2 39 #[.string ⟨#[120]⟩, .int .i64 1, .slice (some ⟨w.heap.size, 0, none⟩) 1 1, .int .i64 4, .string ⟨#[120]⟩, .int .i64 1, .slice (some ⟨w.heap.size + 1, 0, none⟩) 1 1, .int .i64 5]
  rw [s2] at l2 s3
  obtain ⟨W4, h4, b4, l3, s4⟩ := box1 W3 36 #[.int .i64 4, .bool false]
  rw [s3] at l3 s4
  obtain ⟨W5, h5, b5, l4, s5⟩ := box1 W4 42 #[.int .i64 2, .bool true]
  rw [s4] at l4 s5
  obtain ⟨W6, h6, b6, l5, s6⟩ := box1 W5 36 #[.int .i64 5, .bool false]
  rw [s5] at l5 s6
  obtain ⟨W7, h7, b7, l6, s7⟩ := box1 W6 42 #[.int .i64 3, .bool true]
  rw [s6] at l6 s7
  obtain ⟨W8, h8, b8, l7, s8⟩ := box1 W7 46 #[.int .i64 1, .slice (some ⟨w.heap.size + 3, 0, none⟩) 1 1, .slice none 0 0, .slice (some ⟨w.heap.size + 4, 0, none⟩) 1 1, .int .i64 1, .slice (some ⟨w.heap.size + 5, 0, none⟩) 1 1, .slice none 0 0, .slice (some ⟨w.heap.size + 6, 0, none⟩) 1 1]
  rw [s7] at l7 s8
  obtain ⟨W9, h9, b9, l8, s9⟩ := box1 W8 53 (prU w.heap.size (.slice none 0 0))
  rw [s8] at l8 s9
  rw [h1, h2, h3, h4, h5, h6, h7, h8, h9]
  have B1 := b1
  have B2 := B1.trans (b2.mono B1.size)
  have B3 := B2.trans (b3.mono B2.size)
  have B4 := B3.trans (b4.mono B3.size)
  have B5 := B4.trans (b5.mono B4.size)
  have B6 := B5.trans (b6.mono B5.size)
  have B7 := B6.trans (b7.mono B6.size)
  have B8 := B7.trans (b8.mono B7.size)
  have B9 := B8.trans (b9.mono B8.size)
  have l0 := l0.below b2
  have l0 := l0.below b3
  have l0 := l0.below b4
  have l0 := l0.below b5
  have l0 := l0.below b6
  have l0 := l0.below b7
  have l0 := l0.below b8
  have l0 := l0.below b9
  have l1 := l1.below b3
  have l1 := l1.below b4
  have l1 := l1.below b5
  have l1 := l1.below b6
  have l1 := l1.below b7
  have l1 := l1.below b8
  have l1 := l1.below b9
  have l2 := l2.below b4
  have l2 := l2.below b5
  have l2 := l2.below b6
  have l2 := l2.below b7
  have l2 := l2.below b8
  have l2 := l2.below b9
  have l3 := l3.below b5
  have l3 := l3.below b6
  have l3 := l3.below b7
  have l3 := l3.below b8
  have l3 := l3.below b9
  have l4 := l4.below b6
  have l4 := l4.below b7
  have l4 := l4.below b8
  have l4 := l4.below b9
  have l5 := l5.below b7
  have l5 := l5.below b8
  have l5 := l5.below b9
  have l6 := l6.below b8
  have l6 := l6.below b9
  have l7 := l7.below b9
  exact ⟨W9, rfl, B9, by omega, l0, l1, l2, l3, l4, l5, l6, l7, l8⟩
theorem rowsU {W : World} {B : Nat}  (l0 : Lies W B 36 #[.int .i64 0, .bool false]) (l1 : Lies W (B + 1) 36 #[.int .i64 1, .bool false]) (l2 : Lies W (B + 2) 39 #[.string ⟨#[120]⟩, .int .i64 1, .slice (some ⟨B, 0, none⟩) 1 1, .int .i64 4, .string ⟨#[120]⟩, .int .i64 1, .slice (some ⟨B + 1, 0, none⟩) 1 1, .int .i64 5]) (l3 : Lies W (B + 3) 36 #[.int .i64 4, .bool false]) (l4 : Lies W (B + 4) 42 #[.int .i64 2, .bool true]) (l5 : Lies W (B + 5) 36 #[.int .i64 5, .bool false]) (l6 : Lies W (B + 6) 42 #[.int .i64 3, .bool true]) (l7 : Lies W (B + 7) 46 #[.int .i64 1, .slice (some ⟨B + 3, 0, none⟩) 1 1, .slice none 0 0, .slice (some ⟨B + 4, 0, none⟩) 1 1, .int .i64 1, .slice (some ⟨B + 5, 0, none⟩) 1 1, .slice none 0 0, .slice (some ⟨B + 6, 0, none⟩) 1 1]) : RRow W (.slice (some ⟨B + 7, 0, none⟩) 2 2) [(1, [(4, false)], [], [(2, true)]), (1, [(5, false)], [], [(3, true)])] ∧ URow W (.slice (some ⟨B + 2, 0, none⟩) 2 2) [(⟨#[120]⟩, 1, [(0, false)], 4), (⟨#[120]⟩, 1, [(1, false)], 5)] := by
  constructor
  · refine rowR_of_own (H := 0) (CS := [[.int .i64 1, .slice (some ⟨B + 3, 0, none⟩) 1 1, .slice none 0 0, .slice (some ⟨B + 4, 0, none⟩) 1 1], [.int .i64 1, .slice (some ⟨B + 5, 0, none⟩) 1 1, .slice none 0 0, .slice (some ⟨B + 6, 0, none⟩) 1 1]]) (own_of_liesG (z := 4) (n := 2) l7 (Nat.zero_le _) rfl (by decide)) (by show 2 ≤ _; decide) rfl (fun x hx => by simp at hx; rcases hx with rfl | rfl <;> rfl) (fun i x cs hx hcs => ?_)
    match i, hx, hcs with
    | 0, hx, hcs =>
      cases hx
      cases hcs
      exact ⟨_, _, _, rfl, lrow_lies l3 [(4, false)] rfl (by decide), rowR_nil _, lrow_lies l4 [(2, true)] rfl (by decide)⟩
    | 1, hx, hcs =>
      cases hx
      cases hcs
      exact ⟨_, _, _, rfl, lrow_lies l5 [(5, false)] rfl (by decide), rowR_nil _, lrow_lies l6 [(3, true)] rfl (by decide)⟩
    | i + 2, hx, hcs => cases hx
  · refine rowR_of_own (H := 0) (CS := [[.string ⟨#[120]⟩, .int .i64 1, .slice (some ⟨B, 0, none⟩) 1 1, .int .i64 4], [.string ⟨#[120]⟩, .int .i64 1, .slice (some ⟨B + 1, 0, none⟩) 1 1, .int .i64 5]]) (own_of_liesG (z := 4) (n := 2) l2 (Nat.zero_le _) rfl (by decide)) (by show 2 ≤ _; decide) rfl (fun x hx => by simp at hx; rcases hx with rfl | rfl <;> rfl) (fun i x cs hx hcs => ?_)
    match i, hx, hcs with
    | 0, hx, hcs =>
      cases hx
      cases hcs
      exact ⟨_, rfl, by decide, lrow_lies l0 [(0, false)] rfl (by decide)⟩
    | 1, hx, hcs =>
      cases hx
      cases hcs
      exact ⟨_, rfl, by decide, lrow_lies l1 [(1, false)] rfl (by decide)⟩
    | i + 2, hx, hcs => cases hx
set_option maxHeartbeats 8000000 in
theorem gsmUsers_walk (a b : Bool) {w : World} :
    Calls Try.prog 4 #[.bool a, .bool b] w fun e w' => e = .returned (.bool true) ∧ Below w.heap.size w w' := by
  obtain ⟨V, hV, b0, sv, l0, l1, l2, l3, l4, l5, l6, l7, l8⟩ := builtU w
  have HV := hideT hV
  have HB0 := hideT b0
  have HSV := hideT sv
  have HL0 := hideT l0
  have HL1 := hideT l1
  have HL2 := hideT l2
  have HL3 := hideT l3
  have HL4 := hideT l4
  have HL5 := hideT l5
  have HL6 := hideT l6
  have HL7 := hideT l7
  have HL8 := hideT l8
  clear hV b0 sv l0 l1 l2 l3 l4 l5 l6 l7 l8
  go_enter Try.func4, Try.ntmps4
  go_upto_if 30 with fail
  rw [HV.out]
  go_cut [5] from 30 to 35 (fun q wc => q = .pointer (some ⟨w.heap.size + 8, 0, none⟩) ∧ Hid (AppF V wc (w.heap.size + 8) (prU w.heap.size) (bif a then [0] else [])))
  case first =>
    cases a
    · go_wp2_with fail
      go_meet
      case rel => exact ⟨rfl, none, 0, HL8.out, OE.nil (by have := HSV.out; omega), Keep.refl _ _⟩
    · obtain ⟨X, hX⟩ : ∃ X, V = X := ⟨_, rfl⟩
      obtain ⟨l, hl⟩ : ∃ l : List Int, l = [] := ⟨_, rfl⟩
      have hl5 : l.length ≤ 1 := by rw [hl]; exact Nat.zero_le _
      obtain ⟨ob, oc, hobc⟩ : ∃ (ob : Option Addr) (oc : Nat), Value.slice none 0 0 = Value.slice ob l.length oc := ⟨none, 0, by rw [hl]; rfl⟩
      have L8 := HL8
      rw [hobc] at L8
      have hO : Hid (OE (w.heap.size + 8 + 1) 3 1 celE V (.slice ob l.length oc) (l.map celI)) := by
        show OE _ _ _ _ _ _ _
        rw [← hobc, hl]
        exact OE.nil (by have := HSV.out; omega)
      have hK : Hid (Keep (fun i => w.heap.size + 8 ≤ i) V V) := Keep.refl _ _
      have HIN : ∀ W, AppF V W (w.heap.size + 8) (prU w.heap.size) (l ++ [0]) → Hid (AppF V W (w.heap.size + 8) (prU w.heap.size) (bif true then [0] else [])) := by
        intro W h
        rw [hl] at h
        exact h
      clear hobc hl
      subst hX
      have y2 : V.cell? ⟨w.heap.size + 8, 2, none⟩ = some (.slice ob l.length oc) := L8.out.cell 2
      have z1 := cell_lt y2
      have z2 := World.new_ne V _ y2
      go_wp2_with (first | (at_builtin; ((refine wpList_appO (t := 48) (e := 3) (z := 1) (E := celE) Try.underlying48 infoC_I rfl (by omega) (by omega) celE_len celE_one (by rfl) _ _ (by rfl) (v := .slice ob l.length oc) (by rfl) (by rfl) (hO.out.below ((Below.refl _ V).alloc (Nat.le_refl _) _)) [celI 0] rfl (one_cel (W := V) (cs := #[.int .i64 0]) (ty := 3) (celI 0) rfl) (by rw [List.length_map, List.length_singleton]; omega) ?_); intro v' w3 o3 k3; obtain ⟨qad, qcap, hq, hqq⟩ := o3.form; clear hqq; rw [List.length_append, List.length_map, List.length_singleton] at hq; subst hq; have L3 := appF_kept (C := prU w.heap.size) L8.out hO.out k3; have q2 : w3.cell? ⟨w.heap.size + 8, 2, none⟩ = some (.slice ob l.length oc) := L3.cell 2; have f2 : w3.frozen? ⟨w.heap.size + 8, 2, none⟩ = false := L3.free 2)) | fail)
      go_meet
      case rel => exact ⟨rfl, HIN _ (appF_next (C := prU w.heap.size) L8.out hO.out hK.out (fun _ _ => rfl) o3 k3)⟩
  case rest =>
    obtain ⟨rfl, HA⟩ := hcut
    obtain ⟨X, hX⟩ : ∃ X, wc = X := ⟨_, rfl⟩
    subst hX
    obtain ⟨l, hl⟩ : ∃ l : List Int, (bif a then [0] else []) = l := ⟨_, rfl⟩
    have hl5 : l.length ≤ 1 := by rw [← hl]; cases a <;> decide
    rw [hl] at HA
    obtain ⟨ob, oc, L8, hO, hK⟩ := HA.out
    have L8 := hideT L8
    have hO := hideT hO
    have hK := hideT hK
    have HL := hideT hl
    clear HA hl
    go_upto_if 36 with fail
    go_cut [5] from 36 to 41 (fun q wc => q = .pointer (some ⟨w.heap.size + 8, 0, none⟩) ∧ Hid (AppF V wc (w.heap.size + 8) (prU w.heap.size) (Gp.fsU a b)))
    case first =>
      cases b
      · go_wp2_with fail
        go_meet
        case rel => exact ⟨rfl, by show AppF _ _ _ _ _; unfold Gp.fsU; rw [HL.out]; show AppF _ _ _ _ (l ++ []); rw [List.append_nil]; exact ⟨ob, oc, L8.out, hO.out, hK.out⟩⟩
      · have HIN : ∀ W, AppF V W (w.heap.size + 8) (prU w.heap.size) (l ++ [1]) → Hid (AppF V W (w.heap.size + 8) (prU w.heap.size) (Gp.fsU a true)) := by
          intro W h
          show AppF _ _ _ _ _
          unfold Gp.fsU
          rw [HL.out]
          exact h
        have y2 : wc.cell? ⟨w.heap.size + 8, 2, none⟩ = some (.slice ob l.length oc) := L8.out.cell 2
        have z1 := cell_lt y2
        have z2 := World.new_ne wc _ y2
        go_wp2_with (first | (at_builtin; ((refine wpList_appO (t := 48) (e := 3) (z := 1) (E := celE) Try.underlying48 infoC_I rfl (by omega) (by omega) celE_len celE_one (by rfl) _ _ (by rfl) (v := .slice ob l.length oc) (by rfl) (by rfl) (hO.out.below ((Below.refl _ wc).alloc (Nat.le_refl _) _)) [celI 1] rfl (one_cel (W := wc) (cs := #[.int .i64 1]) (ty := 3) (celI 1) rfl) (by rw [List.length_map, List.length_singleton]; omega) ?_); intro v' w3 o3 k3; obtain ⟨qad, qcap, hq, hqq⟩ := o3.form; clear hqq; rw [List.length_append, List.length_map, List.length_singleton] at hq; subst hq; have L3 := appF_kept (C := prU w.heap.size) L8.out hO.out k3; have q2 : w3.cell? ⟨w.heap.size + 8, 2, none⟩ = some (.slice ob l.length oc) := L3.cell 2; have f2 : w3.frozen? ⟨w.heap.size + 8, 2, none⟩ = false := L3.free 2)) | fail)
        go_meet
        case rel => exact ⟨rfl, HIN _ (appF_next (C := prU w.heap.size) L8.out hO.out hK.out (fun _ _ => rfl) o3 k3)⟩
    case rest =>
      obtain ⟨rfl, HA⟩ := hcut
      obtain ⟨ob2, oc2, M8, mO, mK⟩ := HA.out
      have hsz : w.heap.size + 9 ≤ wc.heap.size := by have := mK.size; have := HSV.out; omega
      have HRW := hideT (rowsU (W := wc) (B := w.heap.size) (HL0.out.keep mK (by omega)) (HL1.out.keep mK (by omega)) (HL2.out.keep mK (by omega)) (HL3.out.keep mK (by omega)) (HL4.out.keep mK (by omega)) (HL5.out.keep mK (by omega)) (HL6.out.keep mK (by omega)) (HL7.out.keep mK (by omega)))
      have HBc := hideT (Keep.below HB0.out mK (fun i hi e => by omega))
      have HM8 := hideT M8
      have HMO := hideT mO
      clear M8 mO mK L8 hO hK HA HL0 HL1 HL2 HL3 HL4 HL5 HL6 HL7 HL8 HL HB0 HSV HV
      cases a <;> cases b
      · have HP : Hid (ProgAt wc ⟨ob2, oc2, none, 0, none, 0, some ⟨w.heap.size + 7, 0, none⟩, 2, none, 0, some ⟨w.heap.size + 2, 0, none⟩, 2, none, 0⟩ (Gp.pu false false)) := ⟨oe_zrow HMO.out (by decide), zrow_nil _, rowR_nil _, HRW.out.1, rowR_nil _, HRW.out.2, rowR_nil _⟩
        have y0 : wc.cell? ⟨w.heap.size + 8, 0, none⟩ = some (.int .i64 6) := HM8.out.cell 0
        have y1 : wc.cell? ⟨w.heap.size + 8, 1, none⟩ = some (.int .i64 4) := HM8.out.cell 1
        have y2 : wc.cell? ⟨w.heap.size + 8, 2, none⟩ = some (.slice ob2 0 oc2) := HM8.out.cell 2
        have y3 : wc.cell? ⟨w.heap.size + 8, 3, none⟩ = some (.slice none 0 0) := HM8.out.cell 3
        have y4 : wc.cell? ⟨w.heap.size + 8, 4, none⟩ = some (.int .i64 1) := HM8.out.cell 4
        have y5 : wc.cell? ⟨w.heap.size + 8, 5, none⟩ = some (.slice none 0 0) := HM8.out.cell 5
        have y6 : wc.cell? ⟨w.heap.size + 8, 6, none⟩ = some (.slice (some ⟨w.heap.size + 7, 0, none⟩) 2 2) := HM8.out.cell 6
        have y7 : wc.cell? ⟨w.heap.size + 8, 7, none⟩ = some (.slice none 0 0) := HM8.out.cell 7
        have y8 : wc.cell? ⟨w.heap.size + 8, 8, none⟩ = some (.slice (some ⟨w.heap.size + 2, 0, none⟩) 2 2) := HM8.out.cell 8
        have y9 : wc.cell? ⟨w.heap.size + 8, 9, none⟩ = some (.slice none 0 0) := HM8.out.cell 9
        go_wp2_with fail
        refine (newD wc _ (Gp.pu false false) HP.out (Gp.pu_is false false) (Gp.pu_small false false)).mono ?_
        rintro e w1 ⟨b1, hm⟩
        rw [Gp.pu_new] at hm
        obtain ⟨mb, rfl, M⟩ := hm
        have HM := hideT M.mach
        have HB1 := hideT (HBc.out.trans (b1.mono HBc.out.size))
        clear M b1 y0 y1 y2 y3 y4 y5 y6 y7 y8 y9
        go_wp2_with fail
        refine (HM.out.do (r := 8) (Gp.actU ⟨#[120]⟩ 1) (Gp.pu_d1 false false)).mono ?_
        rintro e w2 ⟨rfl, M2, k2⟩
        have HM2 := hideT M2
        have HB2 : Hid (Below w.heap.size w w2) := by
          obtain ⟨_, _, _, _, _, _, hb, _⟩ := HM.out
          exact Keep.below HB1.out k2 (fun i hi e => by omega)
        clear M2 k2
        go_wp2_with fail
        refine (HM2.out.do (r := 8) (Gp.actU ⟨#[120]⟩ 2) (Gp.pu_d2 false false)).mono ?_
        rintro e w3 ⟨rfl, M3, k3⟩
        have HM3 := hideT M3
        have HB3 : Hid (Below w.heap.size w w3) := by
          obtain ⟨_, _, _, _, _, _, hb, _⟩ := HM2.out
          exact Keep.below HB2.out k3 (fun i hi e => by omega)
        clear M3 k3
        go_wp2_with fail
        refine (HM3.out.do (r := 1) (Gp.actU ⟨#[121]⟩ 1) (Gp.pu_d3 false false)).mono ?_
        rintro e w4 ⟨rfl, M4, k4⟩
        have HM4 := hideT M4
        have HB4 : Hid (Below w.heap.size w w4) := by
          obtain ⟨_, _, _, _, _, _, hb, _⟩ := HM3.out
          exact Keep.below HB3.out k4 (fun i hi e => by omega)
        clear M4 k4
        go_wp2_with fail
        refine (HM4.out.up 2 false (by rfl)).mono ?_
        rintro e w5 ⟨rfl, hw⟩
        obtain rfl := hw.symm
        clear hw
        go_wp2_with fail
        refine (HM4.out.up 3 false (by rfl)).mono ?_
        rintro e w5 ⟨rfl, hw⟩
        obtain rfl := hw.symm
        clear hw
        go_wp2_with fail
        refine (known11 w4).mono ?_
        rintro e w5 ⟨rfl, b5⟩
        have HB5 := hideT (HB4.out.trans (b5.mono HB4.out.size))
        clear b5
        go_wp2_with fail
        go_ret
        exact ⟨rfl, HB5.out⟩
      · have HP : Hid (ProgAt wc ⟨ob2, oc2, none, 0, none, 0, some ⟨w.heap.size + 7, 0, none⟩, 2, none, 0, some ⟨w.heap.size + 2, 0, none⟩, 2, none, 0⟩ (Gp.pu false true)) := ⟨oe_zrow HMO.out (by decide), zrow_nil _, rowR_nil _, HRW.out.1, rowR_nil _, HRW.out.2, rowR_nil _⟩
        have y0 : wc.cell? ⟨w.heap.size + 8, 0, none⟩ = some (.int .i64 6) := HM8.out.cell 0
        have y1 : wc.cell? ⟨w.heap.size + 8, 1, none⟩ = some (.int .i64 4) := HM8.out.cell 1
        have y2 : wc.cell? ⟨w.heap.size + 8, 2, none⟩ = some (.slice ob2 1 oc2) := HM8.out.cell 2
        have y3 : wc.cell? ⟨w.heap.size + 8, 3, none⟩ = some (.slice none 0 0) := HM8.out.cell 3
        have y4 : wc.cell? ⟨w.heap.size + 8, 4, none⟩ = some (.int .i64 1) := HM8.out.cell 4
        have y5 : wc.cell? ⟨w.heap.size + 8, 5, none⟩ = some (.slice none 0 0) := HM8.out.cell 5
        have y6 : wc.cell? ⟨w.heap.size + 8, 6, none⟩ = some (.slice (some ⟨w.heap.size + 7, 0, none⟩) 2 2) := HM8.out.cell 6
        have y7 : wc.cell? ⟨w.heap.size + 8, 7, none⟩ = some (.slice none 0 0) := HM8.out.cell 7
        have y8 : wc.cell? ⟨w.heap.size + 8, 8, none⟩ = some (.slice (some ⟨w.heap.size + 2, 0, none⟩) 2 2) := HM8.out.cell 8
        have y9 : wc.cell? ⟨w.heap.size + 8, 9, none⟩ = some (.slice none 0 0) := HM8.out.cell 9
        go_wp2_with fail
        refine (newD wc _ (Gp.pu false true) HP.out (Gp.pu_is false true) (Gp.pu_small false true)).mono ?_
        rintro e w1 ⟨b1, hm⟩
        rw [Gp.pu_new] at hm
        obtain ⟨mb, rfl, M⟩ := hm
        have HM := hideT M.mach
        have HB1 := hideT (HBc.out.trans (b1.mono HBc.out.size))
        clear M b1 y0 y1 y2 y3 y4 y5 y6 y7 y8 y9
        go_wp2_with fail
        refine (HM.out.do (r := 0) (Gp.actU ⟨#[120]⟩ 1) (Gp.pu_d1 false true)).mono ?_
        rintro e w2 ⟨rfl, M2, k2⟩
        have HM2 := hideT M2
        have HB2 : Hid (Below w.heap.size w w2) := by
          obtain ⟨_, _, _, _, _, _, hb, _⟩ := HM.out
          exact Keep.below HB1.out k2 (fun i hi e => by omega)
        clear M2 k2
        go_wp2_with fail
        refine (HM2.out.do (r := 8) (Gp.actU ⟨#[120]⟩ 2) (Gp.pu_d2 false true)).mono ?_
        rintro e w3 ⟨rfl, M3, k3⟩
        have HM3 := hideT M3
        have HB3 : Hid (Below w.heap.size w w3) := by
          obtain ⟨_, _, _, _, _, _, hb, _⟩ := HM2.out
          exact Keep.below HB2.out k3 (fun i hi e => by omega)
        clear M3 k3
        go_wp2_with fail
        refine (HM3.out.do (r := 1) (Gp.actU ⟨#[121]⟩ 1) (Gp.pu_d3 false true)).mono ?_
        rintro e w4 ⟨rfl, M4, k4⟩
        have HM4 := hideT M4
        have HB4 : Hid (Below w.heap.size w w4) := by
          obtain ⟨_, _, _, _, _, _, hb, _⟩ := HM3.out
          exact Keep.below HB3.out k4 (fun i hi e => by omega)
        clear M4 k4
        go_wp2_with fail
        refine (HM4.out.up 2 false (by rfl)).mono ?_
        rintro e w5 ⟨rfl, hw⟩
        obtain rfl := hw.symm
        clear hw
        go_wp2_with fail
        refine (HM4.out.up 3 true (by rfl)).mono ?_
        rintro e w5 ⟨rfl, hw⟩
        obtain rfl := hw.symm
        clear hw
        go_wp2_with fail
        refine (known11 w4).mono ?_
        rintro e w5 ⟨rfl, b5⟩
        have HB5 := hideT (HB4.out.trans (b5.mono HB4.out.size))
        clear b5
        go_wp2_with fail
        go_ret
        exact ⟨rfl, HB5.out⟩
      · have HP : Hid (ProgAt wc ⟨ob2, oc2, none, 0, none, 0, some ⟨w.heap.size + 7, 0, none⟩, 2, none, 0, some ⟨w.heap.size + 2, 0, none⟩, 2, none, 0⟩ (Gp.pu true false)) := ⟨oe_zrow HMO.out (by decide), zrow_nil _, rowR_nil _, HRW.out.1, rowR_nil _, HRW.out.2, rowR_nil _⟩
        have y0 : wc.cell? ⟨w.heap.size + 8, 0, none⟩ = some (.int .i64 6) := HM8.out.cell 0
        have y1 : wc.cell? ⟨w.heap.size + 8, 1, none⟩ = some (.int .i64 4) := HM8.out.cell 1
        have y2 : wc.cell? ⟨w.heap.size + 8, 2, none⟩ = some (.slice ob2 1 oc2) := HM8.out.cell 2
        have y3 : wc.cell? ⟨w.heap.size + 8, 3, none⟩ = some (.slice none 0 0) := HM8.out.cell 3
        have y4 : wc.cell? ⟨w.heap.size + 8, 4, none⟩ = some (.int .i64 1) := HM8.out.cell 4
        have y5 : wc.cell? ⟨w.heap.size + 8, 5, none⟩ = some (.slice none 0 0) := HM8.out.cell 5
        have y6 : wc.cell? ⟨w.heap.size + 8, 6, none⟩ = some (.slice (some ⟨w.heap.size + 7, 0, none⟩) 2 2) := HM8.out.cell 6
        have y7 : wc.cell? ⟨w.heap.size + 8, 7, none⟩ = some (.slice none 0 0) := HM8.out.cell 7
        have y8 : wc.cell? ⟨w.heap.size + 8, 8, none⟩ = some (.slice (some ⟨w.heap.size + 2, 0, none⟩) 2 2) := HM8.out.cell 8
        have y9 : wc.cell? ⟨w.heap.size + 8, 9, none⟩ = some (.slice none 0 0) := HM8.out.cell 9
        go_wp2_with fail
        refine (newD wc _ (Gp.pu true false) HP.out (Gp.pu_is true false) (Gp.pu_small true false)).mono ?_
        rintro e w1 ⟨b1, hm⟩
        rw [Gp.pu_new] at hm
        obtain ⟨mb, rfl, M⟩ := hm
        have HM := hideT M.mach
        have HB1 := hideT (HBc.out.trans (b1.mono HBc.out.size))
        clear M b1 y0 y1 y2 y3 y4 y5 y6 y7 y8 y9
        go_wp2_with fail
        refine (HM.out.do (r := 0) (Gp.actU ⟨#[120]⟩ 1) (Gp.pu_d1 true false)).mono ?_
        rintro e w2 ⟨rfl, M2, k2⟩
        have HM2 := hideT M2
        have HB2 : Hid (Below w.heap.size w w2) := by
          obtain ⟨_, _, _, _, _, _, hb, _⟩ := HM.out
          exact Keep.below HB1.out k2 (fun i hi e => by omega)
        clear M2 k2
        go_wp2_with fail
        refine (HM2.out.do (r := 8) (Gp.actU ⟨#[120]⟩ 2) (Gp.pu_d2 true false)).mono ?_
        rintro e w3 ⟨rfl, M3, k3⟩
        have HM3 := hideT M3
        have HB3 : Hid (Below w.heap.size w w3) := by
          obtain ⟨_, _, _, _, _, _, hb, _⟩ := HM2.out
          exact Keep.below HB2.out k3 (fun i hi e => by omega)
        clear M3 k3
        go_wp2_with fail
        refine (HM3.out.do (r := 1) (Gp.actU ⟨#[121]⟩ 1) (Gp.pu_d3 true false)).mono ?_
        rintro e w4 ⟨rfl, M4, k4⟩
        have HM4 := hideT M4
        have HB4 : Hid (Below w.heap.size w w4) := by
          obtain ⟨_, _, _, _, _, _, hb, _⟩ := HM3.out
          exact Keep.below HB3.out k4 (fun i hi e => by omega)
        clear M4 k4
        go_wp2_with fail
        refine (HM4.out.up 2 true (by rfl)).mono ?_
        rintro e w5 ⟨rfl, hw⟩
        obtain rfl := hw.symm
        clear hw
        go_wp2_with fail
        refine (HM4.out.up 3 false (by rfl)).mono ?_
        rintro e w5 ⟨rfl, hw⟩
        obtain rfl := hw.symm
        clear hw
        go_wp2_with fail
        refine (known11 w4).mono ?_
        rintro e w5 ⟨rfl, b5⟩
        have HB5 := hideT (HB4.out.trans (b5.mono HB4.out.size))
        clear b5
        go_wp2_with fail
        go_ret
        exact ⟨rfl, HB5.out⟩
      · have HP : Hid (ProgAt wc ⟨ob2, oc2, none, 0, none, 0, some ⟨w.heap.size + 7, 0, none⟩, 2, none, 0, some ⟨w.heap.size + 2, 0, none⟩, 2, none, 0⟩ (Gp.pu true true)) := ⟨oe_zrow HMO.out (by decide), zrow_nil _, rowR_nil _, HRW.out.1, rowR_nil _, HRW.out.2, rowR_nil _⟩
        have y0 : wc.cell? ⟨w.heap.size + 8, 0, none⟩ = some (.int .i64 6) := HM8.out.cell 0
        have y1 : wc.cell? ⟨w.heap.size + 8, 1, none⟩ = some (.int .i64 4) := HM8.out.cell 1
        have y2 : wc.cell? ⟨w.heap.size + 8, 2, none⟩ = some (.slice ob2 2 oc2) := HM8.out.cell 2
        have y3 : wc.cell? ⟨w.heap.size + 8, 3, none⟩ = some (.slice none 0 0) := HM8.out.cell 3
        have y4 : wc.cell? ⟨w.heap.size + 8, 4, none⟩ = some (.int .i64 1) := HM8.out.cell 4
        have y5 : wc.cell? ⟨w.heap.size + 8, 5, none⟩ = some (.slice none 0 0) := HM8.out.cell 5
        have y6 : wc.cell? ⟨w.heap.size + 8, 6, none⟩ = some (.slice (some ⟨w.heap.size + 7, 0, none⟩) 2 2) := HM8.out.cell 6
        have y7 : wc.cell? ⟨w.heap.size + 8, 7, none⟩ = some (.slice none 0 0) := HM8.out.cell 7
        have y8 : wc.cell? ⟨w.heap.size + 8, 8, none⟩ = some (.slice (some ⟨w.heap.size + 2, 0, none⟩) 2 2) := HM8.out.cell 8
        have y9 : wc.cell? ⟨w.heap.size + 8, 9, none⟩ = some (.slice none 0 0) := HM8.out.cell 9
        go_wp2_with fail
        refine (newD wc _ (Gp.pu true true) HP.out (Gp.pu_is true true) (Gp.pu_small true true)).mono ?_
        rintro e w1 ⟨b1, hm⟩
        rw [Gp.pu_new] at hm
        obtain ⟨mb, rfl, M⟩ := hm
        have HM := hideT M.mach
        have HB1 := hideT (HBc.out.trans (b1.mono HBc.out.size))
        clear M b1 y0 y1 y2 y3 y4 y5 y6 y7 y8 y9
        go_wp2_with fail
        refine (HM.out.do (r := 0) (Gp.actU ⟨#[120]⟩ 1) (Gp.pu_d1 true true)).mono ?_
        rintro e w2 ⟨rfl, M2, k2⟩
        have HM2 := hideT M2
        have HB2 : Hid (Below w.heap.size w w2) := by
          obtain ⟨_, _, _, _, _, _, hb, _⟩ := HM.out
          exact Keep.below HB1.out k2 (fun i hi e => by omega)
        clear M2 k2
        go_wp2_with fail
        refine (HM2.out.do (r := 8) (Gp.actU ⟨#[120]⟩ 2) (Gp.pu_d2 true true)).mono ?_
        rintro e w3 ⟨rfl, M3, k3⟩
        have HM3 := hideT M3
        have HB3 : Hid (Below w.heap.size w w3) := by
          obtain ⟨_, _, _, _, _, _, hb, _⟩ := HM2.out
          exact Keep.below HB2.out k3 (fun i hi e => by omega)
        clear M3 k3
        go_wp2_with fail
        refine (HM3.out.do (r := 1) (Gp.actU ⟨#[121]⟩ 1) (Gp.pu_d3 true true)).mono ?_
        rintro e w4 ⟨rfl, M4, k4⟩
        have HM4 := hideT M4
        have HB4 : Hid (Below w.heap.size w w4) := by
          obtain ⟨_, _, _, _, _, _, hb, _⟩ := HM3.out
          exact Keep.below HB3.out k4 (fun i hi e => by omega)
        clear M4 k4
        go_wp2_with fail
        refine (HM4.out.up 2 true (by rfl)).mono ?_
        rintro e w5 ⟨rfl, hw⟩
        obtain rfl := hw.symm
        clear hw
        go_wp2_with fail
        refine (HM4.out.up 3 false (by rfl)).mono ?_
        rintro e w5 ⟨rfl, hw⟩
        obtain rfl := hw.symm
        clear hw
        go_wp2_with fail
        refine (known11 w4).mono ?_
        rintro e w5 ⟨rfl, b5⟩
        have HB5 := hideT (HB4.out.trans (b5.mono HB4.out.size))
        clear b5
        go_wp2_with fail
        go_ret
        exact ⟨rfl, HB5.out⟩
end Go.Proofs.Ytkjekohncfhbiab
