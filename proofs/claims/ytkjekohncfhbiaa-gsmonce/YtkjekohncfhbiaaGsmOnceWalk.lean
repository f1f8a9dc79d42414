/-
  GsmOnce's walk (written by GsmOnceWalk.py).
-/
import Derived.Test.YtkjekohncfhbiaaGLawK
set_option linter.unusedSimpArgs false
set_option linter.unusedVariables false
namespace Go.Proofs.Ytkjekohncfhbiaa
open Go.RowKit
set_option maxRecDepth 100000
namespace Gp
open Rp
def fsO (a b : Bool) : List Int := (bif a then [0] else []) ++ (bif b then [1] else [])
def po (a b : Bool) : Prog := ⟨5, 2, fsO a b, [], 1, [], [(1, [(4, false), (0, false)], [], [(2, true)]), (1, [(4, false), (1, false)], [], [(3, true)]), (2, [(4, false), (0, false), (3, true)], [], [(0, false), (1, true)]), (2, [(4, false), (1, false), (2, true)], [], [(1, false), (0, true)])], [], [(⟨#[120]⟩, 1, [], 4)], []⟩
theorem po_is (a b : Bool) : IsP (po a b) := by cases a <;> cases b <;> exact is_of (by decide) (by decide) (by decide) (by decide) (by decide) (by decide) (by decide) (by decide) (by decide) (by decide) (by decide)
theorem po_small (a b : Bool) : SmallP (po a b) := by cases a <;> cases b <;> exact ⟨by decide, by decide, by decide, by decide, by decide, by decide, by decide⟩
def o0 (a b : Bool) : St := ⟨[a, b, false, false, false], [], []⟩
theorem po_new (a b : Bool) : newP (po a b) = some (o0 a b) := by cases a <;> cases b <;> kernel_rfl
def actO : Act := ⟨1, ⟨#[120]⟩, 1, ⟨#[]⟩, 0⟩
theorem po_do (a b : Bool) : doS (kept (po a b)) (o0 a b) actO = (0, o0 b a) := by cases a <;> cases b <;> kernel_rfl
end Gp
abbrev usO : Array Value := #[.string ⟨#[120]⟩, .int .i64 1, .slice none 0 0, .int .i64 4]
abbrev prO (b : Nat) (r v : Value) : Array Value := #[.int .i64 5, .int .i64 2, v, .slice none 0 0, .int .i64 1, .slice none 0 0, r, .slice none 0 0, .slice (some ⟨b, 0, none⟩) 1 1, .slice none 0 0]
theorem builtO0 (w : World) : ∃ V, ((w.alloc (.cells usO 65)).alloc (.cells (prO w.heap.size (.slice none 0 0) (.slice none 0 0)) 29)) = V ∧ Below w.heap.size w V ∧ V.heap.size = w.heap.size + 2 ∧ Lies V w.heap.size 65 usO ∧ Lies V (w.heap.size + 1) 29 (prO w.heap.size (.slice none 0 0) (.slice none 0 0)) := by
  obtain ⟨W1, h1, b1, l0, s1⟩ := box1 w 65 usO
  obtain ⟨W2, h2, b2, l1, s2⟩ := box1 W1 29 (prO w.heap.size (.slice none 0 0) (.slice none 0 0))
  rw [s1] at l1 s2
  rw [h1, h2]
  have B1 := b1
  have B2 := B1.trans (b2.mono B1.size)
  have l0 := l0.below b2
  exact ⟨W2, rfl, B2, by omega, l0, l1⟩
theorem builtO (w : World) : ∃ V, (((((((((w.alloc (.cells #[.int .i64 4, .bool false, .int .i64 0, .bool false] 54)).alloc (.cells #[.int .i64 2, .bool true] 57)).alloc (.cells #[.int .i64 4, .bool false, .int .i64 1, .bool false] 54)).alloc (.cells #[.int .i64 3, .bool true] 57)).alloc (.cells #[.int .i64 4, .bool false, .int .i64 0, .bool false, .int .i64 3, .bool true] 54)).alloc (.cells #[.int .i64 0, .bool false, .int .i64 1, .bool true] 57)).alloc (.cells #[.int .i64 4, .bool false, .int .i64 1, .bool false, .int .i64 2, .bool true] 54)).alloc (.cells #[.int .i64 1, .bool false, .int .i64 0, .bool true] 57)).alloc (.cells #[.int .i64 1, .slice (some ⟨w.heap.size, 0, none⟩) 2 2, .slice none 0 0, .slice (some ⟨w.heap.size + 1, 0, none⟩) 1 1, .int .i64 1, .slice (some ⟨w.heap.size + 2, 0, none⟩) 2 2, .slice none 0 0, .slice (some ⟨w.heap.size + 3, 0, none⟩) 1 1, .int .i64 2, .slice (some ⟨w.heap.size + 4, 0, none⟩) 3 3, .slice none 0 0, .slice (some ⟨w.heap.size + 5, 0, none⟩) 2 2, .int .i64 2, .slice (some ⟨w.heap.size + 6, 0, none⟩) 3 3, .slice none 0 0, .slice (some ⟨w.heap.size + 7, 0, none⟩) 2 2] 61)) = V ∧ Below w.heap.size w V ∧ V.heap.size = w.heap.size + 9 ∧ Lies V w.heap.size 54 #[.int .i64 4, .bool false, .int .i64 0, .bool false] ∧ Lies V (w.heap.size + 1) 57 #[.int .i64 2, .bool true] ∧ Lies V (w.heap.size + 2) 54 #[.int .i64 4, .bool false, .int .i64 1, .bool false] ∧ Lies V (w.heap.size + 3) 57 #[.int .i64 3, .bool true] ∧ Lies V (w.heap.size + 4) 54 #[.int .i64 4, .bool false, .int .i64 0, .bool false, .int .i64 3, .bool true] ∧ Lies V (w.heap.size + 5) 57 #[.int .i64 0, .bool false, .int .i64 1, .bool true] ∧ Lies V (w.heap.size + 6) 54 #[.int .i64 4, .bool false, .int .i64 1, .bool false, .int .i64 2, .bool true] ∧ Lies V (w.heap.size + 7) 57 #[.int .i64 1, .bool false, .int .i64 0, .bool true] ∧ Lies V (w.heap.size + 8) 61 #[.int .i64 1, .slice (some ⟨w.heap.size, 0, none⟩) 2 2, .slice none 0 0, .slice (some ⟨w.heap.size + 1, 0, none⟩) 1 1, .int .i64 1, .slice (some ⟨w.heap.size + 2, 0, none⟩) 2 2, .slice none 0 0, .slice (some ⟨w.heap.size + 3, 0, none⟩) 1 1, .int .i64 2, .slice (some ⟨w.heap.size + 4, 0, none⟩) 3 3, .slice none 0 0, .slice (some ⟨w.heap.size + 5, 0, none⟩) 2 2, .int .i64 2, .slice (some ⟨w.heap.size + 6, 0, none⟩) 3 3, .slice none 0 0, .slice (some ⟨w.heap.size + 7, 0, none⟩) 2 2] := by
  obtain ⟨W1, h1, b1, l0, s1⟩ := box1 w 54 #[.int .i64 4, .bool false, .int .i64 0, .bool false]
  obtain ⟨W2, h2, b2, l1, s2⟩ := box1 W1 57 #[.int .i64 2, .bool true]
  rw [s1] at l1 s2
  obtain ⟨W3, h3, b3, l2, s3⟩ := box1 W2 54 #[.int .i64 4, .bool false, .int .i64 1, .bool false]
  rw [s2] at l2 s3
  obtain ⟨W4, h4, b4, l3, s4⟩ := box1 W3 57 #[.int .i64 3, .bool true]
  rw [s3] at l3 s4
  obtain ⟨W5, h5, b5, l4, s5⟩ := box1 W4 54 #[.int .i64 4, .bool false, .int .i64 0, .bool false, .int .i64 3, .bool true]
  rw [s4] at l4 s5
  obtain ⟨W6, h6, b6, l5, s6⟩ := box1 W5 57 #[.int .i64 0, .bool false, .int .i64 1, .bool true]
  rw [s5] at l5 s6
  obtain ⟨W7, h7, b7, l6, s7⟩ := box1 W6 54 #[.int .i64 4, .bool false, .int .i64 1, .bool false, .int .i64 2, .bool true]
  rw [s6] at l6 s7
  obtain ⟨W8, h8, b8, l7, s8⟩ := box1 W7 57 #[.int .i64 1, .bool false, .int .i64 0, .bool true]
  rw [s7] at l7 s8
  obtain ⟨W9, h9, b9, l8, s9⟩ := box1 W8 61 #[.int .i64 1, .slice (some ⟨w.heap.size, 0, none⟩) 2 2, .slice none 0 0, .slice (some ⟨w.heap.size + 1, 0, none⟩) 1 1, .int .i64 1, .slice (some ⟨w.heap.size + 2, 0, none⟩) 2 2, .slice none 0 0, .slice (some ⟨w.heap.size + 3, 0, none⟩) 1 1, .int .i64 2, .slice (some ⟨w.heap.size + 4, 0, none⟩) 3 3, .slice none 0 0, .slice (some ⟨w.heap.size + 5, 0, none⟩) 2 2, .int .i64 2, .slice (some ⟨w.heap.size + 6, 0, none⟩) 3 3, .slice none 0 0, .slice (some ⟨w.heap.size + 7, 0, none⟩) 2 2]
  rw [s8] at l8 s9
  rw [h1, h2, h3, h4, h5, h6, h7, h8, h9]
  have B1 := b1
  have B2 := B1.trans (b2.mono B1.size)
  have B3 := B2.trans (b3.mono B2.size)
  have B4 := B3.trans (b4.mono B3.size)
  have B5 := B4.trans (b5.mono B4.size)
  have B6 := B5.trans (b6.mono B5.size)
  have B7 := B6.trans (b7.mono B6.size)
  have B8 := B7.trans (b8.mono B7.size)
  have B9 := B8.trans (b9.mono B8.size)
  have l0 := l0.below b2
  have l0 := l0.below b3
  have l0 := l0.below b4
  have l0 := l0.below b5
  have l0 := l0.below b6
  have l0 := l0.below b7
  have l0 := l0.below b8
  have l0 := l0.below b9
  have l1 := l1.below b3
  have l1 := l1.below b4
  have l1 := l1.below b5
  have l1 := l1.below b6
  have l1 := l1.below b7
  have l1 := l1.below b8
  have l1 := l1.below b9
  have l2 := l2.below b4
  have l2 := l2.below b5
  have l2 := l2.below b6
  have l2 := l2.below b7
  have l2 := l2.below b8
  have l2 := l2.below b9
  have l3 := l3.below b5
  have l3 := l3.below b6
  have l3 := l3.below b7
  have l3 := l3.below b8
  have l3 := l3.below b9
  have l4 := l4.below b6
  have l4 := l4.below b7
  have l4 := l4.below b8
  have l4 := l4.below b9
  have l5 := l5.below b7
  have l5 := l5.below b8
  have l5 := l5.below b9
  have l6 := l6.below b8
  have l6 := l6.below b9
  have l7 := l7.below b9
  exact ⟨W9, rfl, B9, by omega, l0, l1, l2, l3, l4, l5, l6, l7, l8⟩
theorem rowsO {W : World} {B : Nat} (l0 : Lies W B 54 #[.int .i64 4, .bool false, .int .i64 0, .bool false]) (l1 : Lies W (B + 1) 57 #[.int .i64 2, .bool true]) (l2 : Lies W (B + 2) 54 #[.int .i64 4, .bool false, .int .i64 1, .bool false]) (l3 : Lies W (B + 3) 57 #[.int .i64 3, .bool true]) (l4 : Lies W (B + 4) 54 #[.int .i64 4, .bool false, .int .i64 0, .bool false, .int .i64 3, .bool true]) (l5 : Lies W (B + 5) 57 #[.int .i64 0, .bool false, .int .i64 1, .bool true]) (l6 : Lies W (B + 6) 54 #[.int .i64 4, .bool false, .int .i64 1, .bool false, .int .i64 2, .bool true]) (l7 : Lies W (B + 7) 57 #[.int .i64 1, .bool false, .int .i64 0, .bool true]) (l8 : Lies W (B + 8) 61 #[.int .i64 1, .slice (some ⟨B, 0, none⟩) 2 2, .slice none 0 0, .slice (some ⟨B + 1, 0, none⟩) 1 1, .int .i64 1, .slice (some ⟨B + 2, 0, none⟩) 2 2, .slice none 0 0, .slice (some ⟨B + 3, 0, none⟩) 1 1, .int .i64 2, .slice (some ⟨B + 4, 0, none⟩) 3 3, .slice none 0 0, .slice (some ⟨B + 5, 0, none⟩) 2 2, .int .i64 2, .slice (some ⟨B + 6, 0, none⟩) 3 3, .slice none 0 0, .slice (some ⟨B + 7, 0, none⟩) 2 2]) : RRow W (.slice (some ⟨B + 8, 0, none⟩) 4 4) [(1, [(4, false), (0, false)], [], [(2, true)]), (1, [(4, false), (1, false)], [], [(3, true)]), (2, [(4, false), (0, false), (3, true)], [], [(0, false), (1, true)]), (2, [(4, false), (1, false), (2, true)], [], [(1, false), (0, true)])] := by
  refine rowR_of_own (H := 0) (CS := [[.int .i64 1, .slice (some ⟨B, 0, none⟩) 2 2, .slice none 0 0, .slice (some ⟨B + 1, 0, none⟩) 1 1], [.int .i64 1, .slice (some ⟨B + 2, 0, none⟩) 2 2, .slice none 0 0, .slice (some ⟨B + 3, 0, none⟩) 1 1], [.int .i64 2, .slice (some ⟨B + 4, 0, none⟩) 3 3, .slice none 0 0, .slice (some ⟨B + 5, 0, none⟩) 2 2], [.int .i64 2, .slice (some ⟨B + 6, 0, none⟩) 3 3, .slice none 0 0, .slice (some ⟨B + 7, 0, none⟩) 2 2]]) (own_of_liesG (z := 4) (n := 4) l8 (Nat.zero_le _) rfl (by decide)) (by show 4 ≤ _; decide) rfl (fun x hx => by simp at hx; rcases hx with rfl | rfl | rfl | rfl <;> rfl) (fun i x cs hx hcs => ?_)
  match i, hx, hcs with
  | 0, hx, hcs =>
    cases hx
    cases hcs
    exact ⟨_, _, _, rfl, lrow_lies l0 [(4, false), (0, false)] rfl (by decide), rowR_nil _, lrow_lies l1 [(2, true)] rfl (by decide)⟩
  | 1, hx, hcs =>
    cases hx
    cases hcs
    exact ⟨_, _, _, rfl, lrow_lies l2 [(4, false), (1, false)] rfl (by decide), rowR_nil _, lrow_lies l3 [(3, true)] rfl (by decide)⟩
  | 2, hx, hcs =>
    cases hx
    cases hcs
    exact ⟨_, _, _, rfl, lrow_lies l4 [(4, false), (0, false), (3, true)] rfl (by decide), rowR_nil _, lrow_lies l5 [(0, false), (1, true)] rfl (by decide)⟩
  | 3, hx, hcs =>
    cases hx
    cases hcs
    exact ⟨_, _, _, rfl, lrow_lies l6 [(4, false), (1, false), (2, true)] rfl (by decide), rowR_nil _, lrow_lies l7 [(1, false), (0, true)] rfl (by decide)⟩
  | i + 4, hx, hcs => cases hx
theorem usersO {W : World} {B : Nat} (l0 : Lies W B 65 usO) : URow W (.slice (some ⟨B, 0, none⟩) 1 1) [(⟨#[120]⟩, 1, [], 4)] := by
  refine rowR_of_own (H := 0) (CS := [[.string ⟨#[120]⟩, .int .i64 1, .slice none 0 0, .int .i64 4]]) (own_of_liesG (z := 4) (n := 1) l0 (Nat.zero_le _) rfl (by decide)) (by show 1 ≤ _; decide) rfl (fun x hx => by simp at hx; subst hx; rfl) (fun i x cs hx hcs => ?_)
  match i, hx, hcs with
  | 0, hx, hcs =>
    cases hx
    cases hcs
    exact ⟨_, rfl, by decide, rowR_nil _⟩
  | i + 1, hx, hcs => cases hx
set_option maxHeartbeats 8000000 in
theorem gsmOnce_walk (a b : Bool) {w : World} :
    Calls Try.prog 8 #[.bool a, .bool b] w fun e w' => e = .returned (.bool true) ∧ Below w.heap.size w w' := by
  obtain ⟨V, hV, b0, sv, l0, l1⟩ := builtO0 w
  have HV := hideT hV
  have HB0 := hideT b0
  have HSV := hideT sv
  have HL0 := hideT l0
  have HL1 := hideT l1
  clear hV b0 sv l0 l1
  go_enter Try.func8, Try.ntmps8
  go_upto_if 11 with fail
  rw [HV.out]
  go_cut [5] from 11 to 16 (fun q wc => q = .pointer (some ⟨w.heap.size + 1, 0, none⟩) ∧ Hid (AppF V wc (w.heap.size + 1) (prO w.heap.size (.slice none 0 0)) (bif a then [0] else [])))
  case first =>
    cases a
    · go_wp2_with fail
      go_meet
      case rel => exact ⟨rfl, none, 0, HL1.out, OE.nil (by have := HSV.out; omega), Keep.refl _ _⟩
    · obtain ⟨l, hl⟩ : ∃ l : List Int, l = [] := ⟨_, rfl⟩
      have hl5 : l.length ≤ 1 := by rw [hl]; exact Nat.zero_le _
      obtain ⟨ob, oc, hobc⟩ : ∃ (ob : Option Addr) (oc : Nat), Value.slice none 0 0 = Value.slice ob l.length oc := ⟨none, 0, by rw [hl]; rfl⟩
      have L8 : Hid (Lies V (w.heap.size + 1) 29 (prO w.heap.size (.slice none 0 0) (.slice ob l.length oc))) := by
        show Lies _ _ _ _
        rw [← hobc]
        exact HL1.out
      have hO : Hid (OE (w.heap.size + 1 + 1) 3 1 celE V (.slice ob l.length oc) (l.map celI)) := by
        show OE _ _ _ _ _ _ _
        rw [← hobc, hl]
        exact OE.nil (by have := HSV.out; omega)
      have hK : Hid (Keep (fun i => w.heap.size + 1 ≤ i) V V) := Keep.refl _ _
      have HIN : ∀ W, AppF V W (w.heap.size + 1) (prO w.heap.size (.slice none 0 0)) (l ++ [0]) → Hid (AppF V W (w.heap.size + 1) (prO w.heap.size (.slice none 0 0)) (bif true then [0] else [])) := by
        intro W h
        rw [hl] at h
        exact h
      clear hobc hl
      have y2 : V.cell? ⟨w.heap.size + 1, 2, none⟩ = some (.slice ob l.length oc) := L8.out.cell 2
      have z1 := cell_lt y2
      have z2 := World.new_ne V _ y2
      go_wp2_with (first | (at_builtin; ((refine wpList_appO (t := 22) (e := 3) (z := 1) (E := celE) Try.underlying22 infoC_I rfl (by omega) (by omega) celE_len celE_one (by rfl) _ _ (by rfl) (v := .slice ob l.length oc) (by rfl) (by rfl) (hO.out.below ((Below.refl _ V).alloc (Nat.le_refl _) _)) [celI 0] rfl (one_cel (W := V) (cs := #[.int .i64 0]) (ty := 3) (celI 0) rfl) (by rw [List.length_map, List.length_singleton]; omega) ?_); intro v' w3 o3 k3; obtain ⟨qad, qcap, hq, hqq⟩ := o3.form; clear hqq; rw [List.length_append, List.length_map, List.length_singleton] at hq; subst hq; have L3 := appF_kept (C := prO w.heap.size (.slice none 0 0)) L8.out hO.out k3; have q2 : w3.cell? ⟨w.heap.size + 1, 2, none⟩ = some (.slice ob l.length oc) := L3.cell 2; have f2 : w3.frozen? ⟨w.heap.size + 1, 2, none⟩ = false := L3.free 2)) | fail)
      go_meet
      case rel => exact ⟨rfl, HIN _ (appF_next (C := prO w.heap.size (.slice none 0 0)) L8.out hO.out hK.out (fun _ _ => rfl) o3 k3)⟩
  case rest =>
    obtain ⟨rfl, HA⟩ := hcut
    obtain ⟨l, hl⟩ : ∃ l : List Int, (bif a then [0] else []) = l := ⟨_, rfl⟩
    have hl5 : l.length ≤ 1 := by rw [← hl]; cases a <;> decide
    rw [hl] at HA
    obtain ⟨ob, oc, L8, hO, hK⟩ := HA.out
    have L8 := hideT L8
    have hO := hideT hO
    have hK := hideT hK
    have HL := hideT hl
    clear HA hl
    go_upto_if 17 with fail
    go_cut [5] from 17 to 22 (fun q wc => q = .pointer (some ⟨w.heap.size + 1, 0, none⟩) ∧ Hid (AppF V wc (w.heap.size + 1) (prO w.heap.size (.slice none 0 0)) (Gp.fsO a b)))
    case first =>
      cases b
      · go_wp2_with fail
        go_meet
        case rel => exact ⟨rfl, by show AppF _ _ _ _ _; unfold Gp.fsO; rw [HL.out]; show AppF _ _ _ _ (l ++ []); rw [List.append_nil]; exact ⟨ob, oc, L8.out, hO.out, hK.out⟩⟩
      · have HIN : ∀ W, AppF V W (w.heap.size + 1) (prO w.heap.size (.slice none 0 0)) (l ++ [1]) → Hid (AppF V W (w.heap.size + 1) (prO w.heap.size (.slice none 0 0)) (Gp.fsO a true)) := by
          intro W h
          show AppF _ _ _ _ _
          unfold Gp.fsO
          rw [HL.out]
          exact h
        have y2 : wc.cell? ⟨w.heap.size + 1, 2, none⟩ = some (.slice ob l.length oc) := L8.out.cell 2
        have z1 := cell_lt y2
        have z2 := World.new_ne wc _ y2
        go_wp2_with (first | (at_builtin; ((refine wpList_appO (t := 22) (e := 3) (z := 1) (E := celE) Try.underlying22 infoC_I rfl (by omega) (by omega) celE_len celE_one (by rfl) _ _ (by rfl) (v := .slice ob l.length oc) (by rfl) (by rfl) (hO.out.below ((Below.refl _ wc).alloc (Nat.le_refl _) _)) [celI 1] rfl (one_cel (W := wc) (cs := #[.int .i64 1]) (ty := 3) (celI 1) rfl) (by rw [List.length_map, List.length_singleton]; omega) ?_); intro v' w3 o3 k3; obtain ⟨qad, qcap, hq, hqq⟩ := o3.form; clear hqq; rw [List.length_append, List.length_map, List.length_singleton] at hq; subst hq; have L3 := appF_kept (C := prO w.heap.size (.slice none 0 0)) L8.out hO.out k3; have q2 : w3.cell? ⟨w.heap.size + 1, 2, none⟩ = some (.slice ob l.length oc) := L3.cell 2; have f2 : w3.frozen? ⟨w.heap.size + 1, 2, none⟩ = false := L3.free 2)) | fail)
        go_meet
        case rel => exact ⟨rfl, HIN _ (appF_next (C := prO w.heap.size (.slice none 0 0)) L8.out hO.out hK.out (fun _ _ => rfl) o3 k3)⟩
    case rest =>
      obtain ⟨rfl, HA⟩ := hcut
      obtain ⟨ob2, oc2, M8, mO, mK⟩ := HA.out
      obtain ⟨l2, hl2⟩ : ∃ l : List Int, Gp.fsO a b = l := ⟨_, rfl⟩
      have hl25 : l2.length ≤ 2 := by rw [← hl2]; cases a <;> cases b <;> decide
      rw [hl2] at M8 mO
      have hsz : w.heap.size + 2 ≤ wc.heap.size := by have := mK.size; have := HSV.out; omega
      obtain ⟨X, hX, bX, sX, LS⟩ := builtO wc
      have HX := hideT hX
      have hz := mO.below bX
      have LU := ((HL0.out.keep mK (by omega)).below bX)
      have LP := M8.below bX
      have HLP := hideT LP
      have q6 : X.cell? ⟨w.heap.size + 1, 6, none⟩ = some (.slice none 0 0) := LP.cell 6
      have f6 : X.frozen? ⟨w.heap.size + 1, 6, none⟩ = false := LP.free 6
      have HZ := hideT hz
      have HLU := hideT LU
      have HRR := hideT LS
      have HBX := hideT ((Keep.below HB0.out mK (fun i hi e => by omega)).trans (bX.mono (by omega)))
      have HL2 := hideT hl2
      clear hX bX sX LS hz LU LP M8 mO mK HA L8 hO hK HL HL0 HL1 HB0 HSV HV hl2
      go_upto_region 6 with fail
      go_cut [5] from 23 to 52 (fun q wd => q = .pointer (some ⟨w.heap.size + 1, 0, none⟩) ∧ Hid (Below w.heap.size w wd) ∧ Hid (Lies wd (w.heap.size + 1) 29 (prO w.heap.size (.slice (some ⟨wc.heap.size + 8, 0, none⟩) 4 4) (.slice ob2 l2.length oc2))) ∧ Hid (ProgAt wd ⟨ob2, oc2, none, 0, none, 0, some ⟨wc.heap.size + 8, 0, none⟩, 4, none, 0, some ⟨w.heap.size, 0, none⟩, 1, none, 0⟩ (Gp.po a b)))
      case first =>
        go_wp2_with (first | (rw [HX.out]) | fail)
        go_meet
        case rel =>
          have kX : Keep (fun i => i = w.heap.size + 1) X (X.setCell ⟨w.heap.size + 1, 6, none⟩ (.slice (some ⟨wc.heap.size + 8, 0, none⟩) 4 4)) := Keep.set _ _ _ rfl
          obtain ⟨l0, l1, l2, l3, l4, l5, l6, l7, l8⟩ := HRR.out
          refine ⟨rfl, Keep.below HBX.out kX (fun i hi e => by omega), HLP.out.set 6 _, ?_⟩
          refine ⟨?_, zrow_nil _, rowR_nil _, rowsO (l0.keep kX (by omega)) (l1.keep kX (by omega)) (l2.keep kX (by omega)) (l3.keep kX (by omega)) (l4.keep kX (by omega)) (l5.keep kX (by omega)) (l6.keep kX (by omega)) (l7.keep kX (by omega)) (l8.keep kX (by omega)), rowR_nil _, usersO (HLU.out.keep kX (by omega)), rowR_nil _⟩
          show ZRow _ (.slice ob2 (Gp.fsO a b).length oc2) (Gp.fsO a b)
          rw [HL2.out]
          exact oe_zrow (HZ.out.keep kX (fun i e h => by have := (HZ.out.lt e).2; omega)) (by omega)
      case rest =>
        obtain ⟨rfl, HBc, HM8, HP⟩ := hcut
        clear HRR HX HZ HLU HLP HBX q6 f6
        have hl3 : Gp.fsO a b = l2 := HL2.out
        subst hl3
        clear HL2
        cases a <;> cases b
        · have y0 : wc.cell? ⟨w.heap.size + 1, 0, none⟩ = some (.int .i64 5) := HM8.out.cell 0
          have y1 : wc.cell? ⟨w.heap.size + 1, 1, none⟩ = some (.int .i64 2) := HM8.out.cell 1
          have y2 : wc.cell? ⟨w.heap.size + 1, 2, none⟩ = some (.slice ob2 0 oc2) := HM8.out.cell 2
          have y3 : wc.cell? ⟨w.heap.size + 1, 3, none⟩ = some (.slice none 0 0) := HM8.out.cell 3
          have y4 : wc.cell? ⟨w.heap.size + 1, 4, none⟩ = some (.int .i64 1) := HM8.out.cell 4
          have y5 : wc.cell? ⟨w.heap.size + 1, 5, none⟩ = some (.slice none 0 0) := HM8.out.cell 5
          have y6 := HM8.out.cell 6
          have y7 : wc.cell? ⟨w.heap.size + 1, 7, none⟩ = some (.slice none 0 0) := HM8.out.cell 7
          have y8 : wc.cell? ⟨w.heap.size + 1, 8, none⟩ = some (.slice (some ⟨w.heap.size, 0, none⟩) 1 1) := HM8.out.cell 8
          have y9 : wc.cell? ⟨w.heap.size + 1, 9, none⟩ = some (.slice none 0 0) := HM8.out.cell 9
          replace y6 := y6.trans (show _ = some (Value.slice _ 4 4) from rfl)
          go_wp2_with fail
          refine (newD wc _ (Gp.po false false) HP.out (Gp.po_is false false) (Gp.po_small false false)).mono ?_
          rintro e w1 ⟨b1, hm⟩
          rw [Gp.po_new] at hm
          obtain ⟨mb, rfl, M⟩ := hm
          have HM := hideT M.mach
          have HB1 := hideT (HBc.out.trans (b1.mono HBc.out.size))
          have hsz2 := HBc.out.size
          clear M b1 y0 y1 y2 y3 y4 y5 y6 y7 y8 y9
          go_wp2_with fail
          refine (HM.out.do (r := 0) Gp.actO (Gp.po_do false false)).mono ?_
          rintro e w2 ⟨rfl, M2, k2⟩
          have HM2 := hideT M2
          have HB2 : Hid (Below w.heap.size w w2) := by
            obtain ⟨_, _, _, _, _, _, hb, _⟩ := HM.out
            exact Keep.below HB1.out k2 (fun i hi e => by omega)
          clear M2 k2
          go_wp2_with fail
          refine (HM2.out.up 0 false (by rfl)).mono ?_
          rintro e w5 ⟨rfl, hw⟩
          obtain rfl := hw.symm
          clear hw
          go_wp2_with fail
          refine (HM2.out.up 1 false (by rfl)).mono ?_
          rintro e w5 ⟨rfl, hw⟩
          obtain rfl := hw.symm
          clear hw
          go_wp2_with fail
          refine (known11 w2).mono ?_
          rintro e w5 ⟨rfl, b5⟩
          have HB5 := hideT (HB2.out.trans (b5.mono HB2.out.size))
          clear b5
          go_wp2_with fail
          go_ret
          exact ⟨rfl, HB5.out⟩
        · have y0 : wc.cell? ⟨w.heap.size + 1, 0, none⟩ = some (.int .i64 5) := HM8.out.cell 0
          have y1 : wc.cell? ⟨w.heap.size + 1, 1, none⟩ = some (.int .i64 2) := HM8.out.cell 1
          have y2 : wc.cell? ⟨w.heap.size + 1, 2, none⟩ = some (.slice ob2 1 oc2) := HM8.out.cell 2
          have y3 : wc.cell? ⟨w.heap.size + 1, 3, none⟩ = some (.slice none 0 0) := HM8.out.cell 3
          have y4 : wc.cell? ⟨w.heap.size + 1, 4, none⟩ = some (.int .i64 1) := HM8.out.cell 4
          have y5 : wc.cell? ⟨w.heap.size + 1, 5, none⟩ = some (.slice none 0 0) := HM8.out.cell 5
          have y6 := HM8.out.cell 6
          have y7 : wc.cell? ⟨w.heap.size + 1, 7, none⟩ = some (.slice none 0 0) := HM8.out.cell 7
          have y8 : wc.cell? ⟨w.heap.size + 1, 8, none⟩ = some (.slice (some ⟨w.heap.size, 0, none⟩) 1 1) := HM8.out.cell 8
          have y9 : wc.cell? ⟨w.heap.size + 1, 9, none⟩ = some (.slice none 0 0) := HM8.out.cell 9
          replace y6 := y6.trans (show _ = some (Value.slice _ 4 4) from rfl)
          go_wp2_with fail
          refine (newD wc _ (Gp.po false true) HP.out (Gp.po_is false true) (Gp.po_small false true)).mono ?_
          rintro e w1 ⟨b1, hm⟩
          rw [Gp.po_new] at hm
          obtain ⟨mb, rfl, M⟩ := hm
          have HM := hideT M.mach
          have HB1 := hideT (HBc.out.trans (b1.mono HBc.out.size))
          have hsz2 := HBc.out.size
          clear M b1 y0 y1 y2 y3 y4 y5 y6 y7 y8 y9
          go_wp2_with fail
          refine (HM.out.do (r := 0) Gp.actO (Gp.po_do false true)).mono ?_
          rintro e w2 ⟨rfl, M2, k2⟩
          have HM2 := hideT M2
          have HB2 : Hid (Below w.heap.size w w2) := by
            obtain ⟨_, _, _, _, _, _, hb, _⟩ := HM.out
            exact Keep.below HB1.out k2 (fun i hi e => by omega)
          clear M2 k2
          go_wp2_with fail
          refine (HM2.out.up 0 true (by rfl)).mono ?_
          rintro e w5 ⟨rfl, hw⟩
          obtain rfl := hw.symm
          clear hw
          go_wp2_with fail
          refine (HM2.out.up 1 false (by rfl)).mono ?_
          rintro e w5 ⟨rfl, hw⟩
          obtain rfl := hw.symm
          clear hw
          go_wp2_with fail
          refine (known11 w2).mono ?_
          rintro e w5 ⟨rfl, b5⟩
          have HB5 := hideT (HB2.out.trans (b5.mono HB2.out.size))
          clear b5
          go_wp2_with fail
          go_ret
          exact ⟨rfl, HB5.out⟩
        · have y0 : wc.cell? ⟨w.heap.size + 1, 0, none⟩ = some (.int .i64 5) := HM8.out.cell 0
          have y1 : wc.cell? ⟨w.heap.size + 1, 1, none⟩ = some (.int .i64 2) := HM8.out.cell 1
          have y2 : wc.cell? ⟨w.heap.size + 1, 2, none⟩ = some (.slice ob2 1 oc2) := HM8.out.cell 2
          have y3 : wc.cell? ⟨w.heap.size + 1, 3, none⟩ = some (.slice none 0 0) := HM8.out.cell 3
          have y4 : wc.cell? ⟨w.heap.size + 1, 4, none⟩ = some (.int .i64 1) := HM8.out.cell 4
          have y5 : wc.cell? ⟨w.heap.size + 1, 5, none⟩ = some (.slice none 0 0) := HM8.out.cell 5
          have y6 := HM8.out.cell 6
          have y7 : wc.cell? ⟨w.heap.size + 1, 7, none⟩ = some (.slice none 0 0) := HM8.out.cell 7
          have y8 : wc.cell? ⟨w.heap.size + 1, 8, none⟩ = some (.slice (some ⟨w.heap.size, 0, none⟩) 1 1) := HM8.out.cell 8
          have y9 : wc.cell? ⟨w.heap.size + 1, 9, none⟩ = some (.slice none 0 0) := HM8.out.cell 9
          replace y6 := y6.trans (show _ = some (Value.slice _ 4 4) from rfl)
          go_wp2_with fail
          refine (newD wc _ (Gp.po true false) HP.out (Gp.po_is true false) (Gp.po_small true false)).mono ?_
          rintro e w1 ⟨b1, hm⟩
          rw [Gp.po_new] at hm
          obtain ⟨mb, rfl, M⟩ := hm
          have HM := hideT M.mach
          have HB1 := hideT (HBc.out.trans (b1.mono HBc.out.size))
          have hsz2 := HBc.out.size
          clear M b1 y0 y1 y2 y3 y4 y5 y6 y7 y8 y9
          go_wp2_with fail
          refine (HM.out.do (r := 0) Gp.actO (Gp.po_do true false)).mono ?_
          rintro e w2 ⟨rfl, M2, k2⟩
          have HM2 := hideT M2
          have HB2 : Hid (Below w.heap.size w w2) := by
            obtain ⟨_, _, _, _, _, _, hb, _⟩ := HM.out
            exact Keep.below HB1.out k2 (fun i hi e => by omega)
          clear M2 k2
          go_wp2_with fail
          refine (HM2.out.up 0 false (by rfl)).mono ?_
          rintro e w5 ⟨rfl, hw⟩
          obtain rfl := hw.symm
          clear hw
          go_wp2_with fail
          refine (HM2.out.up 1 true (by rfl)).mono ?_
          rintro e w5 ⟨rfl, hw⟩
          obtain rfl := hw.symm
          clear hw
          go_wp2_with fail
          refine (known11 w2).mono ?_
          rintro e w5 ⟨rfl, b5⟩
          have HB5 := hideT (HB2.out.trans (b5.mono HB2.out.size))
          clear b5
          go_wp2_with fail
          go_ret
          exact ⟨rfl, HB5.out⟩
        · have y0 : wc.cell? ⟨w.heap.size + 1, 0, none⟩ = some (.int .i64 5) := HM8.out.cell 0
          have y1 : wc.cell? ⟨w.heap.size + 1, 1, none⟩ = some (.int .i64 2) := HM8.out.cell 1
          have y2 : wc.cell? ⟨w.heap.size + 1, 2, none⟩ = some (.slice ob2 2 oc2) := HM8.out.cell 2
          have y3 : wc.cell? ⟨w.heap.size + 1, 3, none⟩ = some (.slice none 0 0) := HM8.out.cell 3
          have y4 : wc.cell? ⟨w.heap.size + 1, 4, none⟩ = some (.int .i64 1) := HM8.out.cell 4
          have y5 : wc.cell? ⟨w.heap.size + 1, 5, none⟩ = some (.slice none 0 0) := HM8.out.cell 5
          have y6 := HM8.out.cell 6
          have y7 : wc.cell? ⟨w.heap.size + 1, 7, none⟩ = some (.slice none 0 0) := HM8.out.cell 7
          have y8 : wc.cell? ⟨w.heap.size + 1, 8, none⟩ = some (.slice (some ⟨w.heap.size, 0, none⟩) 1 1) := HM8.out.cell 8
          have y9 : wc.cell? ⟨w.heap.size + 1, 9, none⟩ = some (.slice none 0 0) := HM8.out.cell 9
          replace y6 := y6.trans (show _ = some (Value.slice _ 4 4) from rfl)
          go_wp2_with fail
          refine (newD wc _ (Gp.po true true) HP.out (Gp.po_is true true) (Gp.po_small true true)).mono ?_
          rintro e w1 ⟨b1, hm⟩
          rw [Gp.po_new] at hm
          obtain ⟨mb, rfl, M⟩ := hm
          have HM := hideT M.mach
          have HB1 := hideT (HBc.out.trans (b1.mono HBc.out.size))
          have hsz2 := HBc.out.size
          clear M b1 y0 y1 y2 y3 y4 y5 y6 y7 y8 y9
          go_wp2_with fail
          refine (HM.out.do (r := 0) Gp.actO (Gp.po_do true true)).mono ?_
          rintro e w2 ⟨rfl, M2, k2⟩
          have HM2 := hideT M2
          have HB2 : Hid (Below w.heap.size w w2) := by
            obtain ⟨_, _, _, _, _, _, hb, _⟩ := HM.out
            exact Keep.below HB1.out k2 (fun i hi e => by omega)
          clear M2 k2
          go_wp2_with fail
          refine (HM2.out.up 0 true (by rfl)).mono ?_
          rintro e w5 ⟨rfl, hw⟩
          obtain rfl := hw.symm
          clear hw
          go_wp2_with fail
          refine (HM2.out.up 1 true (by rfl)).mono ?_
          rintro e w5 ⟨rfl, hw⟩
          obtain rfl := hw.symm
          clear hw
          go_wp2_with fail
          refine (known11 w2).mono ?_
          rintro e w5 ⟨rfl, b5⟩
          have HB5 := hideT (HB2.out.trans (b5.mono HB2.out.size))
          clear b5
          go_wp2_with fail
          go_ret
          exact ⟨rfl, HB5.out⟩
end Go.Proofs.Ytkjekohncfhbiaa
