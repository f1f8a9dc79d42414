/-
  What the law asks at its end: what is not, then is; and what never rests is refused.
-/
import Derived.Test.YtkjekohncfhbiaaPartN
set_option linter.unusedSimpArgs false
set_option linter.unusedVariables false
namespace Go.Proofs.Ytkjekohncfhbiaa
open Go.RowKit
set_option maxRecDepth 100000
theorem own_of_liesG {w : World} {H b : Nat} {e : TypeId} {C : Array Value} {n z : Nat} (h : Lies w b e C) (hH : H ≤ b) (hs : C.size = n * z) (hn : n ≤ 10000000000000) : w.ownsRow H e z (.slice (some ⟨b, 0, none⟩) n n) n C.toList :=
  ⟨by rw [Array.length_toList]; exact hs, .inr ⟨b, n, C, rfl, hH, h, Nat.le_refl _, by unfold maxLen; omega, hs, by rw [← hs]; exact List.take_of_length_le (by rw [Array.length_toList]; exact Nat.le_refl _)⟩⟩
theorem lrow_oneG {w : World} {b : Nat} {x : Int} {y : Bool} (h0 : w.cell? ⟨b, 0, none⟩ = some (.int .i64 x)) (h1 : w.cell? ⟨b, 1, none⟩ = some (.bool y)) : LRow w (.slice (some ⟨b, 0, none⟩) 1 1) [(x, y)] :=
  ⟨b, 0, ⟨_, 1, rfl, Nat.le_refl _, fun _ => rfl⟩, by simp, fun i z hz => by
    match i, hz with
    | 0, hz =>
      simp at hz
      subst hz
      refine ⟨_, rfl, rfl, fun j c hj => ?_⟩
      match j, hj with
      | 0, hj => cases hj; simpa using h0
      | 1, hj => cases hj; simpa using h1
      | j + 2, hj => simp at hj
    | i + 1, hz => simp at hz⟩
theorem rrow_oneG {w : World} {b : Nat} {r : Rp.Rule} {v1 v2 v3 : Value} (h0 : w.cell? ⟨b, 0, none⟩ = some (.int .i64 r.1)) (h1 : w.cell? ⟨b, 1, none⟩ = some v1) (h2 : w.cell? ⟨b, 2, none⟩ = some v2) (h3 : w.cell? ⟨b, 3, none⟩ = some v3)
    (r1 : LRow w v1 r.2.1) (r2 : CRow w v2 r.2.2.1) (r3 : LRow w v3 r.2.2.2) : RRow w (.slice (some ⟨b, 0, none⟩) 1 1) [r] :=
  ⟨b, 0, ⟨_, 1, rfl, Nat.le_refl _, fun _ => rfl⟩, by simp, fun i z hz => by
    match i, hz with
    | 0, hz =>
      simp at hz
      subst hz
      refine ⟨_, rfl, ⟨v1, v2, v3, rfl, r1, r2, r3⟩, fun j c hj => ?_⟩
      match j, hj with
      | 0, hj => cases hj; simpa using h0
      | 1, hj => cases hj; simpa using h1
      | 2, hj => cases hj; simpa using h2
      | 3, hj => cases hj; simpa using h3
      | j + 4, hj => simp at hj
    | i + 1, hz => simp at hz⟩
theorem one_celB {z : Nat} {W : World} {cs : Array Value} {ty : TypeId} {B : Nat} (hB : W.heap.size = B) (c : Cel z) (hc : c.1 = cs.toList) : 0 < 1 → ∃ ad, (some ⟨B, 0, none⟩ : Option Addr) = some ad ∧ ∀ (j : Nat) u, ([c].map celE).flatten[j]? = some u → (W.alloc (.cells cs ty)).cell? (ad.add j) = some u := by
  subst hB
  exact one_cel c hc
/-- A rule of one literal and one set. -/
theorem rule_hang {w : World} {S : Nat → Prop} {bl bs : Nat} {tl ts : TypeId} {n x x' : Int} {y y' : Bool} (hl : Lies w bl tl #[.int .i64 x, .bool y]) (hs : Lies w bs ts #[.int .i64 x', .bool y']) (h1 : S bl) (h2 : S bs) :
    Hang S (fun w => ruleR w [.int .i64 n, .slice (some ⟨bl, 0, none⟩) 1 1, .slice none 0 0, .slice (some ⟨bs, 0, none⟩) 1 1] (n, [(x, y)], [], [(x', y')])) w := fun w2 hw =>
  ⟨_, _, _, rfl, lrow_oneG (hw _ _ h1 (hl.cell 0)) (hw _ _ h1 (hl.cell 1)), rowR_nil _, lrow_oneG (hw _ _ h2 (hs.cell 0)) (hw _ _ h2 (hs.cell 1))⟩
def celR1 (n : Int) (bl bs : Nat) : Cel 4 := ⟨[.int .i64 n, .slice (some ⟨bl, 0, none⟩) 1 1, .slice none 0 0, .slice (some ⟨bs, 0, none⟩) 1 1], rfl, fun u hu => by simp at hu; rcases hu with rfl | rfl | rfl | rfl <;> rfl⟩
theorem infoC_Ru : (Try.prog.info? 61).map (fun i => (i.zero, i.size, i.bytes)) = some (some (.agg #[.int .i64 0, .slice none 0 0, .slice none 0 0, .slice none 0 0]), 4, 80) := by kernel_rfl
abbrev kru (n : Int) (bl bs : Nat) : Array Value := #[.int .i64 n, .slice (some ⟨bl, 0, none⟩) 1 1, .slice none 0 0, .slice (some ⟨bs, 0, none⟩) 1 1]
abbrev kpr (v : Value) : Array Value := #[.int .i64 1, .int .i64 1, .slice none 0 0, .slice none 0 0, .int .i64 1, .slice none 0 0, v, .slice none 0 0, .slice none 0 0, .slice none 0 0]
theorem built11 (w : World) : ∃ V, (((w.alloc (.cells #[.int .i64 0, .bool true] 54)).alloc (.cells #[.int .i64 0, .bool true] 57)).alloc (.cells (kru 1 w.heap.size (w.heap.size + 1)) 61)).alloc (.cells (kpr (.slice (some ⟨w.heap.size + 2, 0, none⟩) 1 1)) 29) = V ∧ Below w.heap.size w V ∧ V.heap.size = w.heap.size + 4 ∧
    Lies V w.heap.size 54 #[.int .i64 0, .bool true] ∧ Lies V (w.heap.size + 1) 57 #[.int .i64 0, .bool true] ∧ Lies V (w.heap.size + 2) 61 (kru 1 w.heap.size (w.heap.size + 1)) ∧ Lies V (w.heap.size + 3) 29 (kpr (.slice (some ⟨w.heap.size + 2, 0, none⟩) 1 1)) := by
  obtain ⟨W1, h1, b1, l1, l2, s1⟩ := boxes2 w 54 57 #[.int .i64 0, .bool true] #[.int .i64 0, .bool true]
  obtain ⟨W2, h2, b2, l3, l4, s2⟩ := boxes2 W1 61 29 (kru 1 w.heap.size (w.heap.size + 1)) (kpr (.slice (some ⟨w.heap.size + 2, 0, none⟩) 1 1))
  rw [h1]
  rw [s1] at l3 l4 s2
  exact ⟨W2, h2, b1.trans (b2.mono b1.size), s2, l1.below b2, l2.below b2, l3, l4⟩
def KA0 (r : Option Addr) (n c : Nat) : PA := ⟨none, 0, none, 0, none, 0, r, c, none, 0, none, 0, none, 0⟩
set_option maxHeartbeats 8000000 in
theorem known11 (w : World) : Calls Try.prog 13 #[] w fun e w' => e = .returned (.bool true) ∧ Below w.heap.size w w' := by
  obtain ⟨V, hV, b0, sv, l1, l2, l3, l4⟩ := built11 w
  have HV := hideT hV
  have HB0 := hideT b0
  have HSV := hideT sv
  have HL1 := hideT l1
  have HL2 := hideT l2
  have HL3 := hideT l3
  have HL4 := hideT l4
  have HP0 : Hid (ProgAt V (KA0 (some ⟨w.heap.size + 2, 0, none⟩) 1 1) Gp.kn0) := ⟨zrow_nil _, zrow_nil _, rowR_nil _, rrow_oneG (r := (1, [(0, true)], [], [(0, true)])) (l3.cell 0) (l3.cell 1) (l3.cell 2) (l3.cell 3) (lrow_oneG (l1.cell 0) (l1.cell 1)) (rowR_nil _) (lrow_oneG (l2.cell 0) (l2.cell 1)), rowR_nil _, rowR_nil _, rowR_nil _⟩
  clear hV b0 sv l1 l2 l3 l4
  go_enter Try.func13, Try.ntmps13
  go_wp2_with fail
  rw [HV.out]
  refine (newD V (KA0 (some ⟨w.heap.size + 2, 0, none⟩) 1 1) Gp.kn0 HP0.out Gp.kn0_is Gp.kn0_small).mono ?_
  rintro e w1 ⟨b1, hm⟩
  rw [Gp.kn0_new] at hm
  obtain ⟨mb, rfl, M⟩ := hm
  have HM := hideT M
  have HB1 := hideT b1
  have y6 : w1.cell? ⟨w.heap.size + 3, 6, none⟩ = some (.slice (some ⟨w.heap.size + 2, 0, none⟩) 1 1) := (HL4.out.below b1).cell 6
  have hs1 : w.heap.size + 4 ≤ w1.heap.size := by have := b1.size; have := HSV.out; omega
  have hz1 := cell_lt y6
  have hz2 := World.new_ne w1 _ y6
  have BA3 : Below w1.heap.size w1 (((w1.alloc (.cells #[.int .i64 0, .bool false] 54)).alloc (.cells #[.int .i64 0, .bool false] 57)).alloc (.cells (kru 1 w1.heap.size (w1.heap.size + 1)) 61)) := ((((Below.refl _ w1).alloc (Nat.le_refl _) _).alloc (by simp) _).alloc (by simp; omega) _)
  have OE1 : OE 0 61 4 celE w1 (.slice (some ⟨w.heap.size + 2, 0, none⟩) 1 1) [celR1 1 w.heap.size (w.heap.size + 1)] := ⟨own_of_liesG (n := 1) (z := 4) (HL3.out.below b1) (Nat.zero_le _) rfl (by omega), Nat.zero_le _⟩
  have HOE := hideT (OE1.below BA3)
  have HBA := hideT BA3
  have hl4 := ((HL4.out.below b1).below BA3)
  have HL4a := hideT hl4
  obtain ⟨Wx, hWx, bx, lx1, lx2, sx⟩ := boxes2 w1 54 57 #[.int .i64 0, .bool false] #[.int .i64 0, .bool false]
  have HLX : Hid (Lies (((w1.alloc (.cells #[.int .i64 0, .bool false] 54)).alloc (.cells #[.int .i64 0, .bool false] 57)).alloc (.cells (kru 1 w1.heap.size (w1.heap.size + 1)) 61)) w1.heap.size 54 #[.int .i64 0, .bool false] ∧ Lies (((w1.alloc (.cells #[.int .i64 0, .bool false] 54)).alloc (.cells #[.int .i64 0, .bool false] 57)).alloc (.cells (kru 1 w1.heap.size (w1.heap.size + 1)) 61)) (w1.heap.size + 1) 57 #[.int .i64 0, .bool false]) := by
    show _ ∧ _
    rw [hWx]
    exact ⟨lx1.below ((Below.refl _ _).alloc (Nat.le_refl _) _), lx2.below ((Below.refl _ _).alloc (Nat.le_refl _) _)⟩
  have HLY := hideT (And.intro ((HL1.out.below b1).below BA3) ((HL2.out.below b1).below BA3))
  clear hWx bx lx1 lx2 sx
  have HS1 := hideT hs1
  clear M b1 BA3 OE1 hl4
  go_wp2_with (first | (at_builtin; (refine wpList_appO (t := 24) (e := 61) (z := 4) (E := celE) Try.underlying24 infoC_Ru rfl (by omega) (by omega) celE_len celE_one (by rfl) _ _ (by rfl) (v := .slice (some ⟨w.heap.size + 2, 0, none⟩) 1 1) (by rfl) (by rfl) HOE.out [celR1 1 w1.heap.size (w1.heap.size + 1)] rfl (one_celB (by simp) (celR1 1 w1.heap.size (w1.heap.size + 1)) rfl) (by simp) ?_; intro v' w3 o3 k3; obtain ⟨qad, qcap, hq, hqq⟩ := o3.form; clear hqq; replace hq : v' = .slice qad 2 qcap := hq; subst hq; have L43 := HL4a.out.keep k3.keep (fun e => by have e1 : w.heap.size + 2 = w.heap.size + 3 := Option.some.inj e; omega); have u0 : w3.cell? ⟨w.heap.size + 3, 0, none⟩ = some (.int .i64 1) := L43.cell 0; have u1 : w3.cell? ⟨w.heap.size + 3, 1, none⟩ = some (.int .i64 1) := L43.cell 1; have u2 : w3.cell? ⟨w.heap.size + 3, 2, none⟩ = some (.slice none 0 0) := L43.cell 2; have u3 : w3.cell? ⟨w.heap.size + 3, 3, none⟩ = some (.slice none 0 0) := L43.cell 3; have u4 : w3.cell? ⟨w.heap.size + 3, 4, none⟩ = some (.int .i64 1) := L43.cell 4; have u5 : w3.cell? ⟨w.heap.size + 3, 5, none⟩ = some (.slice none 0 0) := L43.cell 5; have u6 : w3.cell? ⟨w.heap.size + 3, 6, none⟩ = some (.slice (some ⟨w.heap.size + 2, 0, none⟩) 1 1) := L43.cell 6; have u7 : w3.cell? ⟨w.heap.size + 3, 7, none⟩ = some (.slice none 0 0) := L43.cell 7; have u8 : w3.cell? ⟨w.heap.size + 3, 8, none⟩ = some (.slice none 0 0) := L43.cell 8; have u9 : w3.cell? ⟨w.heap.size + 3, 9, none⟩ = some (.slice none 0 0) := L43.cell 9; have f6 : w3.frozen? ⟨w.heap.size + 3, 6, none⟩ = false := L43.free 6)) | fail)
  obtain ⟨X, hX⟩ : ∃ X, w3.setCell ⟨w.heap.size + 3, 6, none⟩ (.slice qad 2 qcap) = X := ⟨_, rfl⟩
  have KX : Keep (fun k => k = w.heap.size + 3) w3 X := by rw [← hX]; exact Keep.set _ _ _ rfl
  have hs := HS1.out
  have hown : ∀ i, (Value.slice (some ⟨w.heap.size + 2, 0, none⟩) 1 1).ownBlock = some i → i = w.heap.size + 2 := fun i e => (Option.some.inj e).symm
  have q1 := HLY.out.1.keep k3.keep (fun e => by have := hown _ e; omega)
  have q2 := HLY.out.2.keep k3.keep (fun e => by have := hown _ e; omega)
  have q3 := HLX.out.1.keep k3.keep (fun e => by have := hown _ e; omega)
  have q4 := HLX.out.2.keep k3.keep (fun e => by have := hown _ e; omega)
  have hrow := o3.row (R := ruleR) (S := fun k => k ≠ w.heap.size + 3) (l := Gp.kn1.rules) rfl (by decide) celE_len (fun g hg e => by subst e; exact own_ne o3.own L43 (by decide) hg) (fun i x c hx hc => by
    match i, hx, hc with
    | 0, hx, hc =>
      cases hx
      cases hc
      exact rule_hang q1 q2 (by omega) (by omega)
    | 1, hx, hc =>
      cases hx
      cases hc
      exact rule_hang q3 q4 (by omega) (by omega)
    | i + 2, hx, hc => cases hc)
  have HP1 : Hid (ProgAt X (KA0 qad 2 qcap) Gp.kn1) := ⟨zrow_nil _, zrow_nil _, rowR_nil _, (hrow.keep KX (fun i _ h e => h e)).here, rowR_nil _, rowR_nil _, rowR_nil _⟩
  have hKW : Keep (fun k => k = w.heap.size + 2 ∨ k = w.heap.size + 3) w1 X := ((Keep.of_below HBA.out).trans (k3.keep.wide (fun i _ e => .inl (hown i e)))).trans (KX.wide (fun i _ e => .inr e))
  have HMX := hideT ((HM.out.keep hKW (fun i hi e => by have := HSV.out; omega)).mach)
  have HBX := hideT (Keep.below (HB0.out.trans (HB1.out.mono HB0.out.size)) hKW (fun i hi e => by omega))
  have HXX := hideT hX
  clear KX hKW hrow q1 q2 q3 q4 hown hs hX L43 o3 k3
  rw [HXX.out]
  refine (newD X (KA0 qad 2 qcap) Gp.kn1 HP1.out Gp.kn1_is Gp.kn1_small).mono ?_
  rintro e w4 ⟨b4, hm⟩
  rw [Gp.kn1_new] at hm
  obtain rfl := hm
  have HM4 := hideT (HMX.out.below b4)
  have HB4 := hideT (HBX.out.trans (b4.mono HBX.out.size))
  clear b4 u0 u1 u2 u3 u4 u5 u6 u7 u8 u9 f6 y6 hz1 hz2
  go_wp2_with fail
  refine (HM4.out.up 0 true (by decide)).mono ?_
  rintro e w5 ⟨rfl, hw⟩
  obtain rfl := hw.symm
  clear hw
  go_wp2_with fail
  refine (HM4.out.up 1 false (by decide)).mono ?_
  rintro e w5 ⟨rfl, hw⟩
  obtain rfl := hw.symm
  clear hw
  go_wp2_with fail
  go_ret
  exact ⟨rfl, HB4.out⟩
end Go.Proofs.Ytkjekohncfhbiaa
