/-
  The program's stage, task, milestone, listener, plan.
-/
import Derived.Test.YtjfonpbnohbpfaaGreatDoorBItem
set_option linter.unusedSimpArgs false
set_option linter.unusedVariables false
namespace Go.Proofs.YtjfonpbnohbpfaaGreatDoor
open Go.RowKit
set_option maxRecDepth 100000
/-- What a part of the binder comes to, at an element. -/
def PartAt (b B d lim f : Nat) (F : Bp.BS → Tr → Except Int Bp.BS) (K : Tr) : Prop :=
  ∀ M w Q s c0 c1 c2 c3 c4, BIn B b M w Q s → NInR w Q d c0 c1 c2 c3 c4 K → M + Bp.cnt d K ≤ lim → Calls Tryz.prog f #[.pointer (some ⟨b, 0, none⟩), .agg #[c0, c1, c2, c3, c4]] w (BPost b w Q (BIn B b (M + Bp.cnt d K)) (F s K))
theorem bin_sound (B b : Nat) : Sound b (BIn B b) := ⟨fun _ _ _ _ _ h hb => h.fresh hb, fun _ _ _ _ h => h.six, fun _ _ _ _ _ hm h => h.mono hm⟩
def Parts (b B d lim : Nat) (E : List Ent) (tbl : Bp.Tab Bp.BS) (T : Tr) : Prop :=
  ∀ (i : Nat) x y K, E[i]? = some x → tbl[i]? = some y → K ∈ Bp.klT T → Bp.isOf K x.1 = true → PartAt b B d lim x.2.2 y.2.2 K
theorem kids_of {b B d lim : Nat} {E : List Ent} {tbl : Bp.Tab Bp.BS} {T : Tr} (hE : Parts b B d lim E tbl T) (ha : Alike E tbl) (hl : E.length ≤ 100) (hen : ∀ x ∈ E, Enters Tryz.prog x.2.2) (M : Nat) (w : World) (Q : Nat → Prop) (s : Bp.BS) (h : BIn B b M w Q s) (n0 n1 n2 n3 n4 : Value) (hT : NInR w Q (d + 1) n0 n1 n2 n3 n4 T) (hM : M + tot d (Bp.klT T) ≤ lim) (tv : Value) (htab : RowQ 3 tabR w Q tv E) :
    Calls Tryz.prog 45 #[.pointer (some ⟨b, 0, none⟩), .agg #[n0, n1, n2, n3, n4], tv] w (BPost b w Q (BIn B b (M + tot d (Bp.klT T))) (Bp.kids tbl 0 s (Bp.klT T))) :=
  kidsD b d lim (BIn B b) tbl E T (bin_sound B b) ha hl hen (fun i x y K M w Q s c0 c1 c2 c3 c4 hx hy hK ho hI hc hN => hE i x y K hx hy hK ho M w Q s c0 c1 c2 c3 c4 hI hN hc) w Q M s h n0 n1 n2 n3 n4 hT hM tv htab
theorem enters_case : ∀ x ∈ caseE, Enters Tryz.prog x.2.2 := by
  intro x hx
  simp only [caseE, List.mem_cons, List.mem_nil_iff, or_false] at hx
  rcases hx with rfl | rfl
  · exact enters_of Tryz.func80 (by kernel_rfl) rfl
  · exact enters_of Tryz.func81 (by kernel_rfl) rfl
theorem enters_item : ∀ x ∈ itemE, Enters Tryz.prog x.2.2 := by
  intro x hx
  simp only [itemE, List.mem_cons, List.mem_nil_iff, or_false] at hx
  rcases hx with rfl | rfl
  · exact enters_of Tryz.func180 (by kernel_rfl) rfl
  · exact enters_of Tryz.func181 (by kernel_rfl) rfl
theorem enters_stage : ∀ x ∈ itemE ++ moreE, Enters Tryz.prog x.2.2 := by
  intro x hx
  rcases List.mem_append.1 hx with hx | hx
  · exact enters_item x hx
  simp only [moreE, List.mem_cons, List.mem_nil_iff, or_false] at hx
  rcases hx with rfl | rfl | rfl | rfl | rfl
  · exact enters_of Tryz.func113 (by kernel_rfl) rfl
  · exact enters_of Tryz.func157 (by kernel_rfl) rfl
  · exact enters_of Tryz.func158 (by kernel_rfl) rfl
  · exact enters_of Tryz.func159 (by kernel_rfl) rfl
  · exact enters_of Tryz.func160 (by kernel_rfl) rfl
theorem bpost_eq {σ : Type} {b : Nat} {w : World} {Q : Nat → Prop} {I : Nat → World → (Nat → Prop) → σ → Prop} {n m : Nat} {r : Except Int σ} {e : Ending} {w' : World} (h : n = m) (hp : BPost b w Q (I n) r e w') : BPost b w Q (I m) r e w' := by
  subst h
  exact hp
theorem alike_item : Alike itemE Bp.itemTab := rfl
theorem alike_stage (f : Bp.BS → Tr → Except Int Bp.BS) : Alike (itemE ++ moreE) (Bp.stageTab f) := rfl
set_option maxHeartbeats 4000000 in
theorem taskD {b B d lim : Nat} {T : Tr} (hE : Parts b B d lim (itemE) (Bp.itemTab) T) (hlim : lim ≤ 1000000) : PartAt b B (d + 1) lim 157 (Bp.itemG (Bp.itemTab) 2) T := by
  intro M w Q s c0 c1 c2 c3 c4 h hT hM
  obtain ⟨sp, lo, a2, l2, m2, a3, l3, m3, p, rfl, rfl, rfl, rfl, rfl, _, _, _⟩ := hT.five
  have hcn : Bp.cnt (d + 1) T = 1 + tot d (Bp.klT T) := rfl
  rw [hcn] at hM ⊢
  have HM := hideT hM
  have HT := hideT hT
  have HE := hideT hE
  have HBI := hideT h
  have SX := hideT h.six
  obtain ⟨W1, hW1, B1, L1⟩ : ∃ W1, w.alloc (.cells #[.string sp, .string lo, .slice a2 l2 m2, .slice a3 l3 m3, .int .i64 p] 45) = W1 ∧ Below w.heap.size w W1 ∧ Lies W1 w.heap.size 45 #[.string sp, .string lo, .slice a2 l2 m2, .slice a3 l3 m3, .int .i64 p] := ⟨_, rfl, (Below.refl _ w).alloc (Nat.le_refl _) _, Lies.new w _ _⟩
  have HB1 := hideT B1
  have HL1 := hideT L1
  have x0 : W1.cell? ⟨w.heap.size, 0, none⟩ = some (.string sp) := L1.cell 0
  have x1 : W1.cell? ⟨w.heap.size, 1, none⟩ = some (.string lo) := L1.cell 1
  have x2 : W1.cell? ⟨w.heap.size, 2, none⟩ = some (.slice a2 l2 m2) := L1.cell 2
  have x3 : W1.cell? ⟨w.heap.size, 3, none⟩ = some (.slice a3 l3 m3) := L1.cell 3
  have x4 : W1.cell? ⟨w.heap.size, 4, none⟩ = some (.int .i64 p) := L1.cell 4
  clear hT hE h B1 L1 hM hcn
  cases hr : Bp.itemG (Bp.itemTab) 2 s T with
  | error q =>
    have HR := hideT hr
    clear hr
    go_enter Tryz.func157, Tryz.ntmps157
    go_wp2_with fail
    go_region_held3 (fun w' => w'.cell? ⟨w.heap.size, 0, none⟩ = some (.string sp) ∧ w'.cell? ⟨w.heap.size, 1, none⟩ = some (.string lo) ∧ w'.cell? ⟨w.heap.size, 2, none⟩ = some (.slice a2 l2 m2) ∧ w'.cell? ⟨w.heap.size, 3, none⟩ = some (.slice a3 l3 m3) ∧ w'.cell? ⟨w.heap.size, 4, none⟩ = some (.int .i64 p)) (go_keep) (first
      | (go_at_call 156; refine (itemKidsD _).mono ?_; rintro e w1 ⟨v, rfl, b1, o1⟩; obtain ⟨ta, tc, rfl⟩ := slice_form o1; have bb1 : Below w.heap.size w w1 := HB1.out.drew.trans (b1.mono HB1.out.size); have LL1 := HL1.out.below ((Below.refl _ W1).drew.trans b1); have k0 : w1.cell? ⟨w.heap.size, 0, none⟩ = some (.string sp) := LL1.cell 0; have k1 : w1.cell? ⟨w.heap.size, 1, none⟩ = some (.string lo) := LL1.cell 1; have k2 : w1.cell? ⟨w.heap.size, 2, none⟩ = some (.slice a2 l2 m2) := LL1.cell 2; have k3 : w1.cell? ⟨w.heap.size, 3, none⟩ = some (.slice a3 l3 m3) := LL1.cell 3; have k4 : w1.cell? ⟨w.heap.size, 4, none⟩ = some (.int .i64 p) := LL1.cell 4)
      | (go_at_call 135; have TB : RowQ 3 tabR w1 (freshQ w w1 Q) (.slice ta (itemE).length tc) (itemE) := tab_of_own o1 (by decide) (fun g hg => .inr ⟨by have := (own_lt o1 hg).2; have := HB1.out.size; exact Nat.le_trans this (own_lt o1 hg).2, (own_lt o1 hg).1⟩); have TF := TQ.fresh bb1 (fun k hk => (SX.out.2 k hk).1); have QN : freshQ w w1 Q w.heap.size := .inr ⟨Nat.le_refl _, LL1.lt⟩; refine (itemD b B d lim M 2 (by decide) T s (Bp.itemTab) w1 _ (HBI.out.fresh bb1) _ _ _ _ _ (TF.tree HT.out) HM.out hlim _ (itemE) TB (fun w' Q' s' hb hn ht => (kids_of HE.out alike_item (by decide) enters_item (M + 1) w' Q' s' hb _ _ _ _ _ hn (by have := HM.out; omega) _ ht).mono (fun _ _ hp => bpost_eq (by omega) hp))).mono ?_; rintro e w2 ⟨Q2, t2, ok2, er2⟩; have h0 : w2.cell? ⟨w.heap.size, 0, none⟩ = some (.string sp) := (t2.cell QN).trans k0; have h1 : w2.cell? ⟨w.heap.size, 1, none⟩ = some (.string lo) := (t2.cell QN).trans k1; have h2 : w2.cell? ⟨w.heap.size, 2, none⟩ = some (.slice a2 l2 m2) := (t2.cell QN).trans k2; have h3 : w2.cell? ⟨w.heap.size, 3, none⟩ = some (.slice a3 l3 m3) := (t2.cell QN).trans k3; have h4 : w2.cell? ⟨w.heap.size, 4, none⟩ = some (.int .i64 p) := (t2.cell QN).trans k4; obtain ⟨rfl, fe⟩ := er2 q HR.out))
    all_goals go_wp2_with fail
    all_goals go_ret
    all_goals exact BPost.err ((TQ.fresh bb1 (fun k hk => (SX.out.2 k hk).1)).trans t2) fe rfl
  | ok s' =>
    have HR := hideT hr
    clear hr
    go_enter Tryz.func157, Tryz.ntmps157
    go_wp2_with fail
    go_region_held3 (fun w' => w'.cell? ⟨w.heap.size, 0, none⟩ = some (.string sp) ∧ w'.cell? ⟨w.heap.size, 1, none⟩ = some (.string lo) ∧ w'.cell? ⟨w.heap.size, 2, none⟩ = some (.slice a2 l2 m2) ∧ w'.cell? ⟨w.heap.size, 3, none⟩ = some (.slice a3 l3 m3) ∧ w'.cell? ⟨w.heap.size, 4, none⟩ = some (.int .i64 p)) (go_keep) (first
      | (go_at_call 156; refine (itemKidsD _).mono ?_; rintro e w1 ⟨v, rfl, b1, o1⟩; obtain ⟨ta, tc, rfl⟩ := slice_form o1; have bb1 : Below w.heap.size w w1 := HB1.out.drew.trans (b1.mono HB1.out.size); have LL1 := HL1.out.below ((Below.refl _ W1).drew.trans b1); have k0 : w1.cell? ⟨w.heap.size, 0, none⟩ = some (.string sp) := LL1.cell 0; have k1 : w1.cell? ⟨w.heap.size, 1, none⟩ = some (.string lo) := LL1.cell 1; have k2 : w1.cell? ⟨w.heap.size, 2, none⟩ = some (.slice a2 l2 m2) := LL1.cell 2; have k3 : w1.cell? ⟨w.heap.size, 3, none⟩ = some (.slice a3 l3 m3) := LL1.cell 3; have k4 : w1.cell? ⟨w.heap.size, 4, none⟩ = some (.int .i64 p) := LL1.cell 4)
      | (go_at_call 135; have TB : RowQ 3 tabR w1 (freshQ w w1 Q) (.slice ta (itemE).length tc) (itemE) := tab_of_own o1 (by decide) (fun g hg => .inr ⟨by have := (own_lt o1 hg).2; have := HB1.out.size; exact Nat.le_trans this (own_lt o1 hg).2, (own_lt o1 hg).1⟩); have TF := TQ.fresh bb1 (fun k hk => (SX.out.2 k hk).1); have QN : freshQ w w1 Q w.heap.size := .inr ⟨Nat.le_refl _, LL1.lt⟩; refine (itemD b B d lim M 2 (by decide) T s (Bp.itemTab) w1 _ (HBI.out.fresh bb1) _ _ _ _ _ (TF.tree HT.out) HM.out hlim _ (itemE) TB (fun w' Q' s' hb hn ht => (kids_of HE.out alike_item (by decide) enters_item (M + 1) w' Q' s' hb _ _ _ _ _ hn (by have := HM.out; omega) _ ht).mono (fun _ _ hp => bpost_eq (by omega) hp))).mono ?_; rintro e w2 ⟨Q2, t2, ok2, er2⟩; have h0 : w2.cell? ⟨w.heap.size, 0, none⟩ = some (.string sp) := (t2.cell QN).trans k0; have h1 : w2.cell? ⟨w.heap.size, 1, none⟩ = some (.string lo) := (t2.cell QN).trans k1; have h2 : w2.cell? ⟨w.heap.size, 2, none⟩ = some (.slice a2 l2 m2) := (t2.cell QN).trans k2; have h3 : w2.cell? ⟨w.heap.size, 3, none⟩ = some (.slice a3 l3 m3) := (t2.cell QN).trans k3; have h4 : w2.cell? ⟨w.heap.size, 4, none⟩ = some (.int .i64 p) := (t2.cell QN).trans k4; obtain ⟨rfl, i2⟩ := ok2 s' HR.out))
    all_goals go_wp2_with fail
    all_goals go_ret
    all_goals exact BPost.ok ((TQ.fresh bb1 (fun k hk => (SX.out.2 k hk).1)).trans t2) i2 rfl
set_option maxHeartbeats 4000000 in
theorem milestoneD {b B d lim : Nat} {T : Tr} (hE : Parts b B d lim (itemE) (Bp.itemTab) T) (hlim : lim ≤ 1000000) : PartAt b B (d + 1) lim 158 (Bp.itemG (Bp.itemTab) 3) T := by
  intro M w Q s c0 c1 c2 c3 c4 h hT hM
  obtain ⟨sp, lo, a2, l2, m2, a3, l3, m3, p, rfl, rfl, rfl, rfl, rfl, _, _, _⟩ := hT.five
  have hcn : Bp.cnt (d + 1) T = 1 + tot d (Bp.klT T) := rfl
  rw [hcn] at hM ⊢
  have HM := hideT hM
  have HT := hideT hT
  have HE := hideT hE
  have HBI := hideT h
  have SX := hideT h.six
  obtain ⟨W1, hW1, B1, L1⟩ : ∃ W1, w.alloc (.cells #[.string sp, .string lo, .slice a2 l2 m2, .slice a3 l3 m3, .int .i64 p] 45) = W1 ∧ Below w.heap.size w W1 ∧ Lies W1 w.heap.size 45 #[.string sp, .string lo, .slice a2 l2 m2, .slice a3 l3 m3, .int .i64 p] := ⟨_, rfl, (Below.refl _ w).alloc (Nat.le_refl _) _, Lies.new w _ _⟩
  have HB1 := hideT B1
  have HL1 := hideT L1
  have x0 : W1.cell? ⟨w.heap.size, 0, none⟩ = some (.string sp) := L1.cell 0
  have x1 : W1.cell? ⟨w.heap.size, 1, none⟩ = some (.string lo) := L1.cell 1
  have x2 : W1.cell? ⟨w.heap.size, 2, none⟩ = some (.slice a2 l2 m2) := L1.cell 2
  have x3 : W1.cell? ⟨w.heap.size, 3, none⟩ = some (.slice a3 l3 m3) := L1.cell 3
  have x4 : W1.cell? ⟨w.heap.size, 4, none⟩ = some (.int .i64 p) := L1.cell 4
  clear hT hE h B1 L1 hM hcn
  cases hr : Bp.itemG (Bp.itemTab) 3 s T with
  | error q =>
    have HR := hideT hr
    clear hr
    go_enter Tryz.func158, Tryz.ntmps158
    go_wp2_with fail
    go_region_held3 (fun w' => w'.cell? ⟨w.heap.size, 0, none⟩ = some (.string sp) ∧ w'.cell? ⟨w.heap.size, 1, none⟩ = some (.string lo) ∧ w'.cell? ⟨w.heap.size, 2, none⟩ = some (.slice a2 l2 m2) ∧ w'.cell? ⟨w.heap.size, 3, none⟩ = some (.slice a3 l3 m3) ∧ w'.cell? ⟨w.heap.size, 4, none⟩ = some (.int .i64 p)) (go_keep) (first
      | (go_at_call 156; refine (itemKidsD _).mono ?_; rintro e w1 ⟨v, rfl, b1, o1⟩; obtain ⟨ta, tc, rfl⟩ := slice_form o1; have bb1 : Below w.heap.size w w1 := HB1.out.drew.trans (b1.mono HB1.out.size); have LL1 := HL1.out.below ((Below.refl _ W1).drew.trans b1); have k0 : w1.cell? ⟨w.heap.size, 0, none⟩ = some (.string sp) := LL1.cell 0; have k1 : w1.cell? ⟨w.heap.size, 1, none⟩ = some (.string lo) := LL1.cell 1; have k2 : w1.cell? ⟨w.heap.size, 2, none⟩ = some (.slice a2 l2 m2) := LL1.cell 2; have k3 : w1.cell? ⟨w.heap.size, 3, none⟩ = some (.slice a3 l3 m3) := LL1.cell 3; have k4 : w1.cell? ⟨w.heap.size, 4, none⟩ = some (.int .i64 p) := LL1.cell 4)
      | (go_at_call 135; have TB : RowQ 3 tabR w1 (freshQ w w1 Q) (.slice ta (itemE).length tc) (itemE) := tab_of_own o1 (by decide) (fun g hg => .inr ⟨by have := (own_lt o1 hg).2; have := HB1.out.size; exact Nat.le_trans this (own_lt o1 hg).2, (own_lt o1 hg).1⟩); have TF := TQ.fresh bb1 (fun k hk => (SX.out.2 k hk).1); have QN : freshQ w w1 Q w.heap.size := .inr ⟨Nat.le_refl _, LL1.lt⟩; refine (itemD b B d lim M 3 (by decide) T s (Bp.itemTab) w1 _ (HBI.out.fresh bb1) _ _ _ _ _ (TF.tree HT.out) HM.out hlim _ (itemE) TB (fun w' Q' s' hb hn ht => (kids_of HE.out alike_item (by decide) enters_item (M + 1) w' Q' s' hb _ _ _ _ _ hn (by have := HM.out; omega) _ ht).mono (fun _ _ hp => bpost_eq (by omega) hp))).mono ?_; rintro e w2 ⟨Q2, t2, ok2, er2⟩; have h0 : w2.cell? ⟨w.heap.size, 0, none⟩ = some (.string sp) := (t2.cell QN).trans k0; have h1 : w2.cell? ⟨w.heap.size, 1, none⟩ = some (.string lo) := (t2.cell QN).trans k1; have h2 : w2.cell? ⟨w.heap.size, 2, none⟩ = some (.slice a2 l2 m2) := (t2.cell QN).trans k2; have h3 : w2.cell? ⟨w.heap.size, 3, none⟩ = some (.slice a3 l3 m3) := (t2.cell QN).trans k3; have h4 : w2.cell? ⟨w.heap.size, 4, none⟩ = some (.int .i64 p) := (t2.cell QN).trans k4; obtain ⟨rfl, fe⟩ := er2 q HR.out))
    all_goals go_wp2_with fail
    all_goals go_ret
    all_goals exact BPost.err ((TQ.fresh bb1 (fun k hk => (SX.out.2 k hk).1)).trans t2) fe rfl
  | ok s' =>
    have HR := hideT hr
    clear hr
    go_enter Tryz.func158, Tryz.ntmps158
    go_wp2_with fail
    go_region_held3 (fun w' => w'.cell? ⟨w.heap.size, 0, none⟩ = some (.string sp) ∧ w'.cell? ⟨w.heap.size, 1, none⟩ = some (.string lo) ∧ w'.cell? ⟨w.heap.size, 2, none⟩ = some (.slice a2 l2 m2) ∧ w'.cell? ⟨w.heap.size, 3, none⟩ = some (.slice a3 l3 m3) ∧ w'.cell? ⟨w.heap.size, 4, none⟩ = some (.int .i64 p)) (go_keep) (first
      | (go_at_call 156; refine (itemKidsD _).mono ?_; rintro e w1 ⟨v, rfl, b1, o1⟩; obtain ⟨ta, tc, rfl⟩ := slice_form o1; have bb1 : Below w.heap.size w w1 := HB1.out.drew.trans (b1.mono HB1.out.size); have LL1 := HL1.out.below ((Below.refl _ W1).drew.trans b1); have k0 : w1.cell? ⟨w.heap.size, 0, none⟩ = some (.string sp) := LL1.cell 0; have k1 : w1.cell? ⟨w.heap.size, 1, none⟩ = some (.string lo) := LL1.cell 1; have k2 : w1.cell? ⟨w.heap.size, 2, none⟩ = some (.slice a2 l2 m2) := LL1.cell 2; have k3 : w1.cell? ⟨w.heap.size, 3, none⟩ = some (.slice a3 l3 m3) := LL1.cell 3; have k4 : w1.cell? ⟨w.heap.size, 4, none⟩ = some (.int .i64 p) := LL1.cell 4)
      | (go_at_call 135; have TB : RowQ 3 tabR w1 (freshQ w w1 Q) (.slice ta (itemE).length tc) (itemE) := tab_of_own o1 (by decide) (fun g hg => .inr ⟨by have := (own_lt o1 hg).2; have := HB1.out.size; exact Nat.le_trans this (own_lt o1 hg).2, (own_lt o1 hg).1⟩); have TF := TQ.fresh bb1 (fun k hk => (SX.out.2 k hk).1); have QN : freshQ w w1 Q w.heap.size := .inr ⟨Nat.le_refl _, LL1.lt⟩; refine (itemD b B d lim M 3 (by decide) T s (Bp.itemTab) w1 _ (HBI.out.fresh bb1) _ _ _ _ _ (TF.tree HT.out) HM.out hlim _ (itemE) TB (fun w' Q' s' hb hn ht => (kids_of HE.out alike_item (by decide) enters_item (M + 1) w' Q' s' hb _ _ _ _ _ hn (by have := HM.out; omega) _ ht).mono (fun _ _ hp => bpost_eq (by omega) hp))).mono ?_; rintro e w2 ⟨Q2, t2, ok2, er2⟩; have h0 : w2.cell? ⟨w.heap.size, 0, none⟩ = some (.string sp) := (t2.cell QN).trans k0; have h1 : w2.cell? ⟨w.heap.size, 1, none⟩ = some (.string lo) := (t2.cell QN).trans k1; have h2 : w2.cell? ⟨w.heap.size, 2, none⟩ = some (.slice a2 l2 m2) := (t2.cell QN).trans k2; have h3 : w2.cell? ⟨w.heap.size, 3, none⟩ = some (.slice a3 l3 m3) := (t2.cell QN).trans k3; have h4 : w2.cell? ⟨w.heap.size, 4, none⟩ = some (.int .i64 p) := (t2.cell QN).trans k4; obtain ⟨rfl, i2⟩ := ok2 s' HR.out))
    all_goals go_wp2_with fail
    all_goals go_ret
    all_goals exact BPost.ok ((TQ.fresh bb1 (fun k hk => (SX.out.2 k hk).1)).trans t2) i2 rfl
set_option maxHeartbeats 4000000 in
theorem listenerD {b B d lim : Nat} {T : Tr} (hE : Parts b B d lim (itemE) (Bp.itemTab) T) (hlim : lim ≤ 1000000) : PartAt b B (d + 1) lim 159 (Bp.itemG (Bp.itemTab) 4) T := by
  intro M w Q s c0 c1 c2 c3 c4 h hT hM
  obtain ⟨sp, lo, a2, l2, m2, a3, l3, m3, p, rfl, rfl, rfl, rfl, rfl, _, _, _⟩ := hT.five
  have hcn : Bp.cnt (d + 1) T = 1 + tot d (Bp.klT T) := rfl
  rw [hcn] at hM ⊢
  have HM := hideT hM
  have HT := hideT hT
  have HE := hideT hE
  have HBI := hideT h
  have SX := hideT h.six
  obtain ⟨W1, hW1, B1, L1⟩ : ∃ W1, w.alloc (.cells #[.string sp, .string lo, .slice a2 l2 m2, .slice a3 l3 m3, .int .i64 p] 45) = W1 ∧ Below w.heap.size w W1 ∧ Lies W1 w.heap.size 45 #[.string sp, .string lo, .slice a2 l2 m2, .slice a3 l3 m3, .int .i64 p] := ⟨_, rfl, (Below.refl _ w).alloc (Nat.le_refl _) _, Lies.new w _ _⟩
  have HB1 := hideT B1
  have HL1 := hideT L1
  have x0 : W1.cell? ⟨w.heap.size, 0, none⟩ = some (.string sp) := L1.cell 0
  have x1 : W1.cell? ⟨w.heap.size, 1, none⟩ = some (.string lo) := L1.cell 1
  have x2 : W1.cell? ⟨w.heap.size, 2, none⟩ = some (.slice a2 l2 m2) := L1.cell 2
  have x3 : W1.cell? ⟨w.heap.size, 3, none⟩ = some (.slice a3 l3 m3) := L1.cell 3
  have x4 : W1.cell? ⟨w.heap.size, 4, none⟩ = some (.int .i64 p) := L1.cell 4
  clear hT hE h B1 L1 hM hcn
  cases hr : Bp.itemG (Bp.itemTab) 4 s T with
  | error q =>
    have HR := hideT hr
    clear hr
    go_enter Tryz.func159, Tryz.ntmps159
    go_wp2_with fail
    go_region_held3 (fun w' => w'.cell? ⟨w.heap.size, 0, none⟩ = some (.string sp) ∧ w'.cell? ⟨w.heap.size, 1, none⟩ = some (.string lo) ∧ w'.cell? ⟨w.heap.size, 2, none⟩ = some (.slice a2 l2 m2) ∧ w'.cell? ⟨w.heap.size, 3, none⟩ = some (.slice a3 l3 m3) ∧ w'.cell? ⟨w.heap.size, 4, none⟩ = some (.int .i64 p)) (go_keep) (first
      | (go_at_call 156; refine (itemKidsD _).mono ?_; rintro e w1 ⟨v, rfl, b1, o1⟩; obtain ⟨ta, tc, rfl⟩ := slice_form o1; have bb1 : Below w.heap.size w w1 := HB1.out.drew.trans (b1.mono HB1.out.size); have LL1 := HL1.out.below ((Below.refl _ W1).drew.trans b1); have k0 : w1.cell? ⟨w.heap.size, 0, none⟩ = some (.string sp) := LL1.cell 0; have k1 : w1.cell? ⟨w.heap.size, 1, none⟩ = some (.string lo) := LL1.cell 1; have k2 : w1.cell? ⟨w.heap.size, 2, none⟩ = some (.slice a2 l2 m2) := LL1.cell 2; have k3 : w1.cell? ⟨w.heap.size, 3, none⟩ = some (.slice a3 l3 m3) := LL1.cell 3; have k4 : w1.cell? ⟨w.heap.size, 4, none⟩ = some (.int .i64 p) := LL1.cell 4)
      | (go_at_call 135; have TB : RowQ 3 tabR w1 (freshQ w w1 Q) (.slice ta (itemE).length tc) (itemE) := tab_of_own o1 (by decide) (fun g hg => .inr ⟨by have := (own_lt o1 hg).2; have := HB1.out.size; exact Nat.le_trans this (own_lt o1 hg).2, (own_lt o1 hg).1⟩); have TF := TQ.fresh bb1 (fun k hk => (SX.out.2 k hk).1); have QN : freshQ w w1 Q w.heap.size := .inr ⟨Nat.le_refl _, LL1.lt⟩; refine (itemD b B d lim M 4 (by decide) T s (Bp.itemTab) w1 _ (HBI.out.fresh bb1) _ _ _ _ _ (TF.tree HT.out) HM.out hlim _ (itemE) TB (fun w' Q' s' hb hn ht => (kids_of HE.out alike_item (by decide) enters_item (M + 1) w' Q' s' hb _ _ _ _ _ hn (by have := HM.out; omega) _ ht).mono (fun _ _ hp => bpost_eq (by omega) hp))).mono ?_; rintro e w2 ⟨Q2, t2, ok2, er2⟩; have h0 : w2.cell? ⟨w.heap.size, 0, none⟩ = some (.string sp) := (t2.cell QN).trans k0; have h1 : w2.cell? ⟨w.heap.size, 1, none⟩ = some (.string lo) := (t2.cell QN).trans k1; have h2 : w2.cell? ⟨w.heap.size, 2, none⟩ = some (.slice a2 l2 m2) := (t2.cell QN).trans k2; have h3 : w2.cell? ⟨w.heap.size, 3, none⟩ = some (.slice a3 l3 m3) := (t2.cell QN).trans k3; have h4 : w2.cell? ⟨w.heap.size, 4, none⟩ = some (.int .i64 p) := (t2.cell QN).trans k4; obtain ⟨rfl, fe⟩ := er2 q HR.out))
    all_goals go_wp2_with fail
    all_goals go_ret
    all_goals exact BPost.err ((TQ.fresh bb1 (fun k hk => (SX.out.2 k hk).1)).trans t2) fe rfl
  | ok s' =>
    have HR := hideT hr
    clear hr
    go_enter Tryz.func159, Tryz.ntmps159
    go_wp2_with fail
    go_region_held3 (fun w' => w'.cell? ⟨w.heap.size, 0, none⟩ = some (.string sp) ∧ w'.cell? ⟨w.heap.size, 1, none⟩ = some (.string lo) ∧ w'.cell? ⟨w.heap.size, 2, none⟩ = some (.slice a2 l2 m2) ∧ w'.cell? ⟨w.heap.size, 3, none⟩ = some (.slice a3 l3 m3) ∧ w'.cell? ⟨w.heap.size, 4, none⟩ = some (.int .i64 p)) (go_keep) (first
      | (go_at_call 156; refine (itemKidsD _).mono ?_; rintro e w1 ⟨v, rfl, b1, o1⟩; obtain ⟨ta, tc, rfl⟩ := slice_form o1; have bb1 : Below w.heap.size w w1 := HB1.out.drew.trans (b1.mono HB1.out.size); have LL1 := HL1.out.below ((Below.refl _ W1).drew.trans b1); have k0 : w1.cell? ⟨w.heap.size, 0, none⟩ = some (.string sp) := LL1.cell 0; have k1 : w1.cell? ⟨w.heap.size, 1, none⟩ = some (.string lo) := LL1.cell 1; have k2 : w1.cell? ⟨w.heap.size, 2, none⟩ = some (.slice a2 l2 m2) := LL1.cell 2; have k3 : w1.cell? ⟨w.heap.size, 3, none⟩ = some (.slice a3 l3 m3) := LL1.cell 3; have k4 : w1.cell? ⟨w.heap.size, 4, none⟩ = some (.int .i64 p) := LL1.cell 4)
      | (go_at_call 135; have TB : RowQ 3 tabR w1 (freshQ w w1 Q) (.slice ta (itemE).length tc) (itemE) := tab_of_own o1 (by decide) (fun g hg => .inr ⟨by have := (own_lt o1 hg).2; have := HB1.out.size; exact Nat.le_trans this (own_lt o1 hg).2, (own_lt o1 hg).1⟩); have TF := TQ.fresh bb1 (fun k hk => (SX.out.2 k hk).1); have QN : freshQ w w1 Q w.heap.size := .inr ⟨Nat.le_refl _, LL1.lt⟩; refine (itemD b B d lim M 4 (by decide) T s (Bp.itemTab) w1 _ (HBI.out.fresh bb1) _ _ _ _ _ (TF.tree HT.out) HM.out hlim _ (itemE) TB (fun w' Q' s' hb hn ht => (kids_of HE.out alike_item (by decide) enters_item (M + 1) w' Q' s' hb _ _ _ _ _ hn (by have := HM.out; omega) _ ht).mono (fun _ _ hp => bpost_eq (by omega) hp))).mono ?_; rintro e w2 ⟨Q2, t2, ok2, er2⟩; have h0 : w2.cell? ⟨w.heap.size, 0, none⟩ = some (.string sp) := (t2.cell QN).trans k0; have h1 : w2.cell? ⟨w.heap.size, 1, none⟩ = some (.string lo) := (t2.cell QN).trans k1; have h2 : w2.cell? ⟨w.heap.size, 2, none⟩ = some (.slice a2 l2 m2) := (t2.cell QN).trans k2; have h3 : w2.cell? ⟨w.heap.size, 3, none⟩ = some (.slice a3 l3 m3) := (t2.cell QN).trans k3; have h4 : w2.cell? ⟨w.heap.size, 4, none⟩ = some (.int .i64 p) := (t2.cell QN).trans k4; obtain ⟨rfl, i2⟩ := ok2 s' HR.out))
    all_goals go_wp2_with fail
    all_goals go_ret
    all_goals exact BPost.ok ((TQ.fresh bb1 (fun k hk => (SX.out.2 k hk).1)).trans t2) i2 rfl
set_option maxHeartbeats 4000000 in
theorem stageD {b B d lim : Nat} {T : Tr} {f : Bp.BS → Tr → Except Int Bp.BS} (hE : Parts b B d lim (itemE ++ moreE) (Bp.stageTab f) T) (hlim : lim ≤ 1000000) : PartAt b B (d + 1) lim 113 (Bp.itemG (Bp.stageTab f) 1) T := by
  intro M w Q s c0 c1 c2 c3 c4 h hT hM
  obtain ⟨sp, lo, a2, l2, m2, a3, l3, m3, p, rfl, rfl, rfl, rfl, rfl, _, _, _⟩ := hT.five
  have hcn : Bp.cnt (d + 1) T = 1 + tot d (Bp.klT T) := rfl
  rw [hcn] at hM ⊢
  have HM := hideT hM
  have HT := hideT hT
  have HE := hideT hE
  have HBI := hideT h
  have SX := hideT h.six
  obtain ⟨W1, hW1, B1, L1⟩ : ∃ W1, w.alloc (.cells #[.string sp, .string lo, .slice a2 l2 m2, .slice a3 l3 m3, .int .i64 p] 45) = W1 ∧ Below w.heap.size w W1 ∧ Lies W1 w.heap.size 45 #[.string sp, .string lo, .slice a2 l2 m2, .slice a3 l3 m3, .int .i64 p] := ⟨_, rfl, (Below.refl _ w).alloc (Nat.le_refl _) _, Lies.new w _ _⟩
  have HB1 := hideT B1
  have HL1 := hideT L1
  have x0 : W1.cell? ⟨w.heap.size, 0, none⟩ = some (.string sp) := L1.cell 0
  have x1 : W1.cell? ⟨w.heap.size, 1, none⟩ = some (.string lo) := L1.cell 1
  have x2 : W1.cell? ⟨w.heap.size, 2, none⟩ = some (.slice a2 l2 m2) := L1.cell 2
  have x3 : W1.cell? ⟨w.heap.size, 3, none⟩ = some (.slice a3 l3 m3) := L1.cell 3
  have x4 : W1.cell? ⟨w.heap.size, 4, none⟩ = some (.int .i64 p) := L1.cell 4
  clear hT hE h B1 L1 hM hcn
  cases hr : Bp.itemG (Bp.stageTab f) 1 s T with
  | error q =>
    have HR := hideT hr
    clear hr
    go_enter Tryz.func113, Tryz.ntmps113
    go_wp2_with fail
    go_region_held3 (fun w' => w'.cell? ⟨w.heap.size, 0, none⟩ = some (.string sp) ∧ w'.cell? ⟨w.heap.size, 1, none⟩ = some (.string lo) ∧ w'.cell? ⟨w.heap.size, 2, none⟩ = some (.slice a2 l2 m2) ∧ w'.cell? ⟨w.heap.size, 3, none⟩ = some (.slice a3 l3 m3) ∧ w'.cell? ⟨w.heap.size, 4, none⟩ = some (.int .i64 p)) (go_keep) (first
      | (go_at_call 136; refine (stageKidsD _).mono ?_; rintro e w1 ⟨v, rfl, b1, o1⟩; obtain ⟨ta, tc, rfl⟩ := slice_form o1; have bb1 : Below w.heap.size w w1 := HB1.out.drew.trans (b1.mono HB1.out.size); have LL1 := HL1.out.below ((Below.refl _ W1).drew.trans b1); have k0 : w1.cell? ⟨w.heap.size, 0, none⟩ = some (.string sp) := LL1.cell 0; have k1 : w1.cell? ⟨w.heap.size, 1, none⟩ = some (.string lo) := LL1.cell 1; have k2 : w1.cell? ⟨w.heap.size, 2, none⟩ = some (.slice a2 l2 m2) := LL1.cell 2; have k3 : w1.cell? ⟨w.heap.size, 3, none⟩ = some (.slice a3 l3 m3) := LL1.cell 3; have k4 : w1.cell? ⟨w.heap.size, 4, none⟩ = some (.int .i64 p) := LL1.cell 4)
      | (go_at_call 135; have TB : RowQ 3 tabR w1 (freshQ w w1 Q) (.slice ta (itemE ++ moreE).length tc) (itemE ++ moreE) := tab_of_own o1 (by decide) (fun g hg => .inr ⟨by have := (own_lt o1 hg).2; have := HB1.out.size; exact Nat.le_trans this (own_lt o1 hg).2, (own_lt o1 hg).1⟩); have TF := TQ.fresh bb1 (fun k hk => (SX.out.2 k hk).1); have QN : freshQ w w1 Q w.heap.size := .inr ⟨Nat.le_refl _, LL1.lt⟩; refine (itemD b B d lim M 1 (by decide) T s (Bp.stageTab f) w1 _ (HBI.out.fresh bb1) _ _ _ _ _ (TF.tree HT.out) HM.out hlim _ (itemE ++ moreE) TB (fun w' Q' s' hb hn ht => (kids_of HE.out (alike_stage f) (by decide) enters_stage (M + 1) w' Q' s' hb _ _ _ _ _ hn (by have := HM.out; omega) _ ht).mono (fun _ _ hp => bpost_eq (by omega) hp))).mono ?_; rintro e w2 ⟨Q2, t2, ok2, er2⟩; have h0 : w2.cell? ⟨w.heap.size, 0, none⟩ = some (.string sp) := (t2.cell QN).trans k0; have h1 : w2.cell? ⟨w.heap.size, 1, none⟩ = some (.string lo) := (t2.cell QN).trans k1; have h2 : w2.cell? ⟨w.heap.size, 2, none⟩ = some (.slice a2 l2 m2) := (t2.cell QN).trans k2; have h3 : w2.cell? ⟨w.heap.size, 3, none⟩ = some (.slice a3 l3 m3) := (t2.cell QN).trans k3; have h4 : w2.cell? ⟨w.heap.size, 4, none⟩ = some (.int .i64 p) := (t2.cell QN).trans k4; obtain ⟨rfl, fe⟩ := er2 q HR.out))
    all_goals go_wp2_with fail
    all_goals go_ret
    all_goals exact BPost.err ((TQ.fresh bb1 (fun k hk => (SX.out.2 k hk).1)).trans t2) fe rfl
  | ok s' =>
    have HR := hideT hr
    clear hr
    go_enter Tryz.func113, Tryz.ntmps113
    go_wp2_with fail
    go_region_held3 (fun w' => w'.cell? ⟨w.heap.size, 0, none⟩ = some (.string sp) ∧ w'.cell? ⟨w.heap.size, 1, none⟩ = some (.string lo) ∧ w'.cell? ⟨w.heap.size, 2, none⟩ = some (.slice a2 l2 m2) ∧ w'.cell? ⟨w.heap.size, 3, none⟩ = some (.slice a3 l3 m3) ∧ w'.cell? ⟨w.heap.size, 4, none⟩ = some (.int .i64 p)) (go_keep) (first
      | (go_at_call 136; refine (stageKidsD _).mono ?_; rintro e w1 ⟨v, rfl, b1, o1⟩; obtain ⟨ta, tc, rfl⟩ := slice_form o1; have bb1 : Below w.heap.size w w1 := HB1.out.drew.trans (b1.mono HB1.out.size); have LL1 := HL1.out.below ((Below.refl _ W1).drew.trans b1); have k0 : w1.cell? ⟨w.heap.size, 0, none⟩ = some (.string sp) := LL1.cell 0; have k1 : w1.cell? ⟨w.heap.size, 1, none⟩ = some (.string lo) := LL1.cell 1; have k2 : w1.cell? ⟨w.heap.size, 2, none⟩ = some (.slice a2 l2 m2) := LL1.cell 2; have k3 : w1.cell? ⟨w.heap.size, 3, none⟩ = some (.slice a3 l3 m3) := LL1.cell 3; have k4 : w1.cell? ⟨w.heap.size, 4, none⟩ = some (.int .i64 p) := LL1.cell 4)
      | (go_at_call 135; have TB : RowQ 3 tabR w1 (freshQ w w1 Q) (.slice ta (itemE ++ moreE).length tc) (itemE ++ moreE) := tab_of_own o1 (by decide) (fun g hg => .inr ⟨by have := (own_lt o1 hg).2; have := HB1.out.size; exact Nat.le_trans this (own_lt o1 hg).2, (own_lt o1 hg).1⟩); have TF := TQ.fresh bb1 (fun k hk => (SX.out.2 k hk).1); have QN : freshQ w w1 Q w.heap.size := .inr ⟨Nat.le_refl _, LL1.lt⟩; refine (itemD b B d lim M 1 (by decide) T s (Bp.stageTab f) w1 _ (HBI.out.fresh bb1) _ _ _ _ _ (TF.tree HT.out) HM.out hlim _ (itemE ++ moreE) TB (fun w' Q' s' hb hn ht => (kids_of HE.out (alike_stage f) (by decide) enters_stage (M + 1) w' Q' s' hb _ _ _ _ _ hn (by have := HM.out; omega) _ ht).mono (fun _ _ hp => bpost_eq (by omega) hp))).mono ?_; rintro e w2 ⟨Q2, t2, ok2, er2⟩; have h0 : w2.cell? ⟨w.heap.size, 0, none⟩ = some (.string sp) := (t2.cell QN).trans k0; have h1 : w2.cell? ⟨w.heap.size, 1, none⟩ = some (.string lo) := (t2.cell QN).trans k1; have h2 : w2.cell? ⟨w.heap.size, 2, none⟩ = some (.slice a2 l2 m2) := (t2.cell QN).trans k2; have h3 : w2.cell? ⟨w.heap.size, 3, none⟩ = some (.slice a3 l3 m3) := (t2.cell QN).trans k3; have h4 : w2.cell? ⟨w.heap.size, 4, none⟩ = some (.int .i64 p) := (t2.cell QN).trans k4; obtain ⟨rfl, i2⟩ := ok2 s' HR.out))
    all_goals go_wp2_with fail
    all_goals go_ret
    all_goals exact BPost.ok ((TQ.fresh bb1 (fun k hk => (SX.out.2 k hk).1)).trans t2) i2 rfl
end Go.Proofs.YtjfonpbnohbpfaaGreatDoor
