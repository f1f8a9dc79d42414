/-
  The program's Resolve, for every element that is not too large.
-/
import Derived.Test.YthbkipmimkepkabSResolve
set_option linter.unusedSimpArgs false
set_option linter.unusedVariables false
namespace Go.Proofs.Ythbkipmimkepkab
open Go.RowKit
theorem resolveD : ∀ d, ResIn d
  | 0 => fun _ _ _ _ _ _ _ _ _ _ _ _ _ _ _ _ _ _ h _ _ => h.elim
  | d + 1 => resolve_step d (resolveD d)
/-- Resolve: what comes back. -/
def ResolvePost (w : World) (d : Nat) (T : Tr) (e : Ending) (w' : World) : Prop :=
  Below w.heap.size w w' ∧
  (∀ q, resP d G0 T = .error q → e = .returned (.tuple #[nZ, .int .i64 q, .int .i64 5])) ∧
  (∀ N, resP d G0 T = .ok N → ∃ c0 c1 c2 c3 c4, e = .returned (.tuple #[.agg #[c0, c1, c2, c3, c4], .int .i64 0, .int .i64 0]) ∧ NInR w' (· < w'.heap.size) d c0 c1 c2 c3 c4 N)
set_option maxHeartbeats 2000000 in
theorem ResolveD (w : World) (d : Nat) (c0 c1 c2 c3 : Value) (T : Tr) (hok : OkS w) (hE : EIn w d c0 c1 c2 c3 T) (hF : fineT d T) (hZ : 2 * attN d T ≤ 99999999) :
    Calls Try.prog 5 #[.agg #[c0, c1, c2, c3]] w (ResolvePost w d T) := by
  obtain ⟨nm, a, an, ac, k, kn, kc, p, rfl, rfl, rfl, rfl⟩ := hE.form
  obtain ⟨W, hW, BW, LE, LR⟩ : ∃ W, (w.alloc (.cells #[.string nm, .slice a an ac, .slice k kn kc, .int .i64 p] 28)).alloc (.cells #[.string ⟨#[]⟩, .string ⟨#[]⟩, .slice none 0 0, .slice none 0 0, .int .i64 0] 32) = W ∧ Below w.heap.size w W ∧ Lies W w.heap.size 28 #[.string nm, .slice a an ac, .slice k kn kc, .int .i64 p] ∧ Lies W (w.heap.size + 1) 32 #[.string ⟨#[]⟩, .string ⟨#[]⟩, .slice none 0 0, .slice none 0 0, .int .i64 0] := by
    refine ⟨_, rfl, ((Below.refl _ w).alloc (Nat.le_refl _) _).alloc (by simp) _, (Lies.new w _ _).below ((Below.refl _ _).alloc (Nat.le_refl _) _), ?_⟩
    have := Lies.new (w.alloc (.cells #[.string nm, .slice a an ac, .slice k kn kc, .int .i64 p] 28)) 32 #[.string ⟨#[]⟩, .string ⟨#[]⟩, .slice none 0 0, .slice none 0 0, .int .i64 0]
    rw [World.size_alloc] at this
    exact this
  have x0 : W.cell? ⟨w.heap.size, 0, none⟩ = some (.string nm) := LE.cell 0
  have x1 : W.cell? ⟨w.heap.size, 1, none⟩ = some (.slice a an ac) := LE.cell 1
  have x2 : W.cell? ⟨w.heap.size, 2, none⟩ = some (.slice k kn kc) := LE.cell 2
  have x3 : W.cell? ⟨w.heap.size, 3, none⟩ = some (.int .i64 p) := LE.cell 3
  have r0 : W.cell? ⟨w.heap.size + 1, 0, none⟩ = some (.string ⟨#[]⟩) := LR.cell 0
  have HE := hideT hE
  have HF := hideT hF
  have HOK := hideT hok
  have BW := hideT BW
  have LEh := hideT LE
  have LRh := hideT LR
  have hokW : OkS W := hok.below BW.out hok.lt
  have HOW := hideT hokW
  have HEW := hideT (hE.below BW.out)
  clear hE hF hok LE LR hokW r0
  cases hr : resP d G0 T with
  | error q =>
    have HR := hideT hr
    clear hr
    go_enter Try.func5, Try.ntmps5
    go_wp2_with fail
    go_region_held3 (fun w' => w'.cell? ⟨w.heap.size, 0, none⟩ = some (.string nm) ∧ w'.cell? ⟨w.heap.size, 1, none⟩ = some (.slice a an ac) ∧ w'.cell? ⟨w.heap.size, 2, none⟩ = some (.slice k kn kc) ∧ w'.cell? ⟨w.heap.size, 3, none⟩ = some (.int .i64 p)) (go_keep) (first | (go_at_call 10; refine (outsideD _).mono ?_; rintro e w1 ⟨sb, rfl, b1, mb, s1⟩; have bb1 : Below W.heap.size W w1 := (Below.refl _ W).drew.trans b1; have w10 : w1.cell? ⟨w.heap.size, 0, none⟩ = some (.string nm) := (LEh.out.below bb1).cell 0; have w11 : w1.cell? ⟨w.heap.size, 1, none⟩ = some (.slice a an ac) := (LEh.out.below bb1).cell 1; have w12 : w1.cell? ⟨w.heap.size, 2, none⟩ = some (.slice k kn kc) := (LEh.out.below bb1).cell 2; have w13 : w1.cell? ⟨w.heap.size, 3, none⟩ = some (.int .i64 p) := (LEh.out.below bb1).cell 3) | (go_at_call 11; refine (resolveD d W _ W.heap.size sb mb 1 nilS [] G0 _ _ _ _ T rfl HOW.out bb1 s1 HEW.out HF.out (by simp; omega)).mono ?_; rintro e w2 ⟨k2, ee, eo⟩; have bb2 : Below W.heap.size W w2 := s1.base bb1 k2; have w20 : w2.cell? ⟨w.heap.size, 0, none⟩ = some (.string nm) := (LEh.out.below bb2).cell 0; have w21 : w2.cell? ⟨w.heap.size, 1, none⟩ = some (.slice a an ac) := (LEh.out.below bb2).cell 1; have w22 : w2.cell? ⟨w.heap.size, 2, none⟩ = some (.slice k kn kc) := (LEh.out.below bb2).cell 2; have w23 : w2.cell? ⟨w.heap.size, 3, none⟩ = some (.int .i64 p) := (LEh.out.below bb2).cell 3; have w2r0 : w2.cell? ⟨w.heap.size + 1, 0, none⟩ = some (.string ⟨#[]⟩) := (LRh.out.below bb2).cell 0; have w2q0 : w2.frozen? ⟨w.heap.size + 1, 0, none⟩ = false := (LRh.out.below bb2).free 0; have w2r1 : w2.cell? ⟨w.heap.size + 1, 1, none⟩ = some (.string ⟨#[]⟩) := (LRh.out.below bb2).cell 1; have w2q1 : w2.frozen? ⟨w.heap.size + 1, 1, none⟩ = false := (LRh.out.below bb2).free 1; have w2r2 : w2.cell? ⟨w.heap.size + 1, 2, none⟩ = some (.slice none 0 0) := (LRh.out.below bb2).cell 2; have w2q2 : w2.frozen? ⟨w.heap.size + 1, 2, none⟩ = false := (LRh.out.below bb2).free 2; have w2r3 : w2.cell? ⟨w.heap.size + 1, 3, none⟩ = some (.slice none 0 0) := (LRh.out.below bb2).cell 3; have w2q3 : w2.frozen? ⟨w.heap.size + 1, 3, none⟩ = false := (LRh.out.below bb2).free 3; have w2r4 : w2.cell? ⟨w.heap.size + 1, 4, none⟩ = some (.int .i64 0) := (LRh.out.below bb2).cell 4; have w2q4 : w2.frozen? ⟨w.heap.size + 1, 4, none⟩ = false := (LRh.out.below bb2).free 4; obtain rfl := ee q HR.out))
    all_goals obtain ⟨X, hX, kX, lX, eX⟩ := put5_named (S := fun _ => False) (.string ⟨#[]⟩) (.string ⟨#[]⟩) (.slice none 0 0) (.slice none 0 0) (.int .i64 0) (Keep.of_below (BW.out.trans (bb2.mono BW.out.size))) (by omega) (LRh.out.below bb2)
    all_goals go_wp2_with fail
    all_goals try rw [hX]
    all_goals have r0 := lX.cell 0
    all_goals have r1 := lX.cell 1
    all_goals have r2 := lX.cell 2
    all_goals have r3 := lX.cell 3
    all_goals have r4 := lX.cell 4
    all_goals simp only [List.getElem?_toArray, List.getElem?_cons_zero, List.getElem?_cons_succ] at r0 r1 r2 r3 r4
    all_goals refine bodyPost_ret (v := .tuple #[nZ, .int .i64 q, .int .i64 5]) (by simp [results, Try.results5, go_sem, r0, r1, r2, r3, r4]) rfl ⟨Keep.below (Below.refl _ w) kX (fun _ _ e => e), fun q' hq => ?_, fun N' hq => ?_⟩
    all_goals (rw [HR.out] at hq; cases hq)
    all_goals rfl
  | ok N =>
    have HR := hideT hr
    clear hr
    go_enter Try.func5, Try.ntmps5
    go_wp2_with fail
    go_region_held3 (fun w' => w'.cell? ⟨w.heap.size, 0, none⟩ = some (.string nm) ∧ w'.cell? ⟨w.heap.size, 1, none⟩ = some (.slice a an ac) ∧ w'.cell? ⟨w.heap.size, 2, none⟩ = some (.slice k kn kc) ∧ w'.cell? ⟨w.heap.size, 3, none⟩ = some (.int .i64 p)) (go_keep) (first | (go_at_call 10; refine (outsideD _).mono ?_; rintro e w1 ⟨sb, rfl, b1, mb, s1⟩; have bb1 : Below W.heap.size W w1 := (Below.refl _ W).drew.trans b1; have w10 : w1.cell? ⟨w.heap.size, 0, none⟩ = some (.string nm) := (LEh.out.below bb1).cell 0; have w11 : w1.cell? ⟨w.heap.size, 1, none⟩ = some (.slice a an ac) := (LEh.out.below bb1).cell 1; have w12 : w1.cell? ⟨w.heap.size, 2, none⟩ = some (.slice k kn kc) := (LEh.out.below bb1).cell 2; have w13 : w1.cell? ⟨w.heap.size, 3, none⟩ = some (.int .i64 p) := (LEh.out.below bb1).cell 3) | (go_at_call 11; refine (resolveD d W _ W.heap.size sb mb 1 nilS [] G0 _ _ _ _ T rfl HOW.out bb1 s1 HEW.out HF.out (by simp; omega)).mono ?_; rintro e w2 ⟨k2, ee, eo⟩; have bb2 : Below W.heap.size W w2 := s1.base bb1 k2; have w20 : w2.cell? ⟨w.heap.size, 0, none⟩ = some (.string nm) := (LEh.out.below bb2).cell 0; have w21 : w2.cell? ⟨w.heap.size, 1, none⟩ = some (.slice a an ac) := (LEh.out.below bb2).cell 1; have w22 : w2.cell? ⟨w.heap.size, 2, none⟩ = some (.slice k kn kc) := (LEh.out.below bb2).cell 2; have w23 : w2.cell? ⟨w.heap.size, 3, none⟩ = some (.int .i64 p) := (LEh.out.below bb2).cell 3; have w2r0 : w2.cell? ⟨w.heap.size + 1, 0, none⟩ = some (.string ⟨#[]⟩) := (LRh.out.below bb2).cell 0; have w2q0 : w2.frozen? ⟨w.heap.size + 1, 0, none⟩ = false := (LRh.out.below bb2).free 0; have w2r1 : w2.cell? ⟨w.heap.size + 1, 1, none⟩ = some (.string ⟨#[]⟩) := (LRh.out.below bb2).cell 1; have w2q1 : w2.frozen? ⟨w.heap.size + 1, 1, none⟩ = false := (LRh.out.below bb2).free 1; have w2r2 : w2.cell? ⟨w.heap.size + 1, 2, none⟩ = some (.slice none 0 0) := (LRh.out.below bb2).cell 2; have w2q2 : w2.frozen? ⟨w.heap.size + 1, 2, none⟩ = false := (LRh.out.below bb2).free 2; have w2r3 : w2.cell? ⟨w.heap.size + 1, 3, none⟩ = some (.slice none 0 0) := (LRh.out.below bb2).cell 3; have w2q3 : w2.frozen? ⟨w.heap.size + 1, 3, none⟩ = false := (LRh.out.below bb2).free 3; have w2r4 : w2.cell? ⟨w.heap.size + 1, 4, none⟩ = some (.int .i64 0) := (LRh.out.below bb2).cell 4; have w2q4 : w2.frozen? ⟨w.heap.size + 1, 4, none⟩ = false := (LRh.out.below bb2).free 4; obtain ⟨c0, c1', c2', c3', c4', hv3, n3, rfl, s3, _, _, t3⟩ := eo N HR.out; obtain ⟨sp3, lo3, ad3, an3, ac3, kd3, kn3, kc3, p3, rfl, rfl, rfl, rfl, rfl⟩ := t3.form))
    all_goals obtain ⟨X, hX, kX, lX, eX⟩ := put5_named (S := fun _ => False) (.string sp3) (.string lo3) (.slice ad3 an3 ac3) (.slice kd3 kn3 kc3) (.int .i64 p3) (Keep.of_below (BW.out.trans (bb2.mono BW.out.size))) (by omega) (LRh.out.below bb2)
    all_goals go_wp2_with fail
    all_goals try rw [hX]
    all_goals have r0 := lX.cell 0
    all_goals have r1 := lX.cell 1
    all_goals have r2 := lX.cell 2
    all_goals have r3 := lX.cell 3
    all_goals have r4 := lX.cell 4
    all_goals simp only [List.getElem?_toArray, List.getElem?_cons_zero, List.getElem?_cons_succ] at r0 r1 r2 r3 r4
    all_goals refine bodyPost_ret (v := .tuple #[.agg #[.string sp3, .string lo3, .slice ad3 an3 ac3, .slice kd3 kn3 kc3, .int .i64 p3], .int .i64 0, .int .i64 0]) (by simp [results, Try.results5, go_sem, r0, r1, r2, r3, r4]) rfl ⟨Keep.below (Below.refl _ w) kX (fun _ _ e => e), fun q' hq => ?_, fun N' hq => ?_⟩
    all_goals (rw [HR.out] at hq; cases hq)
    all_goals refine ⟨_, _, _, _, _, rfl, t3.turn (fun k' hk' => eX k' (by have := hk'.1; have := bb1.size; have := LRh.out.lt; omega)) (fun k' hk' => Nat.lt_of_lt_of_le hk'.2.1 ?_)⟩
    all_goals (rw [← hX]; simp [World.setCell])
end Go.Proofs.Ythbkipmimkepkab
