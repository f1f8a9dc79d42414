/-
  The law's own question: a kid has its space.
-/
import Derived.Test.YthbkipmimkepkabSBuild
set_option linter.unusedSimpArgs false
set_option linter.unusedVariables false
namespace Go.Proofs.Ythbkipmimkepkab
open Go.RowKit
theorem res_known : resP 2 G0 (Xp.mkT ⟨#[97]⟩ [(xmlnsB, ⟨#[117]⟩)] [Xp.mkT ⟨#[98]⟩ [] [] 0] 0) = .ok (mkN ⟨#[117]⟩ ⟨#[97]⟩ [] [mkN ⟨#[117]⟩ ⟨#[98]⟩ [] [] 0] 0) := by kernel_rfl
set_option maxHeartbeats 2000000 in
theorem knownS (w : World) (hok : OkS w) : Calls Try.prog 7 #[] w fun e w' => e = .returned (.bool true) ∧ Below w.heap.size w w' := by
  obtain ⟨W1, hW1, B1, L1⟩ : ∃ W1, w.alloc (.cells #[.string xmlnsB, .string ⟨#[117]⟩] 24) = W1 ∧ Below w.heap.size w W1 ∧ Lies W1 w.heap.size 24 #[.string xmlnsB, .string ⟨#[117]⟩] := ⟨_, rfl, (Below.refl _ w).alloc (Nat.le_refl _) _, Lies.new w _ _⟩
  obtain ⟨W2, hW2, B2, L2⟩ : ∃ W2, W1.alloc (.cells #[.string ⟨#[98]⟩, .slice none 0 0, .slice none 0 0, .int .i64 0] 28) = W2 ∧ Below W1.heap.size W1 W2 ∧ Lies W2 W1.heap.size 28 #[.string ⟨#[98]⟩, .slice none 0 0, .slice none 0 0, .int .i64 0] := ⟨_, rfl, (Below.refl _ W1).alloc (Nat.le_refl _) _, Lies.new W1 _ _⟩
  have B12 := hideT (B1.trans (B2.mono B1.size))
  have hE : Hid (EIn W2 2 (.string ⟨#[97]⟩) (.slice (some ⟨w.heap.size, 0, none⟩) 1 1) (.slice (some ⟨W1.heap.size, 0, none⟩) 1 1) (.int .i64 0) (Xp.mkT ⟨#[97]⟩ [(xmlnsB, ⟨#[117]⟩)] [Xp.mkT ⟨#[98]⟩ [] [] 0] 0)) := by
    refine EIn.node 1 _ _ _ _ (by decide) (ARow.lies (L1.below B2) _ rfl (by decide) (by simp; decide) _ _ rfl) L2 [(.string ⟨#[98]⟩, nilS, nilS, .int .i64 0)] _ rfl rfl (by decide) (fun i q K e1 e2 => ?_) _ _ rfl
    match i with
    | 0 =>
      cases e1
      cases e2
      exact EIn.leaf 0 _ _ _ _ (by decide) (ARow.nil _)
    | i + 1 => cases e1
  have hF : Hid (fineT 2 (Xp.mkT ⟨#[97]⟩ [(xmlnsB, ⟨#[117]⟩)] [Xp.mkT ⟨#[98]⟩ [] [] 0] 0)) := fine_node (by decide) (by simp; decide) (fun K hK => by rw [List.mem_singleton.1 hK]; exact fine_node (by decide) (by simp) (by simp))
  have HK := hideT (hok.below B12.out hok.lt)
  clear L1 L2 B1 B2 hok
  go_enter Try.func7, Try.ntmps7
  go_wp2_with fail
  refine (ResolveD W2 2 _ _ _ _ _ HK.out hE.out hF.out (by decide)).mono ?_
  rintro e w1 ⟨b1, _, eo⟩
  obtain ⟨c0, c1, c2, c3, c4, rfl, t1⟩ := eo _ res_known
  obtain ⟨rfl, rfl, rfl, _, ⟨a, ac, rfl⟩, b, o, ka, kc, rfl, hka, hk⟩ := t1.inv
  obtain rfl := hka (by decide)
  obtain ⟨d0, d1, d2, d3, d4, ⟨f0, f1, f2, f3, f4⟩, t2⟩ := hk 0 _ rfl
  obtain ⟨rfl, rfl, rfl, _, ⟨a2, ac2, rfl⟩, b2, o2, ka2, kc2, rfl, _, _⟩ := t2.inv
  obtain ⟨Y, hY, BY, LY⟩ : ∃ Y, w1.alloc (.cells #[.string ⟨#[117]⟩, .string ⟨#[97]⟩, .slice a 0 ac, .slice (some ⟨b, o, none⟩) 1 kc, .int .i64 0] 32) = Y ∧ Below w1.heap.size w1 Y ∧ Lies Y w1.heap.size 32 #[.string ⟨#[117]⟩, .string ⟨#[97]⟩, .slice a 0 ac, .slice (some ⟨b, o, none⟩) 1 kc, .int .i64 0] := ⟨_, rfl, (Below.refl _ w1).alloc (Nat.le_refl _) _, Lies.new w1 _ _⟩
  have x0 : Y.cell? ⟨w1.heap.size, 0, none⟩ = some (.string ⟨#[117]⟩) := LY.cell 0
  have x2 : Y.cell? ⟨w1.heap.size, 2, none⟩ = some (.slice a 0 ac) := LY.cell 2
  have x3 : Y.cell? ⟨w1.heap.size, 3, none⟩ = some (.slice (some ⟨b, o, none⟩) 1 kc) := LY.cell 3
  rw [Nat.mul_zero, Nat.add_zero] at f0 f1
  have y0 : Y.cell? ⟨b, o, none⟩ = some (.string ⟨#[117]⟩) := by rw [BY.cell (cell_lt f0)]; exact f0
  have y1 : Y.cell? ⟨b, o + 1, none⟩ = some (.string ⟨#[98]⟩) := by rw [BY.cell (cell_lt f1)]; exact f1
  have BB : Hid (Below w.heap.size w Y) := B12.out.trans ((b1.trans (BY.mono b1.size)).mono B12.out.size)
  clear hk t1 t2 eo LY BY
  subst hY
  go_wp2_with fail
  go_ret
  exact ⟨rfl, BB.out⟩
end Go.Proofs.Ythbkipmimkepkab
