/-
  SpaceWithin: a space holds in an element and all within, till another one is named, and not behind it.
-/
import Derived.Test.YthbkipmimkepkaaSKnown
set_option linter.unusedSimpArgs false
set_option linter.unusedVariables false
namespace Go.Proofs.Ythbkipmimkepkaa
open Go.RowKit
theorem sp_a : splitB ⟨#[97]⟩ = (e0, ⟨#[97]⟩) := by kernel_rfl
theorem sp_b : splitB ⟨#[98]⟩ = (e0, ⟨#[98]⟩) := by kernel_rfl
theorem sp_c : splitB ⟨#[99]⟩ = (e0, ⟨#[99]⟩) := by kernel_rfl
theorem sp_d : splitB ⟨#[100]⟩ = (e0, ⟨#[100]⟩) := by kernel_rfl
def wiT (u v : ByteArray) : Tr := Xp.mkT ⟨#[97]⟩ [(xmlnsB, u)] [Xp.mkT ⟨#[98]⟩ [(xmlnsB, v)] [Xp.mkT ⟨#[99]⟩ [] [] 0] 0, Xp.mkT ⟨#[100]⟩ [] [] 0] 0
def wiN (u v : ByteArray) : Tr := mkN u ⟨#[97]⟩ [] [mkN v ⟨#[98]⟩ [] [mkN v ⟨#[99]⟩ [] [] 0] 0, mkN u ⟨#[100]⟩ [] [] 0] 0
theorem res_within (u v : ByteArray) : resP 3 G0 (wiT u v) = .ok (wiN u v) := by
  unfold wiT wiN
  simp only [resP_mk, resT, enterP, stepP, kidsP, sp_a, sp_b, sp_c, sp_d, upd_same, if_true, List.nil_append]
set_option maxHeartbeats 2000000 in
theorem spaceWithin_walk (u : ByteArray) (hu : u.size ≤ maxLen) (v : ByteArray) (hv : v.size ≤ maxLen) (w : World) (hok : OkS w) :
    Calls Try.prog 7 #[.string u, .string v] w fun e w' => e = .returned (.bool true) ∧ Below w.heap.size w w' := by
  by_cases h1 : (u.size : Int) > 50
  · go_enter Try.func7, Try.ntmps7
    go_wp2_with fail
    go_ret
    exact ⟨rfl, Below.refl _ _⟩
  by_cases h2 : (v.size : Int) > 50
  · go_enter Try.func7, Try.ntmps7
    go_wp2_with fail
    go_ret
    exact ⟨rfl, Below.refl _ _⟩
  go_enter Try.func7, Try.ntmps7
  go_wp2_with fail
  generalize hW1 : w.alloc _ = W1
  obtain ⟨B1, L1, z1⟩ := of_alloc hW1
  generalize hW2 : W1.alloc _ = W2
  obtain ⟨B2, L2, z2⟩ := of_alloc hW2
  generalize hW3 : W2.alloc _ = W3
  obtain ⟨B3, L3, z3⟩ := of_alloc hW3
  generalize hW4 : W3.alloc _ = W4
  obtain ⟨B4, L4, z4⟩ := of_alloc hW4
  generalize hW5 : W4.alloc _ = W5
  obtain ⟨B5, L5, z5⟩ := of_alloc hW5
  rw [z1] at L2 z2
  rw [z2] at L3 z3
  rw [z3] at L4 z4
  rw [z4] at L5 z5
  have BB : Below w.heap.size w W5 := B1.trans ((B2.trans ((B3.trans ((B4.trans (B5.mono B4.size)).mono B3.size)).mono B2.size)).mono B1.size)
  have hE : EIn W5 3 (.string ⟨#[97]⟩) (.slice (some ⟨w.heap.size + 1 + 1 + 1, 0, none⟩) 1 1) (.slice (some ⟨w.heap.size + 1 + 1 + 1 + 1, 0, none⟩) 2 2) (.int .i64 0) (wiT u v) := by
    refine EIn.node 2 _ _ _ _ (by decide) (ARow.lies (L4.below B5) _ rfl (by simp) (att_one (by decide) (by omega)) _ _ rfl) L5 [(.string ⟨#[98]⟩, .slice (some ⟨w.heap.size, 0, none⟩) 1 1, .slice (some ⟨w.heap.size + 1, 0, none⟩) 1 1, .int .i64 0), (.string ⟨#[100]⟩, nilS, nilS, .int .i64 0)] _ rfl rfl (by simp) (fun i q K e1 e2 => ?_) _ _ rfl
    match i with
    | 0 =>
      cases e1
      cases e2
      refine EIn.node 1 _ _ _ _ (by decide) (ARow.lies (L1.below (B2.trans ((B3.trans ((B4.trans (B5.mono B4.size)).mono B3.size)).mono B2.size))) _ rfl (by simp) (att_one (by decide) (by omega)) _ _ rfl) (L2.below (B3.trans ((B4.trans (B5.mono B4.size)).mono B3.size))) [(.string ⟨#[99]⟩, nilS, nilS, .int .i64 0)] _ rfl rfl (by simp) (fun i q K e1 e2 => ?_) _ _ rfl
      match i with
      | 0 =>
        cases e1
        cases e2
        exact EIn.leaf 0 _ _ _ _ (by decide) (ARow.nil _)
      | i + 1 => cases e1
    | 1 =>
      cases e1
      cases e2
      exact EIn.leaf 1 _ _ _ _ (by decide) (ARow.nil _)
    | i + 2 => cases e1
  have hF : fineT 3 (wiT u v) := by
    refine fine_node (by decide) (att_one (by decide) (by omega)) (fun K hK => ?_)
    simp only [List.mem_cons, List.mem_nil_iff, or_false] at hK
    rcases hK with rfl | rfl
    · refine fine_node (by decide) (att_one (by decide) (by omega)) (fun K hK => ?_)
      rw [List.mem_singleton.1 hK]
      exact fine_node (by decide) (by simp) (by simp)
    · exact fine_node (by decide) (by simp) (by simp)
  refine (ResolveD W5 3 _ _ _ _ (wiT u v) (hok.below BB hok.lt) hE hF (by simp [wiT, attN_mk])).mono ?_
  rintro e w1 ⟨b1, _, eo⟩
  obtain ⟨c0, c1, c2, c3, c4, rfl, t1⟩ := eo _ (res_within u v)
  obtain ⟨rfl, rfl, rfl, _, ⟨a, ac, rfl⟩, b, o, ka, kc, rfl, hka, hk⟩ := t1.inv
  obtain rfl := hka (by simp)
  obtain ⟨d0, d1, d2, d3, d4, ⟨f0, f1, f2, f3, f4⟩, t2⟩ := hk 0 _ rfl
  obtain ⟨rfl, rfl, rfl, _, ⟨a2, ac2, rfl⟩, b2, o2, ka2, kc2, rfl, hka2, hk2⟩ := t2.inv
  obtain rfl := hka2 (by simp)
  obtain ⟨x0, x1, x2, x3, x4, ⟨g0, g1, g2, g3, g4⟩, t3⟩ := hk2 0 _ rfl
  obtain ⟨rfl, rfl, rfl, _, ⟨a3, ac3, rfl⟩, b3, o3, ka3, kc3, rfl, _, _⟩ := t3.inv
  obtain ⟨y0, y1, y2, y3, y4, ⟨h0, _, _, _, _⟩, t4⟩ := hk 1 _ rfl
  obtain ⟨rfl, rfl, rfl, _, ⟨a4, ac4, rfl⟩, b4, o4, ka4, kc4, rfl, _, _⟩ := t4.inv
  have BY := (Below.refl w1.heap.size w1).alloc (Nat.le_refl _) (.cells #[.string u, .string ⟨#[97]⟩, .slice a 0 ac, .slice (some ⟨b, o, none⟩) 2 kc, .int .i64 0] 25)
  have LY := Lies.new w1 25 #[.string u, .string ⟨#[97]⟩, .slice a 0 ac, .slice (some ⟨b, o, none⟩) 2 kc, .int .i64 0]
  have p0 := LY.cell 0
  have p3 := LY.cell 3
  simp only [List.getElem?_toArray, List.getElem?_cons_zero, List.getElem?_cons_succ] at p0 p3
  rw [Nat.mul_zero, Nat.add_zero] at f0 f3 g0
  rw [Nat.mul_one] at h0
  have f0 := cell_below BY rfl f0
  have f3 := cell_below BY rfl f3
  have g0 := cell_below BY rfl g0
  have h0 := cell_below BY rfl h0
  have BF := hideT (BB.trans ((b1.trans (BY.mono b1.size)).mono BB.size))
  have HOK := hideT (hok.below BF.out hok.lt)
  simp only [List.length_cons, List.length_nil, Nat.zero_add, Nat.reduceAdd] at f3
  clear hW1 hW2 hW3 hW4 hW5 B1 B2 B3 B4 B5 L1 L2 L3 L4 L5 hE hF eo hk hk2 t1 t2 t3 t4 BY LY g1 g2 g3 g4 f1 f2 f4 BB b1 hok z1 z2 z3 z4 z5
  go_wp2_with fail
  refine (knownS _ HOK.out).mono ?_
  rintro e w9 ⟨rfl, b9⟩
  go_wp2_with fail
  go_ret
  exact ⟨rfl, BF.out.trans (b9.mono BF.out.size)⟩
end Go.Proofs.Ythbkipmimkepkaa
