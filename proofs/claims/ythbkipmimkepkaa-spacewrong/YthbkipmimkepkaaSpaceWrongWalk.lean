/-
  SpaceWrong: names that have no space, and attributes that may not be, are told by their element.
-/
import Derived.Test.YthbkipmimkepkaaSKnown
set_option linter.unusedSimpArgs false
set_option linter.unusedVariables false
namespace Go.Proofs.Ythbkipmimkepkaa
open Go.RowKit
theorem below_al {w W : World} (h : Below w.heap.size w W) (o : Obj) : Below w.heap.size w (W.alloc o) := h.alloc h.size o
def wrT0 (q : Int) : Tr := Xp.mkT ⟨#[98]⟩ [] [Xp.mkT ⟨#[99]⟩ [] [] (-2), Xp.mkT ⟨#[112, 58, 97]⟩ [] [] q, Xp.mkT ⟨#[113, 58, 100]⟩ [] [] (-3)] (-1)
theorem res_wr0 (q : Int) : resP 2 G0 (wrT0 q) = .error q := by kernel_rfl
def wrT1 (q : Int) : Tr := Xp.mkT ⟨#[98]⟩ [] [Xp.mkT ⟨#[99]⟩ [] [] (-2), Xp.mkT ⟨#[120, 109, 108, 58, 97]⟩ [] [] q, Xp.mkT ⟨#[113, 58, 100]⟩ [] [] (-3)] (-1)
theorem res_wr1 (q : Int) : resP 2 G0 (wrT1 q) = .error q := by kernel_rfl
def wrT2 (q : Int) : Tr := Xp.mkT ⟨#[98]⟩ [] [Xp.mkT ⟨#[99]⟩ [] [] (-2), Xp.mkT ⟨#[97]⟩ [(⟨#[112, 58, 120]⟩, ⟨#[49]⟩)] [] q, Xp.mkT ⟨#[113, 58, 100]⟩ [] [] (-3)] (-1)
theorem res_wr2 (q : Int) : resP 2 G0 (wrT2 q) = .error q := by kernel_rfl
def wrT3 (q : Int) : Tr := Xp.mkT ⟨#[98]⟩ [] [Xp.mkT ⟨#[99]⟩ [] [] (-2), Xp.mkT ⟨#[97]⟩ [(⟨#[120, 109, 108, 110, 115, 58, 112]⟩, ⟨#[]⟩)] [] q, Xp.mkT ⟨#[113, 58, 100]⟩ [] [] (-3)] (-1)
theorem res_wr3 (q : Int) : resP 2 G0 (wrT3 q) = .error q := by kernel_rfl
def wrT4 (q : Int) : Tr := Xp.mkT ⟨#[98]⟩ [] [Xp.mkT ⟨#[99]⟩ [] [] (-2), Xp.mkT ⟨#[97]⟩ [(⟨#[120, 109, 108, 110, 115, 58, 120, 109, 108]⟩, ⟨#[117]⟩)] [] q, Xp.mkT ⟨#[113, 58, 100]⟩ [] [] (-3)] (-1)
theorem res_wr4 (q : Int) : resP 2 G0 (wrT4 q) = .error q := by kernel_rfl
def wrT5 (q : Int) : Tr := Xp.mkT ⟨#[98]⟩ [] [Xp.mkT ⟨#[99]⟩ [] [] (-2), Xp.mkT ⟨#[97]⟩ [(⟨#[120, 109, 108, 110, 115, 58, 120, 109, 108, 110, 115]⟩, ⟨#[117]⟩)] [] q, Xp.mkT ⟨#[113, 58, 100]⟩ [] [] (-3)] (-1)
theorem res_wr5 (q : Int) : resP 2 G0 (wrT5 q) = .error q := by kernel_rfl
def wrT6 (q : Int) : Tr := Xp.mkT ⟨#[98]⟩ [] [Xp.mkT ⟨#[99]⟩ [] [] (-2), Xp.mkT ⟨#[120, 109, 108, 110, 115, 58, 97]⟩ [(⟨#[120, 109, 108, 110, 115, 58, 120, 109, 108, 110, 115]⟩, ⟨#[117]⟩)] [] q, Xp.mkT ⟨#[113, 58, 100]⟩ [] [] (-3)] (-1)
theorem res_wr6 (q : Int) : resP 2 G0 (wrT6 q) = .error q := by kernel_rfl
set_option maxHeartbeats 4000000 in
theorem wrong_0 (q : Int) (hq : (Lit.int .i64 q).wf = true) (hq0 : 0 ≤ q) (w : World) (hok : OkS w) :
    Calls Try.prog 6 #[.int .i64 0, .int .i64 q] w fun e w' => e = .returned (.bool true) ∧ Below w.heap.size w w' := by
  have hq1 : ¬ q < 0 := by omega
  go_enter Try.func6, Try.ntmps6
  go_wp2_with fail
  generalize hW1 : w.alloc _ = W1
  obtain ⟨B1, L1, z1⟩ := of_alloc hW1
  generalize hW2 : W1.alloc _ = W2
  obtain ⟨B2, L2, z2⟩ := of_alloc hW2
  generalize hW3 : W2.alloc _ = W3
  obtain ⟨B3, L3, z3⟩ := of_alloc hW3
  generalize hW4 : W3.alloc _ = W4
  obtain ⟨B4, L4, z4⟩ := of_alloc hW4
  generalize hW5 : W4.alloc _ = W5
  obtain ⟨B5, L5, z5⟩ := of_alloc hW5
  generalize hW6 : W5.alloc _ = W6
  obtain ⟨B6, L6, z6⟩ := of_alloc hW6
  generalize hW7 : W6.alloc _ = W7
  obtain ⟨B7, L7, z7⟩ := of_alloc hW7
  generalize hW8 : W7.alloc _ = W8
  obtain ⟨B8, L8, z8⟩ := of_alloc hW8
  rw [z1] at L2 z2
  rw [z2] at L3 z3
  rw [z3] at L4 z4
  rw [z4] at L5 z5
  rw [z5] at L6 z6
  rw [z6] at L7 z7
  rw [z7] at L8 z8
  have BT8 := Below.refl W8.heap.size W8
  have BT7 : Below W7.heap.size W7 W8 := B8.trans (BT8.mono B8.size)
  have BT6 : Below W6.heap.size W6 W8 := B7.trans (BT7.mono B7.size)
  have BT5 : Below W5.heap.size W5 W8 := B6.trans (BT6.mono B6.size)
  have BT4 : Below W4.heap.size W4 W8 := B5.trans (BT5.mono B5.size)
  have BT3 : Below W3.heap.size W3 W8 := B4.trans (BT4.mono B4.size)
  have BT2 : Below W2.heap.size W2 W8 := B3.trans (BT3.mono B3.size)
  have BT1 : Below W1.heap.size W1 W8 := B2.trans (BT2.mono B2.size)
  have BB : Below w.heap.size w W8 := B1.trans (BT1.mono B1.size)
  have hE : EIn W8 2 (.string ⟨#[98]⟩) nilS (.slice (some ⟨w.heap.size + 1 + 1 + 1 + 1 + 1 + 1 + 1, 0, none⟩) 3 3) (.int .i64 (-1)) (wrT0 q) := by
    refine EIn.node 1 _ _ _ _ (by decide) (ARow.nil _) L8 [(.string ⟨#[99]⟩, nilS, nilS, .int .i64 (-2)), (.string ⟨#[112, 58, 97]⟩, nilS, nilS, .int .i64 q), (.string ⟨#[113, 58, 100]⟩, nilS, nilS, .int .i64 (-3))] _ rfl rfl (by simp) (fun i q K e1 e2 => ?_) _ _ rfl
    match i with
    | 0 =>
      cases e1
      cases e2
      exact EIn.leaf 0 _ _ _ _ (by decide) (ARow.nil _)
    | 1 =>
      cases e1
      cases e2
      exact EIn.leaf 0 _ _ _ _ (by decide) (ARow.nil _)
    | 2 =>
      cases e1
      cases e2
      exact EIn.leaf 0 _ _ _ _ (by decide) (ARow.nil _)
    | i + 3 => cases e1
  have hF : fineT 2 (wrT0 q) := by
    refine fine_node (by decide) (by simp) (fun K hK => ?_)
    simp only [List.mem_cons, List.mem_nil_iff, or_false] at hK
    rcases hK with rfl | rfl | rfl
    · exact fine_node (by decide) (by simp) (by simp)
    · exact fine_node (by decide) (by simp) (by simp)
    · exact fine_node (by decide) (by simp) (by simp)
  refine (ResolveD W8 2 _ _ _ _ (wrT0 q) (hok.below BB hok.lt) hE hF (by simp [wrT0, attN_mk])).mono ?_
  rintro e w1 ⟨b1, ee, _⟩
  obtain rfl := ee _ (res_wr0 q)
  have BF := hideT (below_al (BB.trans (b1.mono BB.size)) (.cells #[.string ⟨#[]⟩, .string ⟨#[]⟩, .slice none 0 0, .slice none 0 0, .int .i64 0] 25))
  have HOK := hideT (hok.below BF.out hok.lt)
  clear hW1 B1 L1 z1 BT1 hW2 B2 L2 z2 BT2 hW3 B3 L3 z3 BT3 hW4 B4 L4 z4 BT4 hW5 B5 L5 z5 BT5 hW6 B6 L6 z6 BT6 hW7 B7 L7 z7 BT7 hW8 B8 L8 z8 BT8 hE hF ee BB b1 hok
  go_wp2_with fail
  refine (knownS _ HOK.out).mono ?_
  rintro e w9 ⟨rfl, b9⟩
  go_wp2_with fail
  go_ret
  exact ⟨rfl, BF.out.trans (b9.mono BF.out.size)⟩
set_option maxHeartbeats 4000000 in
theorem wrong_1 (q : Int) (hq : (Lit.int .i64 q).wf = true) (hq0 : 0 ≤ q) (w : World) (hok : OkS w) :
    Calls Try.prog 6 #[.int .i64 1, .int .i64 q] w fun e w' => e = .returned (.bool true) ∧ Below w.heap.size w w' := by
  have hq1 : ¬ q < 0 := by omega
  go_enter Try.func6, Try.ntmps6
  go_wp2_with fail
  generalize hW1 : w.alloc _ = W1
  obtain ⟨B1, L1, z1⟩ := of_alloc hW1
  generalize hW2 : W1.alloc _ = W2
  obtain ⟨B2, L2, z2⟩ := of_alloc hW2
  generalize hW3 : W2.alloc _ = W3
  obtain ⟨B3, L3, z3⟩ := of_alloc hW3
  generalize hW4 : W3.alloc _ = W4
  obtain ⟨B4, L4, z4⟩ := of_alloc hW4
  generalize hW5 : W4.alloc _ = W5
  obtain ⟨B5, L5, z5⟩ := of_alloc hW5
  generalize hW6 : W5.alloc _ = W6
  obtain ⟨B6, L6, z6⟩ := of_alloc hW6
  generalize hW7 : W6.alloc _ = W7
  obtain ⟨B7, L7, z7⟩ := of_alloc hW7
  generalize hW8 : W7.alloc _ = W8
  obtain ⟨B8, L8, z8⟩ := of_alloc hW8
  rw [z1] at L2 z2
  rw [z2] at L3 z3
  rw [z3] at L4 z4
  rw [z4] at L5 z5
  rw [z5] at L6 z6
  rw [z6] at L7 z7
  rw [z7] at L8 z8
  have BT8 := Below.refl W8.heap.size W8
  have BT7 : Below W7.heap.size W7 W8 := B8.trans (BT8.mono B8.size)
  have BT6 : Below W6.heap.size W6 W8 := B7.trans (BT7.mono B7.size)
  have BT5 : Below W5.heap.size W5 W8 := B6.trans (BT6.mono B6.size)
  have BT4 : Below W4.heap.size W4 W8 := B5.trans (BT5.mono B5.size)
  have BT3 : Below W3.heap.size W3 W8 := B4.trans (BT4.mono B4.size)
  have BT2 : Below W2.heap.size W2 W8 := B3.trans (BT3.mono B3.size)
  have BT1 : Below W1.heap.size W1 W8 := B2.trans (BT2.mono B2.size)
  have BB : Below w.heap.size w W8 := B1.trans (BT1.mono B1.size)
  have hE : EIn W8 2 (.string ⟨#[98]⟩) nilS (.slice (some ⟨w.heap.size + 1 + 1 + 1 + 1 + 1 + 1 + 1, 0, none⟩) 3 3) (.int .i64 (-1)) (wrT1 q) := by
    refine EIn.node 1 _ _ _ _ (by decide) (ARow.nil _) L8 [(.string ⟨#[99]⟩, nilS, nilS, .int .i64 (-2)), (.string ⟨#[120, 109, 108, 58, 97]⟩, nilS, nilS, .int .i64 q), (.string ⟨#[113, 58, 100]⟩, nilS, nilS, .int .i64 (-3))] _ rfl rfl (by simp) (fun i q K e1 e2 => ?_) _ _ rfl
    match i with
    | 0 =>
      cases e1
      cases e2
      exact EIn.leaf 0 _ _ _ _ (by decide) (ARow.nil _)
    | 1 =>
      cases e1
      cases e2
      exact EIn.leaf 0 _ _ _ _ (by decide) (ARow.nil _)
    | 2 =>
      cases e1
      cases e2
      exact EIn.leaf 0 _ _ _ _ (by decide) (ARow.nil _)
    | i + 3 => cases e1
  have hF : fineT 2 (wrT1 q) := by
    refine fine_node (by decide) (by simp) (fun K hK => ?_)
    simp only [List.mem_cons, List.mem_nil_iff, or_false] at hK
    rcases hK with rfl | rfl | rfl
    · exact fine_node (by decide) (by simp) (by simp)
    · exact fine_node (by decide) (by simp) (by simp)
    · exact fine_node (by decide) (by simp) (by simp)
  refine (ResolveD W8 2 _ _ _ _ (wrT1 q) (hok.below BB hok.lt) hE hF (by simp [wrT1, attN_mk])).mono ?_
  rintro e w1 ⟨b1, ee, _⟩
  obtain rfl := ee _ (res_wr1 q)
  have BF := hideT (below_al (BB.trans (b1.mono BB.size)) (.cells #[.string ⟨#[]⟩, .string ⟨#[]⟩, .slice none 0 0, .slice none 0 0, .int .i64 0] 25))
  have HOK := hideT (hok.below BF.out hok.lt)
  clear hW1 B1 L1 z1 BT1 hW2 B2 L2 z2 BT2 hW3 B3 L3 z3 BT3 hW4 B4 L4 z4 BT4 hW5 B5 L5 z5 BT5 hW6 B6 L6 z6 BT6 hW7 B7 L7 z7 BT7 hW8 B8 L8 z8 BT8 hE hF ee BB b1 hok
  go_wp2_with fail
  refine (knownS _ HOK.out).mono ?_
  rintro e w9 ⟨rfl, b9⟩
  go_wp2_with fail
  go_ret
  exact ⟨rfl, BF.out.trans (b9.mono BF.out.size)⟩
set_option maxHeartbeats 4000000 in
theorem wrong_2 (q : Int) (hq : (Lit.int .i64 q).wf = true) (hq0 : 0 ≤ q) (w : World) (hok : OkS w) :
    Calls Try.prog 6 #[.int .i64 2, .int .i64 q] w fun e w' => e = .returned (.bool true) ∧ Below w.heap.size w w' := by
  have hq1 : ¬ q < 0 := by omega
  go_enter Try.func6, Try.ntmps6
  go_wp2_with fail
  generalize hW1 : w.alloc _ = W1
  obtain ⟨B1, L1, z1⟩ := of_alloc hW1
  generalize hW2 : W1.alloc _ = W2
  obtain ⟨B2, L2, z2⟩ := of_alloc hW2
  generalize hW3 : W2.alloc _ = W3
  obtain ⟨B3, L3, z3⟩ := of_alloc hW3
  generalize hW4 : W3.alloc _ = W4
  obtain ⟨B4, L4, z4⟩ := of_alloc hW4
  generalize hW5 : W4.alloc _ = W5
  obtain ⟨B5, L5, z5⟩ := of_alloc hW5
  generalize hW6 : W5.alloc _ = W6
  obtain ⟨B6, L6, z6⟩ := of_alloc hW6
  generalize hW7 : W6.alloc _ = W7
  obtain ⟨B7, L7, z7⟩ := of_alloc hW7
  generalize hW8 : W7.alloc _ = W8
  obtain ⟨B8, L8, z8⟩ := of_alloc hW8
  rw [z1] at L2 z2
  rw [z2] at L3 z3
  rw [z3] at L4 z4
  rw [z4] at L5 z5
  rw [z5] at L6 z6
  rw [z6] at L7 z7
  rw [z7] at L8 z8
  have BT8 := Below.refl W8.heap.size W8
  have BT7 : Below W7.heap.size W7 W8 := B8.trans (BT8.mono B8.size)
  have BT6 : Below W6.heap.size W6 W8 := B7.trans (BT7.mono B7.size)
  have BT5 : Below W5.heap.size W5 W8 := B6.trans (BT6.mono B6.size)
  have BT4 : Below W4.heap.size W4 W8 := B5.trans (BT5.mono B5.size)
  have BT3 : Below W3.heap.size W3 W8 := B4.trans (BT4.mono B4.size)
  have BT2 : Below W2.heap.size W2 W8 := B3.trans (BT3.mono B3.size)
  have BT1 : Below W1.heap.size W1 W8 := B2.trans (BT2.mono B2.size)
  have BB : Below w.heap.size w W8 := B1.trans (BT1.mono B1.size)
  have hE : EIn W8 2 (.string ⟨#[98]⟩) nilS (.slice (some ⟨w.heap.size + 1 + 1 + 1 + 1 + 1 + 1 + 1, 0, none⟩) 3 3) (.int .i64 (-1)) (wrT2 q) := by
    refine EIn.node 1 _ _ _ _ (by decide) (ARow.nil _) L8 [(.string ⟨#[99]⟩, nilS, nilS, .int .i64 (-2)), (.string ⟨#[97]⟩, .slice (some ⟨w.heap.size, 0, none⟩) 1 1, nilS, .int .i64 q), (.string ⟨#[113, 58, 100]⟩, nilS, nilS, .int .i64 (-3))] _ rfl rfl (by simp) (fun i q K e1 e2 => ?_) _ _ rfl
    match i with
    | 0 =>
      cases e1
      cases e2
      exact EIn.leaf 0 _ _ _ _ (by decide) (ARow.nil _)
    | 1 =>
      cases e1
      cases e2
      exact EIn.leaf 0 _ _ _ _ (by decide) (ARow.lies (L1.below (BT1)) _ rfl (by decide) (att_one (by decide) (by decide)) _ _ rfl)
    | 2 =>
      cases e1
      cases e2
      exact EIn.leaf 0 _ _ _ _ (by decide) (ARow.nil _)
    | i + 3 => cases e1
  have hF : fineT 2 (wrT2 q) := by
    refine fine_node (by decide) (by simp) (fun K hK => ?_)
    simp only [List.mem_cons, List.mem_nil_iff, or_false] at hK
    rcases hK with rfl | rfl | rfl
    · exact fine_node (by decide) (by simp) (by simp)
    · exact fine_node (by decide) (att_one (by decide) (by decide)) (by simp)
    · exact fine_node (by decide) (by simp) (by simp)
  refine (ResolveD W8 2 _ _ _ _ (wrT2 q) (hok.below BB hok.lt) hE hF (by simp [wrT2, attN_mk])).mono ?_
  rintro e w1 ⟨b1, ee, _⟩
  obtain rfl := ee _ (res_wr2 q)
  have BF := hideT (below_al (BB.trans (b1.mono BB.size)) (.cells #[.string ⟨#[]⟩, .string ⟨#[]⟩, .slice none 0 0, .slice none 0 0, .int .i64 0] 25))
  have HOK := hideT (hok.below BF.out hok.lt)
  clear hW1 B1 L1 z1 BT1 hW2 B2 L2 z2 BT2 hW3 B3 L3 z3 BT3 hW4 B4 L4 z4 BT4 hW5 B5 L5 z5 BT5 hW6 B6 L6 z6 BT6 hW7 B7 L7 z7 BT7 hW8 B8 L8 z8 BT8 hE hF ee BB b1 hok
  go_wp2_with fail
  refine (knownS _ HOK.out).mono ?_
  rintro e w9 ⟨rfl, b9⟩
  go_wp2_with fail
  go_ret
  exact ⟨rfl, BF.out.trans (b9.mono BF.out.size)⟩
set_option maxHeartbeats 4000000 in
theorem wrong_3 (q : Int) (hq : (Lit.int .i64 q).wf = true) (hq0 : 0 ≤ q) (w : World) (hok : OkS w) :
    Calls Try.prog 6 #[.int .i64 3, .int .i64 q] w fun e w' => e = .returned (.bool true) ∧ Below w.heap.size w w' := by
  have hq1 : ¬ q < 0 := by omega
  go_enter Try.func6, Try.ntmps6
  go_wp2_with fail
  generalize hW1 : w.alloc _ = W1
  obtain ⟨B1, L1, z1⟩ := of_alloc hW1
  generalize hW2 : W1.alloc _ = W2
  obtain ⟨B2, L2, z2⟩ := of_alloc hW2
  generalize hW3 : W2.alloc _ = W3
  obtain ⟨B3, L3, z3⟩ := of_alloc hW3
  generalize hW4 : W3.alloc _ = W4
  obtain ⟨B4, L4, z4⟩ := of_alloc hW4
  generalize hW5 : W4.alloc _ = W5
  obtain ⟨B5, L5, z5⟩ := of_alloc hW5
  generalize hW6 : W5.alloc _ = W6
  obtain ⟨B6, L6, z6⟩ := of_alloc hW6
  generalize hW7 : W6.alloc _ = W7
  obtain ⟨B7, L7, z7⟩ := of_alloc hW7
  generalize hW8 : W7.alloc _ = W8
  obtain ⟨B8, L8, z8⟩ := of_alloc hW8
  rw [z1] at L2 z2
  rw [z2] at L3 z3
  rw [z3] at L4 z4
  rw [z4] at L5 z5
  rw [z5] at L6 z6
  rw [z6] at L7 z7
  rw [z7] at L8 z8
  have BT8 := Below.refl W8.heap.size W8
  have BT7 : Below W7.heap.size W7 W8 := B8.trans (BT8.mono B8.size)
  have BT6 : Below W6.heap.size W6 W8 := B7.trans (BT7.mono B7.size)
  have BT5 : Below W5.heap.size W5 W8 := B6.trans (BT6.mono B6.size)
  have BT4 : Below W4.heap.size W4 W8 := B5.trans (BT5.mono B5.size)
  have BT3 : Below W3.heap.size W3 W8 := B4.trans (BT4.mono B4.size)
  have BT2 : Below W2.heap.size W2 W8 := B3.trans (BT3.mono B3.size)
  have BT1 : Below W1.heap.size W1 W8 := B2.trans (BT2.mono B2.size)
  have BB : Below w.heap.size w W8 := B1.trans (BT1.mono B1.size)
  have hE : EIn W8 2 (.string ⟨#[98]⟩) nilS (.slice (some ⟨w.heap.size + 1 + 1 + 1 + 1 + 1 + 1 + 1, 0, none⟩) 3 3) (.int .i64 (-1)) (wrT3 q) := by
    refine EIn.node 1 _ _ _ _ (by decide) (ARow.nil _) L8 [(.string ⟨#[99]⟩, nilS, nilS, .int .i64 (-2)), (.string ⟨#[97]⟩, .slice (some ⟨w.heap.size + 1, 0, none⟩) 1 1, nilS, .int .i64 q), (.string ⟨#[113, 58, 100]⟩, nilS, nilS, .int .i64 (-3))] _ rfl rfl (by simp) (fun i q K e1 e2 => ?_) _ _ rfl
    match i with
    | 0 =>
      cases e1
      cases e2
      exact EIn.leaf 0 _ _ _ _ (by decide) (ARow.nil _)
    | 1 =>
      cases e1
      cases e2
      exact EIn.leaf 0 _ _ _ _ (by decide) (ARow.lies (L2.below (BT2)) _ rfl (by decide) (att_one (by decide) (by decide)) _ _ rfl)
    | 2 =>
      cases e1
      cases e2
      exact EIn.leaf 0 _ _ _ _ (by decide) (ARow.nil _)
    | i + 3 => cases e1
  have hF : fineT 2 (wrT3 q) := by
    refine fine_node (by decide) (by simp) (fun K hK => ?_)
    simp only [List.mem_cons, List.mem_nil_iff, or_false] at hK
    rcases hK with rfl | rfl | rfl
    · exact fine_node (by decide) (by simp) (by simp)
    · exact fine_node (by decide) (att_one (by decide) (by decide)) (by simp)
    · exact fine_node (by decide) (by simp) (by simp)
  refine (ResolveD W8 2 _ _ _ _ (wrT3 q) (hok.below BB hok.lt) hE hF (by simp [wrT3, attN_mk])).mono ?_
  rintro e w1 ⟨b1, ee, _⟩
  obtain rfl := ee _ (res_wr3 q)
  have BF := hideT (below_al (BB.trans (b1.mono BB.size)) (.cells #[.string ⟨#[]⟩, .string ⟨#[]⟩, .slice none 0 0, .slice none 0 0, .int .i64 0] 25))
  have HOK := hideT (hok.below BF.out hok.lt)
  clear hW1 B1 L1 z1 BT1 hW2 B2 L2 z2 BT2 hW3 B3 L3 z3 BT3 hW4 B4 L4 z4 BT4 hW5 B5 L5 z5 BT5 hW6 B6 L6 z6 BT6 hW7 B7 L7 z7 BT7 hW8 B8 L8 z8 BT8 hE hF ee BB b1 hok
  go_wp2_with fail
  refine (knownS _ HOK.out).mono ?_
  rintro e w9 ⟨rfl, b9⟩
  go_wp2_with fail
  go_ret
  exact ⟨rfl, BF.out.trans (b9.mono BF.out.size)⟩
set_option maxHeartbeats 4000000 in
theorem wrong_4 (q : Int) (hq : (Lit.int .i64 q).wf = true) (hq0 : 0 ≤ q) (w : World) (hok : OkS w) :
    Calls Try.prog 6 #[.int .i64 4, .int .i64 q] w fun e w' => e = .returned (.bool true) ∧ Below w.heap.size w w' := by
  have hq1 : ¬ q < 0 := by omega
  go_enter Try.func6, Try.ntmps6
  go_wp2_with fail
  generalize hW1 : w.alloc _ = W1
  obtain ⟨B1, L1, z1⟩ := of_alloc hW1
  generalize hW2 : W1.alloc _ = W2
  obtain ⟨B2, L2, z2⟩ := of_alloc hW2
  generalize hW3 : W2.alloc _ = W3
  obtain ⟨B3, L3, z3⟩ := of_alloc hW3
  generalize hW4 : W3.alloc _ = W4
  obtain ⟨B4, L4, z4⟩ := of_alloc hW4
  generalize hW5 : W4.alloc _ = W5
  obtain ⟨B5, L5, z5⟩ := of_alloc hW5
  generalize hW6 : W5.alloc _ = W6
  obtain ⟨B6, L6, z6⟩ := of_alloc hW6
  generalize hW7 : W6.alloc _ = W7
  obtain ⟨B7, L7, z7⟩ := of_alloc hW7
  generalize hW8 : W7.alloc _ = W8
  obtain ⟨B8, L8, z8⟩ := of_alloc hW8
  rw [z1] at L2 z2
  rw [z2] at L3 z3
  rw [z3] at L4 z4
  rw [z4] at L5 z5
  rw [z5] at L6 z6
  rw [z6] at L7 z7
  rw [z7] at L8 z8
  have BT8 := Below.refl W8.heap.size W8
  have BT7 : Below W7.heap.size W7 W8 := B8.trans (BT8.mono B8.size)
  have BT6 : Below W6.heap.size W6 W8 := B7.trans (BT7.mono B7.size)
  have BT5 : Below W5.heap.size W5 W8 := B6.trans (BT6.mono B6.size)
  have BT4 : Below W4.heap.size W4 W8 := B5.trans (BT5.mono B5.size)
  have BT3 : Below W3.heap.size W3 W8 := B4.trans (BT4.mono B4.size)
  have BT2 : Below W2.heap.size W2 W8 := B3.trans (BT3.mono B3.size)
  have BT1 : Below W1.heap.size W1 W8 := B2.trans (BT2.mono B2.size)
  have BB : Below w.heap.size w W8 := B1.trans (BT1.mono B1.size)
  have hE : EIn W8 2 (.string ⟨#[98]⟩) nilS (.slice (some ⟨w.heap.size + 1 + 1 + 1 + 1 + 1 + 1 + 1, 0, none⟩) 3 3) (.int .i64 (-1)) (wrT4 q) := by
    refine EIn.node 1 _ _ _ _ (by decide) (ARow.nil _) L8 [(.string ⟨#[99]⟩, nilS, nilS, .int .i64 (-2)), (.string ⟨#[97]⟩, .slice (some ⟨w.heap.size + 1 + 1, 0, none⟩) 1 1, nilS, .int .i64 q), (.string ⟨#[113, 58, 100]⟩, nilS, nilS, .int .i64 (-3))] _ rfl rfl (by simp) (fun i q K e1 e2 => ?_) _ _ rfl
    match i with
    | 0 =>
      cases e1
      cases e2
      exact EIn.leaf 0 _ _ _ _ (by decide) (ARow.nil _)
    | 1 =>
      cases e1
      cases e2
      exact EIn.leaf 0 _ _ _ _ (by decide) (ARow.lies (L3.below (BT3)) _ rfl (by decide) (att_one (by decide) (by decide)) _ _ rfl)
    | 2 =>
      cases e1
      cases e2
      exact EIn.leaf 0 _ _ _ _ (by decide) (ARow.nil _)
    | i + 3 => cases e1
  have hF : fineT 2 (wrT4 q) := by
    refine fine_node (by decide) (by simp) (fun K hK => ?_)
    simp only [List.mem_cons, List.mem_nil_iff, or_false] at hK
    rcases hK with rfl | rfl | rfl
    · exact fine_node (by decide) (by simp) (by simp)
    · exact fine_node (by decide) (att_one (by decide) (by decide)) (by simp)
    · exact fine_node (by decide) (by simp) (by simp)
  refine (ResolveD W8 2 _ _ _ _ (wrT4 q) (hok.below BB hok.lt) hE hF (by simp [wrT4, attN_mk])).mono ?_
  rintro e w1 ⟨b1, ee, _⟩
  obtain rfl := ee _ (res_wr4 q)
  have BF := hideT (below_al (BB.trans (b1.mono BB.size)) (.cells #[.string ⟨#[]⟩, .string ⟨#[]⟩, .slice none 0 0, .slice none 0 0, .int .i64 0] 25))
  have HOK := hideT (hok.below BF.out hok.lt)
  clear hW1 B1 L1 z1 BT1 hW2 B2 L2 z2 BT2 hW3 B3 L3 z3 BT3 hW4 B4 L4 z4 BT4 hW5 B5 L5 z5 BT5 hW6 B6 L6 z6 BT6 hW7 B7 L7 z7 BT7 hW8 B8 L8 z8 BT8 hE hF ee BB b1 hok
  go_wp2_with fail
  refine (knownS _ HOK.out).mono ?_
  rintro e w9 ⟨rfl, b9⟩
  go_wp2_with fail
  go_ret
  exact ⟨rfl, BF.out.trans (b9.mono BF.out.size)⟩
set_option maxHeartbeats 4000000 in
theorem wrong_5 (q : Int) (hq : (Lit.int .i64 q).wf = true) (hq0 : 0 ≤ q) (w : World) (hok : OkS w) :
    Calls Try.prog 6 #[.int .i64 5, .int .i64 q] w fun e w' => e = .returned (.bool true) ∧ Below w.heap.size w w' := by
  have hq1 : ¬ q < 0 := by omega
  go_enter Try.func6, Try.ntmps6
  go_wp2_with fail
  generalize hW1 : w.alloc _ = W1
  obtain ⟨B1, L1, z1⟩ := of_alloc hW1
  generalize hW2 : W1.alloc _ = W2
  obtain ⟨B2, L2, z2⟩ := of_alloc hW2
  generalize hW3 : W2.alloc _ = W3
  obtain ⟨B3, L3, z3⟩ := of_alloc hW3
  generalize hW4 : W3.alloc _ = W4
  obtain ⟨B4, L4, z4⟩ := of_alloc hW4
  generalize hW5 : W4.alloc _ = W5
  obtain ⟨B5, L5, z5⟩ := of_alloc hW5
  generalize hW6 : W5.alloc _ = W6
  obtain ⟨B6, L6, z6⟩ := of_alloc hW6
  generalize hW7 : W6.alloc _ = W7
  obtain ⟨B7, L7, z7⟩ := of_alloc hW7
  generalize hW8 : W7.alloc _ = W8
  obtain ⟨B8, L8, z8⟩ := of_alloc hW8
  rw [z1] at L2 z2
  rw [z2] at L3 z3
  rw [z3] at L4 z4
  rw [z4] at L5 z5
  rw [z5] at L6 z6
  rw [z6] at L7 z7
  rw [z7] at L8 z8
  have BT8 := Below.refl W8.heap.size W8
  have BT7 : Below W7.heap.size W7 W8 := B8.trans (BT8.mono B8.size)
  have BT6 : Below W6.heap.size W6 W8 := B7.trans (BT7.mono B7.size)
  have BT5 : Below W5.heap.size W5 W8 := B6.trans (BT6.mono B6.size)
  have BT4 : Below W4.heap.size W4 W8 := B5.trans (BT5.mono B5.size)
  have BT3 : Below W3.heap.size W3 W8 := B4.trans (BT4.mono B4.size)
  have BT2 : Below W2.heap.size W2 W8 := B3.trans (BT3.mono B3.size)
  have BT1 : Below W1.heap.size W1 W8 := B2.trans (BT2.mono B2.size)
  have BB : Below w.heap.size w W8 := B1.trans (BT1.mono B1.size)
  have hE : EIn W8 2 (.string ⟨#[98]⟩) nilS (.slice (some ⟨w.heap.size + 1 + 1 + 1 + 1 + 1 + 1 + 1, 0, none⟩) 3 3) (.int .i64 (-1)) (wrT5 q) := by
    refine EIn.node 1 _ _ _ _ (by decide) (ARow.nil _) L8 [(.string ⟨#[99]⟩, nilS, nilS, .int .i64 (-2)), (.string ⟨#[97]⟩, .slice (some ⟨w.heap.size + 1 + 1 + 1, 0, none⟩) 1 1, nilS, .int .i64 q), (.string ⟨#[113, 58, 100]⟩, nilS, nilS, .int .i64 (-3))] _ rfl rfl (by simp) (fun i q K e1 e2 => ?_) _ _ rfl
    match i with
    | 0 =>
      cases e1
      cases e2
      exact EIn.leaf 0 _ _ _ _ (by decide) (ARow.nil _)
    | 1 =>
      cases e1
      cases e2
      exact EIn.leaf 0 _ _ _ _ (by decide) (ARow.lies (L4.below (BT4)) _ rfl (by decide) (att_one (by decide) (by decide)) _ _ rfl)
    | 2 =>
      cases e1
      cases e2
      exact EIn.leaf 0 _ _ _ _ (by decide) (ARow.nil _)
    | i + 3 => cases e1
  have hF : fineT 2 (wrT5 q) := by
    refine fine_node (by decide) (by simp) (fun K hK => ?_)
    simp only [List.mem_cons, List.mem_nil_iff, or_false] at hK
    rcases hK with rfl | rfl | rfl
    · exact fine_node (by decide) (by simp) (by simp)
    · exact fine_node (by decide) (att_one (by decide) (by decide)) (by simp)
    · exact fine_node (by decide) (by simp) (by simp)
  refine (ResolveD W8 2 _ _ _ _ (wrT5 q) (hok.below BB hok.lt) hE hF (by simp [wrT5, attN_mk])).mono ?_
  rintro e w1 ⟨b1, ee, _⟩
  obtain rfl := ee _ (res_wr5 q)
  have BF := hideT (below_al (BB.trans (b1.mono BB.size)) (.cells #[.string ⟨#[]⟩, .string ⟨#[]⟩, .slice none 0 0, .slice none 0 0, .int .i64 0] 25))
  have HOK := hideT (hok.below BF.out hok.lt)
  clear hW1 B1 L1 z1 BT1 hW2 B2 L2 z2 BT2 hW3 B3 L3 z3 BT3 hW4 B4 L4 z4 BT4 hW5 B5 L5 z5 BT5 hW6 B6 L6 z6 BT6 hW7 B7 L7 z7 BT7 hW8 B8 L8 z8 BT8 hE hF ee BB b1 hok
  go_wp2_with fail
  refine (knownS _ HOK.out).mono ?_
  rintro e w9 ⟨rfl, b9⟩
  go_wp2_with fail
  go_ret
  exact ⟨rfl, BF.out.trans (b9.mono BF.out.size)⟩
set_option maxHeartbeats 4000000 in
theorem wrong_6 (q : Int) (hq : (Lit.int .i64 q).wf = true) (hq0 : 0 ≤ q) (w : World) (hok : OkS w) :
    Calls Try.prog 6 #[.int .i64 6, .int .i64 q] w fun e w' => e = .returned (.bool true) ∧ Below w.heap.size w w' := by
  have hq1 : ¬ q < 0 := by omega
  go_enter Try.func6, Try.ntmps6
  go_wp2_with fail
  generalize hW1 : w.alloc _ = W1
  obtain ⟨B1, L1, z1⟩ := of_alloc hW1
  generalize hW2 : W1.alloc _ = W2
  obtain ⟨B2, L2, z2⟩ := of_alloc hW2
  generalize hW3 : W2.alloc _ = W3
  obtain ⟨B3, L3, z3⟩ := of_alloc hW3
  generalize hW4 : W3.alloc _ = W4
  obtain ⟨B4, L4, z4⟩ := of_alloc hW4
  generalize hW5 : W4.alloc _ = W5
  obtain ⟨B5, L5, z5⟩ := of_alloc hW5
  generalize hW6 : W5.alloc _ = W6
  obtain ⟨B6, L6, z6⟩ := of_alloc hW6
  generalize hW7 : W6.alloc _ = W7
  obtain ⟨B7, L7, z7⟩ := of_alloc hW7
  generalize hW8 : W7.alloc _ = W8
  obtain ⟨B8, L8, z8⟩ := of_alloc hW8
  rw [z1] at L2 z2
  rw [z2] at L3 z3
  rw [z3] at L4 z4
  rw [z4] at L5 z5
  rw [z5] at L6 z6
  rw [z6] at L7 z7
  rw [z7] at L8 z8
  have BT8 := Below.refl W8.heap.size W8
  have BT7 : Below W7.heap.size W7 W8 := B8.trans (BT8.mono B8.size)
  have BT6 : Below W6.heap.size W6 W8 := B7.trans (BT7.mono B7.size)
  have BT5 : Below W5.heap.size W5 W8 := B6.trans (BT6.mono B6.size)
  have BT4 : Below W4.heap.size W4 W8 := B5.trans (BT5.mono B5.size)
  have BT3 : Below W3.heap.size W3 W8 := B4.trans (BT4.mono B4.size)
  have BT2 : Below W2.heap.size W2 W8 := B3.trans (BT3.mono B3.size)
  have BT1 : Below W1.heap.size W1 W8 := B2.trans (BT2.mono B2.size)
  have BB : Below w.heap.size w W8 := B1.trans (BT1.mono B1.size)
  have hE : EIn W8 2 (.string ⟨#[98]⟩) nilS (.slice (some ⟨w.heap.size + 1 + 1 + 1 + 1 + 1 + 1 + 1, 0, none⟩) 3 3) (.int .i64 (-1)) (wrT6 q) := by
    refine EIn.node 1 _ _ _ _ (by decide) (ARow.nil _) L8 [(.string ⟨#[99]⟩, nilS, nilS, .int .i64 (-2)), (.string ⟨#[120, 109, 108, 110, 115, 58, 97]⟩, .slice (some ⟨w.heap.size + 1 + 1 + 1 + 1, 0, none⟩) 1 1, nilS, .int .i64 q), (.string ⟨#[113, 58, 100]⟩, nilS, nilS, .int .i64 (-3))] _ rfl rfl (by simp) (fun i q K e1 e2 => ?_) _ _ rfl
    match i with
    | 0 =>
      cases e1
      cases e2
      exact EIn.leaf 0 _ _ _ _ (by decide) (ARow.nil _)
    | 1 =>
      cases e1
      cases e2
      exact EIn.leaf 0 _ _ _ _ (by decide) (ARow.lies (L5.below (BT5)) _ rfl (by decide) (att_one (by decide) (by decide)) _ _ rfl)
    | 2 =>
      cases e1
      cases e2
      exact EIn.leaf 0 _ _ _ _ (by decide) (ARow.nil _)
    | i + 3 => cases e1
  have hF : fineT 2 (wrT6 q) := by
    refine fine_node (by decide) (by simp) (fun K hK => ?_)
    simp only [List.mem_cons, List.mem_nil_iff, or_false] at hK
    rcases hK with rfl | rfl | rfl
    · exact fine_node (by decide) (by simp) (by simp)
    · exact fine_node (by decide) (att_one (by decide) (by decide)) (by simp)
    · exact fine_node (by decide) (by simp) (by simp)
  refine (ResolveD W8 2 _ _ _ _ (wrT6 q) (hok.below BB hok.lt) hE hF (by simp [wrT6, attN_mk])).mono ?_
  rintro e w1 ⟨b1, ee, _⟩
  obtain rfl := ee _ (res_wr6 q)
  have BF := hideT (below_al (BB.trans (b1.mono BB.size)) (.cells #[.string ⟨#[]⟩, .string ⟨#[]⟩, .slice none 0 0, .slice none 0 0, .int .i64 0] 25))
  have HOK := hideT (hok.below BF.out hok.lt)
  clear hW1 B1 L1 z1 BT1 hW2 B2 L2 z2 BT2 hW3 B3 L3 z3 BT3 hW4 B4 L4 z4 BT4 hW5 B5 L5 z5 BT5 hW6 B6 L6 z6 BT6 hW7 B7 L7 z7 BT7 hW8 B8 L8 z8 BT8 hE hF ee BB b1 hok
  go_wp2_with fail
  refine (knownS _ HOK.out).mono ?_
  rintro e w9 ⟨rfl, b9⟩
  go_wp2_with fail
  go_ret
  exact ⟨rfl, BF.out.trans (b9.mono BF.out.size)⟩
set_option maxHeartbeats 4000000 in
theorem spaceWrong_walk (way : Int) (hway : (Lit.int .i64 way).wf = true) (q : Int) (hq : (Lit.int .i64 q).wf = true) (w : World) (hok : OkS w) :
    Calls Try.prog 6 #[.int .i64 way, .int .i64 q] w fun e w' => e = .returned (.bool true) ∧ Below w.heap.size w w' := by
  by_cases h1 : way < 0
  · go_enter Try.func6, Try.ntmps6
    go_wp2_with fail
    go_ret
    exact ⟨rfl, (below_al (below_al (below_al (below_al (below_al (below_al (Below.refl _ w) _) _) _) _) _) _)⟩
  by_cases h2 : way ≥ 7
  · have h3 : (7 : Int) ≤ way := h2
    go_enter Try.func6, Try.ntmps6
    go_wp2_with fail
    go_ret
    exact ⟨rfl, (below_al (below_al (below_al (below_al (below_al (below_al (Below.refl _ w) _) _) _) _) _) _)⟩
  by_cases h4 : q < 0
  · have h3 : ¬ (7 : Int) ≤ way := h2
    go_enter Try.func6, Try.ntmps6
    go_wp2_with fail
    go_ret
    exact ⟨rfl, (below_al (below_al (below_al (below_al (below_al (below_al (Below.refl _ w) _) _) _) _) _) _)⟩
  have h5 : way = 0 ∨ way = 1 ∨ way = 2 ∨ way = 3 ∨ way = 4 ∨ way = 5 ∨ way = 6 := by omega
  rcases h5 with rfl | rfl | rfl | rfl | rfl | rfl | rfl
  · exact wrong_0 q hq (by omega) w hok
  · exact wrong_1 q hq (by omega) w hok
  · exact wrong_2 q hq (by omega) w hok
  · exact wrong_3 q hq (by omega) w hok
  · exact wrong_4 q hq (by omega) w hok
  · exact wrong_5 q hq (by omega) w hok
  · exact wrong_6 q hq (by omega) w hok
end Go.Proofs.Ythbkipmimkepkaa
