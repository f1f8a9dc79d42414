/-
  The walk of the law: what a user may have an item do. (Written by PlanUsers.py.)
-/
import Derived.Test.YtpipjkbgbhefcabCBuild
set_option linter.unusedSimpArgs false
set_option linter.unusedVariables false
namespace Go.Proofs.Ytpipjkbgbhefcab
open Go.RowKit
set_option maxRecDepth 100000
def uX (k : Int) : Mp.Item := ⟨bT, k, bP, false, if k = 5 then 5 else 0, if k = 3 then [([(bK, 3)], [])] else [], []⟩
def uM (k : Int) : Mp.Model := ⟨[], [⟨bP, 1, Mp.e0, false, 0, [], []⟩, uX k, ⟨bK, 2, bP, false, 0, [], []⟩]⟩
def uS (k : Int) : Cp.St := Cp.newP (uM k)
def uA (s : ByteArray) (ev : Int) : Cp.ActP := ⟨1, s, ev, Mp.e0, 0⟩
def uT (k ev : Int) : Cp.St := (Cp.doP (uM k) (uS k) (uA bT ev)).2
theorem u_light (k : Int) : light (uM k) := by
  refine ⟨by simp [uM], by simp [uM], fun x hx => ?_⟩
  simp only [uM, List.mem_cons, List.mem_nil_iff, or_false] at hx
  rcases hx with rfl | rfl | rfl
  · exact ⟨by decide, by decide, fun s hs => (by cases hs), fun s hs => (by cases hs)⟩
  · unfold uX
    by_cases h : k = 3
    · rw [if_pos h]
      refine ⟨by simp, by simp, fun s hs => ?_, fun s hs => (by cases hs)⟩
      rw [List.mem_singleton.1 hs]
      exact ⟨by decide, by decide⟩
    · rw [if_neg h]
      exact ⟨by simp, by simp, fun s hs => (by cases hs), fun s hs => (by cases hs)⟩
  · exact ⟨by decide, by decide, fun s hs => (by cases hs), fun s hs => (by cases hs)⟩
/-- What a user's three acts come to. -/
structure UFact (k ev r want : Int) (sA : Cp.St) : Prop where
  d1 : Cp.doP (uM k) (uS k) (uA bT ev) = (r, sA)
  d2 : Cp.doP (uM k) sA (uA bP ev) = (1, sA)
  d3 : Cp.doP (uM k) sA (uA bX ev) = (1, sA)
  t4 : Cp.stateN (uM k) sA bT = want
  n1 : (uS k).now = 0
  n2 : sA.now = 0
theorem u_is2 : Mp.isB (uM 2) = true := by kernel_rfl
theorem u_f2_3 : UFact 2 3 0 3 (uT 2 3) := ⟨Prod.ext (show (Cp.doP (uM 2) (uS 2) (uA bT 3)).1 = 0 by kernel_rfl) rfl, by kernel_rfl, by kernel_rfl, by kernel_rfl, by kernel_rfl, by kernel_rfl⟩
theorem u_f2_4 : UFact 2 4 8 2 (uT 2 4) := ⟨Prod.ext (show (Cp.doP (uM 2) (uS 2) (uA bT 4)).1 = 8 by kernel_rfl) rfl, by kernel_rfl, by kernel_rfl, by kernel_rfl, by kernel_rfl, by kernel_rfl⟩
theorem u_f2_5 : UFact 2 5 0 4 (uT 2 5) := ⟨Prod.ext (show (Cp.doP (uM 2) (uS 2) (uA bT 5)).1 = 0 by kernel_rfl) rfl, by kernel_rfl, by kernel_rfl, by kernel_rfl, by kernel_rfl, by kernel_rfl⟩
theorem u_f2_o (ev : Int) (h3 : ev ≠ 3) (h4 : ev ≠ 4) (h5 : ev ≠ 5) : UFact 2 ev 8 2 (uS 2) := ⟨Cp.user_no (k := 0) (by kernel_rfl) (by kernel_rfl) (Cp.may_other h3 h4 h5), Cp.user_plan (by kernel_rfl) (by kernel_rfl), Cp.user_none (by kernel_rfl) (by kernel_rfl), by kernel_rfl, by kernel_rfl, by kernel_rfl⟩
theorem u_is3 : Mp.isB (uM 3) = true := by kernel_rfl
theorem u_f3_3 : UFact 3 3 8 1 (uT 3 3) := ⟨Prod.ext (show (Cp.doP (uM 3) (uS 3) (uA bT 3)).1 = 8 by kernel_rfl) rfl, by kernel_rfl, by kernel_rfl, by kernel_rfl, by kernel_rfl, by kernel_rfl⟩
theorem u_f3_4 : UFact 3 4 8 1 (uT 3 4) := ⟨Prod.ext (show (Cp.doP (uM 3) (uS 3) (uA bT 4)).1 = 8 by kernel_rfl) rfl, by kernel_rfl, by kernel_rfl, by kernel_rfl, by kernel_rfl, by kernel_rfl⟩
theorem u_f3_5 : UFact 3 5 0 4 (uT 3 5) := ⟨Prod.ext (show (Cp.doP (uM 3) (uS 3) (uA bT 5)).1 = 0 by kernel_rfl) rfl, by kernel_rfl, by kernel_rfl, by kernel_rfl, by kernel_rfl, by kernel_rfl⟩
theorem u_f3_o (ev : Int) (h3 : ev ≠ 3) (h4 : ev ≠ 4) (h5 : ev ≠ 5) : UFact 3 ev 8 1 (uS 3) := ⟨Cp.user_no (k := 0) (by kernel_rfl) (by kernel_rfl) (Cp.may_other h3 h4 h5), Cp.user_plan (by kernel_rfl) (by kernel_rfl), Cp.user_none (by kernel_rfl) (by kernel_rfl), by kernel_rfl, by kernel_rfl, by kernel_rfl⟩
theorem u_is4 : Mp.isB (uM 4) = true := by kernel_rfl
theorem u_f4_3 : UFact 4 3 8 1 (uT 4 3) := ⟨Prod.ext (show (Cp.doP (uM 4) (uS 4) (uA bT 3)).1 = 8 by kernel_rfl) rfl, by kernel_rfl, by kernel_rfl, by kernel_rfl, by kernel_rfl, by kernel_rfl⟩
theorem u_f4_4 : UFact 4 4 0 3 (uT 4 4) := ⟨Prod.ext (show (Cp.doP (uM 4) (uS 4) (uA bT 4)).1 = 0 by kernel_rfl) rfl, by kernel_rfl, by kernel_rfl, by kernel_rfl, by kernel_rfl, by kernel_rfl⟩
theorem u_f4_5 : UFact 4 5 0 4 (uT 4 5) := ⟨Prod.ext (show (Cp.doP (uM 4) (uS 4) (uA bT 5)).1 = 0 by kernel_rfl) rfl, by kernel_rfl, by kernel_rfl, by kernel_rfl, by kernel_rfl, by kernel_rfl⟩
theorem u_f4_o (ev : Int) (h3 : ev ≠ 3) (h4 : ev ≠ 4) (h5 : ev ≠ 5) : UFact 4 ev 8 1 (uS 4) := ⟨Cp.user_no (k := 0) (by kernel_rfl) (by kernel_rfl) (Cp.may_other h3 h4 h5), Cp.user_plan (by kernel_rfl) (by kernel_rfl), Cp.user_none (by kernel_rfl) (by kernel_rfl), by kernel_rfl, by kernel_rfl, by kernel_rfl⟩
theorem u_is5 : Mp.isB (uM 5) = true := by kernel_rfl
theorem u_f5_3 : UFact 5 3 8 1 (uT 5 3) := ⟨Prod.ext (show (Cp.doP (uM 5) (uS 5) (uA bT 3)).1 = 8 by kernel_rfl) rfl, by kernel_rfl, by kernel_rfl, by kernel_rfl, by kernel_rfl, by kernel_rfl⟩
theorem u_f5_4 : UFact 5 4 8 1 (uT 5 4) := ⟨Prod.ext (show (Cp.doP (uM 5) (uS 5) (uA bT 4)).1 = 8 by kernel_rfl) rfl, by kernel_rfl, by kernel_rfl, by kernel_rfl, by kernel_rfl, by kernel_rfl⟩
theorem u_f5_5 : UFact 5 5 0 4 (uT 5 5) := ⟨Prod.ext (show (Cp.doP (uM 5) (uS 5) (uA bT 5)).1 = 0 by kernel_rfl) rfl, by kernel_rfl, by kernel_rfl, by kernel_rfl, by kernel_rfl, by kernel_rfl⟩
theorem u_f5_o (ev : Int) (h3 : ev ≠ 3) (h4 : ev ≠ 4) (h5 : ev ≠ 5) : UFact 5 ev 8 1 (uS 5) := ⟨Cp.user_no (k := 0) (by kernel_rfl) (by kernel_rfl) (Cp.may_other h3 h4 h5), Cp.user_plan (by kernel_rfl) (by kernel_rfl), Cp.user_none (by kernel_rfl) (by kernel_rfl), by kernel_rfl, by kernel_rfl, by kernel_rfl⟩
theorem u_model2 (w W : World) (hW : (w.alloc (.cells #[.string bT, .int .i64 2, .string bP, .bool false, .int .i64 0, .slice none 0 0, .slice none 0 0] 24)).alloc (.cells #[.string bP, .int .i64 1, .string ⟨#[]⟩, .bool false, .int .i64 0, .slice none 0 0, .slice none 0 0, .string bT, .int .i64 2, .string bP, .bool false, .int .i64 0, .slice none 0 0, .slice none 0 0, .string bK, .int .i64 2, .string bP, .bool false, .int .i64 0, .slice none 0 0, .slice none 0 0] 24) = W) : Below w.heap.size w W ∧ ModelAt W none 0 (some ⟨w.heap.size + 1, 0, none⟩) 3 (uM 2) := by
  generalize h0 : w.alloc _ = W0 at hW
  obtain ⟨B0, L0, z0⟩ := of_alloc h0
  obtain ⟨B1, L1, z1⟩ := of_alloc hW
  rw [show W0.heap.size = w.heap.size + 1 from z0] at L1
  refine ⟨belowS B0 B1, rowR_nil W, irow_bare (H := 0) (own_of_lies (z := 7) (n := 3) L1 (Nat.zero_le _) rfl (by decide)) rfl (by decide) (fun x hx => ?_)⟩
  simp only [uM, List.mem_cons, List.mem_nil_iff, or_false] at hx
  rcases hx with rfl | rfl | rfl <;> exact ⟨by decide, by decide, rfl, rfl⟩
theorem u_model3 (w W : World) (hW : ((((w.alloc (.cells #[.string bT, .int .i64 3, .string bP, .bool false, .int .i64 0, .slice (some ⟨w.heap.size + 2, 0, none⟩) 1 1, .slice none 0 0] 24)).alloc (.cells #[.string bK, .int .i64 3] 26)).alloc (.cells #[.slice (some ⟨w.heap.size + 1, 0, none⟩) 1 1, .slice none 0 0] 30))).alloc (.cells #[.string bP, .int .i64 1, .string ⟨#[]⟩, .bool false, .int .i64 0, .slice none 0 0, .slice none 0 0, .string bT, .int .i64 3, .string bP, .bool false, .int .i64 0, .slice (some ⟨w.heap.size + 2, 0, none⟩) 1 1, .slice none 0 0, .string bK, .int .i64 2, .string bP, .bool false, .int .i64 0, .slice none 0 0, .slice none 0 0] 24) = W) : Below w.heap.size w W ∧ ModelAt W none 0 (some ⟨w.heap.size + 3, 0, none⟩) 3 (uM 3) := by
  generalize h0 : w.alloc _ = W0 at hW
  obtain ⟨B0, L0, z0⟩ := of_alloc h0
  generalize h1 : W0.alloc _ = W1 at hW
  obtain ⟨B1, L1, z1⟩ := of_alloc h1
  generalize h2 : W1.alloc _ = W2 at hW
  obtain ⟨B2, L2, z2⟩ := of_alloc h2
  obtain ⟨B3, L3, z3⟩ := of_alloc hW
  rw [show W0.heap.size = w.heap.size + 1 from z0] at L1
  rw [show W1.heap.size = w.heap.size + 2 by omega] at L2
  rw [show W2.heap.size = w.heap.size + 3 by omega] at L3
  have L2' := L2.below B3
  have L1' := (L1.below B2).below B3
  have rO : ORow W (.slice (some ⟨w.heap.size + 1, 0, none⟩) 1 1) [(bK, 3)] := row1 [.string bK, .int .i64 3] _ L1' rfl ⟨rfl, by decide⟩
  have rS : SRow W (.slice (some ⟨w.heap.size + 2, 0, none⟩) 1 1) [([(bK, 3)], [])] := row1 [.slice (some ⟨w.heap.size + 1, 0, none⟩) 1 1, nilS] _ L2' rfl ⟨_, _, rfl, rO, rowR_nil W⟩
  refine ⟨belowS (belowS (belowS B0 B1) B2) B3, rowR_nil W, ?_⟩
  refine rowL [itemC ⟨bP, 1, Mp.e0, false, 0, [], []⟩ nilS nilS, itemC (uX 3) (.slice (some ⟨w.heap.size + 2, 0, none⟩) 1 1) nilS, itemC ⟨bK, 2, bP, false, 0, [], []⟩ nilS nilS] _ L3 rfl rfl (by simp) rfl (by decide) (fun i x cs hx hcs => ?_)
  unfold uM at hx
  rcases i with _ | _ | _ | i <;> simp at hx hcs
  all_goals (obtain rfl := hx; obtain rfl := hcs)
  · exact ⟨_, _, rfl, ⟨by decide, by decide⟩, rowR_nil W, rowR_nil W⟩
  · exact ⟨_, _, rfl, ⟨by decide, by decide⟩, rS, rowR_nil W⟩
  · exact ⟨_, _, rfl, ⟨by decide, by decide⟩, rowR_nil W, rowR_nil W⟩
theorem u_model4 (w W : World) (hW : (w.alloc (.cells #[.string bT, .int .i64 4, .string bP, .bool false, .int .i64 0, .slice none 0 0, .slice none 0 0] 24)).alloc (.cells #[.string bP, .int .i64 1, .string ⟨#[]⟩, .bool false, .int .i64 0, .slice none 0 0, .slice none 0 0, .string bT, .int .i64 4, .string bP, .bool false, .int .i64 0, .slice none 0 0, .slice none 0 0, .string bK, .int .i64 2, .string bP, .bool false, .int .i64 0, .slice none 0 0, .slice none 0 0] 24) = W) : Below w.heap.size w W ∧ ModelAt W none 0 (some ⟨w.heap.size + 1, 0, none⟩) 3 (uM 4) := by
  generalize h0 : w.alloc _ = W0 at hW
  obtain ⟨B0, L0, z0⟩ := of_alloc h0
  obtain ⟨B1, L1, z1⟩ := of_alloc hW
  rw [show W0.heap.size = w.heap.size + 1 from z0] at L1
  refine ⟨belowS B0 B1, rowR_nil W, irow_bare (H := 0) (own_of_lies (z := 7) (n := 3) L1 (Nat.zero_le _) rfl (by decide)) rfl (by decide) (fun x hx => ?_)⟩
  simp only [uM, List.mem_cons, List.mem_nil_iff, or_false] at hx
  rcases hx with rfl | rfl | rfl <;> exact ⟨by decide, by decide, rfl, rfl⟩
theorem u_model5 (w W : World) (hW : (w.alloc (.cells #[.string bT, .int .i64 5, .string bP, .bool false, .int .i64 5, .slice none 0 0, .slice none 0 0] 24)).alloc (.cells #[.string bP, .int .i64 1, .string ⟨#[]⟩, .bool false, .int .i64 0, .slice none 0 0, .slice none 0 0, .string bT, .int .i64 5, .string bP, .bool false, .int .i64 5, .slice none 0 0, .slice none 0 0, .string bK, .int .i64 2, .string bP, .bool false, .int .i64 0, .slice none 0 0, .slice none 0 0] 24) = W) : Below w.heap.size w W ∧ ModelAt W none 0 (some ⟨w.heap.size + 1, 0, none⟩) 3 (uM 5) := by
  generalize h0 : w.alloc _ = W0 at hW
  obtain ⟨B0, L0, z0⟩ := of_alloc h0
  obtain ⟨B1, L1, z1⟩ := of_alloc hW
  rw [show W0.heap.size = w.heap.size + 1 from z0] at L1
  refine ⟨belowS B0 B1, rowR_nil W, irow_bare (H := 0) (own_of_lies (z := 7) (n := 3) L1 (Nat.zero_le _) rfl (by decide)) rfl (by decide) (fun x hx => ?_)⟩
  simp only [uM, List.mem_cons, List.mem_nil_iff, or_false] at hx
  rcases hx with rfl | rfl | rfl <;> exact ⟨by decide, by decide, rfl, rfl⟩
set_option maxHeartbeats 8000000 in
theorem users_2_3 (w : World) : Calls Try.prog 3 #[.int .i64 2, .int .i64 3] w fun e w' => e = .returned (.bool true) ∧ Below w.heap.size w w' := by
  have HF := hideT u_f2_3
  obtain ⟨sA, hsA⟩ : ∃ s, uT 2 3 = s := ⟨_, rfl⟩
  rw [hsA] at HF
  clear hsA
  go_enter Try.func3, Try.ntmps3
  go_wp2_with fail
  generalize hW : (World.alloc (World.alloc w _) _) = W
  obtain ⟨B, M⟩ := u_model2 w W hW
  have HN := hideT (Lc.new (w0 := w) B (uM 2) none (some ⟨w.heap.size + 1, 0, none⟩) 0 3 M (u_light 2) u_is2 0 3 rfl rfl (uS 2) rfl)
  clear hW B M
  refine HN.out.mono ?_
  rintro e w1 ⟨K, rfl, c1⟩
  have C1 := hideT c1
  clear c1
  go_wp2_with fail
  refine (C1.out.do (by rw [HF.out.n1]; decide) (uA bT 3) 0 sA HF.out.d1).mono ?_
  rintro e w2 ⟨rfl, c2⟩
  have C2 := hideT c2
  clear c2
  go_wp2_with fail
  refine (C2.out.do (by rw [HF.out.n2]; decide) (uA bP 3) 1 sA HF.out.d2).mono ?_
  rintro e w3 ⟨rfl, c3⟩
  have C3 := hideT c3
  clear c3
  go_wp2_with fail
  refine (C3.out.do (by rw [HF.out.n2]; decide) (uA bX 3) 1 sA HF.out.d3).mono ?_
  rintro e w4 ⟨rfl, c4⟩
  have C4 := hideT c4
  clear c4
  go_wp2_with fail
  refine (C4.out.state bT 3 HF.out.t4).mono ?_
  rintro e w5 ⟨rfl, c5⟩
  have C5 := hideT c5
  clear c5
  go_wp2_with fail
  refine (known9 w5).mono ?_
  rintro e w6 ⟨rfl, b6⟩
  have HB := hideT (C5.out.base.trans (b6.mono C5.out.base.size))
  clear b6
  go_wp2_with fail
  go_ret
  exact ⟨rfl, HB.out⟩
set_option maxHeartbeats 8000000 in
theorem users_2_4 (w : World) : Calls Try.prog 3 #[.int .i64 2, .int .i64 4] w fun e w' => e = .returned (.bool true) ∧ Below w.heap.size w w' := by
  have HF := hideT u_f2_4
  obtain ⟨sA, hsA⟩ : ∃ s, uT 2 4 = s := ⟨_, rfl⟩
  rw [hsA] at HF
  clear hsA
  go_enter Try.func3, Try.ntmps3
  go_wp2_with fail
  generalize hW : (World.alloc (World.alloc w _) _) = W
  obtain ⟨B, M⟩ := u_model2 w W hW
  have HN := hideT (Lc.new (w0 := w) B (uM 2) none (some ⟨w.heap.size + 1, 0, none⟩) 0 3 M (u_light 2) u_is2 0 3 rfl rfl (uS 2) rfl)
  clear hW B M
  refine HN.out.mono ?_
  rintro e w1 ⟨K, rfl, c1⟩
  have C1 := hideT c1
  clear c1
  go_wp2_with fail
  refine (C1.out.do (by rw [HF.out.n1]; decide) (uA bT 4) 8 sA HF.out.d1).mono ?_
  rintro e w2 ⟨rfl, c2⟩
  have C2 := hideT c2
  clear c2
  go_wp2_with fail
  refine (C2.out.do (by rw [HF.out.n2]; decide) (uA bP 4) 1 sA HF.out.d2).mono ?_
  rintro e w3 ⟨rfl, c3⟩
  have C3 := hideT c3
  clear c3
  go_wp2_with fail
  refine (C3.out.do (by rw [HF.out.n2]; decide) (uA bX 4) 1 sA HF.out.d3).mono ?_
  rintro e w4 ⟨rfl, c4⟩
  have C4 := hideT c4
  clear c4
  go_wp2_with fail
  refine (C4.out.state bT 2 HF.out.t4).mono ?_
  rintro e w5 ⟨rfl, c5⟩
  have C5 := hideT c5
  clear c5
  go_wp2_with fail
  refine (known9 w5).mono ?_
  rintro e w6 ⟨rfl, b6⟩
  have HB := hideT (C5.out.base.trans (b6.mono C5.out.base.size))
  clear b6
  go_wp2_with fail
  go_ret
  exact ⟨rfl, HB.out⟩
set_option maxHeartbeats 8000000 in
theorem users_2_5 (w : World) : Calls Try.prog 3 #[.int .i64 2, .int .i64 5] w fun e w' => e = .returned (.bool true) ∧ Below w.heap.size w w' := by
  have HF := hideT u_f2_5
  obtain ⟨sA, hsA⟩ : ∃ s, uT 2 5 = s := ⟨_, rfl⟩
  rw [hsA] at HF
  clear hsA
  go_enter Try.func3, Try.ntmps3
  go_wp2_with fail
  generalize hW : (World.alloc (World.alloc w _) _) = W
  obtain ⟨B, M⟩ := u_model2 w W hW
  have HN := hideT (Lc.new (w0 := w) B (uM 2) none (some ⟨w.heap.size + 1, 0, none⟩) 0 3 M (u_light 2) u_is2 0 3 rfl rfl (uS 2) rfl)
  clear hW B M
  refine HN.out.mono ?_
  rintro e w1 ⟨K, rfl, c1⟩
  have C1 := hideT c1
  clear c1
  go_wp2_with fail
  refine (C1.out.do (by rw [HF.out.n1]; decide) (uA bT 5) 0 sA HF.out.d1).mono ?_
  rintro e w2 ⟨rfl, c2⟩
  have C2 := hideT c2
  clear c2
  go_wp2_with fail
  refine (C2.out.do (by rw [HF.out.n2]; decide) (uA bP 5) 1 sA HF.out.d2).mono ?_
  rintro e w3 ⟨rfl, c3⟩
  have C3 := hideT c3
  clear c3
  go_wp2_with fail
  refine (C3.out.do (by rw [HF.out.n2]; decide) (uA bX 5) 1 sA HF.out.d3).mono ?_
  rintro e w4 ⟨rfl, c4⟩
  have C4 := hideT c4
  clear c4
  go_wp2_with fail
  refine (C4.out.state bT 4 HF.out.t4).mono ?_
  rintro e w5 ⟨rfl, c5⟩
  have C5 := hideT c5
  clear c5
  go_wp2_with fail
  refine (known9 w5).mono ?_
  rintro e w6 ⟨rfl, b6⟩
  have HB := hideT (C5.out.base.trans (b6.mono C5.out.base.size))
  clear b6
  go_wp2_with fail
  go_ret
  exact ⟨rfl, HB.out⟩
set_option maxHeartbeats 8000000 in
theorem users_2_o (ev : Int) (h3 : ev ≠ 3) (h4 : ev ≠ 4) (h5 : ev ≠ 5) (w : World) : Calls Try.prog 3 #[.int .i64 2, .int .i64 ev] w fun e w' => e = .returned (.bool true) ∧ Below w.heap.size w w' := by
  have e3 : (ev == (3 : Int)) = false := beq_eq_false_iff_ne.2 h3
  have e4 : (ev == (4 : Int)) = false := beq_eq_false_iff_ne.2 h4
  have e5 : (ev == (5 : Int)) = false := beq_eq_false_iff_ne.2 h5
  have HF := hideT (u_f2_o ev h3 h4 h5)
  clear h3 h4 h5
  obtain ⟨sA, hsA⟩ : ∃ s, uS 2 = s := ⟨_, rfl⟩
  rw [hsA] at HF
  clear hsA
  go_enter Try.func3, Try.ntmps3
  go_wp2_with fail
  generalize hW : (World.alloc (World.alloc w _) _) = W
  obtain ⟨B, M⟩ := u_model2 w W hW
  have HN := hideT (Lc.new (w0 := w) B (uM 2) none (some ⟨w.heap.size + 1, 0, none⟩) 0 3 M (u_light 2) u_is2 0 3 rfl rfl (uS 2) rfl)
  clear hW B M
  refine HN.out.mono ?_
  rintro e w1 ⟨K, rfl, c1⟩
  have C1 := hideT c1
  clear c1
  go_wp2_with fail
  refine (C1.out.do (by rw [HF.out.n1]; decide) (uA bT ev) 8 sA HF.out.d1).mono ?_
  rintro e w2 ⟨rfl, c2⟩
  have C2 := hideT c2
  clear c2
  go_wp2_with fail
  refine (C2.out.do (by rw [HF.out.n2]; decide) (uA bP ev) 1 sA HF.out.d2).mono ?_
  rintro e w3 ⟨rfl, c3⟩
  have C3 := hideT c3
  clear c3
  go_wp2_with fail
  refine (C3.out.do (by rw [HF.out.n2]; decide) (uA bX ev) 1 sA HF.out.d3).mono ?_
  rintro e w4 ⟨rfl, c4⟩
  have C4 := hideT c4
  clear c4
  go_wp2_with fail
  refine (C4.out.state bT 2 HF.out.t4).mono ?_
  rintro e w5 ⟨rfl, c5⟩
  have C5 := hideT c5
  clear c5
  go_wp2_with fail
  refine (known9 w5).mono ?_
  rintro e w6 ⟨rfl, b6⟩
  have HB := hideT (C5.out.base.trans (b6.mono C5.out.base.size))
  clear b6
  go_wp2_with fail
  go_ret
  exact ⟨rfl, HB.out⟩
set_option maxHeartbeats 8000000 in
theorem users_3_3 (w : World) : Calls Try.prog 3 #[.int .i64 3, .int .i64 3] w fun e w' => e = .returned (.bool true) ∧ Below w.heap.size w w' := by
  have HF := hideT u_f3_3
  obtain ⟨sA, hsA⟩ : ∃ s, uT 3 3 = s := ⟨_, rfl⟩
  rw [hsA] at HF
  clear hsA
  go_enter Try.func3, Try.ntmps3
  go_wp2_with fail
  generalize hW : (World.alloc (World.alloc (World.alloc (World.alloc w _) _) _) _) = W
  obtain ⟨B, M⟩ := u_model3 w W hW
  have HN := hideT (Lc.new (w0 := w) B (uM 3) none (some ⟨w.heap.size + 3, 0, none⟩) 0 3 M (u_light 3) u_is3 0 3 rfl rfl (uS 3) rfl)
  clear hW B M
  refine HN.out.mono ?_
  rintro e w1 ⟨K, rfl, c1⟩
  have C1 := hideT c1
  clear c1
  go_wp2_with fail
  refine (C1.out.do (by rw [HF.out.n1]; decide) (uA bT 3) 8 sA HF.out.d1).mono ?_
  rintro e w2 ⟨rfl, c2⟩
  have C2 := hideT c2
  clear c2
  go_wp2_with fail
  refine (C2.out.do (by rw [HF.out.n2]; decide) (uA bP 3) 1 sA HF.out.d2).mono ?_
  rintro e w3 ⟨rfl, c3⟩
  have C3 := hideT c3
  clear c3
  go_wp2_with fail
  refine (C3.out.do (by rw [HF.out.n2]; decide) (uA bX 3) 1 sA HF.out.d3).mono ?_
  rintro e w4 ⟨rfl, c4⟩
  have C4 := hideT c4
  clear c4
  go_wp2_with fail
  refine (C4.out.state bT 1 HF.out.t4).mono ?_
  rintro e w5 ⟨rfl, c5⟩
  have C5 := hideT c5
  clear c5
  go_wp2_with fail
  refine (known9 w5).mono ?_
  rintro e w6 ⟨rfl, b6⟩
  have HB := hideT (C5.out.base.trans (b6.mono C5.out.base.size))
  clear b6
  go_wp2_with fail
  go_ret
  exact ⟨rfl, HB.out⟩
set_option maxHeartbeats 8000000 in
theorem users_3_4 (w : World) : Calls Try.prog 3 #[.int .i64 3, .int .i64 4] w fun e w' => e = .returned (.bool true) ∧ Below w.heap.size w w' := by
  have HF := hideT u_f3_4
  obtain ⟨sA, hsA⟩ : ∃ s, uT 3 4 = s := ⟨_, rfl⟩
  rw [hsA] at HF
  clear hsA
  go_enter Try.func3, Try.ntmps3
  go_wp2_with fail
  generalize hW : (World.alloc (World.alloc (World.alloc (World.alloc w _) _) _) _) = W
  obtain ⟨B, M⟩ := u_model3 w W hW
  have HN := hideT (Lc.new (w0 := w) B (uM 3) none (some ⟨w.heap.size + 3, 0, none⟩) 0 3 M (u_light 3) u_is3 0 3 rfl rfl (uS 3) rfl)
  clear hW B M
  refine HN.out.mono ?_
  rintro e w1 ⟨K, rfl, c1⟩
  have C1 := hideT c1
  clear c1
  go_wp2_with fail
  refine (C1.out.do (by rw [HF.out.n1]; decide) (uA bT 4) 8 sA HF.out.d1).mono ?_
  rintro e w2 ⟨rfl, c2⟩
  have C2 := hideT c2
  clear c2
  go_wp2_with fail
  refine (C2.out.do (by rw [HF.out.n2]; decide) (uA bP 4) 1 sA HF.out.d2).mono ?_
  rintro e w3 ⟨rfl, c3⟩
  have C3 := hideT c3
  clear c3
  go_wp2_with fail
  refine (C3.out.do (by rw [HF.out.n2]; decide) (uA bX 4) 1 sA HF.out.d3).mono ?_
  rintro e w4 ⟨rfl, c4⟩
  have C4 := hideT c4
  clear c4
  go_wp2_with fail
  refine (C4.out.state bT 1 HF.out.t4).mono ?_
  rintro e w5 ⟨rfl, c5⟩
  have C5 := hideT c5
  clear c5
  go_wp2_with fail
  refine (known9 w5).mono ?_
  rintro e w6 ⟨rfl, b6⟩
  have HB := hideT (C5.out.base.trans (b6.mono C5.out.base.size))
  clear b6
  go_wp2_with fail
  go_ret
  exact ⟨rfl, HB.out⟩
set_option maxHeartbeats 8000000 in
theorem users_3_5 (w : World) : Calls Try.prog 3 #[.int .i64 3, .int .i64 5] w fun e w' => e = .returned (.bool true) ∧ Below w.heap.size w w' := by
  have HF := hideT u_f3_5
  obtain ⟨sA, hsA⟩ : ∃ s, uT 3 5 = s := ⟨_, rfl⟩
  rw [hsA] at HF
  clear hsA
  go_enter Try.func3, Try.ntmps3
  go_wp2_with fail
  generalize hW : (World.alloc (World.alloc (World.alloc (World.alloc w _) _) _) _) = W
  obtain ⟨B, M⟩ := u_model3 w W hW
  have HN := hideT (Lc.new (w0 := w) B (uM 3) none (some ⟨w.heap.size + 3, 0, none⟩) 0 3 M (u_light 3) u_is3 0 3 rfl rfl (uS 3) rfl)
  clear hW B M
  refine HN.out.mono ?_
  rintro e w1 ⟨K, rfl, c1⟩
  have C1 := hideT c1
  clear c1
  go_wp2_with fail
  refine (C1.out.do (by rw [HF.out.n1]; decide) (uA bT 5) 0 sA HF.out.d1).mono ?_
  rintro e w2 ⟨rfl, c2⟩
  have C2 := hideT c2
  clear c2
  go_wp2_with fail
  refine (C2.out.do (by rw [HF.out.n2]; decide) (uA bP 5) 1 sA HF.out.d2).mono ?_
  rintro e w3 ⟨rfl, c3⟩
  have C3 := hideT c3
  clear c3
  go_wp2_with fail
  refine (C3.out.do (by rw [HF.out.n2]; decide) (uA bX 5) 1 sA HF.out.d3).mono ?_
  rintro e w4 ⟨rfl, c4⟩
  have C4 := hideT c4
  clear c4
  go_wp2_with fail
  refine (C4.out.state bT 4 HF.out.t4).mono ?_
  rintro e w5 ⟨rfl, c5⟩
  have C5 := hideT c5
  clear c5
  go_wp2_with fail
  refine (known9 w5).mono ?_
  rintro e w6 ⟨rfl, b6⟩
  have HB := hideT (C5.out.base.trans (b6.mono C5.out.base.size))
  clear b6
  go_wp2_with fail
  go_ret
  exact ⟨rfl, HB.out⟩
set_option maxHeartbeats 8000000 in
theorem users_3_o (ev : Int) (h3 : ev ≠ 3) (h4 : ev ≠ 4) (h5 : ev ≠ 5) (w : World) : Calls Try.prog 3 #[.int .i64 3, .int .i64 ev] w fun e w' => e = .returned (.bool true) ∧ Below w.heap.size w w' := by
  have e3 : (ev == (3 : Int)) = false := beq_eq_false_iff_ne.2 h3
  have e4 : (ev == (4 : Int)) = false := beq_eq_false_iff_ne.2 h4
  have e5 : (ev == (5 : Int)) = false := beq_eq_false_iff_ne.2 h5
  have HF := hideT (u_f3_o ev h3 h4 h5)
  clear h3 h4 h5
  obtain ⟨sA, hsA⟩ : ∃ s, uS 3 = s := ⟨_, rfl⟩
  rw [hsA] at HF
  clear hsA
  go_enter Try.func3, Try.ntmps3
  go_wp2_with fail
  generalize hW : (World.alloc (World.alloc (World.alloc (World.alloc w _) _) _) _) = W
  obtain ⟨B, M⟩ := u_model3 w W hW
  have HN := hideT (Lc.new (w0 := w) B (uM 3) none (some ⟨w.heap.size + 3, 0, none⟩) 0 3 M (u_light 3) u_is3 0 3 rfl rfl (uS 3) rfl)
  clear hW B M
  refine HN.out.mono ?_
  rintro e w1 ⟨K, rfl, c1⟩
  have C1 := hideT c1
  clear c1
  go_wp2_with fail
  refine (C1.out.do (by rw [HF.out.n1]; decide) (uA bT ev) 8 sA HF.out.d1).mono ?_
  rintro e w2 ⟨rfl, c2⟩
  have C2 := hideT c2
  clear c2
  go_wp2_with fail
  refine (C2.out.do (by rw [HF.out.n2]; decide) (uA bP ev) 1 sA HF.out.d2).mono ?_
  rintro e w3 ⟨rfl, c3⟩
  have C3 := hideT c3
  clear c3
  go_wp2_with fail
  refine (C3.out.do (by rw [HF.out.n2]; decide) (uA bX ev) 1 sA HF.out.d3).mono ?_
  rintro e w4 ⟨rfl, c4⟩
  have C4 := hideT c4
  clear c4
  go_wp2_with fail
  refine (C4.out.state bT 1 HF.out.t4).mono ?_
  rintro e w5 ⟨rfl, c5⟩
  have C5 := hideT c5
  clear c5
  go_wp2_with fail
  refine (known9 w5).mono ?_
  rintro e w6 ⟨rfl, b6⟩
  have HB := hideT (C5.out.base.trans (b6.mono C5.out.base.size))
  clear b6
  go_wp2_with fail
  go_ret
  exact ⟨rfl, HB.out⟩
set_option maxHeartbeats 8000000 in
theorem users_4_3 (w : World) : Calls Try.prog 3 #[.int .i64 4, .int .i64 3] w fun e w' => e = .returned (.bool true) ∧ Below w.heap.size w w' := by
  have HF := hideT u_f4_3
  obtain ⟨sA, hsA⟩ : ∃ s, uT 4 3 = s := ⟨_, rfl⟩
  rw [hsA] at HF
  clear hsA
  go_enter Try.func3, Try.ntmps3
  go_wp2_with fail
  generalize hW : (World.alloc (World.alloc w _) _) = W
  obtain ⟨B, M⟩ := u_model4 w W hW
  have HN := hideT (Lc.new (w0 := w) B (uM 4) none (some ⟨w.heap.size + 1, 0, none⟩) 0 3 M (u_light 4) u_is4 0 3 rfl rfl (uS 4) rfl)
  clear hW B M
  refine HN.out.mono ?_
  rintro e w1 ⟨K, rfl, c1⟩
  have C1 := hideT c1
  clear c1
  go_wp2_with fail
  refine (C1.out.do (by rw [HF.out.n1]; decide) (uA bT 3) 8 sA HF.out.d1).mono ?_
  rintro e w2 ⟨rfl, c2⟩
  have C2 := hideT c2
  clear c2
  go_wp2_with fail
  refine (C2.out.do (by rw [HF.out.n2]; decide) (uA bP 3) 1 sA HF.out.d2).mono ?_
  rintro e w3 ⟨rfl, c3⟩
  have C3 := hideT c3
  clear c3
  go_wp2_with fail
  refine (C3.out.do (by rw [HF.out.n2]; decide) (uA bX 3) 1 sA HF.out.d3).mono ?_
  rintro e w4 ⟨rfl, c4⟩
  have C4 := hideT c4
  clear c4
  go_wp2_with fail
  refine (C4.out.state bT 1 HF.out.t4).mono ?_
  rintro e w5 ⟨rfl, c5⟩
  have C5 := hideT c5
  clear c5
  go_wp2_with fail
  refine (known9 w5).mono ?_
  rintro e w6 ⟨rfl, b6⟩
  have HB := hideT (C5.out.base.trans (b6.mono C5.out.base.size))
  clear b6
  go_wp2_with fail
  go_ret
  exact ⟨rfl, HB.out⟩
set_option maxHeartbeats 8000000 in
theorem users_4_4 (w : World) : Calls Try.prog 3 #[.int .i64 4, .int .i64 4] w fun e w' => e = .returned (.bool true) ∧ Below w.heap.size w w' := by
  have HF := hideT u_f4_4
  obtain ⟨sA, hsA⟩ : ∃ s, uT 4 4 = s := ⟨_, rfl⟩
  rw [hsA] at HF
  clear hsA
  go_enter Try.func3, Try.ntmps3
  go_wp2_with fail
  generalize hW : (World.alloc (World.alloc w _) _) = W
  obtain ⟨B, M⟩ := u_model4 w W hW
  have HN := hideT (Lc.new (w0 := w) B (uM 4) none (some ⟨w.heap.size + 1, 0, none⟩) 0 3 M (u_light 4) u_is4 0 3 rfl rfl (uS 4) rfl)
  clear hW B M
  refine HN.out.mono ?_
  rintro e w1 ⟨K, rfl, c1⟩
  have C1 := hideT c1
  clear c1
  go_wp2_with fail
  refine (C1.out.do (by rw [HF.out.n1]; decide) (uA bT 4) 0 sA HF.out.d1).mono ?_
  rintro e w2 ⟨rfl, c2⟩
  have C2 := hideT c2
  clear c2
  go_wp2_with fail
  refine (C2.out.do (by rw [HF.out.n2]; decide) (uA bP 4) 1 sA HF.out.d2).mono ?_
  rintro e w3 ⟨rfl, c3⟩
  have C3 := hideT c3
  clear c3
  go_wp2_with fail
  refine (C3.out.do (by rw [HF.out.n2]; decide) (uA bX 4) 1 sA HF.out.d3).mono ?_
  rintro e w4 ⟨rfl, c4⟩
  have C4 := hideT c4
  clear c4
  go_wp2_with fail
  refine (C4.out.state bT 3 HF.out.t4).mono ?_
  rintro e w5 ⟨rfl, c5⟩
  have C5 := hideT c5
  clear c5
  go_wp2_with fail
  refine (known9 w5).mono ?_
  rintro e w6 ⟨rfl, b6⟩
  have HB := hideT (C5.out.base.trans (b6.mono C5.out.base.size))
  clear b6
  go_wp2_with fail
  go_ret
  exact ⟨rfl, HB.out⟩
set_option maxHeartbeats 8000000 in
theorem users_4_5 (w : World) : Calls Try.prog 3 #[.int .i64 4, .int .i64 5] w fun e w' => e = .returned (.bool true) ∧ Below w.heap.size w w' := by
  have HF := hideT u_f4_5
  obtain ⟨sA, hsA⟩ : ∃ s, uT 4 5 = s := ⟨_, rfl⟩
  rw [hsA] at HF
  clear hsA
  go_enter Try.func3, Try.ntmps3
  go_wp2_with fail
  generalize hW : (World.alloc (World.alloc w _) _) = W
  obtain ⟨B, M⟩ := u_model4 w W hW
  have HN := hideT (Lc.new (w0 := w) B (uM 4) none (some ⟨w.heap.size + 1, 0, none⟩) 0 3 M (u_light 4) u_is4 0 3 rfl rfl (uS 4) rfl)
  clear hW B M
  refine HN.out.mono ?_
  rintro e w1 ⟨K, rfl, c1⟩
  have C1 := hideT c1
  clear c1
  go_wp2_with fail
  refine (C1.out.do (by rw [HF.out.n1]; decide) (uA bT 5) 0 sA HF.out.d1).mono ?_
  rintro e w2 ⟨rfl, c2⟩
  have C2 := hideT c2
  clear c2
  go_wp2_with fail
  refine (C2.out.do (by rw [HF.out.n2]; decide) (uA bP 5) 1 sA HF.out.d2).mono ?_
  rintro e w3 ⟨rfl, c3⟩
  have C3 := hideT c3
  clear c3
  go_wp2_with fail
  refine (C3.out.do (by rw [HF.out.n2]; decide) (uA bX 5) 1 sA HF.out.d3).mono ?_
  rintro e w4 ⟨rfl, c4⟩
  have C4 := hideT c4
  clear c4
  go_wp2_with fail
  refine (C4.out.state bT 4 HF.out.t4).mono ?_
  rintro e w5 ⟨rfl, c5⟩
  have C5 := hideT c5
  clear c5
  go_wp2_with fail
  refine (known9 w5).mono ?_
  rintro e w6 ⟨rfl, b6⟩
  have HB := hideT (C5.out.base.trans (b6.mono C5.out.base.size))
  clear b6
  go_wp2_with fail
  go_ret
  exact ⟨rfl, HB.out⟩
set_option maxHeartbeats 8000000 in
theorem users_4_o (ev : Int) (h3 : ev ≠ 3) (h4 : ev ≠ 4) (h5 : ev ≠ 5) (w : World) : Calls Try.prog 3 #[.int .i64 4, .int .i64 ev] w fun e w' => e = .returned (.bool true) ∧ Below w.heap.size w w' := by
  have e3 : (ev == (3 : Int)) = false := beq_eq_false_iff_ne.2 h3
  have e4 : (ev == (4 : Int)) = false := beq_eq_false_iff_ne.2 h4
  have e5 : (ev == (5 : Int)) = false := beq_eq_false_iff_ne.2 h5
  have HF := hideT (u_f4_o ev h3 h4 h5)
  clear h3 h4 h5
  obtain ⟨sA, hsA⟩ : ∃ s, uS 4 = s := ⟨_, rfl⟩
  rw [hsA] at HF
  clear hsA
  go_enter Try.func3, Try.ntmps3
  go_wp2_with fail
  generalize hW : (World.alloc (World.alloc w _) _) = W
  obtain ⟨B, M⟩ := u_model4 w W hW
  have HN := hideT (Lc.new (w0 := w) B (uM 4) none (some ⟨w.heap.size + 1, 0, none⟩) 0 3 M (u_light 4) u_is4 0 3 rfl rfl (uS 4) rfl)
  clear hW B M
  refine HN.out.mono ?_
  rintro e w1 ⟨K, rfl, c1⟩
  have C1 := hideT c1
  clear c1
  go_wp2_with fail
  refine (C1.out.do (by rw [HF.out.n1]; decide) (uA bT ev) 8 sA HF.out.d1).mono ?_
  rintro e w2 ⟨rfl, c2⟩
  have C2 := hideT c2
  clear c2
  go_wp2_with fail
  refine (C2.out.do (by rw [HF.out.n2]; decide) (uA bP ev) 1 sA HF.out.d2).mono ?_
  rintro e w3 ⟨rfl, c3⟩
  have C3 := hideT c3
  clear c3
  go_wp2_with fail
  refine (C3.out.do (by rw [HF.out.n2]; decide) (uA bX ev) 1 sA HF.out.d3).mono ?_
  rintro e w4 ⟨rfl, c4⟩
  have C4 := hideT c4
  clear c4
  go_wp2_with fail
  refine (C4.out.state bT 1 HF.out.t4).mono ?_
  rintro e w5 ⟨rfl, c5⟩
  have C5 := hideT c5
  clear c5
  go_wp2_with fail
  refine (known9 w5).mono ?_
  rintro e w6 ⟨rfl, b6⟩
  have HB := hideT (C5.out.base.trans (b6.mono C5.out.base.size))
  clear b6
  go_wp2_with fail
  go_ret
  exact ⟨rfl, HB.out⟩
set_option maxHeartbeats 8000000 in
theorem users_5_3 (w : World) : Calls Try.prog 3 #[.int .i64 5, .int .i64 3] w fun e w' => e = .returned (.bool true) ∧ Below w.heap.size w w' := by
  have HF := hideT u_f5_3
  obtain ⟨sA, hsA⟩ : ∃ s, uT 5 3 = s := ⟨_, rfl⟩
  rw [hsA] at HF
  clear hsA
  go_enter Try.func3, Try.ntmps3
  go_wp2_with fail
  generalize hW : (World.alloc (World.alloc w _) _) = W
  obtain ⟨B, M⟩ := u_model5 w W hW
  have HN := hideT (Lc.new (w0 := w) B (uM 5) none (some ⟨w.heap.size + 1, 0, none⟩) 0 3 M (u_light 5) u_is5 0 3 rfl rfl (uS 5) rfl)
  clear hW B M
  refine HN.out.mono ?_
  rintro e w1 ⟨K, rfl, c1⟩
  have C1 := hideT c1
  clear c1
  go_wp2_with fail
  refine (C1.out.do (by rw [HF.out.n1]; decide) (uA bT 3) 8 sA HF.out.d1).mono ?_
  rintro e w2 ⟨rfl, c2⟩
  have C2 := hideT c2
  clear c2
  go_wp2_with fail
  refine (C2.out.do (by rw [HF.out.n2]; decide) (uA bP 3) 1 sA HF.out.d2).mono ?_
  rintro e w3 ⟨rfl, c3⟩
  have C3 := hideT c3
  clear c3
  go_wp2_with fail
  refine (C3.out.do (by rw [HF.out.n2]; decide) (uA bX 3) 1 sA HF.out.d3).mono ?_
  rintro e w4 ⟨rfl, c4⟩
  have C4 := hideT c4
  clear c4
  go_wp2_with fail
  refine (C4.out.state bT 1 HF.out.t4).mono ?_
  rintro e w5 ⟨rfl, c5⟩
  have C5 := hideT c5
  clear c5
  go_wp2_with fail
  refine (known9 w5).mono ?_
  rintro e w6 ⟨rfl, b6⟩
  have HB := hideT (C5.out.base.trans (b6.mono C5.out.base.size))
  clear b6
  go_wp2_with fail
  go_ret
  exact ⟨rfl, HB.out⟩
set_option maxHeartbeats 8000000 in
theorem users_5_4 (w : World) : Calls Try.prog 3 #[.int .i64 5, .int .i64 4] w fun e w' => e = .returned (.bool true) ∧ Below w.heap.size w w' := by
  have HF := hideT u_f5_4
  obtain ⟨sA, hsA⟩ : ∃ s, uT 5 4 = s := ⟨_, rfl⟩
  rw [hsA] at HF
  clear hsA
  go_enter Try.func3, Try.ntmps3
  go_wp2_with fail
  generalize hW : (World.alloc (World.alloc w _) _) = W
  obtain ⟨B, M⟩ := u_model5 w W hW
  have HN := hideT (Lc.new (w0 := w) B (uM 5) none (some ⟨w.heap.size + 1, 0, none⟩) 0 3 M (u_light 5) u_is5 0 3 rfl rfl (uS 5) rfl)
  clear hW B M
  refine HN.out.mono ?_
  rintro e w1 ⟨K, rfl, c1⟩
  have C1 := hideT c1
  clear c1
  go_wp2_with fail
  refine (C1.out.do (by rw [HF.out.n1]; decide) (uA bT 4) 8 sA HF.out.d1).mono ?_
  rintro e w2 ⟨rfl, c2⟩
  have C2 := hideT c2
  clear c2
  go_wp2_with fail
  refine (C2.out.do (by rw [HF.out.n2]; decide) (uA bP 4) 1 sA HF.out.d2).mono ?_
  rintro e w3 ⟨rfl, c3⟩
  have C3 := hideT c3
  clear c3
  go_wp2_with fail
  refine (C3.out.do (by rw [HF.out.n2]; decide) (uA bX 4) 1 sA HF.out.d3).mono ?_
  rintro e w4 ⟨rfl, c4⟩
  have C4 := hideT c4
  clear c4
  go_wp2_with fail
  refine (C4.out.state bT 1 HF.out.t4).mono ?_
  rintro e w5 ⟨rfl, c5⟩
  have C5 := hideT c5
  clear c5
  go_wp2_with fail
  refine (known9 w5).mono ?_
  rintro e w6 ⟨rfl, b6⟩
  have HB := hideT (C5.out.base.trans (b6.mono C5.out.base.size))
  clear b6
  go_wp2_with fail
  go_ret
  exact ⟨rfl, HB.out⟩
set_option maxHeartbeats 8000000 in
theorem users_5_5 (w : World) : Calls Try.prog 3 #[.int .i64 5, .int .i64 5] w fun e w' => e = .returned (.bool true) ∧ Below w.heap.size w w' := by
  have HF := hideT u_f5_5
  obtain ⟨sA, hsA⟩ : ∃ s, uT 5 5 = s := ⟨_, rfl⟩
  rw [hsA] at HF
  clear hsA
  go_enter Try.func3, Try.ntmps3
  go_wp2_with fail
  generalize hW : (World.alloc (World.alloc w _) _) = W
  obtain ⟨B, M⟩ := u_model5 w W hW
  have HN := hideT (Lc.new (w0 := w) B (uM 5) none (some ⟨w.heap.size + 1, 0, none⟩) 0 3 M (u_light 5) u_is5 0 3 rfl rfl (uS 5) rfl)
  clear hW B M
  refine HN.out.mono ?_
  rintro e w1 ⟨K, rfl, c1⟩
  have C1 := hideT c1
  clear c1
  go_wp2_with fail
  refine (C1.out.do (by rw [HF.out.n1]; decide) (uA bT 5) 0 sA HF.out.d1).mono ?_
  rintro e w2 ⟨rfl, c2⟩
  have C2 := hideT c2
  clear c2
  go_wp2_with fail
  refine (C2.out.do (by rw [HF.out.n2]; decide) (uA bP 5) 1 sA HF.out.d2).mono ?_
  rintro e w3 ⟨rfl, c3⟩
  have C3 := hideT c3
  clear c3
  go_wp2_with fail
  refine (C3.out.do (by rw [HF.out.n2]; decide) (uA bX 5) 1 sA HF.out.d3).mono ?_
  rintro e w4 ⟨rfl, c4⟩
  have C4 := hideT c4
  clear c4
  go_wp2_with fail
  refine (C4.out.state bT 4 HF.out.t4).mono ?_
  rintro e w5 ⟨rfl, c5⟩
  have C5 := hideT c5
  clear c5
  go_wp2_with fail
  refine (known9 w5).mono ?_
  rintro e w6 ⟨rfl, b6⟩
  have HB := hideT (C5.out.base.trans (b6.mono C5.out.base.size))
  clear b6
  go_wp2_with fail
  go_ret
  exact ⟨rfl, HB.out⟩
set_option maxHeartbeats 8000000 in
theorem users_5_o (ev : Int) (h3 : ev ≠ 3) (h4 : ev ≠ 4) (h5 : ev ≠ 5) (w : World) : Calls Try.prog 3 #[.int .i64 5, .int .i64 ev] w fun e w' => e = .returned (.bool true) ∧ Below w.heap.size w w' := by
  have e3 : (ev == (3 : Int)) = false := beq_eq_false_iff_ne.2 h3
  have e4 : (ev == (4 : Int)) = false := beq_eq_false_iff_ne.2 h4
  have e5 : (ev == (5 : Int)) = false := beq_eq_false_iff_ne.2 h5
  have HF := hideT (u_f5_o ev h3 h4 h5)
  clear h3 h4 h5
  obtain ⟨sA, hsA⟩ : ∃ s, uS 5 = s := ⟨_, rfl⟩
  rw [hsA] at HF
  clear hsA
  go_enter Try.func3, Try.ntmps3
  go_wp2_with fail
  generalize hW : (World.alloc (World.alloc w _) _) = W
  obtain ⟨B, M⟩ := u_model5 w W hW
  have HN := hideT (Lc.new (w0 := w) B (uM 5) none (some ⟨w.heap.size + 1, 0, none⟩) 0 3 M (u_light 5) u_is5 0 3 rfl rfl (uS 5) rfl)
  clear hW B M
  refine HN.out.mono ?_
  rintro e w1 ⟨K, rfl, c1⟩
  have C1 := hideT c1
  clear c1
  go_wp2_with fail
  refine (C1.out.do (by rw [HF.out.n1]; decide) (uA bT ev) 8 sA HF.out.d1).mono ?_
  rintro e w2 ⟨rfl, c2⟩
  have C2 := hideT c2
  clear c2
  go_wp2_with fail
  refine (C2.out.do (by rw [HF.out.n2]; decide) (uA bP ev) 1 sA HF.out.d2).mono ?_
  rintro e w3 ⟨rfl, c3⟩
  have C3 := hideT c3
  clear c3
  go_wp2_with fail
  refine (C3.out.do (by rw [HF.out.n2]; decide) (uA bX ev) 1 sA HF.out.d3).mono ?_
  rintro e w4 ⟨rfl, c4⟩
  have C4 := hideT c4
  clear c4
  go_wp2_with fail
  refine (C4.out.state bT 1 HF.out.t4).mono ?_
  rintro e w5 ⟨rfl, c5⟩
  have C5 := hideT c5
  clear c5
  go_wp2_with fail
  refine (known9 w5).mono ?_
  rintro e w6 ⟨rfl, b6⟩
  have HB := hideT (C5.out.base.trans (b6.mono C5.out.base.size))
  clear b6
  go_wp2_with fail
  go_ret
  exact ⟨rfl, HB.out⟩
theorem planUsers_walk (k : Int) (hk : (Lit.int .i64 k).wf = true) (ev : Int) (hv : (Lit.int .i64 ev).wf = true) {w : World} :
    Calls Try.prog 3 #[.int .i64 k, .int .i64 ev] w fun e w' => e = .returned (.bool true) ∧ Below w.heap.size w w' := by
  clear hk hv
  by_cases h2 : k < 2
  · go_enter Try.func3, Try.ntmps3
    go_wp2_with fail
    go_ret
    exact ⟨rfl, Below.refl _ _⟩
  have h2' : 2 ≤ k := by omega
  by_cases h5 : 5 < k
  · clear h2
    go_enter Try.func3, Try.ntmps3
    go_wp2_with fail
    go_ret
    exact ⟨rfl, Below.refl _ _⟩
  by_cases e3 : ev = 3
  · subst e3
    rcases (by omega : k = 2 ∨ k = 3 ∨ k = 4 ∨ k = 5) with rfl | rfl | rfl | rfl
    · exact users_2_3 w
    · exact users_3_3 w
    · exact users_4_3 w
    · exact users_5_3 w
  by_cases e4 : ev = 4
  · subst e4
    rcases (by omega : k = 2 ∨ k = 3 ∨ k = 4 ∨ k = 5) with rfl | rfl | rfl | rfl
    · exact users_2_4 w
    · exact users_3_4 w
    · exact users_4_4 w
    · exact users_5_4 w
  by_cases e5 : ev = 5
  · subst e5
    rcases (by omega : k = 2 ∨ k = 3 ∨ k = 4 ∨ k = 5) with rfl | rfl | rfl | rfl
    · exact users_2_5 w
    · exact users_3_5 w
    · exact users_4_5 w
    · exact users_5_5 w
  rcases (by omega : k = 2 ∨ k = 3 ∨ k = 4 ∨ k = 5) with rfl | rfl | rfl | rfl
  · exact users_2_o ev e3 e4 e5 w
  · exact users_3_o ev e3 e4 e5 w
  · exact users_4_o ev e3 e4 e5 w
  · exact users_5_o ev e3 e4 e5 w
end Go.Proofs.Ytpipjkbgbhefcab
