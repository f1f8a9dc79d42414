/-
  The walk of the law: a milestone occurs once all that it waits for has happened.
-/
import Derived.Test.YtpipjkbgbhefcabCBuild
set_option linter.unusedSimpArgs false
set_option linter.unusedVariables false
namespace Go.Proofs.Ytpipjkbgbhefcab
open Go.RowKit
set_option maxRecDepth 100000
abbrev bA : ByteArray := ⟨#[97]⟩
abbrev bB : ByteArray := ⟨#[98]⟩
abbrev bM : ByteArray := ⟨#[109]⟩
abbrev bF : ByteArray := ⟨#[102]⟩
def msSe : Mp.Sent := ([(bA, 4), (bB, 4)], [(bF, ⟨#[61]⟩, 3)])
def msI : List Mp.Item := [⟨bP, 1, Mp.e0, false, 0, [], []⟩, ⟨bA, 4, bP, false, 0, [], []⟩, ⟨bB, 4, bP, false, 0, [], []⟩, ⟨bK, 2, bP, false, 0, [], []⟩, ⟨bM, 3, bP, false, 0, [msSe], []⟩]
def msM : Mp.Model := ⟨[bF], msI⟩
def msS : Cp.St := Cp.newP msM
def msA (s : ByteArray) : Cp.ActP := ⟨1, s, 4, Mp.e0, 0⟩
def msN (n : Int) : Cp.ActP := ⟨2, Mp.e0, 0, bF, n⟩
theorem m_is : Mp.isB msM = true := by kernel_rfl
theorem m_now : msS.now = 0 := by kernel_rfl
theorem m_light : light msM := by
  refine ⟨by decide, by decide, fun x hx => ?_⟩
  simp only [msM, msI, List.mem_cons, List.mem_nil_iff, or_false] at hx
  rcases hx with rfl | rfl | rfl | rfl | rfl
  all_goals refine ⟨by decide, by decide, fun s hs => ?_, fun s hs => (by cases hs)⟩
  all_goals first | (cases hs; done) | (rw [List.mem_singleton.1 hs]; exact ⟨by decide, by decide⟩)
structure MFact (x y : ByteArray) (n want : Int) (s1 s2 s3 : Cp.St) : Prop where
  d1 : Cp.doP msM msS (msA x) = (0, s1)
  n1 : s1.now = 0
  t1 : Cp.stateN msM s1 bM = 1
  d2 : Cp.doP msM s1 (msA y) = (0, s2)
  n2 : s2.now = 0
  t2 : Cp.stateN msM s2 bM = 1
  d3 : Cp.doP msM s2 (msN n) = (0, s3)
  t3 : Cp.stateN msM s3 bM = want
def mT1 (x : ByteArray) : Cp.St := (Cp.doP msM msS (msA x)).2
def mT2 (x y : ByteArray) : Cp.St := (Cp.doP msM (mT1 x) (msA y)).2
def mT3 (x y : ByteArray) (n : Int) : Cp.St := (Cp.doP msM (mT2 x y) (msN n)).2
theorem m_fact (first : Bool) (n : Int) (h0 : 0 ≤ n) (h9 : n ≤ 9) : ∃ s1 s2 s3, MFact (if first then bA else bB) (if first then bB else bA) n (if n = 3 then 3 else 1) s1 s2 s3 := by
  refine ⟨mT1 (if first then bA else bB), mT2 (if first then bA else bB) (if first then bB else bA), mT3 (if first then bA else bB) (if first then bB else bA) n, ?_⟩
  cases first
  all_goals (rcases (by omega : n = 0 ∨ n = 1 ∨ n = 2 ∨ n = 3 ∨ n = 4 ∨ n = 5 ∨ n = 6 ∨ n = 7 ∨ n = 8 ∨ n = 9) with rfl | rfl | rfl | rfl | rfl | rfl | rfl | rfl | rfl | rfl)
  all_goals exact ⟨Prod.ext (by kernel_rfl) rfl, by kernel_rfl, by kernel_rfl, Prod.ext (by kernel_rfl) rfl, by kernel_rfl, by kernel_rfl, Prod.ext (by kernel_rfl) rfl, by kernel_rfl⟩
theorem m_model (w W : World) (hW : ((((((w.alloc (.cells #[.string bF] 9)).alloc (.cells #[.string bA, .int .i64 4, .string bB, .int .i64 4] 26)).alloc (.cells #[.string bF, .string ⟨#[61]⟩, .int .i64 3] 55)).alloc (.cells #[.slice (some ⟨w.heap.size + 1, 0, none⟩) 2 2, .slice (some ⟨w.heap.size + 2, 0, none⟩) 1 1] 30)).alloc (.cells #[.string bP, .int .i64 1, .string ⟨#[]⟩, .bool false, .int .i64 0, .slice none 0 0, .slice none 0 0, .string bA, .int .i64 4, .string bP, .bool false, .int .i64 0, .slice none 0 0, .slice none 0 0, .string bB, .int .i64 4, .string bP, .bool false, .int .i64 0, .slice none 0 0, .slice none 0 0, .string bK, .int .i64 2, .string bP, .bool false, .int .i64 0, .slice none 0 0, .slice none 0 0, .string bM, .int .i64 3, .string bP, .bool false, .int .i64 0, .slice (some ⟨w.heap.size + 3, 0, none⟩) 1 1, .slice none 0 0] 24))) = W) :
    Below w.heap.size w W ∧ W.heap.size = w.heap.size + 5 ∧ ModelAt W (some ⟨w.heap.size, 0, none⟩) 1 (some ⟨w.heap.size + 4, 0, none⟩) 5 msM := by
  generalize h0 : w.alloc _ = W0 at hW
  obtain ⟨B0, L0, z0⟩ := of_alloc h0
  generalize h1 : W0.alloc _ = W1 at hW
  obtain ⟨B1, L1, z1⟩ := of_alloc h1
  generalize h2 : W1.alloc _ = W2 at hW
  obtain ⟨B2, L2, z2⟩ := of_alloc h2
  generalize h3 : W2.alloc _ = W3 at hW
  obtain ⟨B3, L3, z3⟩ := of_alloc h3
  obtain ⟨B4, L4, z4⟩ := of_alloc hW
  have e1 : W0.heap.size = w.heap.size + 1 := z0
  have e2 : W1.heap.size = w.heap.size + 2 := by omega
  have e3 : W2.heap.size = w.heap.size + 3 := by omega
  have e4 : W3.heap.size = w.heap.size + 4 := by omega
  rw [e1] at L1
  rw [e2] at L2
  rw [e3] at L3
  rw [e4] at L4
  have L3' := L3.below B4
  have L2' := (L2.below B3).below B4
  have L1' := ((L1.below B2).below B3).below B4
  have L0' := (((L0.below B1).below B2).below B3).below B4
  have BB : Below w.heap.size w W := belowS (belowS (belowS (belowS B0 B1) B2) B3) B4
  have rF : FRow W (.slice (some ⟨w.heap.size, 0, none⟩) 1 1) [bF] := row1 [.string bF] bF L0' rfl ⟨rfl, by decide⟩
  have rO : ORow W (.slice (some ⟨w.heap.size + 1, 0, none⟩) 2 2) [(bA, 4), (bB, 4)] := by
    refine rowL [[.string bA, .int .i64 4], [.string bB, .int .i64 4]] _ L1' rfl rfl (by simp) rfl (by decide) (fun i x cs hx hcs => ?_)
    rcases i with _ | _ | i <;> simp at hx hcs
    all_goals (obtain rfl := hx; obtain rfl := hcs; exact ⟨rfl, by decide⟩)
  have rC : CRow W (.slice (some ⟨w.heap.size + 2, 0, none⟩) 1 1) [(bF, ⟨#[61]⟩, 3)] := row1 [.string bF, .string ⟨#[61]⟩, .int .i64 3] _ L2' rfl ⟨rfl, by decide, by decide⟩
  have rS : SRow W (.slice (some ⟨w.heap.size + 3, 0, none⟩) 1 1) [msSe] := row1 [.slice (some ⟨w.heap.size + 1, 0, none⟩) 2 2, .slice (some ⟨w.heap.size + 2, 0, none⟩) 1 1] _ L3' rfl ⟨_, _, rfl, rO, rC⟩
  have rI : IRow W (.slice (some ⟨w.heap.size + 4, 0, none⟩) 5 5) msI := by
    refine rowL [itemC ⟨bP, 1, Mp.e0, false, 0, [], []⟩ nilS nilS, itemC ⟨bA, 4, bP, false, 0, [], []⟩ nilS nilS, itemC ⟨bB, 4, bP, false, 0, [], []⟩ nilS nilS, itemC ⟨bK, 2, bP, false, 0, [], []⟩ nilS nilS, itemC ⟨bM, 3, bP, false, 0, [msSe], []⟩ (.slice (some ⟨w.heap.size + 3, 0, none⟩) 1 1) nilS] msI L4 rfl rfl (by simp) rfl (by decide) (fun i x cs hx hcs => ?_)
    unfold msI at hx
    rcases i with _ | _ | _ | _ | _ | i <;> simp at hx hcs
    all_goals (obtain rfl := hx; obtain rfl := hcs)
    · exact ⟨_, _, rfl, ⟨by decide, by decide⟩, rowR_nil W, rowR_nil W⟩
    · exact ⟨_, _, rfl, ⟨by decide, by decide⟩, rowR_nil W, rowR_nil W⟩
    · exact ⟨_, _, rfl, ⟨by decide, by decide⟩, rowR_nil W, rowR_nil W⟩
    · exact ⟨_, _, rfl, ⟨by decide, by decide⟩, rowR_nil W, rowR_nil W⟩
    · exact ⟨_, _, rfl, ⟨by decide, by decide⟩, rS, rowR_nil W⟩
  exact ⟨BB, by omega, rF, rI⟩
set_option maxHeartbeats 8000000 in
theorem planMilestone_walk (first : Bool) (n : Int) (hn : (Lit.int .i64 n).wf = true) {w : World} :
    Calls Try.prog 7 #[.bool first, .int .i64 n] w fun e w' => e = .returned (.bool true) ∧ Below w.heap.size w w' := by
  clear hn
  go_enter Try.func7, Try.ntmps7
  go_wp2_with fail
  generalize hW : (World.alloc (World.alloc (World.alloc (World.alloc (World.alloc w _) _) _) _) _) = W
  obtain ⟨B, z, M⟩ := m_model w W hW
  generalize hX : W.alloc _ = X
  obtain ⟨BX, LX, zX⟩ := of_alloc hX
  have HN := hideT (Lc.new (w0 := w) (belowS B BX) msM (some ⟨w.heap.size, 0, none⟩) (some ⟨w.heap.size + 4, 0, none⟩) 1 5 (M.below BX) m_light m_is 1 5 rfl rfl msS rfl)
  clear hW B z M hX BX LX zX
  refine HN.out.mono ?_
  rintro e w1 ⟨K, rfl, c1⟩
  have C1 := hideT c1
  clear c1 HN
  by_cases h0 : n < 0
  · go_wp2_with fail
    go_ret
    exact ⟨rfl, C1.out.base⟩
  have h0' : 0 ≤ n := by omega
  by_cases h9 : 9 < n
  · clear h0
    go_wp2_with fail
    go_ret
    exact ⟨rfl, C1.out.base⟩
  have h9' : n ≤ 9 := by omega
  obtain ⟨s1, s2, s3, hf⟩ := m_fact first n h0' h9'
  have HF := hideT hf
  clear hf h0 h9
  obtain ⟨want, hw⟩ : ∃ z : Int, (if n = 3 then 3 else 1) = z := ⟨_, rfl⟩
  have HW := hideT hw
  rw [hw] at HF
  clear hw
  cases first
  all_goals
    go_wp2_with fail
    refine (C1.out.do (by rw [m_now]; decide) _ 0 s1 HF.out.d1).mono ?_
    rintro e w2 ⟨rfl, c2⟩
    have C2 := hideT c2
    clear c2
    go_wp2_with fail
    refine (C2.out.state bM 1 HF.out.t1).mono ?_
    rintro e w3 ⟨rfl, c3⟩
    have C3 := hideT c3
    clear c3
    go_wp2_with fail
    refine (C3.out.do (by rw [HF.out.n1]; decide) _ 0 s2 HF.out.d2).mono ?_
    rintro e w4 ⟨rfl, c4⟩
    have C4 := hideT c4
    clear c4
    go_wp2_with fail
    refine (C4.out.state bM 1 HF.out.t2).mono ?_
    rintro e w5 ⟨rfl, c5⟩
    have C5 := hideT c5
    clear c5
    go_wp2_with fail
    refine (C5.out.do (by rw [HF.out.n2]; decide) (msN n) 0 s3 HF.out.d3).mono ?_
    rintro e w6 ⟨rfl, c6⟩
    have C6 := hideT c6
    clear c6
    by_cases h3 : n = 3
    · have HW3 : Hid (want = 3) := by show _ = _; rw [← HW.out, if_pos h3]
      have HT3 : Hid (Cp.stateN msM s3 bM = 3) := by show _ = _; rw [HF.out.t3, HW3.out]
      subst h3
      go_wp2_with fail
      refine (C6.out.state bM 3 HT3).mono ?_
      rintro e w7 ⟨rfl, c7⟩
      have C7 := hideT c7
      clear c7
      go_wp2_with fail
      refine (known9 w7).mono ?_
      rintro e w8 ⟨rfl, b8⟩
      have HB := hideT (C7.out.base.trans (b8.mono C7.out.base.size))
      clear b8
      go_wp2_with fail
      go_ret
      exact ⟨rfl, HB.out⟩
    · have HW3 : Hid (want = 1) := by show _ = _; rw [← HW.out, if_neg h3]
      have HT3 : Hid (Cp.stateN msM s3 bM = 1) := by show _ = _; rw [HF.out.t3, HW3.out]
      have e3 : (n == (3 : Int)) = false := beq_eq_false_iff_ne.2 h3
      clear h3
      go_wp2_with fail
      refine (C6.out.state bM 1 HT3).mono ?_
      rintro e w7 ⟨rfl, c7⟩
      have C7 := hideT c7
      clear c7
      go_wp2_with fail
      refine (known9 w7).mono ?_
      rintro e w8 ⟨rfl, b8⟩
      have HB := hideT (C7.out.base.trans (b8.mono C7.out.base.size))
      clear b8
      go_wp2_with fail
      go_ret
      exact ⟨rfl, HB.out⟩
end Go.Proofs.Ytpipjkbgbhefcab
