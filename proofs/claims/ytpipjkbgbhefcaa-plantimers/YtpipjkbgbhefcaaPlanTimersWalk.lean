/-
  The walk of the law: a timer occurs just as many ticks behind it was Ready as it says.
-/
import Derived.Test.YtpipjkbgbhefcaaCBuild
set_option linter.unusedSimpArgs false
set_option linter.unusedVariables false
namespace Go.Proofs.Ytpipjkbgbhefcaa
open Go.RowKit
set_option maxRecDepth 100000
abbrev tbS : ByteArray := ⟨#[115]⟩
abbrev tbF : ByteArray := ⟨#[102]⟩
def ttSe : Mp.Sent := ([], [(tbF, ⟨#[62]⟩, 0)])
def ttI (k : Int) : List Mp.Item := [⟨bP, 1, Mp.e0, false, 0, [], []⟩, ⟨tbS, 1, bP, true, 0, [ttSe], []⟩, ⟨bT, 5, tbS, false, k, [], []⟩, ⟨bK, 2, tbS, true, 0, [], []⟩]
def ttM (k : Int) : Mp.Model := ⟨[tbF], ttI k⟩
def ttA : Cp.St := Cp.newP (ttM 1)
def ttAt (st : Cp.St) (j : Int) : Cp.St := { st with now := j }
def ttW : Cp.ActP := ⟨2, Mp.e0, 0, tbF, 1⟩
theorem tt_new (k : Int) : Cp.newP (ttM k) = ttAt ttA 0 := by kernel_rfl
theorem tt_tick (k j : Int) : Cp.doP (ttM k) (ttAt ttA j) kA2 = (0, ttAt ttA (j + 1)) := by kernel_rfl
theorem tt_wait (k j : Int) : Cp.stateN (ttM k) (ttAt ttA j) bT = 0 := by kernel_rfl
/-- Behind the write, at j; the stage was opened at w. -/
def ttB (k w : Int) : Cp.St := (Cp.doP (ttM k) (ttAt ttA w) ttW).2
theorem tt_write (k w : Int) : (Cp.doP (ttM k) (ttAt ttA w) ttW).1 = 0 := by kernel_rfl
theorem tt_write2 (k w : Int) : Cp.doP (ttM k) (ttAt ttA w) ttW = (0, ttB k w) := by kernel_rfl
theorem tt_bnow (k w : Int) : ttB k w = ttAt (ttB k w) w := by kernel_rfl
theorem tt_b0 (k w : Int) : ttAt (ttB k w) (w + ((0 : Nat) : Int)) = ttB k w := by
  rw [show w + ((0 : Nat) : Int) = w by omega]
  exact (tt_bnow k w).symm
theorem tt_ready (k w j : Int) : Cp.stateN (ttM k) (ttAt (ttB k w) j) bT = 1 := by kernel_rfl
theorem tt_due (k w j : Int) : Cp.dueD (ttM k) (ttAt (ttB k w) j) = [0, 0, if w + k ≤ j then 4 else 0, 0] := by
  have e : Cp.dueD (ttM k) (ttAt (ttB k w) j) = [0, 0, if (5 : Int) = 5 ∧ (1 : Int) = 1 ∧ w + k ≤ j then 4 else 0, 0] := by kernel_rfl
  rw [e]
  simp
theorem tt_none (k w j : Int) : Cp.goes (ttM k) (ttAt (ttB k w) j) [0, 0, 0, 0] = ttAt (ttB k w) j := by kernel_rfl
theorem tt_next (k w j : Int) (h : j + 1 < w + k) : Cp.doP (ttM k) (ttAt (ttB k w) j) kA2 = (0, ttAt (ttB k w) (j + 1)) := by
  have h1 : Cp.doP (ttM k) (ttAt (ttB k w) j) kA2 = (0, Cp.goes (ttM k) (ttAt (ttB k w) (j + 1)) (Cp.dueD (ttM k) (ttAt (ttB k w) (j + 1)))) := by kernel_rfl
  rw [h1, tt_due, if_neg (by omega), tt_none]
def ttC (k w : Int) : Cp.St := Cp.goes (ttM k) (ttAt (ttB k w) (w + k)) [0, 0, 4, 0]
theorem tt_last (k w j : Int) (h : j + 1 = w + k) : Cp.doP (ttM k) (ttAt (ttB k w) j) kA2 = (0, ttC k w) := by
  have h1 : Cp.doP (ttM k) (ttAt (ttB k w) j) kA2 = (0, Cp.goes (ttM k) (ttAt (ttB k w) (j + 1)) (Cp.dueD (ttM k) (ttAt (ttB k w) (j + 1)))) := by kernel_rfl
  rw [h1, tt_due, if_pos (by omega), h]
  rfl
theorem tt_done (k w : Int) : Cp.stateN (ttM k) (ttC k w) bT = 3 := by kernel_rfl
theorem tt_open (k w : Int) : Cp.stateN (ttM k) (ttC k w) bK = 2 := by kernel_rfl
theorem tt_cnow (k w : Int) : (ttC k w).now = w + k := by kernel_rfl
theorem tt_is (k : Int) (h1 : 1 ≤ k) (h2 : k ≤ 100) : Mp.isB (ttM k) = true := by
  have hit : ∀ x ∈ ttI k, Mp.itemB (ttM k) x = true := by
    intro x hx
    simp only [ttI, List.mem_cons, List.mem_nil_iff, or_false] at hx
    rcases hx with rfl | rfl | rfl | rfl
    · kernel_rfl
    · kernel_rfl
    · unfold Mp.itemB
      rw [show Mp.ticksB ⟨bT, 5, tbS, false, k, [], []⟩ = (decide (1 ≤ k) && decide (k ≤ 100)) by kernel_rfl, decide_eq_true h1, decide_eq_true h2]
      kernel_rfl
    · kernel_rfl
  unfold Mp.isB
  rw [show Mp.filesB (ttM k).files = true by kernel_rfl, show Mp.idsB (ttM k).items = true by kernel_rfl, show Mp.headB (ttM k).items = true by kernel_rfl, show Mp.nestB (ttM k).items = true by kernel_rfl, show (ttM k).items.all (Mp.itemB (ttM k)) = true from List.all_eq_true.2 hit]
  rfl
theorem tt_light (k : Int) : light (ttM k) := by
  refine ⟨by simp [ttM], by simp [ttM, ttI], fun x hx => ?_⟩
  simp only [ttM, ttI, List.mem_cons, List.mem_nil_iff, or_false] at hx
  rcases hx with rfl | rfl | rfl | rfl
  all_goals refine ⟨by simp, by simp, fun s hs => ?_, fun s hs => (by cases hs)⟩
  all_goals first | (cases hs; done) | (rw [List.mem_singleton.1 hs]; exact ⟨by decide, by decide⟩)
theorem tt_model (w W : World) (k : Int) (hW : (((((w.alloc (.cells #[.string tbF] 9)).alloc (.cells #[.string tbF, .string ⟨#[62]⟩, .int .i64 0] 27)).alloc (.cells #[.slice none 0 0, .slice (some ⟨w.heap.size + 1, 0, none⟩) 1 1] 31)).alloc (.cells #[.string bP, .int .i64 1, .string ⟨#[]⟩, .bool false, .int .i64 0, .slice none 0 0, .slice none 0 0, .string tbS, .int .i64 1, .string bP, .bool true, .int .i64 0, .slice (some ⟨w.heap.size + 2, 0, none⟩) 1 1, .slice none 0 0, .string bT, .int .i64 5, .string tbS, .bool false, .int .i64 k, .slice none 0 0, .slice none 0 0, .string bK, .int .i64 2, .string tbS, .bool true, .int .i64 0, .slice none 0 0, .slice none 0 0] 25))) = W) :
    Below w.heap.size w W ∧ ModelAt W (some ⟨w.heap.size, 0, none⟩) 1 (some ⟨w.heap.size + 3, 0, none⟩) 4 (ttM k) := by
  generalize h0 : w.alloc _ = W0 at hW
  obtain ⟨B0, L0, z0⟩ := of_alloc h0
  generalize h1 : W0.alloc _ = W1 at hW
  obtain ⟨B1, L1, z1⟩ := of_alloc h1
  generalize h2 : W1.alloc _ = W2 at hW
  obtain ⟨B2, L2, z2⟩ := of_alloc h2
  obtain ⟨B3, L3, z3⟩ := of_alloc hW
  rw [show W0.heap.size = w.heap.size + 1 from z0] at L1
  rw [show W1.heap.size = w.heap.size + 2 by omega] at L2
  rw [show W2.heap.size = w.heap.size + 3 by omega] at L3
  have L2' := L2.below B3
  have L1' := (L1.below B2).below B3
  have L0' := ((L0.below B1).below B2).below B3
  have rF : FRow W (.slice (some ⟨w.heap.size, 0, none⟩) 1 1) [tbF] := row1 [.string tbF] tbF L0' rfl ⟨rfl, by decide⟩
  have rC : CRow W (.slice (some ⟨w.heap.size + 1, 0, none⟩) 1 1) [(tbF, ⟨#[62]⟩, 0)] := row1 [.string tbF, .string ⟨#[62]⟩, .int .i64 0] _ L1' rfl ⟨rfl, by decide, by decide⟩
  have rS : SRow W (.slice (some ⟨w.heap.size + 2, 0, none⟩) 1 1) [ttSe] := row1 [.slice none 0 0, .slice (some ⟨w.heap.size + 1, 0, none⟩) 1 1] _ L2' rfl ⟨_, _, rfl, rowR_nil W, rC⟩
  have rI : IRow W (.slice (some ⟨w.heap.size + 3, 0, none⟩) 4 4) (ttI k) := by
    refine rowL [itemC ⟨bP, 1, Mp.e0, false, 0, [], []⟩ nilS nilS, itemC ⟨tbS, 1, bP, true, 0, [ttSe], []⟩ (.slice (some ⟨w.heap.size + 2, 0, none⟩) 1 1) nilS, itemC ⟨bT, 5, tbS, false, k, [], []⟩ nilS nilS, itemC ⟨bK, 2, tbS, true, 0, [], []⟩ nilS nilS] (ttI k) L3 rfl rfl (by simp) rfl (by decide) (fun i x cs hx hcs => ?_)
    unfold ttI at hx
    rcases i with _ | _ | _ | _ | i <;> simp at hx hcs
    all_goals (obtain rfl := hx; obtain rfl := hcs)
    · exact ⟨_, _, rfl, ⟨by decide, by decide⟩, rowR_nil W, rowR_nil W⟩
    · exact ⟨_, _, rfl, ⟨by decide, by decide⟩, rS, rowR_nil W⟩
    · exact ⟨_, _, rfl, ⟨by show (1 : Nat) ≤ _; decide, by show (1 : Nat) ≤ _; decide⟩, rowR_nil W, rowR_nil W⟩
    · exact ⟨_, _, rfl, ⟨by decide, by decide⟩, rowR_nil W, rowR_nil W⟩
  exact ⟨belowS (belowS (belowS B0 B1) B2) B3, rF, rI⟩
def ttT (k w : Int) (j : Nat) : Cp.St := if (j : Int) < k then ttAt (ttB k w) (w + j) else ttC k w
set_option maxHeartbeats 16000000 in
theorem planTimers_walk (k : Int) (hk : (Lit.int .i64 k).wf = true) (wt : Int) (hwt : (Lit.int .i64 wt).wf = true) {w : World} :
    Calls Try.prog 3 #[.int .i64 k, .int .i64 wt] w fun e w' => e = .returned (.bool true) ∧ Below w.heap.size w w' := by
  clear hk hwt
  by_cases g1 : k < 1
  · go_enter Try.func3, Try.ntmps3
    go_wp2_with fail
    go_ret
    exact ⟨rfl, Below.refl _ _⟩
  have g1' : 1 ≤ k := by omega
  by_cases g2 : 100 < k
  · clear g1
    go_enter Try.func3, Try.ntmps3
    go_wp2_with fail
    go_ret
    exact ⟨rfl, Below.refl _ _⟩
  have g2' : k ≤ 100 := by omega
  by_cases g3 : wt < 0
  · clear g1 g2
    go_enter Try.func3, Try.ntmps3
    go_wp2_with fail
    go_ret
    exact ⟨rfl, Below.refl _ _⟩
  have g3' : 0 ≤ wt := by omega
  by_cases g4 : 20 < wt
  · clear g1 g2 g3
    go_enter Try.func3, Try.ntmps3
    go_wp2_with fail
    go_ret
    exact ⟨rfl, Below.refl _ _⟩
  have g4' : wt ≤ 20 := by omega
  obtain ⟨a, rfl⟩ : ∃ a : Nat, wt = (a : Int) := ⟨wt.toNat, by omega⟩
  obtain ⟨b, rfl⟩ : ∃ b : Nat, k = (b : Int) := ⟨k.toNat, by omega⟩
  clear g1 g2 g3 g4
  go_enter Try.func3, Try.ntmps3
  go_wp2_with fail
  generalize hW : (World.alloc (World.alloc (World.alloc (World.alloc w _) _) _) _) = W
  obtain ⟨B, M⟩ := tt_model w W b hW
  generalize hX : W.alloc _ = X
  obtain ⟨BX, LX, zX⟩ := of_alloc hX
  have HN := hideT (Lc.new (w0 := w) (belowS B BX) (ttM b) (some ⟨w.heap.size, 0, none⟩) (some ⟨w.heap.size + 3, 0, none⟩) 1 4 (M.below BX) (tt_light b) (tt_is b g1' g2') 1 4 rfl rfl (ttAt ttA 0) (tt_new b))
  clear hW B M hX BX LX zX
  refine HN.out.mono ?_
  rintro e w1 ⟨K, rfl, c1⟩
  have C1 := hideT c1
  clear c1 HN
  go_wp2_with fail
  go_loopw [8] (fun i wr => ∃ j : Nat, j ≤ a ∧ i = .int .i64 j ∧ Hid (Lc w wr K (ttM b) (ttAt ttA j))) (fun i _ => a - (intOf i).toNat)
  case atStart => exact ⟨0, Nat.zero_le _, rfl, C1.out⟩
  case round =>
    obtain ⟨j, hj, rfl, CJ⟩ := hrel
    by_cases hlt : j < a
    · have t1 : (j : Int) < (a : Int) := by omega
      go_wp2_with fail
      refine (CJ.out.do (by show (j : Int) < _; omega) kA2 0 (ttAt ttA (j + 1)) (tt_tick b j)).mono ?_
      rintro e w2 ⟨rfl, c2⟩
      have C2 := hideT c2
      clear c2
      go_wp2_with fail
      refine (C2.out.state bT 0 (tt_wait b (j + 1))).mono ?_
      rintro e w3 ⟨rfl, c3⟩
      have C3 := hideT c3
      clear c3
      go_wp2_with fail
      refine ⟨⟨j + 1, by omega, by go_num, C3.out⟩, ?_⟩
      first | omega | (simp [intOf]; omega)
    have hja : j = a := by omega
    have t1 : (a : Int) ≤ (j : Int) := by omega
    have CA : Hid (Lc w wr K (ttM b) (ttAt ttA a)) := by rw [← hja]; exact CJ.out
    clear CJ hja
    go_wp2_with fail
    refine (CA.out.do (by show (a : Int) < _; omega) ttW 0 (ttB b a) (tt_write2 b a)).mono ?_
    rintro e w2 ⟨rfl, c2⟩
    have hb0 : ttT b a 0 = ttB b a := by
      unfold ttT
      rw [if_pos (by omega)]
      exact tt_b0 b a
    rw [← hb0] at c2
    have C2 := hideT c2
    clear c2 hb0
    go_wp2_with fail
    go_loopw [9] (fun i wr => ∃ j : Nat, j ≤ b ∧ i = .int .i64 j ∧ Hid (Lc w wr K (ttM b) (ttT b a j))) (fun i _ => b - (intOf i).toNat)
    case atStart => exact ⟨0, Nat.zero_le _, rfl, C2.out⟩
    case round =>
      obtain ⟨j, hj, rfl, CJ⟩ := hrel
      by_cases hlt : j < b
      · have t1 : (j : Int) < (b : Int) := by omega
        have e1 : ttT b a j = ttAt (ttB b a) (a + j) := by unfold ttT; rw [if_pos t1]
        have CK : Hid (Lc w wr K (ttM b) (ttAt (ttB b a) (a + j))) := by have := CJ.out; rw [e1] at this; exact this
        have hd : Hid (Cp.doP (ttM b) (ttAt (ttB b a) (a + j)) kA2 = (0, ttT b a (j + 1))) := by
          show _ = _
          unfold ttT
          by_cases hn : ((j + 1 : Nat) : Int) < (b : Int)
          · rw [if_pos hn, tt_next b a (a + j) (by omega)]
            congr 2
          · rw [if_neg hn, tt_last b a (a + j) (by omega)]
        clear CJ e1
        go_wp2_with fail
        refine (CK.out.state bT 1 (tt_ready b a (a + j))).mono ?_
        rintro e w3 ⟨rfl, c3⟩
        have C3 := hideT c3
        clear c3
        go_wp2_with fail
        refine (C3.out.do (by show (a : Int) + (j : Int) < _; omega) kA2 0 _ hd).mono ?_
        rintro e w4 ⟨rfl, c4⟩
        have C4 := hideT c4
        clear c4
        go_wp2_with fail
        refine ⟨⟨j + 1, by omega, by go_num, C4.out⟩, ?_⟩
        first | omega | (simp [intOf]; omega)
      have t1 : (b : Int) ≤ (j : Int) := by omega
      have e1 : ttT b a j = ttC b a := by unfold ttT; rw [if_neg (by omega)]
      have CK : Hid (Lc w wr K (ttM b) (ttC b a)) := by have := CJ.out; rw [e1] at this; exact this
      have hwrap : IntKind.i64.wrap ((a : Int) + (b : Int)) = (a : Int) + (b : Int) := by rw [IntKind.wrap_i64]; omega
      clear CJ e1
      go_wp2_with fail
      refine (CK.out.state bT 3 (tt_done b a)).mono ?_
      rintro e w3 ⟨rfl, c3⟩
      have C3 := hideT c3
      clear c3
      go_wp2_with fail
      refine (C3.out.now).mono ?_
      rintro e w4 ⟨rfl, c4⟩
      have C4 := hideT c4
      rw [tt_cnow]
      clear c4
      go_wp2_with fail
      refine (C4.out.state bK 2 (tt_open b a)).mono ?_
      rintro e w5 ⟨rfl, c5⟩
      have C5 := hideT c5
      clear c5
      go_wp2_with fail
      refine (known9 w5).mono ?_
      rintro e w6 ⟨rfl, b6⟩
      have HB := hideT (C5.out.base.trans (b6.mono C5.out.base.size))
      clear b6
      go_wp2_with fail
      go_ret
      exact ⟨rfl, HB.out⟩
end Go.Proofs.Ytpipjkbgbhefcaa
