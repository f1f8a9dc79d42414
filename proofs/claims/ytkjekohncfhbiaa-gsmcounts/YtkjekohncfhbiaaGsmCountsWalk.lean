/-
  GsmCounts' walk.
-/
import Derived.Test.YtkjekohncfhbiaaGKnown
set_option linter.unusedSimpArgs false
set_option linter.unusedVariables false
namespace Go.Proofs.Ytkjekohncfhbiaa
open Go.RowKit
set_option maxRecDepth 100000
namespace Gp
open Rp
def pc (m : Int) : Prog := ⟨3, 2, [0], [], 1, [], [(1, [(2, false)], [], [(1, true)])], [(0, m, 2)], [], []⟩
theorem pc_is {m : Int} (h1 : 1 ≤ m) (h2 : m ≤ 100) : IsP (pc m) := is_of (by simp [pc]) (by simp [pc]) (by simp [pc]) (by simp [pc]) (by simp [pc]) (by simp [pc]) (by simp [pc]) (by simp [pc]) (by simp [pc]; omega) (by simp [pc]) (by simp [pc, lastS])
theorem pc_small (m : Int) : SmallP (pc m) := ⟨by simp [pc], by simp [pc], by simp [pc], by simp [pc], by simp [pc], by simp [pc], by simp [pc]⟩
theorem pc_new (m : Int) : newP (pc m) = some ⟨[true, false, false], [], [0]⟩ := by kernel_rfl
def stT (m : Int) (k : Nat) : St := ⟨[true, decide (m ≤ (k : Int)), false], [], [min (k : Int) (m + 1)]⟩
def tickA : Act := ⟨3, ⟨#[]⟩, 0, ⟨#[]⟩, 0⟩
theorem pc_from (m x : Int) (s : St) (u : Bool) : fromS (kept (pc m)) s ⟨[true, u, false], [], [x]⟩ [2] = (0, ⟨[true, true, false], [], [x]⟩) := by cases u <;> kernel_rfl
theorem pc_rest (m x : Int) (s : St) (u : Bool) : restS (kept (pc m)) s ⟨[true, u, false], [], [x]⟩ = (0, ⟨[true, u, false], [], [x]⟩) := by cases u <;> kernel_rfl
theorem pc_do (m : Int) (s : St) : doS (kept (pc m)) s tickA = tickS (kept (pc m)) s := rfl
theorem pc_due (m c : Int) (u : Bool) : dueT [true, u, false] (kept (pc m)).ctrs [c] = if min c m + 1 = m then [2] else [] := by
  show (if (true && decide (min c m + 1 = m)) = true then [2] else []) = _
  by_cases h : min c m + 1 = m
  · rw [if_pos h, decide_eq_true h]
    rfl
  · rw [if_neg h, decide_eq_false h]
    rfl
theorem pc_tick {m : Int} (h1 : 1 ≤ m) (k : Nat) : doS (kept (pc m)) (stT m k) tickA = (0, stT m (k + 1)) := by
  rw [pc_do]
  unfold tickS
  have hc : cntsT (stT m k).fl (kept (pc m)).ctrs (stT m k).cnts = [min (min (k : Int) (m + 1)) m + 1] := rfl
  have hd : dueT (stT m k).fl (kept (pc m)).ctrs (stT m k).cnts = if min (min (k : Int) (m + 1)) m + 1 = m then [2] else [] := pc_due m _ _
  have hn : min (min (k : Int) (m + 1)) m + 1 = min ((k : Int) + 1) (m + 1) := by omega
  rw [hc, hd, hn]
  by_cases h : min ((k : Int) + 1) (m + 1) = m
  · rw [if_pos h, if_pos (by simp)]
    have he : fromS (kept (pc m)) (stT m k) ⟨(stT m k).fl, (stT m k).nums, [min ((k : Int) + 1) (m + 1)]⟩ [2] = (0, ⟨[true, true, false], [], [min ((k : Int) + 1) (m + 1)]⟩) := pc_from m _ _ _
    rw [he]
    unfold stT
    rw [decide_eq_true (show m ≤ ((k + 1 : Nat) : Int) by omega)]
    rfl
  · rw [if_neg h, if_neg (by simp)]
    have he : restS (kept (pc m)) (stT m k) ⟨(stT m k).fl, (stT m k).nums, [min ((k : Int) + 1) (m + 1)]⟩ = (0, ⟨(stT m k).fl, [], [min ((k : Int) + 1) (m + 1)]⟩) := pc_rest m _ _ _
    rw [he]
    unfold stT
    have hb : decide (m ≤ (k : Int)) = decide (m ≤ ((k + 1 : Nat) : Int)) := by
      by_cases hq : m ≤ (k : Int)
      · rw [decide_eq_true hq, decide_eq_true (by omega)]
      · rw [decide_eq_false hq, decide_eq_false (by omega)]
    rw [← hb]
    rfl
end Gp
theorem zrow_oneG {w : World} {b : Nat} {x : Int} (h0 : w.cell? ⟨b, 0, none⟩ = some (.int .i64 x)) : ZRow w (.slice (some ⟨b, 0, none⟩) 1 1) [x] :=
  ⟨b, 0, ⟨_, 1, rfl, Nat.le_refl _, fun _ => rfl⟩, by simp, fun i z hz => by
    match i, hz with
    | 0, hz => cases hz; simpa using h0
    | i + 1, hz => simp at hz⟩
theorem trow_oneG {w : World} {b : Nat} {x y z : Int} (h0 : w.cell? ⟨b, 0, none⟩ = some (.int .i64 x)) (h1 : w.cell? ⟨b, 1, none⟩ = some (.int .i64 y)) (h2 : w.cell? ⟨b, 2, none⟩ = some (.int .i64 z)) : TRow w (.slice (some ⟨b, 0, none⟩) 1 1) [(x, y, z)] :=
  ⟨b, 0, ⟨_, 1, rfl, Nat.le_refl _, fun _ => rfl⟩, by simp, fun i q hq => by
    match i, hq with
    | 0, hq =>
      simp at hq
      subst hq
      refine ⟨_, rfl, rfl, fun j c hj => ?_⟩
      match j, hj with
      | 0, hj => cases hj; simpa using h0
      | 1, hj => cases hj; simpa using h1
      | 2, hj => cases hj; simpa using h2
      | j + 3, hj => simp at hj
    | i + 1, hq => simp at hq⟩
abbrev prC (b : Nat) : Array Value := #[.int .i64 3, .int .i64 2, .slice (some ⟨b, 0, none⟩) 1 1, .slice none 0 0, .int .i64 1, .slice none 0 0, .slice (some ⟨b + 4, 0, none⟩) 1 1, .slice (some ⟨b + 1, 0, none⟩) 1 1, .slice none 0 0, .slice none 0 0]
theorem builtC (w : World) (m : Int) : ∃ V, (((((w.alloc (.cells #[.int .i64 0] 3)).alloc (.cells #[.int .i64 0, .int .i64 m, .int .i64 2] 52)).alloc (.cells #[.int .i64 2, .bool false] 54)).alloc (.cells #[.int .i64 1, .bool true] 57)).alloc (.cells (kru 1 (w.heap.size + 2) (w.heap.size + 3)) 61)).alloc (.cells (prC w.heap.size) 29) = V ∧ Below w.heap.size w V ∧ V.heap.size = w.heap.size + 6 ∧
    ProgAt V ⟨some ⟨w.heap.size, 0, none⟩, 1, none, 0, none, 0, some ⟨w.heap.size + 4, 0, none⟩, 1, some ⟨w.heap.size + 1, 0, none⟩, 1, none, 0, none, 0⟩ (Gp.pc m) := by
  obtain ⟨W1, h1, b1, l1, l2, s1⟩ := boxes2 w 3 52 #[.int .i64 0] #[.int .i64 0, .int .i64 m, .int .i64 2]
  obtain ⟨W2, h2, b2, l3, l4, s2⟩ := boxes2 W1 54 57 #[.int .i64 2, .bool false] #[.int .i64 1, .bool true]
  obtain ⟨W3, h3, b3, l5, l6, s3⟩ := boxes2 W2 61 29 (kru 1 (w.heap.size + 2) (w.heap.size + 3)) (prC w.heap.size)
  rw [h1, h2, h3]
  rw [s1] at l3 l4 s2
  rw [s2] at l5 s3
  have l1 := (l1.below b2).below b3
  have l2 := (l2.below b2).below b3
  have l3 := l3.below b3
  have l4 := l4.below b3
  exact ⟨W3, rfl, (b1.trans (b2.mono b1.size)).trans (b3.mono (Nat.le_trans b1.size b2.size)), s3, zrow_oneG (l1.cell 0), zrow_nil _, rowR_nil _, rrow_oneG (r := (1, [(2, false)], [], [(1, true)])) (l5.cell 0) (l5.cell 1) (l5.cell 2) (l5.cell 3) (lrow_oneG (l3.cell 0) (l3.cell 1)) (rowR_nil _) (lrow_oneG (l4.cell 0) (l4.cell 1)), trow_oneG (l2.cell 0) (l2.cell 1) (l2.cell 2), rowR_nil _, rowR_nil _⟩
set_option maxHeartbeats 8000000 in
theorem gsmCounts_walk (m n : Int) {w : World} :
    Calls Try.prog 7 #[.int .i64 m, .int .i64 n] w fun e w' => e = .returned (.bool true) ∧ Below w.heap.size w w' := by
  by_cases c1 : m < 1
  · go_enter Try.func7, Try.ntmps7
    go_wp2_with fail
    go_ret
    exact ⟨rfl, Below.refl _ _⟩
  by_cases c2 : m > 100
  · go_enter Try.func7, Try.ntmps7
    go_wp2_with fail
    go_ret
    exact ⟨rfl, Below.refl _ _⟩
  by_cases c3 : n < 0
  · go_enter Try.func7, Try.ntmps7
    go_wp2_with fail
    go_ret
    exact ⟨rfl, Below.refl _ _⟩
  by_cases c4 : n > 120
  · go_enter Try.func7, Try.ntmps7
    go_wp2_with fail
    go_ret
    exact ⟨rfl, Below.refl _ _⟩
  obtain ⟨N, rfl⟩ : ∃ N : Nat, n = N := ⟨n.toNat, by omega⟩
  obtain ⟨V, hV, b0, sv, hp⟩ := builtC w m
  have HV := hideT hV
  have HB0 := hideT b0
  have HP0 := hideT hp
  have HSV := hideT sv
  have hm1 : 1 ≤ m := by omega
  have HIS := hideT (Gp.pc_is hm1 (by omega))
  clear hV b0 hp sv
  go_enter Try.func7, Try.ntmps7
  go_wp2_with fail
  rw [HV.out]
  refine (newD V _ (Gp.pc m) HP0.out HIS.out (Gp.pc_small m)).mono ?_
  rintro e w1 ⟨b1, hm⟩
  rw [Gp.pc_new] at hm
  obtain ⟨mb, rfl, M⟩ := hm
  have HM : Hid (Mach V w1 mb (Gp.pc m) (Gp.stT m 0)) := by
    have h0 : Gp.stT m 0 = ⟨[true, false, false], [], [0]⟩ := by
      unfold Gp.stT
      rw [decide_eq_false (show ¬ m ≤ ((0 : Nat) : Int) by omega), show min ((0 : Nat) : Int) (m + 1) = 0 by omega]
    show Mach _ _ _ _ _
    rw [h0]
    exact M.mach
  have HB1 := hideT (HB0.out.trans (b1.mono HB0.out.size))
  clear M b1
  go_wp2_with fail
  go_loopw [8] (fun i wr => ∃ k : Nat, k ≤ N ∧ i = .int .i64 k ∧ Hid (Mach V wr mb (Gp.pc m) (Gp.stT m k)) ∧ Hid (Below w.heap.size w wr)) (fun i _ => N - (intOf i).toNat)
  case atStart => exact ⟨0, by omega, rfl, HM, HB1⟩
  case round =>
    obtain ⟨k, hk, rfl, HMk, HBk⟩ := hrel
    by_cases hlt : k < N
    · have t1 : (k : Int) < (N : Int) := by omega
      go_wp2_with fail
      refine (HMk.out.do Gp.tickA (Gp.pc_tick hm1 k)).mono ?_
      rintro e w2 ⟨rfl, M2, k2⟩
      have HM2 := hideT M2
      have HB2 : Hid (Below w.heap.size w w2) := by
        obtain ⟨_, _, _, _, _, _, hb, _⟩ := HMk.out
        exact Keep.below HBk.out k2 (fun i hi e => by have := HSV.out; omega)
      clear M2 k2
      go_wp2_with fail
      refine ⟨⟨k + 1, by omega, by go_num, HM2, HB2⟩, ?_⟩
      first | omega | (simp [intOf]; omega)
    · obtain rfl : k = N := by omega
      obtain ⟨ub, hub⟩ : ∃ ub, decide (m ≤ (k : Int)) = ub := ⟨_, rfl⟩
      have h1 : Gp.upB (Gp.pc m).flags.toNat (Gp.stT m k).fl 1 = ub := by rw [← hub]; rfl
      have H1 := hideT h1
      have HUB := hideT hub
      clear h1 hub
      go_wp2_with fail
      refine (HMk.out.up 1 ub H1.out).mono ?_
      rintro e w2 ⟨rfl, hw⟩
      obtain rfl := hw.symm
      clear hw
      have hcmp : (ub == decide (m ≤ (k : Int))) = true := by rw [HUB.out]; simp
      go_wp2_with fail
      refine (HMk.out.up 2 false rfl).mono ?_
      rintro e w2 ⟨rfl, hw⟩
      obtain rfl := hw.symm
      clear hw
      go_wp2_with fail
      refine (HMk.out.up 0 true rfl).mono ?_
      rintro e w2 ⟨rfl, hw⟩
      obtain rfl := hw.symm
      clear hw
      go_wp2_with fail
      refine (known11 wr).mono ?_
      rintro e w3 ⟨rfl, b3⟩
      have HB3 := hideT (HBk.out.trans (b3.mono HBk.out.size))
      clear b3
      go_wp2_with fail
      go_ret
      exact ⟨rfl, HB3.out⟩
end Go.Proofs.Ytkjekohncfhbiaa
