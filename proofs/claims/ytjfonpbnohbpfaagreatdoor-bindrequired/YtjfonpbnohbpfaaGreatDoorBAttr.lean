/-
  The program's attrPlace, isOf, fault.
-/
import Derived.Test.YtjfonpbnohbpfaaGreatDoorBMem
import Derived.Deep.QuietTactic
import Derived.BigQuiet
set_option linter.unusedSimpArgs false
set_option linter.unusedVariables false
namespace Go.Proofs.YtjfonpbnohbpfaaGreatDoor
open Go.RowKit
set_option maxRecDepth 100000
theorem arow_at {w : World} {v : Value} {l : List Att} (h : ARow w v l) : ∃ ao cap b o, v = .slice ao l.length cap ∧ (0 < l.length → ao = some ⟨b, o, none⟩) ∧ l.length ≤ 1000000000000 ∧ ∀ (i : Nat) p, l[i]? = some p → (p.1.size ≤ 140737488355328 ∧ p.2.size ≤ 140737488355328) ∧ w.cell? ⟨b, o + i * 2, none⟩ = some (.string p.1) ∧ w.cell? ⟨b, o + i * 2 + 1, none⟩ = some (.string p.2) := by
  obtain ⟨b, o, ⟨ao, cap, h1, h2⟩, ⟨h3, h4⟩, h5⟩ := h
  refine ⟨ao, cap, b, o, h1, h2, h3, fun i p hp => ⟨h4 p (List.mem_of_getElem? hp), ?_⟩⟩
  have := h5 i p hp
  rw [Nat.mul_comm 2 i] at this
  exact this
theorem ARow.below' {w w' : World} {v : Value} {l : List Att} (h : ARow w v l) (hb : Below w.heap.size w w') : ARow w' v l := by
  obtain ⟨b, o, h1, h2, h3⟩ := h
  exact ⟨b, o, h1, h2, fun i p hp => ⟨below_cell hb _ _ (h3 i p hp).1, below_cell hb _ _ (h3 i p hp).2⟩⟩
theorem atZ_some {l : List Att} {s : ByteArray} {k : Nat} {x : Att} (h : l[k]? = some x) (hx : x.1 = s) (hb : ∀ (j : Nat) y, j < k → l[j]? = some y → y.1 ≠ s) : Bp.atZ l s = k := by
  unfold Bp.atZ
  rw [Mp.find_some h (decide_eq_true hx) (fun j y hj hy => decide_eq_false (hb j y hj hy))]
theorem atZ_none {l : List Att} {s : ByteArray} (hb : ∀ (j : Nat) y, l[j]? = some y → y.1 ≠ s) : Bp.atZ l s = -1 := by
  unfold Bp.atZ
  rw [Mp.find_none (fun j y hy => decide_eq_false (hb j y hy))]
theorem attrFnD (x y : ByteArray) (q : Nat) (s : ByteArray) (w : World) (hq : w.cell? ⟨q, 0, none⟩ = some (.string s)) :
    Calls Tryz.prog 112 #[.agg #[.string x, .string y], .pointer (some ⟨q, 0, none⟩)] w fun e w' => e = .returned (.bool (decide (x = s))) ∧ Below w.heap.size w w' := by
  have hq' := (cell_old w (.cells #[.string x, .string y] 66) ⟨q, 0, none⟩ (cell_lt hq)).trans hq
  by_cases e : x = s
  · subst e
    have HF : Hid (decide (x = x) = true) := decide_eq_true rfl
    go_enter Tryz.func112, Tryz.ntmps112
    go_wp2_with fail
    go_ret
    exact ⟨ret_b (by simp), (Below.refl _ _).alloc (Nat.le_refl _) _⟩
  · have HF : Hid (decide (x = s) = false) := decide_eq_false e
    have e1 : (x.toList == s.toList) = false := beq_eq_false_iff_ne.2 fun h => e (toList_inj h)
    have e2 : ¬ x.toList = s.toList := fun h => e (toList_inj h)
    clear e
    go_enter Tryz.func112, Tryz.ntmps112
    go_wp2_with fail
    go_ret
    exact ⟨ret_b HF.out.symm, (Below.refl _ _).alloc (Nat.le_refl _) _⟩
set_option maxHeartbeats 1000000 in
theorem indexAttrB (w : World) (v : Value) (l : List Att) (s : ByteArray) (q : Nat) (hq : w.cell? ⟨q, 0, none⟩ = some (.string s)) (h : ARow w v l) :
    Calls Tryz.prog 111 #[v, .func (.func 112) #[] #[.pointer (some ⟨q, 0, none⟩)]] w fun e w' => e = .returned (.int .i64 (Bp.atZ l s)) ∧ Below w.heap.size w w' := by
  obtain ⟨ao, cap, b, o, rfl, ha, hl, hc⟩ := arow_at h
  obtain ⟨n, hn⟩ : ∃ n, n = l.length := ⟨_, rfl⟩
  have HN := hideT hn
  rw [← hn] at ha hl ⊢
  have HC := hideT hc
  have HA := hideT ha
  have HQ := hideT hq
  clear hn hc ha h hq
  go_enter Tryz.func111, Tryz.ntmps111
  go_wp2_with fail
  go_loopw [8] (fun i wr => ∃ k : Nat, k ≤ n ∧ i = .int .i64 k ∧ Hid (∀ (j : Nat) y, j < k → l[j]? = some y → y.1 ≠ s) ∧ Hid (Below w.heap.size w wr)) (fun i _ => n - (intOf i).toNat)
  case atStart => exact ⟨0, by omega, rfl, fun j y hj => absurd hj (by omega), Below.refl _ _⟩
  case round =>
    obtain ⟨k, hk, rfl, HB, HW⟩ := hrel
    by_cases hlt : k < n
    · obtain ⟨⟨x, y⟩, hx⟩ := Mp.at_lt (l := l) (k := k) (by have := HN.out; omega)
      obtain ⟨_, d0, d1⟩ := HC.out k _ hx
      have d0 := below_cell HW.out _ _ d0
      have d1 := below_cell HW.out _ _ d1
      dsimp only at d0 d1
      obtain rfl := HA.out (by omega)
      have HX := hideT hx
      clear hx
      go_wp2_with fail
      refine (attrFnD x y q s wr (below_cell HW.out _ _ HQ.out)).mono ?_
      rintro e w1 ⟨rfl, b1⟩
      have HW1 := hideT (HW.out.trans (b1.mono HW.out.size))
      clear b1 d0 d1
      by_cases e : x = s
      · have HF := hideT (atZ_some HX.out e HB.out)
        have e1 : decide (x = s) = true := decide_eq_true e
        rw [e1]
        clear e e1
        go_wp2_with fail
        go_ret
        exact ⟨ret_i HF.out.symm, HW1.out⟩
      · have e1 : decide (x = s) = false := decide_eq_false e
        rw [e1]
        have HR : Hid (∀ (j : Nat) y, j < k + 1 → l[j]? = some y → y.1 ≠ s) := by
          intro j y hj hy
          by_cases hj' : j < k
          · exact HB.out j y hj' hy
          · obtain rfl : j = k := by omega
            rw [HX.out] at hy
            cases hy
            exact e
        clear e e1
        go_wp2_with fail
        go_roundw
        case rel => exact ⟨k + 1, by omega, by go_num, HR, HW1⟩
        case measure => simp [intOf]; omega
    · have HF := hideT (atZ_none (l := l) (s := s) (fun j y hy => HB.out j y (by have := HN.out; have := (List.getElem?_eq_some_iff.1 hy).1; omega) hy))
      go_wp2_with fail
      go_ret
      exact ⟨ret_i HF.out.symm, HW.out⟩
theorem attrPlaceD (w : World) (c0 c1 c3 c4 v : Value) (l : List Att) (s : ByteArray) (h : ARow w v l) :
    Calls Tryz.prog 76 #[.agg #[c0, c1, v, c3, c4], .string s] w fun e w' => e = .returned (.int .i64 (Bp.atZ l s)) ∧ Below w.heap.size w w' := by
  have H := hideT h
  obtain ⟨ao, cap, b, o, rfl, _⟩ := arow_at h
  clear h
  go_enter Tryz.func76, Tryz.ntmps76
  go_wp2_with fail
  generalize hW1 : w.alloc _ = W1
  obtain ⟨B1, L1, z1⟩ := of_alloc hW1
  generalize hW2 : W1.alloc _ = W2
  obtain ⟨B2, L2, z2⟩ := of_alloc hW2
  have B12 : Below w.heap.size w W2 := B1.trans (B2.mono B1.size)
  have hq : W2.cell? ⟨w.heap.size + 1, 0, none⟩ = some (.string s) := by rw [← z1]; exact L2.cell 0
  refine (indexAttrB W2 _ l s (w.heap.size + 1) hq (H.out.below' B12)).mono ?_
  rintro e w1 ⟨rfl, b1⟩
  go_wp2_with fail
  go_ret
  exact ⟨rfl, B12.trans (b1.mono B12.size)⟩
theorem tl_dec (a b : ByteArray) : (a.toList == b.toList) = decide (a = b) := by
  by_cases h : a = b
  · subst h
    simp
  · rw [decide_eq_false h]
    exact beq_eq_false_iff_ne.2 fun e => h (toList_inj e)
theorem isOfD (sp lo s : ByteArray) (c2 c3 c4 : Value) (w : World) :
    Calls Tryz.prog 43 #[.agg #[.string sp, .string lo, c2, c3, c4], .string s] w fun e w' => e = .returned (.bool (decide (sp = Bp.spaceB) && decide (lo = s))) ∧ Below w.heap.size w w' := by
  have HB := hideT ((Below.refl w.heap.size w).alloc (Nat.le_refl _) (.cells #[.string sp, .string lo, c2, c3, c4] 45))
  go_enter Tryz.func43, Tryz.ntmps43
  go_wp2
  all_goals go_ret
  all_goals refine ⟨ret_b ?_, HB.out⟩
  all_goals (try simp only [beq_iff_eq, beq_eq_false_iff_ne] at *)
  all_goals (try simp_all [Bp.spaceB, ba_eq, tl_dec])
theorem faultD (w : World) (Q : Nat → Prop) (b : Nat) (c0 c1 c2 c3 : Value) (p : Int) (h : Six b w Q) :
    Calls Tryz.prog 44 #[.pointer (some ⟨b, 0, none⟩), .agg #[c0, c1, c2, c3, .int .i64 p]] w fun e w' => e = .returned (.bool false) ∧ TQ w Q w' Q ∧ Fault b w' p := by
  obtain ⟨⟨d0, d1, d2, d3, d4, d5, hL⟩, hQ⟩ := h
  have HQ := hideT hQ
  obtain ⟨V, hV, BV, LV⟩ : ∃ V, w.alloc (.cells #[c0, c1, c2, c3, .int .i64 p] 45) = V ∧ Below w.heap.size w V ∧ Lies V b 61 #[d0, d1, d2, d3, d4, d5] := ⟨_, rfl, (Below.refl _ w).alloc (Nat.le_refl _) _, hL.below ((Below.refl _ w).alloc (Nat.le_refl _) _)⟩
  have x5 : V.cell? ⟨b, 5, none⟩ = some d5 := LV.cell 5
  have x4 : V.cell? ⟨w.heap.size, 4, none⟩ = some (.int .i64 p) := by rw [← hV]; exact (Lies.new w _ _).cell 4
  have f5 : V.frozen? ⟨b, 5, none⟩ = false := LV.free 5
  have LX := hideT (LV.set 5 (.int .i64 p))
  have TX : Hid (TQ w Q (V.setCell ⟨b, 5, none⟩ (.int .i64 p)) Q) := (TQ.of_below BV (fun k hk => (hQ k hk).1) (fun k hk => hk)).trans (TQ.of_keep (S := (· = b)) (Keep.set V ⟨b, 5, none⟩ (.int .i64 p) rfl) (fun k hk => ⟨Nat.lt_of_lt_of_le (hQ k hk).1 BV.size, (hQ k hk).2⟩) (fun k hk => hk))
  clear hL BV LV hQ
  go_enter Tryz.func44, Tryz.ntmps44
  go_wp2_with fail
  go_ret
  exact ⟨rfl, TX.out, _, _, _, _, _, LX.out⟩
end Go.Proofs.YtjfonpbnohbpfaaGreatDoor
