/-
  The program's spacedAttribute, nextInTag, attributes.
-/
import Derived.Test.YtimecocegnnjjaaDoorDAttr
import Derived.Deep.QuietTactic
import Derived.BigQuiet
set_option linter.unusedSimpArgs false
set_option linter.unusedVariables false
namespace Go.Proofs.YtimecocegnnjjaaDoor
open Go.RowKit
theorem Xp.run_ge (s : List UInt8) (p : Nat) : p ≤ Xp.run s p := Nat.le_add_right _ _
theorem Xp.attr_gt {s : List UInt8} {p : Nat} {l : List Xp.Att} {a : Xp.Att} {k : Nat} (h : Xp.attr s p l = .ok (a, k)) : p < k := by
  unfold Xp.attr at h
  split at h
  · cases h
  · split at h
    · cases h
    · rename_i j hj
      have hr : p ≤ j := by
        unfold Xp.qual at hj
        split at hj
        · rw [← Option.some.inj hj]
          exact Xp.run_ge s p
        · cases hj
      split at h
      · cases h
      · split at h
        · split at h
          · cases h
          · rename_i v i hv
            have := (Xp.value_len hv).2
            simp only [Except.ok.injEq, Prod.mk.injEq] at h
            omega
        · cases h
theorem SA_on {w : World} {b : Nat} {vo av av' : Value} (h : Grew w av av') : ∀ i, i < w.heap.size → SA b vo av' i → SA b vo av i := by
  intro i hi e
  rcases e with e | e | e
  · exact .inl e
  · exact .inr (.inl e)
  · rcases h with h | ⟨g, h, hg⟩
    · exact .inr (.inr (by rw [← h]; exact e))
    · rw [h] at e
      have := Option.some.inj e
      omega
set_option maxHeartbeats 2000000 in
theorem spacedD (w : World) (b H : Nat) (s : ByteArray) (p : Nat) (R : PRest) (L : List Quad) (x av z u : Value) (l : List (ByteArray × ByteArray)) (hs : s.size ≤ 1000000) (hp : p ≤ s.size) (hL : L.length < 12) (hw : Ok w) (hoff : Off b) (hH : H ≤ w.heap.size)
    (h : PIn w b s p 0 R) (ho : w.ownsRow H 25 4 R.vo (L.length + 1) (flatE (L ++ [(x, av, z, u)]))) (ha : AOwn w H av l) (hbl : p < Xp.skip s.data.toList p) :
    Calls Tryd.prog 56 #[ptr b] w (Told
      (fun w' => ∃ (l' : List (ByteArray × ByteArray)) (k : Nat) (av' : Value), p < k ∧ k ≤ s.size ∧ ((Xp.more s.data.toList p = false ∧ l' = l ∧ k = Xp.skip s.data.toList p) ∨ (Xp.more s.data.toList p = true ∧ ∃ a, Xp.attr s.data.toList (Xp.skip s.data.toList p) l = .ok (a, k) ∧ l' = l ++ [a])) ∧ Keep (SA b R.vo av) w w' ∧ PIn w' b s k 0 R ∧ w'.ownsRow H 25 4 R.vo (L.length + 1) (flatE (L ++ [(x, av', z, u)])) ∧ AOwn w' H av' l' ∧ Grew w av av')
      (fun w' => ∃ q e : Nat, Xp.more s.data.toList p = true ∧ Xp.attr s.data.toList (Xp.skip s.data.toList p) l = .error (q, e) ∧ Keep (SA b R.vo av) w w' ∧ PIn w' b s q e R)) := by
  have HP := hideT h
  have HO := hideT ho
  have HA := hideT ha
  have HWW := hideT hw
  have hne : R.vo.ownBlock ≠ some b := own_ne ho h (by decide)
  have hab : av.ownBlock ≠ some b := own_ne ha.1 h (by decide)
  have hL' : s.data.toList.length = s.size := Array.length_toList
  obtain ⟨j, hj⟩ : ∃ j, Xp.skip s.data.toList p = j := ⟨_, rfl⟩
  have HJ := hideT hj
  have hjs : j ≤ s.size := by rw [← hj, ← hL']; exact Xp.skip_le (by rw [hL']; exact hp)
  rw [hj] at hbl
  rw [hj]
  obtain ⟨v1, V1⟩ : ∃ v, Hid (Xp.hasL s.data.toList j (⟨#[47]⟩ : ByteArray).data.toList = v) := ⟨_, rfl⟩
  obtain ⟨v2, V2⟩ : ∃ v, Hid (Xp.hasL s.data.toList j (⟨#[62]⟩ : ByteArray).data.toList = v) := ⟨_, rfl⟩
  have HM : Hid (Xp.more s.data.toList p = (decide (j < s.size) && !v1 && !v2)) := by
    show _ = _
    unfold Xp.more
    rw [hj, decide_eq_true hbl, hL', Bool.true_and]
    rw [← V1.out, ← V2.out]
  clear h ho ha hw hj hL'
  have stop : ∀ w1 : World, PIn w1 b s j 0 R → Keep (· = b) w w1 → Xp.more s.data.toList p = false → ∃ (l' : List (ByteArray × ByteArray)) (k : Nat) (av' : Value), p < k ∧ k ≤ s.size ∧ ((Xp.more s.data.toList p = false ∧ l' = l ∧ k = j) ∨ (Xp.more s.data.toList p = true ∧ ∃ a, Xp.attr s.data.toList j l = .ok (a, k) ∧ l' = l ++ [a])) ∧ Keep (SA b R.vo av) w w1 ∧ PIn w1 b s k 0 R ∧ w1.ownsRow H 25 4 R.vo (L.length + 1) (flatE (L ++ [(x, av', z, u)])) ∧ AOwn w1 H av' l' ∧ Grew w av av' := by
    intro w1 p1 k1 hm
    refine ⟨l, j, av, hbl, hjs, .inl ⟨hm, rfl, rfl⟩, k1.wide (fun k _ e => .inl e), p1, ?_, ?_, Grew.refl _ _⟩
    · exact own_keep HO.out (fun g hg => k1.block g (own_lt HO.out hg).1 (fun e => hne (by rw [hg, e])))
    · exact HA.out.keep (fun g hg => k1.block g (own_lt HA.out.1 hg).1 (fun e => hab (by rw [hg, e])))
  have HST := hideT stop
  clear stop
  go_enter Tryd.func56, Tryd.ntmps56
  go_wp2_with fail
  refine (blanksD w b s p R hs hp HP.out).mono ?_
  rw [HJ.out]
  rintro e w1 ⟨rfl, r1, k1⟩
  have P1 := hideT r1
  have K1 := hideT k1
  have x0 : w1.cell? ⟨b, 0, none⟩ = some (.string s) := r1.cell 0
  have x1 : w1.cell? ⟨b, 1, none⟩ = some (.int .i64 j) := r1.cell 1
  have O1 := hideT (own_keep (w' := w1) HO.out (fun g hg => k1.block g (own_lt HO.out hg).1 (fun e => hne (by rw [hg, e]))))
  have A1 := hideT (HA.out.keep (w' := w1) (fun g hg => k1.block g (own_lt HA.out.1 hg).1 (fun e => hab (by rw [hg, e]))))
  clear r1 k1
  by_cases hend : j = s.size
  · have te : ((j : Int) == (s.size : Int)) = true := by rw [hend]; simp
    have HN : Hid (Xp.more s.data.toList p = false) := by
      show _ = _
      rw [HM.out, decide_eq_false (by omega)]
      rfl
    clear hend
    go_wp2_with fail
    go_region
    all_goals go_wp2_with fail
    all_goals go_ret
    all_goals exact .inl ⟨rfl, HST.out _ (P1.out.below (Below.refl _ w1).drew) (K1.out.trans (Keep.of_below (Below.refl _ w1).drew)) HN.out⟩
  · have te : ((j : Int) == (s.size : Int)) = false := beq_eq_false_iff_ne.2 (by omega)
    have hjlt : j < s.size := by omega
    clear hend
    cases v1
    case true =>
      have HN : Hid (Xp.more s.data.toList p = false) := by
        show _ = _
        rw [HM.out]
        simp
      go_wp2_with fail
      go_quiet ((go_at_call 40; exact Calls.quiet_of (aheadQ w1 _ b s ⟨#[47]⟩ j 0 R true hs hjs P1.out V1)))
      go_wp2_with fail
      go_ret
      exact .inl ⟨rfl, HST.out _ (P1.out.below (below_drews w1 nq)) (K1.out.trans (Keep.of_below (below_drews w1 nq))) HN.out⟩
    case false =>
      go_wp2_with fail
      go_quiet ((first
          | (go_at_call_of 40 (Value.string ⟨#[47]⟩); exact Calls.quiet_of (aheadQ w1 _ b s ⟨#[47]⟩ j 0 R false hs hjs P1.out V1))
          | (go_at_call_of 40 (Value.string ⟨#[62]⟩); exact Calls.quiet_of (aheadQ w1 _ b s ⟨#[62]⟩ j 0 R v2 hs hjs P1.out V2))))
      obtain ⟨w3, hw3⟩ : ∃ w3, w1.drewN nq = w3 := ⟨_, rfl⟩
      have B3 : Hid (Below w1.heap.size w1 w3) := (by rw [← hw3]; exact below_drews w1 nq)
      have PP := hideT (P1.out.below B3.out)
      rw [hw3]
      clear hw3
      cases v2
      case true =>
        have HN : Hid (Xp.more s.data.toList p = false) := by
          show _ = _
          rw [HM.out]
          simp
        go_wp2_with fail
        go_ret
        exact .inl ⟨rfl, HST.out _ PP.out (K1.out.trans (Keep.of_below B3.out)) HN.out⟩
      case false =>
        have HN : Hid (Xp.more s.data.toList p = true) := by
          show _ = _
          rw [HM.out, decide_eq_true hjlt]
          rfl
        have K3 := hideT (K1.out.trans (Keep.of_below B3.out))
        have O3 := hideT (own_keep (w' := w3) HO.out (fun g hg => K3.out.block g (own_lt HO.out hg).1 (fun e => hne (by rw [hg, e]))))
        have A3 := hideT (HA.out.keep (w' := w3) (fun g hg => K3.out.block g (own_lt HA.out.1 hg).1 (fun e => hab (by rw [hg, e]))))
        go_wp2_with fail
        refine (attributeD w3 b H s j R L x av z u l hs hjs hL (HWW.out.keep K3.out (fun i hi => by subst hi; exact hoff)) hoff (by have := K3.out.size; omega) PP.out O3.out A3.out).mono ?_
        rintro e w4 (⟨rfl, h4⟩ | ⟨rfl, h4⟩)
        · have H4 := hideT h4
          clear h4
          go_wp2_with fail
          go_ret
          obtain ⟨a, k, av', e4, hk, k4, p4, o4, a4, g4⟩ := H4.out
          have := Xp.attr_gt e4
          refine .inl ⟨rfl, l ++ [a], k, av', by omega, hk, .inr ⟨HN.out, a, e4, rfl⟩, (K3.out.wide (fun i _ e => .inl e)).trans k4, p4, o4, a4, ?_⟩
          exact (Grew.refl w av).trans K3.out.size g4
        · have H4 := hideT h4
          clear h4
          go_wp2_with fail
          go_ret
          obtain ⟨q, e, e4, k4, p4⟩ := H4.out
          exact .inr ⟨rfl, q, e, HN.out, e4, (K3.out.wide (fun i _ e => .inl e)).trans k4, p4⟩
end Go.Proofs.YtimecocegnnjjaaDoor
