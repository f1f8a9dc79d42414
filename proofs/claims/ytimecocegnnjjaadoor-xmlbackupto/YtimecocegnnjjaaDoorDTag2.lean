/-
  The program's nextInTag, attributes.
-/
import Derived.Test.YtimecocegnnjjaaDoorDTag
set_option linter.unusedSimpArgs false
set_option linter.unusedVariables false
namespace Go.Proofs.YtimecocegnnjjaaDoor
open Go.RowKit
theorem nextInTagD (w : World) (b : Nat) (s : ByteArray) (p : Nat) (R : PRest) (hs : s.size ≤ 1000000) (hp : p ≤ s.size) (h : PIn w b s p 0 R) :
    Calls Tryd.prog 45 #[ptr b] w fun e w' => e = .returned (if decide (p < Xp.skip s.data.toList p) = true then meth 56 (ptr b) else .nilFunc) ∧ Below w.heap.size w w' := by
  have H := hideT h
  clear h
  have hmf : ∀ (fn : Fn) (first cap : Array Value) (w : World), (Instr.makeFunc fn first cap).run Tryd.prog w = .ok (.func fn first cap) w := fun _ _ _ _ => rfl
  obtain ⟨v, V⟩ : ∃ v, Hid (decide (p < Xp.skip s.data.toList p) = v) := ⟨decide (p < Xp.skip s.data.toList p), rfl⟩
  rw [V.out]
  cases v
  case true =>
    rw [if_pos rfl]
    go_enter Tryd.func45, Tryd.ntmps45
    go_wp2_with fail
    refine (blankAheadD w b s p 0 R true hs hp H.out V).mono ?_
    rintro d w1 ⟨rfl, b1⟩
    go_wp2_with fail
    go_ret
    exact ⟨rfl, b1⟩
  case false =>
    rw [if_neg (by simp)]
    go_enter Tryd.func45, Tryd.ntmps45
    go_wp2_with fail
    refine (blankAheadD w b s p 0 R false hs hp H.out V).mono ?_
    rintro d w1 ⟨rfl, b1⟩
    go_wp2_with fail
    go_ret
    exact ⟨rfl, b1⟩
theorem enterS : Enters Tryd.prog 56 := enters_of Tryd.func56 (by kernel_rfl) rfl
theorem enterN : Enters Tryd.prog 45 := enters_of Tryd.func45 (by kernel_rfl) rfl
theorem Xp.more_at {s : List UInt8} {p : Nat} (h : Xp.more s p = false) : Xp.more s (Xp.skip s p) = false := by
  unfold Xp.more
  rw [Xp.skip_skip, decide_eq_false (by omega)]
  rfl
theorem Xp.tagF_no {s : List UInt8} {p : Nat} {l : List Xp.Att} (f : Nat) (h : Xp.more s p = false) : Xp.tagF f s p l = .ok (l, Xp.skip s p) := by
  cases f with
  | zero => rfl
  | succ f =>
    unfold Xp.tagF
    rw [if_neg (by rw [h]; simp)]
theorem Xp.tagF_yes {s : List UInt8} {p : Nat} {l : List Xp.Att} (f : Nat) (h : Xp.more s p = true) : Xp.tagF (f + 1) s p l = (match Xp.attr s (Xp.skip s p) l with | .error e => .error e | .ok (a, k) => Xp.tagF f s k (l ++ [a])) := by
  rw [Xp.tagF, if_pos h]
  try (rcases Xp.attr s (Xp.skip s p) l with e | ⟨a, k⟩ <;> rfl)
/-- The attributes of a tag, and the blanks behind them. -/
theorem attributesD (w : World) (b H : Nat) (s : ByteArray) (p : Nat) (R : PRest) (L : List Quad) (x av z u : Value) (hs : s.size ≤ 1000000) (hp : p ≤ s.size) (hL : L.length < 12) (hw : Ok w) (hoff : Off b) (hH : H ≤ w.heap.size)
    (h : PIn w b s p 0 R) (ho : w.ownsRow H 25 4 R.vo (L.length + 1) (flatE (L ++ [(x, av, z, u)]))) (ha : AOwn w H av []) (hO : ∀ k, H ≤ k → Off k) :
    Calls Tryd.prog 29 #[ptr b] w (Told
      (fun w' => ∃ (l : List (ByteArray × ByteArray)) (k : Nat) (av' : Value), Xp.tagF 9 s.data.toList p [] = .ok (l, k) ∧ p ≤ k ∧ k ≤ s.size ∧ Keep (SA b R.vo av) w w' ∧ PIn w' b s k 0 R ∧ w'.ownsRow H 25 4 R.vo (L.length + 1) (flatE (L ++ [(x, av', z, u)])) ∧ AOwn w' H av' l ∧ Grew w av av')
      (fun w' => ∃ q e : Nat, Xp.tagF 9 s.data.toList p [] = .error (q, e) ∧ Keep (SA b R.vo av) w w' ∧ PIn w' b s q e R)) := by
  have hmf : ∀ (fn : Fn) (first cap : Array Value) (w : World), (Instr.makeFunc fn first cap).run Tryd.prog w = .ok (.func fn first cap) w := fun _ _ _ _ => rfl
  have hne : R.vo.ownBlock ≠ some b := own_ne ho h (by decide)
  have hSoff : ∀ i, SA b R.vo av i → Off i := by
    intro i hi
    rcases hi with rfl | hi | hi
    · exact hoff
    · exact hO i (own_lt ho hi).2
    · exact hO i (own_lt ha.1 hi).2
  have C : Hid (Calls Tryd.prog 25 #[ptr b, meth 45 (ptr b)] w (Told
      (fun w' => ∃ (l : List (ByteArray × ByteArray)) (k : Nat) (av' : Value), Xp.tagF 9 s.data.toList p [] = .ok (l, k) ∧ p ≤ k ∧ k ≤ s.size ∧ Keep (SA b R.vo av) w w' ∧ PIn w' b s k 0 R ∧ w'.ownsRow H 25 4 R.vo (L.length + 1) (flatE (L ++ [(x, av', z, u)])) ∧ AOwn w' H av' l ∧ Grew w av av')
      (fun w' => ∃ q e : Nat, Xp.tagF 9 s.data.toList p [] = .error (q, e) ∧ Keep (SA b R.vo av) w w' ∧ PIn w' b s q e R))) := by
    refine repeatD (ptr b) (ptr b) 45 (fun w' => ∃ (l : List (ByteArray × ByteArray)) (k f : Nat) (av' : Value), l.length + f = 9 ∧ Xp.tagF 9 s.data.toList p [] = Xp.tagF f s.data.toList k l ∧ p ≤ k ∧ k ≤ s.size ∧ Keep (SA b R.vo av) w w' ∧ PIn w' b s k 0 R ∧ w'.ownsRow H 25 4 R.vo (L.length + 1) (flatE (L ++ [(x, av', z, u)])) ∧ AOwn w' H av' l ∧ Grew w av av') _ _ (fun w' => s.size - placeP w' b) enterN ?_ w ⟨[], p, 9, av, rfl, rfl, Nat.le_refl _, hp, Keep.refl _ _, h, ho, ha, Grew.refl _ _⟩
    rintro w1 ⟨l, k, f, av', hf, e1, hpk, hk, k1, p1, o1, a1, g1⟩
    refine (nextInTagD w1 b s k R hs hk p1).mono ?_
    rintro d w2 ⟨rfl, b2⟩
    have k2 := k1.trans (Keep.of_below b2)
    have p2 := p1.below b2
    have o2 := own_keep (w' := w2) o1 (fun g hg => b2.block g (own_lt o1 hg).1)
    have a2 := a1.keep (w' := w2) (fun g hg => b2.block g (own_lt a1.1 hg).1)
    by_cases hv : decide (k < Xp.skip s.data.toList k) = true
    · rw [if_pos hv]
      refine .inr ⟨_, rfl, enterS, ?_⟩
      refine (spacedD w2 b H s k R L x av' z u l hs hk hL (hw.keep k2 hSoff) hoff (by have := k2.size; omega) p2 o2 a2 (of_decide_eq_true hv)).mono ?_
      rintro d w3 (⟨rfl, l', k', av'', hlt, hk', hcase, k3, p3, o3, a3, g3⟩ | ⟨rfl, q, e, hm, he, k3, p3⟩)
      · refine .inl ⟨rfl, ?_, ?_⟩
        · have hkk : Keep (SA b R.vo av) w w3 := k2.on k3 (SA_on g1)
          have hgg : Grew w av av'' := g1.trans k2.size g3
          rcases hcase with ⟨hm, rfl, rfl⟩ | ⟨hm, a, he, rfl⟩
          · refine ⟨l', _, f, av'', hf, ?_, by omega, hk', hkk, p3, o3, a3, hgg⟩
            rw [e1, Xp.tagF_no f hm, Xp.tagF_no f (Xp.more_at hm), Xp.skip_skip]
          · have h8 := a1.2.1
            obtain ⟨f', rfl⟩ : ∃ f', f = f' + 1 := ⟨f - 1, by omega⟩
            refine ⟨l ++ [a], k', f', av'', by rw [List.length_append]; simp; omega, ?_, by omega, hk', hkk, p3, o3, a3, hgg⟩
            rw [e1, Xp.tagF_yes f' hm, he]
        · rw [placeP_of (k := k) (p1.cell 1), placeP_of (k := k') (p3.cell 1)]
          omega
      · refine .inr ⟨rfl, q, e, ?_, k2.on k3 (SA_on g1), p3⟩
        have h8 := a1.2.1
        obtain ⟨f', rfl⟩ : ∃ f', f = f' + 1 := ⟨f - 1, by omega⟩
        rw [e1, Xp.tagF_yes f' hm, he]
    · rw [if_neg hv]
      refine .inl ⟨rfl, l, k, av', ?_, hpk, hk, k2, p2, o2, a2, g1⟩
      have hsk : Xp.skip s.data.toList k = k := by
        have := Xp.skip_ge s.data.toList k
        have h1 := of_decide_eq_false (Bool.not_eq_true _ ▸ hv)
        omega
      have hm : Xp.more s.data.toList k = false := by
        unfold Xp.more
        rw [show decide (k < Xp.skip s.data.toList k) = false by simpa using hv]
        rfl
      rw [e1, Xp.tagF_no f hm, hsk]
  go_enter Tryd.func29, Tryd.ntmps29
  go_wp2_with fail
  refine C.out.mono ?_
  rintro d w1 (⟨rfl, h1⟩ | ⟨rfl, h1⟩)
  · have H1 := hideT h1
    clear h1
    go_wp2_with fail
    go_ret
    exact .inl ⟨rfl, H1.out⟩
  · have H1 := hideT h1
    clear h1
    go_wp2_with fail
    go_ret
    exact .inr ⟨rfl, H1.out⟩
end Go.Proofs.YtimecocegnnjjaaDoor
