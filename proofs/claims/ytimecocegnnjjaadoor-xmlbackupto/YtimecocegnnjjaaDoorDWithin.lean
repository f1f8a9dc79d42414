/-
  The program's nextWithin and within, where kids are read as they must be.
-/
import Derived.Test.YtimecocegnnjjaaDoorDShut2
import Derived.Test.YtimecocegnnjjaaDoorPartC
set_option linter.unusedSimpArgs false
set_option linter.unusedVariables false
namespace Go.Proofs.YtimecocegnnjjaaDoor
open Go.RowKit
set_option maxRecDepth 100000
/-- Which part nextWithin finds. -/
def nextW (s : List UInt8) (p : Nat) (P : Value) : Value :=
  if decide (p < Xp.skip s p) = true then meth 39 P else if Xp.hasL s p [60, 33, 45, 45] = true then meth 41 P else if Xp.hasL s p [60] = true ∧ Xp.hasL s p [60, 47] = false then meth 16 P else .nilFunc
theorem nextWithinD (w : World) (b : Nat) (s : ByteArray) (p : Nat) (R : PRest) (hs : s.size ≤ 1000000) (hp : p ≤ s.size) (h : PIn w b s p 0 R) :
    Calls Tryd.prog 57 #[ptr b] w fun e w' => e = .returned (nextW s.data.toList p (ptr b)) ∧ Below w.heap.size w w' := by
  have H := hideT h
  clear h
  have hmf : ∀ (fn : Fn) (first cap : Array Value) (w : World), (Instr.makeFunc fn first cap).run Tryd.prog w = .ok (.func fn first cap) w := fun _ _ _ _ => rfl
  have q0 : ∀ (w : World), (binOp .neq 60 .nilFunc .nilFunc).run Tryd.prog w = .ok (.bool false) w := fun _ => rfl
  have q1 : ∀ (w : World) (f : Nat), (binOp .neq 60 (meth f (ptr b)) .nilFunc).run Tryd.prog w = .ok (.bool true) w := fun _ _ => rfl
  by_cases hA : ∃ f, nextA s.data.toList p (ptr b) = meth f (ptr b)
  · obtain ⟨f, hf⟩ := hA
    have HA : Hid (nextA s.data.toList p (ptr b) = meth f (ptr b)) := hf
    have HN : Hid (nextW s.data.toList p (ptr b) = meth f (ptr b)) := by
      show nextW _ _ _ = _
      unfold nextA at hf
      unfold nextW
      split at hf
      · rename_i h1
        rw [if_pos h1]
        exact hf
      · rename_i h1
        split at hf
        · rename_i h2
          rw [if_neg h1, if_pos h2]
          exact hf
        · cases hf
    clear hf
    have q2 := fun w => q1 w f
    go_enter Tryd.func57, Tryd.ntmps57
    go_wp2_with fail
    refine (nextAroundD w b s p R hs hp H.out).mono ?_
    rw [HA.out]
    rintro d w1 ⟨rfl, b1⟩
    go_wp2_with fail
    go_ret
    rw [HN.out]
    exact ⟨rfl, b1⟩
  · have hn : nextA s.data.toList p (ptr b) = .nilFunc := by
      unfold nextA at hA ⊢
      split
      · rename_i h1
        rw [if_pos h1] at hA
        exact absurd ⟨_, rfl⟩ hA
      · rename_i h1
        split
        · rename_i h2
          rw [if_neg h1, if_pos h2] at hA
          exact absurd ⟨_, rfl⟩ hA
        · rfl
    have HA := hideT hn
    have HN : Hid (nextW s.data.toList p (ptr b) = if Xp.hasL s.data.toList p [60] = true ∧ Xp.hasL s.data.toList p [60, 47] = false then meth 16 (ptr b) else .nilFunc) := by
      show nextW _ _ _ = _
      unfold nextA at hn
      unfold nextW
      split at hn
      · cases hn
      · rename_i h1
        split at hn
        · cases hn
        · rename_i h2
          rw [if_neg h1, if_neg h2]
    obtain ⟨v, V⟩ : ∃ v, Hid (Xp.hasL s.data.toList p (⟨#[60]⟩ : ByteArray).data.toList = v) := ⟨_, rfl⟩
    obtain ⟨u, U⟩ : ∃ v, Hid (Xp.hasL s.data.toList p (⟨#[60, 47]⟩ : ByteArray).data.toList = v) := ⟨_, rfl⟩
    have HN2 : Hid (nextW s.data.toList p (ptr b) = if v = true ∧ u = false then meth 16 (ptr b) else .nilFunc) := by
      show nextW _ _ _ = _
      rw [HN.out, show Xp.hasL s.data.toList p [60] = v from V.out, show Xp.hasL s.data.toList p [60, 47] = u from U.out]
    clear hA hn
    cases v
    case false =>
      go_enter Tryd.func57, Tryd.ntmps57
      go_wp2_with fail
      refine (nextAroundD w b s p R hs hp H.out).mono ?_
      rw [HA.out]
      rintro d w1 ⟨rfl, b1⟩
      go_wp2_with fail
      refine (aheadD w1 b s ⟨#[60]⟩ p 0 R false hs hp (H.out.below b1) V).mono ?_
      rintro d w2 ⟨rfl, b2⟩
      go_wp2_with fail
      go_ret
      rw [HN2.out, if_neg (by simp)]
      exact ⟨rfl, b1.trans (b2.mono b1.size)⟩
    case true =>
      go_enter Tryd.func57, Tryd.ntmps57
      go_wp2_with fail
      refine (nextAroundD w b s p R hs hp H.out).mono ?_
      rw [HA.out]
      rintro d w1 ⟨rfl, b1⟩
      go_wp2_with fail
      refine (aheadD w1 b s ⟨#[60]⟩ p 0 R true hs hp (H.out.below b1) V).mono ?_
      rintro d w2 ⟨rfl, b2⟩
      have B2 := hideT (b1.trans (b2.mono b1.size))
      clear b1 b2
      go_wp2_with fail
      refine (aheadD w2 b s ⟨#[60, 47]⟩ p 0 R u hs hp (H.out.below B2.out) U).mono ?_
      rintro d w3 ⟨rfl, b3⟩
      have B3 := hideT (B2.out.trans (b3.mono B2.out.size))
      clear b3
      cases u
      all_goals go_wp2_with fail
      all_goals go_ret
      · rw [HN2.out, if_pos (by simp)]
        exact ⟨rfl, B3.out⟩
      · rw [HN2.out, if_neg (by simp)]
        exact ⟨rfl, B3.out⟩
theorem enterE : Enters Tryd.prog 16 := enters_of Tryd.func16 (by kernel_rfl) rfl
theorem enterW : Enters Tryd.prog 57 := enters_of Tryd.func57 (by kernel_rfl) rfl
/-- The blocks of a tree that was made since there were h of them, but the live ones. -/
def Quiet (h : Nat) (w : World) (vo kv : Value) (k : Nat) : Prop := h ≤ k ∧ k < w.heap.size ∧ vo.ownBlock ≠ some k ∧ kv.ownBlock ≠ some k
theorem Quiet.on {h : Nat} {w w' : World} {vo kv vo' kv' : Value} (hv : Grew w vo vo') (hk : Grew w kv kv') (hs : w.heap.size ≤ w'.heap.size) : ∀ k, Quiet h w vo kv k → Quiet h w' vo' kv' k := by
  rintro k ⟨h1, h2, h3, h4⟩
  refine ⟨h1, by omega, ?_, ?_⟩
  · rcases hv with e | ⟨g, e, hg⟩
    · rw [e]; exact h3
    · rw [e]; intro hh; have := Option.some.inj hh; omega
  · rcases hk with e | ⟨g, e, hg⟩
    · rw [e]; exact h4
    · rw [e]; intro hh; have := Option.some.inj hh; omega
theorem Quiet.keep {h : Nat} {w w' : World} {vo kv : Value} {b : Nat} (hk : Keep (SA b vo kv) w w') (hb : b < h) : ∀ k, Quiet h w vo kv k → w'.heap[k]? = w.heap[k]? := by
  rintro k ⟨h1, h2, h3, h4⟩
  refine hk.block k h2 ?_
  rintro (e | e | e)
  · omega
  · exact h3 e
  · exact h4 e
/-- An element within another one is read as the document reads it. -/
def ElemIn (m : Nat) : Prop := ∀ (w : World) (b H : Nat) (s : ByteArray) (p n : Nat) (vo kv o0 o1 o2 o3 x y u : Value) (M qs : List Quad), s.size ≤ 1000000 → p ≤ s.size → M.length + 1 + m = 12 → n ≤ 400 → qs.length ≤ n → Ok w → Off b → (∀ k, H ≤ k → Off k) → H ≤ w.heap.size →
  PIn w b s p 0 ⟨vo, n, o0, o1, o2, o3⟩ → w.ownsRow H 25 4 vo (M.length + 1) (flatE (M ++ [(x, y, kv, u)])) → w.ownsRow H 25 4 kv qs.length (flatE qs) → (∀ g, vo.ownBlock = some g → kv.ownBlock ≠ some g) →
  Calls Tryd.prog 16 #[ptr b] w (Told
    (fun w' => ∃ (T : Tr) (k n' : Nat) (vo' kv' c0 c1 c2 c3 : Value), Xp.elem m s.data.toList p n = .ok (T, k, n') ∧ Keep (SA b vo kv) w w' ∧ PIn w' b s k 0 ⟨vo', n', o0, o1, o2, o3⟩ ∧ w'.ownsRow H 25 4 vo' (M.length + 1) (flatE (M ++ [(x, y, kv', u)])) ∧
      w'.ownsRow H 25 4 kv' (qs.length + 1) (flatE (qs ++ [(c0, c1, c2, c3)])) ∧ Grew w vo vo' ∧ Grew w kv kv' ∧ (∀ g, vo'.ownBlock = some g → kv'.ownBlock ≠ some g) ∧ EInR w' (Quiet w.heap.size w' vo' kv') m c0 c1 c2 c3 T)
    (fun w' => ∃ q e : Nat, Xp.elem m s.data.toList p n = .error (q, e) ∧ Keep (SA b vo kv) w w' ∧ ∃ R', PIn w' b s q e R'))
end Go.Proofs.YtimecocegnnjjaaDoor
