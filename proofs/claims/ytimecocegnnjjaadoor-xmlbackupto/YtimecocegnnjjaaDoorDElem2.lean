/-
  The program's element, within another one: by induction on how many storeys are left.
-/
import Derived.Test.YtimecocegnnjjaaDoorDElem
set_option linter.unusedSimpArgs false
set_option linter.unusedVariables false
namespace Go.Proofs.YtimecocegnnjjaaDoor
open Go.RowKit
theorem elementD_of (w : World) (b : Nat) (T F : World → Prop) (C : Calls Tryd.prog 14 #[ptr b, .slice (some ⟨w.heap.size, 0, none⟩) 4 4] (w.alloc (.cells (parts4 b) 60)) (Told T F)) :
    Calls Tryd.prog 16 #[ptr b] w (Told T F) := by
  have hmf : ∀ (fn : Fn) (first cap : Array Value) (w : World), (Instr.makeFunc fn first cap).run Tryd.prog w = .ok (.func fn first cap) w := fun _ _ _ _ => rfl
  have HC := hideT C
  clear C
  go_enter Tryd.func16, Tryd.ntmps16
  go_wp2_with fail
  refine HC.out.mono ?_
  rintro d w5 (⟨rfl, h5⟩ | ⟨rfl, h5⟩)
  · have H5 := hideT h5
    clear h5
    go_wp2_with fail
    go_ret
    exact .inl ⟨rfl, H5.out⟩
  · have H5 := hideT h5
    clear h5
    go_wp2_with fail
    go_ret
    exact .inr ⟨rfl, H5.out⟩
theorem own_form {w : World} {H : Nat} {e : TypeId} {z : Nat} {v : Value} {n : Nat} {xs : List Value} (h : w.ownsRow H e z v n xs) : ∃ a cap, v = .slice a n cap := by
  rcases h.2 with ⟨rfl, h0⟩ | ⟨g, cap, cur, rfl, _⟩
  · exact ⟨none, 0, by rw [h0]⟩
  · exact ⟨_, _, rfl⟩
theorem Grew.old {w : World} {v v' : Value} (h : Grew w v v') {g : Nat} (hg : g < w.heap.size) (hv : v.ownBlock ≠ some g) : v'.ownBlock ≠ some g := by
  rcases h with h | ⟨g', h, hl⟩
  · rw [h]; exact hv
  · rw [h]; intro e; have := Option.some.inj e; omega
theorem elemIn_zero : ElemIn 0 := by
  intro w b H s p n vo kv o0 o1 o2 o3 x y u M qs hs hp hM hn hq hw hoff hO hH h ho hk hvk
  have hbl : b < w.heap.size := Lies.lt h
  obtain ⟨ad, cap, hvo⟩ := own_form ho
  rw [show M.length + 1 = 12 by omega] at hvo
  subst hvo
  refine elementD_of w b _ _ ?_
  have bW : Below w.heap.size w (w.alloc (.cells (parts4 b) 60)) := (Below.refl _ w).alloc (Nat.le_refl _) _
  have lW := Lies.new w 60 (parts4 b)
  obtain ⟨W, hW⟩ : ∃ W, w.alloc (.cells (parts4 b) 60) = W := ⟨_, rfl⟩
  rw [hW] at bW lW ⊢
  have pW := h.below bW
  refine inTurn4 (ptr b) (ptr b) w.heap.size 4 _ _ _ _ (parts4 b) 60 rfl (fun w' => w' = W) (fun _ => False) (fun _ => False) (fun _ => False) _ _ enterBg enterNm enterAt enterRs ?_ (fun _ _ h => h.elim) (fun _ _ h => h.elim) (fun _ _ h => h.elim) W lW rfl
  rintro w' hl rfl
  cases hv : Xp.hasL s.data.toList p [60] with
  | false =>
    refine (begin_no w' b H s p n _ o0 o1 o2 o3 [] hs hp pW hv).mono ?_
    rintro d w1 ⟨rfl, k1, p1⟩
    refine .inr ⟨rfl, p, 2, ?_, (Keep.of_below bW).trans (k1.wide (fun i _ e => .inl e)), _, p1⟩
    unfold Xp.elem
    rw [if_neg (by rw [hv]; simp)]
  | true =>
    refine (begin_full w' b H s p n ad 12 cap o0 o1 o2 o3 hs hp (by omega) hn (.inl rfl) pW hv).mono ?_
    rintro d w1 ⟨rfl, k1, p1⟩
    refine .inr ⟨rfl, p, 4, ?_, (Keep.of_below bW).trans (k1.wide (fun i _ e => .inl e)), _, p1⟩
    unfold Xp.elem
    rw [if_pos hv]
theorem elemIn_succ (m : Nat) (hE : ElemIn m) : ElemIn (m + 1) := by
  intro w b H s p n vo kv o0 o1 o2 o3 x y u M qs hs hp hM hn hq hw hoff hO hH h ho hk hvk
  have hbl : b < w.heap.size := Lies.lt h
  have hkb : kv.ownBlock ≠ some b := own_ne hk h (by decide)
  have hvb : vo.ownBlock ≠ some b := own_ne ho h (by decide)
  refine elementD_of w b _ _ ?_
  have bW : Below w.heap.size w (w.alloc (.cells (parts4 b) 60)) := (Below.refl _ w).alloc (Nat.le_refl _) _
  have lW := Lies.new w 60 (parts4 b)
  obtain ⟨W, hW⟩ : ∃ W, w.alloc (.cells (parts4 b) 60) = W := ⟨_, rfl⟩
  rw [hW] at bW lW ⊢
  clear hW
  have hzW := bW.size
  have pW := h.below bW
  have oW := own_keep (w' := W) ho (fun g hg => bW.block g (own_lt ho hg).1)
  have kW := own_keep (w' := W) hk (fun g hg => bW.block g (own_lt hk hg).1)
  have hLl : (M ++ [(x, y, kv, u)]).length = M.length + 1 := by rw [List.length_append]; rfl
  have hkW : Keep (SA b vo kv) w W := Keep.of_below bW
  refine (parts_elem m hE w W b H w.heap.size s p n vo o0 o1 o2 o3 (M ++ [(x, y, kv, u)])
    (fun w'' T k n' => ∃ (vo' kv' c0 c1 c2 c3 : Value), Keep (SA b vo kv) w w'' ∧ PIn w'' b s k 0 ⟨vo', n', o0, o1, o2, o3⟩ ∧ w''.ownsRow H 25 4 vo' (M.length + 1) (flatE (M ++ [(x, y, kv', u)])) ∧
      w''.ownsRow H 25 4 kv' (qs.length + 1) (flatE (qs ++ [(c0, c1, c2, c3)])) ∧ Grew w vo vo' ∧ Grew w kv kv' ∧ (∀ g, vo'.ownBlock = some g → kv'.ownBlock ≠ some g) ∧ EInR w'' (Quiet w.heap.size w'' vo' kv') (m + 1) c0 c1 c2 c3 T)
    hs hp (by rw [hLl]; omega) hn (hw.below bW) hoff hO (by omega) pW (by rw [hLl]; exact oW) lW (by omega) (fun e => by have := (own_lt ho e).1; omega) ?_).mono ?_
  · intro w3 vo3 av nm l k3 g3 hav hnm w' k n' ks vo' kv' k' p' o' a' r' gv' gk' ap' hks hn' hkn
    obtain ⟨iqs, io, iq, ie⟩ := r'
    have z3 := k3.size
    have z' := k'.size
    have gwv : Grew w vo vo' := (Grew.refl w vo).trans hzW (g3.trans z3 gv')
    -- the parent's row stands as it was
    have hk3v : ∀ g, kv.ownBlock = some g → vo3.ownBlock ≠ some g := fun g hg => g3.old (by have := (own_lt hk hg).1; omega) (fun e => hvk g e hg)
    have hkv' : ∀ g, kv.ownBlock = some g → vo'.ownBlock ≠ some g := fun g hg => gwv.old (own_lt hk hg).1 (fun e => hvk g e hg)
    have kk3 : w3.ownsRow H 25 4 kv qs.length (flatE qs) := own_keep kW (fun g hg => k3.block g (own_lt kW hg).1 (by
      rintro (e | e | e)
      · exact hkb (by rw [hg, e])
      · exact hvk g e hg
      · cases e))
    have kk' : w'.ownsRow H 25 4 kv qs.length (flatE qs) := own_keep kk3 (fun g hg => k'.block g (own_lt kk3 hg).1 (by
      rintro (e | e | e)
      · exact hkb (by rw [hg, e])
      · exact hk3v g hg e
      · cases e))
    obtain ⟨a1, c1, hav1⟩ := own_form a'.1
    obtain ⟨a2, c2, hkv2⟩ := own_form io
    have o'' := o'
    rw [hav1, hkv2, hLl] at o''
    refine (shut_in w' b H s nm k vo' kv n' p o0 o1 o2 o3 x y u a1 a2 _ c1 _ c2 M qs (by omega) (by omega) (by omega) p' o'' kk' (fun g hg e => hkv' g e hg)).mono ?_
    rintro d w'' ⟨rfl, k4, vo'', kv'', p4, hvo4, o4, q4, g4⟩
    refine ⟨rfl, vo'', kv'', .string nm, av, kv', .int .i64 p, ?_, p4, o4, by rw [hav1, hkv2]; exact q4, ?_, ?_, ?_, ?_⟩
    · have e1 : Keep (SA b vo kv) w w3 := hkW.on k3 (fun i hi e => by rcases e with e | e | e; exact .inl e; exact .inr (.inl e); cases e)
      have e2 : Keep (SA b vo kv) w w' := e1.on k' (fun i hi e => by
        rcases SA_grew ((Grew.refl w vo).trans hzW g3) (Grew.refl w nilS) i hi e with e | e | e
        · exact .inl e
        · exact .inr (.inl e)
        · cases e)
      refine e2.on k4 (fun i hi e => ?_)
      rcases e with e | e | e
      · exact .inl e
      · rcases SA_grew gwv (Grew.refl w nilS) i hi (.inr (.inl e)) with e | e | e
        · exact .inl e
        · exact .inr (.inl e)
        · cases e
      · exact .inr (.inr e)
    · rcases gwv with e | ⟨g, e, hg⟩
      · exact .inl (hvo4.trans e)
      · exact .inr ⟨g, hvo4.trans e, hg⟩
    · exact (Grew.refl w kv).trans (by omega) g4
    · intro g hg
      rw [hvo4] at hg
      exact g4.old (own_lt o' hg).1 (fun e => hkv' g e hg)
    · -- the tree
      have z4 := k4.size
      have avn : ∀ g, av.ownBlock = some g → ¬ (g = b ∨ vo'.ownBlock = some g ∨ kv.ownBlock = some g) := by
        intro g hg e
        rcases e with e | e | e
        · have := hav g hg; omega
        · exact own_ne2 o' a'.1 (by decide) g e hg
        · exact own_ne2 kk' a'.1 (by decide) g e hg
      have a4 : AOwn w'' H av l := a'.keep (fun g hg => k4.block g (own_lt a'.1 hg).1 (avn g hg))
      have kvf : ∀ g, kv'.ownBlock = some g → w3.heap.size ≤ g := by
        intro g hg
        rcases gk' with e | ⟨g', e, hg'⟩
        · rw [e] at hg; cases hg
        · rw [e] at hg; have := Option.some.inj hg; omega
      have kvn : ∀ g, kv'.ownBlock = some g → ¬ (g = b ∨ vo'.ownBlock = some g ∨ kv.ownBlock = some g) := by
        intro g hg e
        have h1 := kvf g hg
        rcases e with e | e | e
        · omega
        · exact ap' g e hg
        · have := (own_lt hk e).1; omega
      have hQ : ∀ i, Quiet w3.heap.size w' vo' kv' i → Quiet w.heap.size w'' vo'' kv'' i := by
        rintro i ⟨h1, h2, h3, h4⟩
        refine ⟨by omega, by omega, by rw [hvo4]; exact h3, g4.old h2 (fun e => ?_)⟩
        have := (own_lt hk e).1
        omega
      have hQh : ∀ i, Quiet w3.heap.size w' vo' kv' i → w''.heap[i]? = w'.heap[i]? := by
        rintro i ⟨h1, h2, h3, h4⟩
        refine k4.block i h2 ?_
        rintro (e | e | e)
        · omega
        · exact h3 e
        · have := (own_lt hk e).1; omega
      have r4 : KRow w'' H (Quiet w.heap.size w'' vo'' kv'') m kv' ks := KRow.turn ⟨iqs, io, iq, ie⟩ (fun g hg => k4.block g (own_lt io hg).1 (kvn g hg)) hQh hQ
      refine tree_of hnm a4 r4 ?_ ?_ (by omega)
      · intro g hg
        refine ⟨by have := hav g hg; omega, (own_lt a4.1 hg).1, ?_, ?_⟩
        · intro e; exact own_ne2 o4 a4.1 (by decide) g e hg
        · intro e; exact own_ne2 q4 a4.1 (by decide) g e hg
      · intro g hg
        have h1 := kvf g hg
        have h2 := (own_lt io hg).1
        refine ⟨by omega, by omega, by rw [hvo4]; exact fun e => ap' g e hg, g4.old h2 (fun e => ?_)⟩
        have := (own_lt hk e).1
        omega
  · rintro d w' (⟨rfl, T, k, n', e, vo', kv', c0, c1, c2, c3, h1, h2, h3, h4, h5, h6, h7, h8⟩ | ⟨rfl, q, e, e1, k1, R', p1⟩)
    · exact .inl ⟨rfl, T, k, n', vo', kv', c0, c1, c2, c3, e, h1, h2, h3, h4, h5, h6, h7, h8⟩
    · exact .inr ⟨rfl, q, e, e1, hkW.on k1 (fun i hi e => by rcases e with e | e | e; exact .inl e; exact .inr (.inl e); cases e), R', p1⟩
theorem elemIn_all : ∀ m, ElemIn m
  | 0 => elemIn_zero
  | m + 1 => elemIn_succ m (elemIn_all m)
end Go.Proofs.YtimecocegnnjjaaDoor
