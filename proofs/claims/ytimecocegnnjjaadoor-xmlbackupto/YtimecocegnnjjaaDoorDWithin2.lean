/-
  The program's within.
-/
import Derived.Test.YtimecocegnnjjaaDoorDWithin
set_option linter.unusedSimpArgs false
set_option linter.unusedVariables false
namespace Go.Proofs.YtimecocegnnjjaaDoor
open Go.RowKit
theorem nextW_some {s : List UInt8} {p f : Nat} {P : Value} (h : nextA s p P = meth f P) : nextW s p P = meth f P := by
  unfold nextA at h
  unfold nextW
  split at h
  · rename_i h1
    rw [if_pos h1]
    exact h
  · rename_i h1
    split at h
    · rename_i h2
      rw [if_neg h1, if_pos h2]
      exact h
    · cases h
theorem nextW_none {s : List UInt8} {p : Nat} {P : Value} (h : nextA s p P = .nilFunc) : nextW s p P = if Xp.hasL s p [60] = true ∧ Xp.hasL s p [60, 47] = false then meth 16 P else .nilFunc := by
  unfold nextA at h
  unfold nextW
  split at h
  · cases h
  · rename_i h1
    split at h
    · cases h
    · rename_i h2
      rw [if_neg h1, if_neg h2]
theorem KRow.turn {w w' : World} {H : Nat} {R R' : Nat → Prop} {n : Nat} {kv : Value} {ks : List Tr} (h : KRow w H R n kv ks) (hkv : ∀ g, kv.ownBlock = some g → w'.heap[g]? = w.heap[g]?) (hk : ∀ k, R k → w'.heap[k]? = w.heap[k]?) (hR : ∀ k, R k → R' k) : KRow w' H R' n kv ks := by
  obtain ⟨qs, ho, hq, he⟩ := h
  exact ⟨qs, own_keep ho hkv, hq, fun i q K h1 h2 => EInR.turn hk hR (he i q K h1 h2)⟩
/-- What within keeps up, from the world w on. -/
structure WIn (w w' : World) (m b H : Nat) (s nm : ByteArray) (p n : Nat) (vo kv o0 o1 o2 o3 av u : Value) (L : List Quad) (k n' : Nat) (ks : List Tr) (vo' kv' : Value) : Prop where
  same : Xp.kids m s.data.toList nm.data.toList p n [] = Xp.kids m s.data.toList nm.data.toList k n' ks
  pk : p ≤ k
  ks' : k ≤ s.size
  n4 : n' ≤ 400
  kn : ks.length ≤ n'
  keep : Keep (SA b vo kv) w w'
  pin : PIn w' b s k 0 ⟨vo', n', o0, o1, o2, o3⟩
  own : w'.ownsRow H 25 4 vo' (L.length + 1) (flatE (L ++ [(.string nm, av, kv', u)]))
  row : KRow w' H (Quiet w.heap.size w' vo' kv') m kv' ks
  gv : Grew w vo vo'
  gk : Grew w kv kv'
  apart : ∀ g, vo'.ownBlock = some g → kv'.ownBlock ≠ some g
theorem SA_grew {w : World} {b : Nat} {vo kv vo' kv' : Value} (hv : Grew w vo vo') (hk : Grew w kv kv') : ∀ i, i < w.heap.size → SA b vo' kv' i → SA b vo kv i := by
  intro i hi e
  rcases e with e | e | e
  · exact .inl e
  · rcases hv with h | ⟨g, h, hg⟩
    · exact .inr (.inl (by rw [← h]; exact e))
    · rw [h] at e
      have := Option.some.inj e
      omega
  · rcases hk with h | ⟨g, h, hg⟩
    · exact .inr (.inr (by rw [← h]; exact e))
    · rw [h] at e
      have := Option.some.inj e
      omega
/-- A step that turns nothing but the parser's own block. -/
theorem WIn.step {w w1 w2 : World} {m b H : Nat} {s nm : ByteArray} {p n : Nat} {vo kv o0 o1 o2 o3 av u : Value} {L : List Quad} {k n' : Nat} {ks : List Tr} {vo' kv' : Value} (h : WIn w w1 m b H s nm p n vo kv o0 o1 o2 o3 av u L k n' ks vo' kv') (hb : b < w.heap.size) (hk : Keep (· = b) w1 w2) {j : Nat} (hp : PIn w2 b s j 0 ⟨vo', n', o0, o1, o2, o3⟩) (hj : p ≤ j) (hjs : j ≤ s.size) (he : Xp.kids m s.data.toList nm.data.toList k n' ks = Xp.kids m s.data.toList nm.data.toList j n' ks) :
    WIn w w2 m b H s nm p n vo kv o0 o1 o2 o3 av u L j n' ks vo' kv' := by
  have hne : vo'.ownBlock ≠ some b := own_ne h.own h.pin (by decide)
  obtain ⟨qs, ho, hq, hee⟩ := h.row
  have hkb : kv'.ownBlock ≠ some b := own_ne ho h.pin (by decide)
  refine ⟨h.same.trans he, hj, hjs, h.n4, h.kn, h.keep.trans (hk.wide (fun i _ e => .inl e)), hp, ?_, ?_, h.gv, h.gk, h.apart⟩
  · exact own_keep h.own (fun g hg => hk.block g (own_lt h.own hg).1 (fun e => hne (by rw [hg, e])))
  · refine h.row.turn (fun g hg => hk.block g (own_lt ho hg).1 (fun e => hkb (by rw [hg, e]))) (fun i hi => hk.block i hi.2.1 (fun e => ?_)) (Quiet.on (Grew.refl _ _) (Grew.refl _ _) hk.size)
    have := hi.1
    omega
theorem withinD (m : Nat) (hE : ElemIn m) (w : World) (b H : Nat) (s nm : ByteArray) (p n : Nat) (vo o0 o1 o2 o3 av u : Value) (L : List Quad) (hs : s.size ≤ 1000000) (hp : p ≤ s.size) (hL : L.length + 1 + m = 12) (hn : n ≤ 400) (hw : Ok w) (hoff : Off b) (hO : ∀ k, H ≤ k → Off k) (hH : H ≤ w.heap.size)
    (h : PIn w b s p 0 ⟨vo, n, o0, o1, o2, o3⟩) (ho : w.ownsRow H 25 4 vo (L.length + 1) (flatE (L ++ [(.string nm, av, nilS, u)]))) :
    Calls Tryd.prog 47 #[ptr b] w (Told
      (fun w' => ∃ (k n' : Nat) (ks : List Tr) (vo' kv' : Value), WIn w w' m b H s nm p n vo nilS o0 o1 o2 o3 av u L k n' ks vo' kv' ∧ Xp.misc s.data.toList k = .ok k ∧ ¬ (Xp.hasL s.data.toList k [60] = true ∧ Xp.hasL s.data.toList k [60, 47] = false))
      (fun w' => ∃ q e : Nat, Xp.kids m s.data.toList nm.data.toList p n [] = .error (q, e) ∧ Keep (SA b vo nilS) w w' ∧ ∃ R', PIn w' b s q e R')) := by
  have hmf : ∀ (fn : Fn) (first cap : Array Value) (w : World), (Instr.makeFunc fn first cap).run Tryd.prog w = .ok (.func fn first cap) w := fun _ _ _ _ => rfl
  have hbl : b < w.heap.size := Lies.lt h
  have hL' : s.data.toList.length = s.size := Array.length_toList
  have hSoff : ∀ i, SA b vo nilS i → Off i := by
    intro i hi
    rcases hi with rfl | hi | hi
    · exact hoff
    · exact hO i (own_lt ho hi).2
    · cases hi
  have C : Hid (Calls Tryd.prog 25 #[ptr b, meth 57 (ptr b)] w (Told
      (fun w' => ∃ (k n' : Nat) (ks : List Tr) (vo' kv' : Value), WIn w w' m b H s nm p n vo nilS o0 o1 o2 o3 av u L k n' ks vo' kv' ∧ Xp.misc s.data.toList k = .ok k ∧ ¬ (Xp.hasL s.data.toList k [60] = true ∧ Xp.hasL s.data.toList k [60, 47] = false))
      (fun w' => ∃ q e : Nat, Xp.kids m s.data.toList nm.data.toList p n [] = .error (q, e) ∧ Keep (SA b vo nilS) w w' ∧ ∃ R', PIn w' b s q e R'))) := by
    refine repeatD (ptr b) (ptr b) 57 (fun w' => ∃ (k n' : Nat) (ks : List Tr) (vo' kv' : Value), WIn w w' m b H s nm p n vo nilS o0 o1 o2 o3 av u L k n' ks vo' kv') _ _ (fun w' => s.size - placeP w' b) enterW ?_ w ⟨p, n, [], vo, nilS, ⟨rfl, Nat.le_refl _, hp, hn, Nat.zero_le _, Keep.refl _ _, h, ho, ⟨[], World.ownsRow_nil _ _ _ _, rfl, fun i q K h1 _ => by simp at h1⟩, Grew.refl _ _, Grew.refl _ _, fun _ _ e => by cases e⟩⟩
    rintro w1 ⟨k, n', ks, vo', kv', I1⟩
    refine (nextWithinD w1 b s k _ hs I1.ks' I1.pin).mono ?_
    rintro d w2 ⟨rfl, b2⟩
    have I2 := I1.step hbl (Keep.of_below b2) (I1.pin.below b2) I1.pk I1.ks' rfl
    have hw2 : Ok w2 := hw.keep I2.keep hSoff
    rcases stepA w2 b s k _ hs I1.ks' hw2 hoff I2.pin with ⟨h1, h2⟩ | ⟨f, h1, h2, h3⟩
    · rw [nextW_none h1]
      by_cases he : Xp.hasL s.data.toList k [60] = true ∧ Xp.hasL s.data.toList k [60, 47] = false
      · rw [if_pos he]
        refine .inr ⟨_, rfl, enterE, ?_⟩
        obtain ⟨qs, ho2, hq2, hee⟩ := I2.row
        have hkk := Xp.kids_kid (m := m) (s := s.data.toList) (nm := nm.data.toList) (n := n') (ks := ks) (by rw [hL']; exact I1.ks') h2 he.2 he.1
        refine (hE w2 b H s k n' vo' kv' o0 o1 o2 o3 (.string nm) av u L qs hs I1.ks' hL I1.n4 (by rw [hq2]; exact I1.kn) hw2 hoff hO (by have := I2.keep.size; omega) I2.pin I2.own ho2 I2.apart).mono ?_
        rintro d w3 (⟨rfl, T, j, n'', vo'', kv'', c0, c1, c2, c3, e3, k3, p3, o3', q3, gv3, gk3, ap3, t3⟩ | ⟨rfl, q, e, e3, k3, R', p3⟩)
        · have hg := Xp.elem_goes s.data.toList m k n' T j n'' (by rw [hL']; exact I1.ks') e3
          rw [hL'] at hg
          rw [e3] at hkk
          refine .inl ⟨rfl, ⟨j, n'', ks ++ [T], vo'', kv'', ⟨I1.same.trans hkk, by have := I1.pk; omega, hg.2.1, hg.2.2.2, by rw [List.length_append]; have := I1.kn; simp; omega, I2.keep.on k3 (SA_grew I2.gv I2.gk), p3, o3', ?_, I2.gv.trans I2.keep.size gv3, I2.gk.trans I2.keep.size gk3, ap3⟩⟩, ?_⟩
          · refine ⟨qs ++ [(c0, c1, c2, c3)], by rw [List.length_append]; exact q3, by rw [List.length_append, List.length_append, hq2]; rfl, ?_⟩
            intro i q K hi hK
            rcases Nat.lt_or_ge i qs.length with hlt | hge
            · rw [List.getElem?_append_left hlt] at hi
              rw [List.getElem?_append_left (by omega)] at hK
              exact EInR.turn (Quiet.keep k3 hbl) (Quiet.on gv3 gk3 k3.size) (hee i q K hi hK)
            · rw [List.getElem?_append_right hge] at hi
              rw [List.getElem?_append_right (by omega)] at hK
              have hi0 : i - qs.length = 0 := by
                have := (List.getElem?_eq_some_iff.1 hi).1
                simp at this
                omega
              rw [hi0] at hi
              rw [← hq2, hi0] at hK
              simp only [List.getElem?_cons_zero, Option.some.injEq] at hi hK
              subst hi hK
              exact EInR.turn (fun _ _ => rfl) (fun k hk => ⟨by have := hk.1; have := I2.keep.size; omega, hk.2⟩) t3
          · rw [placeP_of (k := k) (I1.pin.cell 1), placeP_of (k := j) (p3.cell 1)]
            omega
        · rw [e3] at hkk
          exact .inr ⟨rfl, q, e, I1.same.trans hkk, I2.keep.on k3 (SA_grew I2.gv I2.gk), R', p3⟩
      · rw [if_neg he]
        exact .inl ⟨rfl, k, n', ks, vo', kv', I2, h2, he⟩
    · rw [nextW_some h1]
      refine .inr ⟨f, rfl, h2, h3.mono ?_⟩
      rintro d w3 (⟨rfl, k3, j, hj, hjs, r3, e3⟩ | ⟨rfl, k3, j, r3, e3⟩)
      · refine .inl ⟨rfl, ⟨j, n', ks, vo', kv', I2.step hbl k3 r3 (by have := I1.pk; omega) hjs (Xp.kids_misc e3)⟩, ?_⟩
        rw [placeP_of (k := k) (I1.pin.cell 1), placeP_of (k := j) (r3.cell 1)]
        omega
      · exact .inr ⟨rfl, j, 2, I1.same.trans (Xp.kids_err e3), I2.keep.trans (k3.wide (fun i _ e => .inl e)), _, r3⟩
  go_enter Tryd.func47, Tryd.ntmps47
  go_wp2_with fail
  refine C.out.mono ?_
  rintro d w1 (⟨rfl, h1⟩ | ⟨rfl, h1⟩)
  · have H1 := hideT h1
    clear h1
    go_wp2_with fail
    go_ret
    exact .inl ⟨rfl, H1.out⟩
  · have H1 := hideT h1
    clear h1
    go_wp2_with fail
    go_ret
    exact .inr ⟨rfl, H1.out⟩
end Go.Proofs.YtimecocegnnjjaaDoor
