/-
  The program's element.
-/
import Derived.Test.YtimecocegnnjjaaDoorDRest
set_option linter.unusedSimpArgs false
set_option linter.unusedVariables false
namespace Go.Proofs.YtimecocegnnjjaaDoor
open Go.RowKit
theorem Xp.elem_rest (m : Nat) (s : List UInt8) (p n : Nat) : Xp.elem (m + 1) s p n = (if Xp.hasL s p [60] = true then (if 400 ≤ n then .error (p, 4) else match Xp.qual s (p + 1) with
      | none => .error (p + 1, 2)
      | some k => match Xp.tagF 9 s k [] with
        | .error e => .error e
        | .ok (l, j) => Xp.rest m s (Xp.ba (Xp.cut s (p + 1) k)) l p j (n + 1)) else .error (p, 2)) := by
  rw [Xp.elem_eq]
  try rfl
theorem enterBg : Enters Tryd.prog 27 := enters_of Tryd.func27 (by kernel_rfl) rfl
theorem enterNm : Enters Tryd.prog 28 := enters_of Tryd.func28 (by kernel_rfl) rfl
theorem enterAt : Enters Tryd.prog 29 := enters_of Tryd.func29 (by kernel_rfl) rfl
theorem enterRs : Enters Tryd.prog 30 := enters_of Tryd.func30 (by kernel_rfl) rfl
theorem Xp.cut_extract (s : ByteArray) (p k : Nat) : Xp.ba (Xp.cut s.data.toList p k) = s.extract p k := by
  apply Xp.ba_inj
  rw [Lib.extract_data]
  rfl
/-- The four parts of an element, as values, in a block of their own. -/
def parts4 (b : Nat) : Array Value := #[meth 27 (ptr b), meth 28 (ptr b), meth 29 (ptr b), meth 30 (ptr b)]
/-- An element, whatever it is ended by. -/
theorem parts_elem (m : Nat) (hE : ElemIn m) (w0 w : World) (b H gs : Nat) (s : ByteArray) (p n : Nat) (vo o0 o1 o2 o3 : Value) (L : List Quad) (Post : World → Tr → Nat → Nat → Prop) (hs : s.size ≤ 1000000) (hp : p ≤ s.size) (hL : L.length + 1 + m = 12) (hn : n ≤ 400) (hw : Ok w) (hoff : Off b) (hO : ∀ k, H ≤ k → Off k) (hH : H ≤ w.heap.size)
    (h : PIn w b s p 0 ⟨vo, n, o0, o1, o2, o3⟩) (ho : w.ownsRow H 25 4 vo L.length (flatE L)) (hgs : Lies w gs 60 (parts4 b)) (hgb : gs ≠ b) (hgv : vo.ownBlock ≠ some gs)
    (hsh : ∀ (w3 : World) (vo3 av : Value) (nm : ByteArray) (l : List (ByteArray × ByteArray)), Keep (SA b vo nilS) w w3 → Grew w vo vo3 → (∀ g, av.ownBlock = some g → w.heap.size ≤ g) → nm.size ≤ 1000000 → Shuts w3 m b H s nm p vo3 o0 o1 o2 o3 av L l Post) :
    Calls Tryd.prog 14 #[ptr b, .slice (some ⟨gs, 0, none⟩) 4 4] w (Told
      (fun w' => ∃ (T : Tr) (k n' : Nat), Xp.elem (m + 1) s.data.toList p n = .ok (T, k, n') ∧ Post w' T k n')
      (fun w' => ∃ q e : Nat, Xp.elem (m + 1) s.data.toList p n = .error (q, e) ∧ Keep (SA b vo nilS) w w' ∧ ∃ R', PIn w' b s q e R')) := by
  have hel := Xp.elem_rest m s.data.toList p n
  have hbl : b < w.heap.size := Lies.lt h
  have hgl : gs < w.heap.size := hgs.lt
  have hgrew : ∀ vo1 : Value, Grew w vo vo1 → vo1.ownBlock ≠ some gs := by
    intro vo1 hg e
    rcases hg with hg | ⟨g, hg, hl⟩
    · exact hgv (by rw [← hg]; exact e)
    · rw [hg] at e
      have := Option.some.inj e
      omega
  have hSoff : ∀ i, SA b vo nilS i → Off i := by
    intro i hi
    rcases hi with rfl | hi | hi
    · exact hoff
    · exact hO i (own_lt ho hi).2
    · cases hi
  refine inTurn4 (ptr b) (ptr b) gs 4 _ _ _ _ (parts4 b) 60 rfl (fun w' => w' = w)
    (fun w' => Xp.hasL s.data.toList p [60] = true ∧ n < 400 ∧ p + 1 ≤ s.size ∧ ∃ vo1, Grew w vo vo1 ∧ Keep (SA b vo nilS) w w' ∧ PIn w' b s (p + 1 : Nat) 0 ⟨vo1, (n + 1 : Nat), o0, o1, o2, o3⟩ ∧ w'.ownsRow H 25 4 vo1 (L.length + 1) (flatE (L ++ [(.string ⟨#[]⟩, nilS, nilS, .int .i64 p)])))
    (fun w' => Xp.hasL s.data.toList p [60] = true ∧ n < 400 ∧ ∃ (k : Nat) (vo1 : Value), Xp.qual s.data.toList (p + 1) = some k ∧ k ≤ s.size ∧ Grew w vo vo1 ∧ Keep (SA b vo nilS) w w' ∧ PIn w' b s k 0 ⟨vo1, (n + 1 : Nat), o0, o1, o2, o3⟩ ∧ w'.ownsRow H 25 4 vo1 (L.length + 1) (flatE (L ++ [(.string (s.extract (p + 1) k), nilS, nilS, .int .i64 p)])))
    (fun w' => Xp.hasL s.data.toList p [60] = true ∧ n < 400 ∧ ∃ (k j : Nat) (vo1 av : Value) (l : List (ByteArray × ByteArray)), Xp.qual s.data.toList (p + 1) = some k ∧ k ≤ s.size ∧ Xp.tagF 9 s.data.toList k [] = .ok (l, j) ∧ j ≤ s.size ∧ Grew w vo vo1 ∧ (∀ g, av.ownBlock = some g → w.heap.size ≤ g) ∧ Keep (SA b vo nilS) w w' ∧ PIn w' b s j 0 ⟨vo1, (n + 1 : Nat), o0, o1, o2, o3⟩ ∧ w'.ownsRow H 25 4 vo1 (L.length + 1) (flatE (L ++ [(.string (s.extract (p + 1) k), av, nilS, .int .i64 p)])) ∧ AOwn w' H av l)
    _ _ enterBg enterNm enterAt enterRs ?_ ?_ ?_ ?_ w hgs rfl
  · rintro w' hl rfl
    cases hv : Xp.hasL s.data.toList p [60] with
    | false =>
      refine (begin_no w' b H s p n vo o0 o1 o2 o3 L hs hp h hv).mono ?_
      rintro d w1 ⟨rfl, k1, p1⟩
      refine .inr ⟨rfl, p, 2, ?_, k1.wide (fun i _ e => .inl e), _, p1⟩
      rw [hel, if_neg (by rw [hv]; simp)]
    | true =>
      by_cases hn4 : n = 400
      · have hform : ∃ ad cap, vo = .slice ad L.length cap := by
          rcases ho.2 with ⟨rfl, h0⟩ | ⟨g, cap, cur, rfl, _⟩
          · exact ⟨none, 0, by rw [h0]⟩
          · exact ⟨_, _, rfl⟩
        obtain ⟨ad, cap, hvo⟩ := hform
        rw [hvo] at h
        refine (begin_full w' b H s p n ad L.length cap o0 o1 o2 o3 hs hp (by omega) hn (.inr hn4) h hv).mono ?_
        rintro d w1 ⟨rfl, k1, p1⟩
        refine .inr ⟨rfl, p, 4, ?_, k1.wide (fun i _ e => .inl e), _, p1⟩
        rw [hel, if_pos hv, if_pos (by omega)]
      · refine (begin_ok w' b H s p n vo o0 o1 o2 o3 L hs hp (by omega) (by omega) hH h ho hv).mono ?_
        rintro d w1 ⟨rfl, k1, vo1, p1, o1', g1⟩
        have k1' : Keep (SA b vo nilS) w' w1 := k1.wide (fun i _ e => by rcases e with e | e; exact .inl e; exact .inr (.inl e))
        refine .inl ⟨rfl, hl.keep k1' ?_, rfl, by omega, Xp.has_room hv (by decide), vo1, g1, k1', p1, o1'⟩
        rintro (e | e | e)
        · exact hgb e
        · exact hgv e
        · cases e
  · rintro w1 hl ⟨hv, hn4, hp1, vo1, g1, k1, p1, o1'⟩
    have hw1 : Ok w1 := hw.keep k1 hSoff
    refine (elementNameD w1 b H s (p + 1) ⟨vo1, (n + 1 : Nat), o0, o1, o2, o3⟩ L (.string ⟨#[]⟩) nilS nilS (.int .i64 p) hs hp1 (by omega) hw1 hoff p1 o1').mono ?_
    rintro d w2 (⟨rfl, k, e2, hk1, hk2, k2, p2, o2'⟩ | ⟨rfl, e2, k2, p2⟩)
    · have k2' : Keep (SA b vo nilS) w w2 := k1.on k2 (fun i hi e => SA_grew g1 (Grew.refl _ nilS) i hi (by rcases e with e | e; exact .inl e; exact .inr (.inl e)))
      refine .inl ⟨rfl, hl.keep k2 ?_, hv, hn4, k, vo1, e2, hk2, g1, k2', p2, o2'⟩
      rintro (e | e)
      · exact hgb e
      · exact hgrew vo1 g1 e
    · refine .inr ⟨rfl, p + 1, 2, ?_, k1.trans (k2.wide (fun i _ e => .inl e)), _, p2⟩
      rw [hel, if_pos hv, if_neg (by omega), e2]
  · rintro w1 hl ⟨hv, hn4, k, vo1, e1, hk, g1, k1, p1, o1'⟩
    have hw1 : Ok w1 := hw.keep k1 hSoff
    refine (attributesD w1 b H s k ⟨vo1, (n + 1 : Nat), o0, o1, o2, o3⟩ L (.string (s.extract (p + 1) k)) nilS nilS (.int .i64 p) hs hk (by omega) hw1 hoff (by have := k1.size; omega) p1 o1' ⟨World.ownsRow_nil _ _ _ _, by decide, fun p hp => by simp at hp⟩ hO).mono ?_
    rintro d w2 (⟨rfl, l, j, av, e2, hj1, hj2, k2, p2, o2', a2, ga⟩ | ⟨rfl, q, e, e2, k2, p2⟩)
    · refine .inl ⟨rfl, hl.keep k2 ?_, hv, hn4, k, j, vo1, av, l, e1, hk, e2, hj2, g1, ?_, k1.on k2 (SA_grew g1 (Grew.refl _ nilS)), p2, o2', a2⟩
      · rintro (e | e | e)
        · exact hgb e
        · exact hgrew vo1 g1 e
        · cases e
      · intro g hg
        rcases ga with ga | ⟨g', ga, hga⟩
        · rw [ga] at hg
          cases hg
        · rw [ga] at hg
          have := Option.some.inj hg
          have := k1.size
          omega
    · refine .inr ⟨rfl, q, e, ?_, k1.on k2 (SA_grew g1 (Grew.refl _ nilS)), _, p2⟩
      rw [hel, if_pos hv, if_neg (by omega), e1]
      dsimp only
      rw [e2]
  · rintro w1 hl ⟨hv, hn4, k, j, vo1, av, l, e1, hk, e2, hj, g1, hav, k1, p1, o1', a1⟩
    have hw1 : Ok w1 := hw.keep k1 hSoff
    have hnm : (s.extract (p + 1) k).size ≤ 1000000 := by rw [ByteArray.size_extract]; omega
    have hel2 : Xp.elem (m + 1) s.data.toList p n = Xp.rest m s.data.toList (s.extract (p + 1) k) l p j (n + 1) := by
      rw [hel, if_pos hv, if_neg (by omega), e1]
      dsimp only
      rw [e2]
      dsimp only
      rw [Xp.cut_extract]
    refine (restD m hE w1 b H s (s.extract (p + 1) k) p j (n + 1) vo1 o0 o1 o2 o3 av L l Post hs hj hL (by omega) hw1 hoff hO (by have := k1.size; omega) p1 o1' a1 (hsh w1 vo1 av _ l k1 g1 hav hnm)).mono ?_
    rintro d w2 (⟨rfl, T, k', n', e3, q3⟩ | ⟨rfl, q, e, e3, k3, R', p3⟩)
    · exact .inl ⟨rfl, T, k', n', by rw [hel2]; exact e3, q3⟩
    · exact .inr ⟨rfl, q, e, by rw [hel2]; exact e3, k1.on k3 (SA_grew g1 (Grew.refl _ nilS)), R', p3⟩
end Go.Proofs.YtimecocegnnjjaaDoor
