/-
  The program's begin: an element's first byte; it is put behind the open ones.
-/
import Derived.Test.YtimecocegnnjjaaDoorDInner
set_option linter.unusedSimpArgs false
set_option linter.unusedVariables false
namespace Go.Proofs.YtimecocegnnjjaaDoor
open Go.RowKit
/-- The row's block is the one that it was, or new since w. -/
def Grew (w : World) (v v' : Value) : Prop := v'.ownBlock = v.ownBlock ∨ ∃ g, v'.ownBlock = some g ∧ w.heap.size ≤ g
theorem Grew.refl (w : World) (v : Value) : Grew w v v := .inl rfl
theorem Grew.trans {w w1 : World} {v v' v'' : Value} (h : Grew w v v') (hs : w.heap.size ≤ w1.heap.size) (k : Grew w1 v' v'') : Grew w v v'' := by
  rcases k with k | ⟨g, k, hg⟩
  · rcases h with h | ⟨g, h, hg⟩
    · exact .inl (k.trans h)
    · exact .inr ⟨g, k.trans h, hg⟩
  · exact .inr ⟨g, k, by omega⟩
theorem infoE : (Tryd.prog.info? 25).map (fun i => (i.zero, i.size, i.bytes)) = some (some (.agg #[.string ⟨#[]⟩, .slice none 0 0, .slice none 0 0, .int .i64 0]), 4, 72) := by kernel_rfl
theorem infoA : (Tryd.prog.info? 36).map (fun i => (i.zero, i.size, i.bytes)) = some (some (.agg #[.string ⟨#[]⟩, .string ⟨#[]⟩]), 2, 32) := by kernel_rfl
abbrev nilS : Value := .slice none 0 0
/-- Blocks that were not there at first do not count. -/
theorem Keep.on {S T : Nat → Prop} {a b c : World} (h : Keep S a b) (k : Keep T b c) (hT : ∀ i, i < a.heap.size → T i → S i) : Keep S a c :=
  ⟨k.os.trans h.os, k.tape.trans h.tape, k.output.trans h.output, Nat.le_trans h.size k.size, fun i hi hs => (k.block i (Nat.lt_of_lt_of_le hi h.size) (fun e => hs (hT i hi e))).trans (h.block i hi hs)⟩
theorem Keep.grown {w w' : World} {row : Option Nat} (h : w.grownBy w' row) : Keep (fun k => row = some k) w w' :=
  ⟨h.os, h.tape, h.output, h.size, fun k hk hs => h.block k hk (fun e => hs e.symm)⟩
/-- An element written into the last place of a row, and a cell of the struct at b: in either order. -/
def put4 (w : World) (g o : Nat) (a b c d : Value) : World := (((w.setCell ⟨g, o, none⟩ a).setCell ⟨g, o + 1, none⟩ b).setCell ⟨g, o + 2, none⟩ c).setCell ⟨g, o + 3, none⟩ d
theorem put4_own {w : World} {H g n cap : Nat} {L : List Quad} {x y z u a b c d : Value} (h : w.ownsRow H 25 4 (.slice (some ⟨g, 0, none⟩) n cap) n (flatE (L ++ [(x, y, z, u)]))) :
    (put4 w g (L.length * 4) a b c d).ownsRow H 25 4 (.slice (some ⟨g, 0, none⟩) n cap) n (flatE (L ++ [(a, b, c, d)])) := by
  have h1 := own_set h (L.length * 4) a
  rw [(flatE_set L x y z u a).1] at h1
  have h2 := own_set h1 (L.length * 4 + 1) b
  rw [(flatE_set L a y z u b).2.1] at h2
  have h3 := own_set h2 (L.length * 4 + 2) c
  rw [(flatE_set L a b z u c).2.2.1] at h3
  have h4 := own_set h3 (L.length * 4 + 3) d
  rw [(flatE_set L a b c u d).2.2.2] at h4
  exact h4
theorem put4_keep (w : World) (g o : Nat) (a b c d : Value) : Keep (· = g) w (put4 w g o a b c d) :=
  (((Keep.set (S := (· = g)) w ⟨g, o, none⟩ a rfl).trans (Keep.set _ ⟨g, o + 1, none⟩ b rfl)).trans (Keep.set _ ⟨g, o + 2, none⟩ c rfl)).trans (Keep.set _ ⟨g, o + 3, none⟩ d rfl)
theorem put4_lies {w : World} {g o : Nat} {a b c d : Value} {k : Nat} {t : TypeId} {C : Array Value} (h : Lies w k t C) (hn : g ≠ k) : Lies (put4 w g o a b c d) k t C := h.keep (put4_keep w g o a b c d) (fun e => hn e.symm)
theorem put4_a {w : World} {H g n cap bk j : Nat} {t : TypeId} {C : Array Value} {L : List Quad} {x y z u a b c d v : Value} (h : w.ownsRow H 25 4 (.slice (some ⟨g, 0, none⟩) n cap) n (flatE (L ++ [(x, y, z, u)]))) (hl : Lies w bk t C) (hn : g ≠ bk) :
    ((put4 w g (L.length * 4) a b c d).setCell ⟨bk, j, none⟩ v).ownsRow H 25 4 (.slice (some ⟨g, 0, none⟩) n cap) n (flatE (L ++ [(a, b, c, d)])) ∧ Lies ((put4 w g (L.length * 4) a b c d).setCell ⟨bk, j, none⟩ v) bk t (C.setIfInBounds j v) ∧ Keep (fun k => k = g ∨ k = bk) w ((put4 w g (L.length * 4) a b c d).setCell ⟨bk, j, none⟩ v) := by
  refine ⟨own_keep (put4_own h) (fun g' hg' => Below.heap_setCell _ _ _ _ ?_), (put4_lies hl hn).set j v, ((put4_keep w g _ a b c d).wide (fun k _ e => .inl e)).trans (Keep.set _ ⟨bk, j, none⟩ v (.inr rfl))⟩
  obtain rfl : g = g' := Option.some.inj hg'
  exact hn
theorem put4_b {w : World} {H g n cap bk j : Nat} {t : TypeId} {C : Array Value} {L : List Quad} {x y z u a b c d v : Value} (h : w.ownsRow H 25 4 (.slice (some ⟨g, 0, none⟩) n cap) n (flatE (L ++ [(x, y, z, u)]))) (hl : Lies w bk t C) (hn : g ≠ bk) :
    (put4 (w.setCell ⟨bk, j, none⟩ v) g (L.length * 4) a b c d).ownsRow H 25 4 (.slice (some ⟨g, 0, none⟩) n cap) n (flatE (L ++ [(a, b, c, d)])) ∧ Lies (put4 (w.setCell ⟨bk, j, none⟩ v) g (L.length * 4) a b c d) bk t (C.setIfInBounds j v) ∧ Keep (fun k => k = g ∨ k = bk) w (put4 (w.setCell ⟨bk, j, none⟩ v) g (L.length * 4) a b c d) := by
  refine ⟨put4_own (own_keep h (fun g' hg' => Below.heap_setCell _ _ _ _ ?_)), put4_lies (hl.set j v) hn, (Keep.set w ⟨bk, j, none⟩ v (.inr rfl)).trans ((put4_keep _ g _ a b c d).wide (fun k _ e => .inl e))⟩
  obtain rfl : g = g' := Option.some.inj hg'
  exact hn
theorem grew_of {w : World} {vo : Value} {g m cap h : Nat} (hat : vo.ownBlock = some g ∨ g = h + 1) (hs : w.heap.size ≤ h) : Grew w vo (.slice (some ⟨g, 0, none⟩) m cap) := by
  rcases hat with h | h
  · exact .inl h.symm
  · exact .inr ⟨g, rfl, by omega⟩
theorem slot_of {w : World} {vo : Value} {g b h : Nat} (hat : vo.ownBlock = some g ∨ g = h + 1) (hs : w.heap.size ≤ h) : ∀ i, i < w.heap.size → i = g ∨ i = b → i = b ∨ vo.ownBlock = some i := by
  intro i hi e
  rcases e with rfl | rfl
  · rcases hat with h | h
    · exact .inr h
    · omega
  · exact .inl rfl
/-- Both worlds by a name. -/
theorem put_named {S : Nat → Prop} {w w3 : World} {H g n cap bk j : Nat} {t : TypeId} {C : Array Value} {L : List Quad} {x y z u : Value} (a b c d v : Value) (h : w3.ownsRow H 25 4 (.slice (some ⟨g, 0, none⟩) n cap) n (flatE (L ++ [(x, y, z, u)]))) (hl : Lies w3 bk t C) (hn : g ≠ bk) (KG : Keep S w w3) (hgi : ∀ i, i < w.heap.size → i = g ∨ i = bk → S i) :
    (∃ X, ((((w3.setCell ⟨g, L.length * 4, none⟩ a).setCell ⟨g, L.length * 4 + 1, none⟩ b).setCell ⟨g, L.length * 4 + 2, none⟩ c).setCell ⟨g, L.length * 4 + 3, none⟩ d).setCell ⟨bk, j, none⟩ v = X ∧ Keep S w X ∧ Lies X bk t (C.setIfInBounds j v) ∧ X.ownsRow H 25 4 (.slice (some ⟨g, 0, none⟩) n cap) n (flatE (L ++ [(a, b, c, d)]))) ∧
    (∃ X, ((((w3.setCell ⟨bk, j, none⟩ v).setCell ⟨g, L.length * 4, none⟩ a).setCell ⟨g, L.length * 4 + 1, none⟩ b).setCell ⟨g, L.length * 4 + 2, none⟩ c).setCell ⟨g, L.length * 4 + 3, none⟩ d = X ∧ Keep S w X ∧ Lies X bk t (C.setIfInBounds j v) ∧ X.ownsRow H 25 4 (.slice (some ⟨g, 0, none⟩) n cap) n (flatE (L ++ [(a, b, c, d)]))) := by
  obtain ⟨a1, a2, a3⟩ := put4_a (j := j) (a := a) (b := b) (c := c) (d := d) (v := v) h hl hn
  obtain ⟨b1, b2, b3⟩ := put4_b (j := j) (a := a) (b := b) (c := c) (d := d) (v := v) h hl hn
  exact ⟨⟨_, rfl, KG.on a3 hgi, a2, a1⟩, ⟨_, rfl, KG.on b3 hgi, b2, b1⟩⟩
/-- Behind the append of an empty element: the cells that are written next. -/
theorem grown_at {W W' w3 : World} {H b g cap2 : Nat} {vo : Value} {L : List Quad} {C : Array Value} {t : TypeId} (hown : w3.ownsRow H 25 4 (.slice (some ⟨g, 0, none⟩) (L.length + 1) cap2) (L.length + 1) (flatE L ++ [.string ⟨#[]⟩, nilS, nilS, .int .i64 0]))
    (hgrow : W'.grownBy w3 vo.ownBlock) (hB : Below W.heap.size W W') (hne : vo.ownBlock ≠ some b) (hl : Lies W b t C) (ht : t ≠ 25) :
    w3.ownsRow H 25 4 (.slice (some ⟨g, 0, none⟩) (L.length + 1) cap2) (L.length + 1) (flatE (L ++ [(.string ⟨#[]⟩, nilS, nilS, .int .i64 0)])) ∧ Lies w3 b t C ∧ g ≠ b ∧
    (w3.cell? ⟨g, L.length * 4, none⟩ = some (.string ⟨#[]⟩) ∧ w3.cell? ⟨g, L.length * 4 + 1, none⟩ = some nilS ∧ w3.cell? ⟨g, L.length * 4 + 2, none⟩ = some nilS ∧ w3.cell? ⟨g, L.length * 4 + 3, none⟩ = some (.int .i64 0)) ∧
    (w3.frozen? ⟨g, L.length * 4, none⟩ = false ∧ w3.frozen? ⟨g, L.length * 4 + 1, none⟩ = false ∧ w3.frozen? ⟨g, L.length * 4 + 2, none⟩ = false ∧ w3.frozen? ⟨g, L.length * 4 + 3, none⟩ = false) := by
  have h2 : w3.ownsRow H 25 4 (.slice (some ⟨g, 0, none⟩) (L.length + 1) cap2) (L.length + 1) (flatE (L ++ [(.string ⟨#[]⟩, nilS, nilS, .int .i64 0)])) := by
    rw [flatE_app]
    exact hown
  have hl' := hl.below hB
  have hl3 : Lies w3 b t C := by
    have := hgrow.block b hl'.lt (fun e => hne e.symm)
    unfold Lies at *
    rw [this, hl']
  obtain ⟨e0, e1, e2, e3⟩ := flatE_last L (.string ⟨#[]⟩) nilS nilS (.int .i64 0)
  refine ⟨h2, hl3, fun e => own_ne h2 hl3 ht (by rw [← e]; rfl), ⟨own_cell h2 e0, own_cell h2 e1, own_cell h2 e2, own_cell h2 e3⟩, own_free h2 _, own_free h2 _, own_free h2 _, own_free h2 _⟩
set_option maxHeartbeats 4000000 in
set_option maxRecDepth 100000 in
theorem begin_ok (w : World) (b H : Nat) (s : ByteArray) (p n : Nat) (vo o0 o1 o2 o3 : Value) (L : List Quad) (hs : s.size ≤ 1000000) (hp : p ≤ s.size) (hL : L.length < 12) (hn : n < 400) (hH : H ≤ w.heap.size)
    (h : PIn w b s p 0 ⟨vo, n, o0, o1, o2, o3⟩) (ho : w.ownsRow H 25 4 vo L.length (flatE L)) (hv : Hid (Xp.hasL s.data.toList p [60] = true)) :
    Calls Tryd.prog 27 #[ptr b] w fun e w' => e = .returned (.bool true) ∧ Keep (fun k => k = b ∨ vo.ownBlock = some k) w w' ∧ ∃ vo', PIn w' b s (p + 1 : Nat) 0 ⟨vo', (n + 1 : Nat), o0, o1, o2, o3⟩ ∧
      w'.ownsRow H 25 4 vo' (L.length + 1) (flatE (L ++ [(.string ⟨#[]⟩, nilS, nilS, .int .i64 p)])) ∧ Grew w vo vo' := by
  obtain ⟨i0, hi0, hz0, hz1, hz2⟩ := info_parts infoE
  have HP : Hid (PIn w b s p 0 ⟨vo, n, o0, o1, o2, o3⟩) := h
  have HO : Hid (w.ownsRow H 25 4 vo L.length (flatE L)) := ho
  have x1 : w.cell? ⟨b, 1, none⟩ = some (.int .i64 p) := h.cell 1
  clear h ho
  obtain ⟨d, hd⟩ : ∃ d, d = L.length := ⟨_, rfl⟩
  have HD : Hid (d = L.length) := hd
  go_enter Tryd.func27, Tryd.ntmps27
  go_wp2_with fail
  refine (mustD w b s ⟨#[60]⟩ p ⟨vo, n, o0, o1, o2, o3⟩ true hs hp (by decide) HP.out hv).mono ?_
  rintro e w1 ⟨rfl, k1, r1, _⟩
  have P1 : Hid (PIn w1 b s (p + 1 : Nat) 0 ⟨vo, n, o0, o1, o2, o3⟩) := r1 rfl
  have K1 : Hid (Keep (· = b) w w1) := k1
  have hb := HP.out.lt
  have hne : vo.ownBlock ≠ some b := own_ne HO.out HP.out (by decide)
  have O1 : Hid (w1.ownsRow H 25 4 vo L.length (flatE L)) := own_keep HO.out (fun g hg => k1.block g (own_lt HO.out hg).1 (fun e => hne (by rw [hg, e])))
  have vform : ∃ ad cap, vo = .slice ad L.length cap := by
    rcases O1.out.2 with ⟨rfl, h0⟩ | ⟨g, cap, cur, rfl, _⟩
    · exact ⟨none, 0, by rw [h0]⟩
    · exact ⟨_, _, rfl⟩
  obtain ⟨ad, cap, hvo⟩ := vform
  subst hvo
  have x3 : w1.cell? ⟨b, 3, none⟩ = some (.slice ad L.length cap) := P1.out.cell 3
  have x4 : w1.cell? ⟨b, 4, none⟩ = some (.int .i64 n) := P1.out.cell 4
  have f3 : w1.frozen? ⟨b, 3, none⟩ = false := P1.out.free 3
  have f4 : w1.frozen? ⟨b, 4, none⟩ = false := P1.out.free 4
  have t1 : (((L.length : Nat) : Int) == 12) = false := beq_eq_false_iff_ne.2 (by omega)
  have t2 : (((n : Nat) : Int) == 400) = false := beq_eq_false_iff_ne.2 (by omega)
  obtain ⟨W, HW⟩ : ∃ W, Hid (w1.setCell ⟨b, 4, none⟩ (.int .i64 ((n : Int) + 1)) = W) := ⟨_, rfl⟩
  have P2 : Hid (PIn W b s (p + 1 : Nat) 0 ⟨.slice ad L.length cap, (n + 1 : Nat), o0, o1, o2, o3⟩) := by
    show PIn W _ _ _ _ _
    rw [← HW.out]
    exact P1.out.set 4 _
  have K2 : Hid (Keep (· = b) w W) := by
    show Keep _ _ W
    rw [← HW.out]
    exact K1.out.trans (Keep.set _ ⟨b, 4, none⟩ _ rfl)
  have O2 : Hid (W.ownsRow H 25 4 (.slice ad L.length cap) L.length (flatE L)) := own_keep HO.out (fun g hg => K2.out.block g (own_lt HO.out hg).1 (fun e => hne (by rw [hg, e])))
  clear r1 k1 x1
  go_wp2_with fail
  rw [HW.out]
  clear x3 x4 f3 f4 t1 t2
  have x3 : W.cell? ⟨b, 3, none⟩ = some (.slice ad L.length cap) := P2.out.cell 3
  have f3 : W.frozen? ⟨b, 3, none⟩ = false := P2.out.free 3
  have lb := P2.out.lt
  have hHW : H ≤ W.heap.size := by have := K2.out.size; omega
  go_region_law
    ((refine step_append_lies _ (by rfl) _ _ _ (by rfl) H 25 i0 _ 4 72 Tryd.underlying23 hi0 hz0 hz1 hz2 rfl (by omega) (.slice ad L.length cap) L.length (flatE L) (by rfl) ((O2.out.alloc _).drew)
        ⟨W.heap.size, 0, none⟩ 1 1 [.string ⟨#[]⟩, nilS, nilS, .int .i64 0] (by rfl) (by rfl) (World.news_of_block (cs := #[.string ⟨#[]⟩, nilS, nilS, .int .i64 0]) (t := 25) (fr := (0, 0)) (heap_alloc_new W _)) (by simp [Value.oneCell'])
        (by omega) (by unfold maxLen; omega) (by omega) (by first | (simp; done) | (simp; omega)) (W.heap.size + 1) (by simp) ?_; intro g cap2 w3 hown1 hgrow hat hlt; obtain ⟨hown2, hl3, hgb, ⟨y0, y1, y2, y3⟩, z0, z1, z2, z3⟩ := grown_at hown1 hgrow ((((Below.refl _ W).alloc (Nat.le_refl _) _)).drew) hne P2.out (by decide); have y4 : w3.cell? ⟨b, 3, none⟩ = some (.slice ad L.length cap) := hl3.cell 3; have z4 : w3.frozen? ⟨b, 3, none⟩ = false := hl3.free 3; have q0 : (0 : Int) ≤ (L.length : Int) := (by omega); have q1 : (L.length : Int) < (L.length : Int) + 1 := (by omega)))
  all_goals have KG : Keep (fun k => k = b ∨ (Value.slice ad L.length cap).ownBlock = some k) w w3 := ((K2.out.wide (fun k _ e => .inl e)).trans (Keep.of_below (((Below.refl _ W).alloc (Nat.le_refl _) _).drew))).on (Keep.grown hgrow) (fun i _ e => .inr e)
  all_goals have GR : Grew w (.slice ad L.length cap) (.slice (some ⟨g, 0, none⟩) (L.length + 1) cap2) := grew_of hat K2.out.size
  all_goals have hgi := slot_of (b := b) hat K2.out.size
  all_goals obtain ⟨⟨XA, eA, fA⟩, ⟨XB, eB, fB⟩⟩ := put_named (j := 3) (.string ⟨#[]⟩) nilS nilS (.int .i64 p) (.slice (some ⟨g, 0, none⟩) (L.length + 1) cap2) hown2 hl3 hgb KG hgi
  all_goals have GR := hideT GR
  all_goals clear y0 y1 y2 y3 y4 z0 z1 z2 z3 z4 hown1 hown2 hgrow hat hgi KG hl3
  all_goals first
    | (rw [eA]; have F := hideT fA; clear fA fB eA eB)
    | (rw [eB]; have F := hideT fB; clear fA fB eA eB)
  all_goals go_wp2_with fail
  all_goals go_ret
  all_goals exact ⟨rfl, F.out.1, _, F.out.2.1, F.out.2.2, GR.out⟩
/-- It does not begin. -/
theorem begin_no (w : World) (b H : Nat) (s : ByteArray) (p n : Nat) (vo o0 o1 o2 o3 : Value) (L : List Quad) (hs : s.size ≤ 1000000) (hp : p ≤ s.size)
    (h : PIn w b s p 0 ⟨vo, n, o0, o1, o2, o3⟩) (hv : Hid (Xp.hasL s.data.toList p [60] = false)) :
    Calls Tryd.prog 27 #[ptr b] w fun e w' => e = .returned (.bool false) ∧ Keep (· = b) w w' ∧ PIn w' b s p 2 ⟨vo, n, o0, o1, o2, o3⟩ := by
  have HP : Hid (PIn w b s p 0 ⟨vo, n, o0, o1, o2, o3⟩) := h
  have x1 : w.cell? ⟨b, 1, none⟩ = some (.int .i64 p) := h.cell 1
  clear h
  go_enter Tryd.func27, Tryd.ntmps27
  go_wp2_with fail
  refine (mustD w b s ⟨#[60]⟩ p ⟨vo, n, o0, o1, o2, o3⟩ false hs hp (by decide) HP.out hv).mono ?_
  rintro e w1 ⟨rfl, k1, _, r1⟩
  have P1 := hideT (r1 rfl)
  have K1 := hideT k1
  clear r1 k1 x1
  go_wp2_with fail
  go_ret
  exact ⟨rfl, K1.out, P1.out⟩
/-- There are too many, or it stands too deep. -/
theorem begin_full (w : World) (b H : Nat) (s : ByteArray) (p n : Nat) (ad : Option Addr) (d cap : Nat) (o0 o1 o2 o3 : Value) (hs : s.size ≤ 1000000) (hp : p ≤ s.size) (hd : d ≤ 12) (hn : n ≤ 400) (hf : d = 12 ∨ n = 400)
    (h : PIn w b s p 0 ⟨.slice ad d cap, n, o0, o1, o2, o3⟩) (hv : Hid (Xp.hasL s.data.toList p [60] = true)) :
    Calls Tryd.prog 27 #[ptr b] w fun e w' => e = .returned (.bool false) ∧ Keep (· = b) w w' ∧ PIn w' b s p 4 ⟨.slice ad d cap, n, o0, o1, o2, o3⟩ := by
  have HP : Hid (PIn w b s p 0 ⟨.slice ad d cap, n, o0, o1, o2, o3⟩) := h
  have x1 : w.cell? ⟨b, 1, none⟩ = some (.int .i64 p) := h.cell 1
  clear h
  by_cases h12 : d = 12
  · subst h12
    go_enter Tryd.func27, Tryd.ntmps27
    go_wp2_with fail
    refine (mustD w b s ⟨#[60]⟩ p _ true hs hp (by decide) HP.out hv).mono ?_
    rintro e w1 ⟨rfl, k1, r1, _⟩
    have P1 := hideT (r1 rfl)
    have K1 := hideT k1
    have x3 : w1.cell? ⟨b, 3, none⟩ = some (.slice ad 12 cap) := P1.out.cell 3
    clear r1 k1 x1
    go_wp2_with fail
    refine (failD w1 b s _ 0 p 4 _ P1.out).mono ?_
    rintro e w2 ⟨rfl, r2, k2⟩
    go_wp2_with fail
    go_ret
    exact ⟨rfl, K1.out.trans k2, r2⟩
  · have t1 : ((d : Int) == 12) = false := beq_eq_false_iff_ne.2 (by omega)
    obtain rfl : n = 400 := by omega
    clear hf
    go_enter Tryd.func27, Tryd.ntmps27
    go_wp2_with fail
    refine (mustD w b s ⟨#[60]⟩ p _ true hs hp (by decide) HP.out hv).mono ?_
    rintro e w1 ⟨rfl, k1, r1, _⟩
    have P1 := hideT (r1 rfl)
    have K1 := hideT k1
    have x3 : w1.cell? ⟨b, 3, none⟩ = some (.slice ad d cap) := P1.out.cell 3
    have x4 : w1.cell? ⟨b, 4, none⟩ = some (.int .i64 400) := P1.out.cell 4
    clear r1 k1 x1
    go_wp2_with fail
    refine (failD w1 b s _ 0 p 4 _ P1.out).mono ?_
    rintro e w2 ⟨rfl, r2, k2⟩
    go_wp2_with fail
    go_ret
    exact ⟨rfl, K1.out.trans k2, r2⟩
end Go.Proofs.YtimecocegnnjjaaDoor
