/-
  The program's shut, within another element.
-/
import Derived.Test.YtimecocegnnjjaaDoorDShut
set_option linter.unusedSimpArgs false
set_option linter.unusedVariables false
namespace Go.Proofs.YtimecocegnnjjaaDoor
open Go.RowKit
set_option maxHeartbeats 8000000 in
set_option maxRecDepth 100000 in
theorem shut_in (w : World) (b H : Nat) (s nm : ByteArray) (p : Nat) (vo kv : Value) (n q : Int) (o0 o1 o2 o3 x y u : Value) (a1 a2 : Option Addr) (n1 k1 n2 k2 : Nat) (M qs : List Quad) (hM : M.length < 11) (hqs : qs.length ≤ 1000000) (hH : H ≤ w.heap.size)
    (h : PIn w b s p 0 ⟨vo, n, o0, o1, o2, o3⟩) (ho : w.ownsRow H 25 4 vo (M.length + 1 + 1) (flatE (M ++ [(x, y, kv, u)] ++ [(.string nm, .slice a1 n1 k1, .slice a2 n2 k2, .int .i64 q)])))
    (hk : w.ownsRow H 25 4 kv qs.length (flatE qs)) (hvk : ∀ g, vo.ownBlock = some g → kv.ownBlock ≠ some g) :
    Calls Tryd.prog 46 #[ptr b] w fun e w' => e = .returned (.bool true) ∧ Keep (fun k => k = b ∨ vo.ownBlock = some k ∨ kv.ownBlock = some k) w w' ∧ ∃ vo' kv', PIn w' b s p 0 ⟨vo', n, o0, o1, o2, o3⟩ ∧ vo'.ownBlock = vo.ownBlock ∧
      w'.ownsRow H 25 4 vo' (M.length + 1) (flatE (M ++ [(x, y, kv', u)])) ∧ w'.ownsRow H 25 4 kv' (qs.length + 1) (flatE (qs ++ [(.string nm, .slice a1 n1 k1, .slice a2 n2 k2, .int .i64 q)])) ∧ Grew w kv kv' := by
  obtain ⟨i0, hi0, hz0, hz1, hz2⟩ := info_parts infoE
  obtain ⟨g, cap, hv, _, hg⟩ := ho.form (by omega)
  subst hv
  have hkg : kv.ownBlock ≠ some g := hvk g rfl
  have hkb : kv.ownBlock ≠ some b := own_ne hk h (by decide)
  obtain ⟨kad, kcap, hkv⟩ : ∃ kad kcap, kv = .slice kad qs.length kcap := by
    rcases hk.2 with ⟨rfl, h0⟩ | ⟨g, cap, cur, rfl, _⟩
    · exact ⟨none, 0, by rw [h0]⟩
    · exact ⟨_, _, rfl⟩
  subst hkv
  have HP := hideT h
  have HO := hideT ho
  have HK := hideT hk
  have hcap := own_cap ho
  have hne : g ≠ b := fun e => own_ne ho h (by decide) (by rw [← e]; rfl)
  have hglt := (own_lt ho (g := g) rfl).1
  obtain ⟨d, hd⟩ : ∃ d, d = M.length + 1 := ⟨_, rfl⟩
  have hd12 : d ≤ 12 := by omega
  have hLl : (M ++ [(x, y, Value.slice kad qs.length kcap, u)]).length = d := by rw [List.length_append, hd]; rfl
  rw [← hd] at HO HP hcap
  have HD := hideT hd
  clear h ho hk hvk
  obtain ⟨L, hL⟩ : ∃ L, L = M ++ [(x, y, Value.slice kad qs.length kcap, u)] := ⟨_, rfl⟩
  have HL := hideT hL
  rw [← hL] at HO hLl
  rw [← hd]
  clear hL hd
  go_enter Tryd.func46, Tryd.ntmps46
  go_wp2_with fail
  refine (innermostD w b s p 0 _ g d cap (by omega) rfl HP.out).mono ?_
  rintro e w1 ⟨rfl, b1⟩
  have P1 := hideT (HP.out.below b1)
  have O1 := hideT (own_keep (w' := w1) HO.out (fun g' hg' => b1.block g' (own_lt HO.out hg').1))
  have Kk1 := hideT (own_keep (w' := w1) HK.out (fun g' hg' => b1.block g' (own_lt HK.out hg').1))
  have hfl := flatE_last L (.string nm) (.slice a1 n1 k1) (.slice a2 n2 k2) (.int .i64 q)
  rw [hLl] at hfl
  have y0 : w1.cell? ⟨g, d * 4, none⟩ = some (.string nm) := own_cell O1.out hfl.1
  have y1 : w1.cell? ⟨g, d * 4 + 1, none⟩ = some (.slice a1 n1 k1) := own_cell O1.out hfl.2.1
  have y2 : w1.cell? ⟨g, d * 4 + 2, none⟩ = some (.slice a2 n2 k2) := own_cell O1.out hfl.2.2.1
  have y3 : w1.cell? ⟨g, d * 4 + 3, none⟩ = some (.int .i64 q) := own_cell O1.out hfl.2.2.2
  have K1 : Hid (Keep (· = b) w w1) := Keep.of_below b1
  obtain ⟨W, hW⟩ : ∃ W, w1.alloc (.cells #[.string nm, .slice a1 n1 k1, .slice a2 n2 k2, .int .i64 q] 25) = W := ⟨_, rfl⟩
  have B2 : Hid (Below w1.heap.size w1 W) := by rw [← hW]; exact (Below.refl _ w1).alloc (Nat.le_refl _) _
  have LW : Hid (Lies W w1.heap.size 25 #[.string nm, .slice a1 n1 k1, .slice a2 n2 k2, .int .i64 q]) := by
    show Lies W _ _ _
    rw [← hW]
    exact Lies.new w1 _ _
  have HWq := hideT hW
  have z1 : w.heap.size ≤ w1.heap.size := b1.size
  clear b1 hW hfl
  go_wp2_with fail
  clear y0 y1 y2 y3
  rw [HWq.out]
  have P2 := hideT (P1.out.below B2.out)
  have O2 := hideT (own_keep (w' := W) O1.out (fun g' hg' => B2.out.block g' (own_lt O1.out hg').1))
  have Kk2 := hideT (own_keep (w' := W) Kk1.out (fun g' hg' => B2.out.block g' (own_lt Kk1.out hg').1))
  obtain ⟨m, hm⟩ : ∃ m, m = d + 1 := ⟨_, rfl⟩
  have x3 : W.cell? ⟨b, 3, none⟩ = some (.slice (some ⟨g, 0, none⟩) m cap) := by rw [hm]; exact P2.out.cell 3
  have f3 : W.frozen? ⟨b, 3, none⟩ = false := P2.out.free 3
  have tm : m ≤ 13 := by omega
  have t1 : IntKind.i64.wrap ((m : Int) - 1) = (d : Int) := by rw [IntKind.wrap_i64]; omega
  have t2 : (0 : Int) ≤ (d : Int) := by omega
  have t3 : (d : Int) ≤ (cap : Int) := by omega
  obtain ⟨X, hX⟩ : ∃ X, (W.setCell ⟨b, 3, none⟩ (.slice (some ⟨g, 0, none⟩) d cap)).drew = X := ⟨_, rfl⟩
  have KX : Hid (Keep (· = b) w X) := by
    show Keep _ _ X
    rw [← hX]
    exact ((K1.out.trans (Keep.of_below B2.out)).trans (Keep.set _ ⟨b, 3, none⟩ _ rfl)).trans (Keep.of_below (Below.refl _ _).drew)
  have PX : Hid (PIn X b s p 0 ⟨.slice (some ⟨g, 0, none⟩) d cap, n, o0, o1, o2, o3⟩) := by
    show PIn X _ _ _ _ _
    rw [← hX]
    exact PIn.below (R := ⟨.slice (some ⟨g, 0, none⟩) d cap, n, o0, o1, o2, o3⟩) (P2.out.set 3 _) (Below.refl _ _).drew
  have hbw : b < w1.heap.size := P1.out.lt
  have LX : Hid (Lies X w1.heap.size 25 #[.string nm, .slice a1 n1 k1, .slice a2 n2 k2, .int .i64 q]) := by
    show Lies X _ _ _
    rw [← hX]
    exact (LW.out.off _ _ (by show w1.heap.size ≠ b; omega)).below (Below.refl _ _).drew
  have OX : Hid (X.ownsRow H 25 4 (.slice (some ⟨g, 0, none⟩) d cap) d (flatE (M ++ [(x, y, .slice kad qs.length kcap, u)]))) := by
    show X.ownsRow _ _ _ _ _ _
    have h1 := O2.out
    rw [flatE_app] at h1
    have h2 := own_shrink (n := d) (xs := flatE L) h1 (by rw [flatE_len, hLl])
    rw [HL.out] at h2
    refine own_keep h2 (fun g' hg' => ?_)
    obtain rfl : g = g' := Option.some.inj hg'
    rw [← hX]
    exact Below.heap_setCell _ _ _ _ hne
  have KkX : Hid (X.ownsRow H 25 4 (.slice kad qs.length kcap) qs.length (flatE qs)) := by
    show X.ownsRow _ _ _ _ _ _
    refine own_keep Kk2.out (fun g' hg' => ?_)
    rw [← hX]
    exact Below.heap_setCell _ _ _ _ (fun e => hkb (by rw [hg', e]))
  have HX := hideT hX
  clear hX
  have HM' := hideT hm
  clear hm
  go_region
  all_goals rw [HX.out]
  all_goals clear x3 f3
  all_goals have x3 : X.cell? ⟨b, 3, none⟩ = some (.slice (some ⟨g, 0, none⟩) d cap) := PX.out.cell 3
  all_goals have td : ((d : Int) == 0) = false := beq_eq_false_iff_ne.2 (by have := HD.out; omega)
  all_goals go_wp2_with fail
  refine (innermostD X b s p 0 _ g M.length cap (by omega) (by show Value.slice _ d cap = _; rw [HD.out]) PX.out).mono ?_
  rintro e w2 ⟨rfl, b2⟩
  have P3 := hideT (PX.out.below b2)
  have O3 := hideT (own_keep (w' := w2) OX.out (fun g' hg' => b2.block g' (own_lt OX.out hg').1))
  have Kk3 := hideT (own_keep (w' := w2) KkX.out (fun g' hg' => b2.block g' (own_lt KkX.out hg').1))
  have L3 := hideT (LX.out.below b2)
  have K3 : Hid (Keep (· = b) w w2) := KX.out.trans (Keep.of_below b2)
  have z3 : w.heap.size ≤ w2.heap.size := K3.out.size
  have c2 : w2.cell? ⟨g, M.length * 4 + 2, none⟩ = some (.slice kad qs.length kcap) := own_cell O3.out (flatE_last M x y (.slice kad qs.length kcap) u).2.2.1
  have e0 : w2.cell? ⟨w1.heap.size, 0, none⟩ = some (.string nm) := L3.out.cell 0
  have e1 : w2.cell? ⟨w1.heap.size, 1, none⟩ = some (.slice a1 n1 k1) := L3.out.cell 1
  have e2 : w2.cell? ⟨w1.heap.size, 2, none⟩ = some (.slice a2 n2 k2) := L3.out.cell 2
  have e3 : w2.cell? ⟨w1.heap.size, 3, none⟩ = some (.int .i64 q) := L3.out.cell 3
  have hkB : (Value.slice kad qs.length kcap).ownBlock ≠ some w1.heap.size := fun e => by
    have := (own_lt Kk1.out e).1
    omega
  have hH2 : H ≤ w2.heap.size := by omega
  have hglt2 := (own_lt O3.out (g := g) rfl).1
  have hBlt := L3.out.lt
  clear b2 x3 td
  go_wp2_with fail
  go_region_law
    ((refine step_append_lies _ (by rfl) _ _ _ (by rfl) H 25 i0 _ 4 72 Tryd.underlying23 hi0 hz0 hz1 hz2 rfl (by omega) (.slice kad qs.length kcap) qs.length (flatE qs) (by rfl) ((Kk3.out.alloc _).drew)
        ⟨w2.heap.size, 0, none⟩ 1 1 [.string ⟨#[]⟩, nilS, nilS, .int .i64 0] (by rfl) (by rfl) (World.news_of_block (cs := #[.string ⟨#[]⟩, nilS, nilS, .int .i64 0]) (t := 25) (fr := (0, 0)) (heap_alloc_new w2 _)) (by simp [Value.oneCell'])
        (by omega) (by unfold maxLen; omega) (by omega) (by first | (simp; done) | (simp; omega)) (w2.heap.size + 1) (by simp) ?_; intro g2 cap2 w3 hown1 hgrow hat hlt
      obtain ⟨r1, r2, r3, m1, m2, m3, ⟨i0', i1', i2', i3'⟩, ⟨j0, j1, j2, j3⟩, ⟨j4, j5⟩, v0, v1, v2, v3⟩ := kid_grown hown1 O3.out P3.out (by decide) L3.out hgrow (((Below.refl _ w2).alloc (Nat.le_refl _) _).drew) hkg hkb hkB (by rcases hat with h | h; exact .inl h; exact .inr (by omega))
      have q0 : (0 : Int) ≤ (qs.length : Int) := (by omega)
      have q1 : (qs.length : Int) < (qs.length : Int) + 1 := (by omega)))
  all_goals have KG : Keep (fun k => k = b ∨ (Value.slice (some ⟨g, 0, none⟩) (d + 1) cap).ownBlock = some k ∨ (Value.slice kad qs.length kcap).ownBlock = some k) w w3 := ((K3.out.wide (fun k _ e => .inl e)).trans (Keep.of_below (((Below.refl _ w2).alloc (Nat.le_refl _) _).drew))).on (Keep.grown hgrow) (fun i _ e => .inr (.inr e))
  all_goals obtain ⟨⟨XA, eA, fA⟩, ⟨XB, eB, fB⟩⟩ := kid_named (.string nm) (.slice a1 n1 k1) (.slice a2 n2 k2) (.int .i64 q) (.slice (some ⟨g2, 0, none⟩) (qs.length + 1) cap2) r1 r2 r3 m1 m2 m3 KG (by
      intro i hi e
      rcases e with e | e
      · rcases hat with h | h
        · exact .inr (.inr (by rw [h, e]))
        · omega
      · exact .inr (.inl (by rw [e]; rfl)))
  all_goals have GR := hideT (grew_of (w := w) (m := qs.length + 1) (cap := cap2) hat z3)
  all_goals clear i0' i1' i2' i3' j0 j1 j2 j3 j4 j5 v0 v1 v2 v3 hown1 hgrow hat KG r1 r2 r3 c2 e0 e1 e2 e3
  all_goals first
    | (rw [eA]; have F := hideT fA; clear fA fB eA eB)
    | (rw [eB]; have F := hideT fB; clear fA fB eA eB)
  all_goals go_wp2_with fail
  all_goals go_ret
  all_goals exact ⟨rfl, F.out.1, _, F.out.2.1, rfl, _, F.out.2.2.2, F.out.2.2.1, GR.out⟩
end Go.Proofs.YtimecocegnnjjaaDoor
