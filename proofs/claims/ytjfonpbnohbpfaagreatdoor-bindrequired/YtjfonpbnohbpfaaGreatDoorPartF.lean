/-
  Several texts in one: each opens with its own word.
-/
import Derived.Test.YtjfonpbnohbpfaaGreatDoorPartE
import Derived.Test.YtjfonpbnohbpfaaGreatDoorPartC
/-
  The program's shut.
-/
set_option linter.unusedSimpArgs false
set_option linter.unusedVariables false
namespace Go.Proofs.YtjfonpbnohbpfaaGreatDoor
open Go.RowKit
theorem own_shrink {w : World} {H : Nat} {e : TypeId} {z n g cap : Nat} {xs ys : List Value} (h : w.ownsRow H e z (.slice (some ⟨g, 0, none⟩) (n + 1) cap) (n + 1) (xs ++ ys)) (hx : xs.length = n * z) : w.ownsRow H e z (.slice (some ⟨g, 0, none⟩) n cap) n xs := by
  obtain ⟨cap', cur, hv, h1, h2, h3, h5, h6, h4⟩ := own_heap h rfl
  have hc : cap = cap' := by
    injection hv
  subst hc
  refine ⟨hx, .inr ⟨g, cap, cur, rfl, h1, h2, by omega, h5, h6, ?_⟩⟩
  have : cur.toList.take (n * z) = (cur.toList.take ((n + 1) * z)).take (n * z) := by
    rw [List.take_take, Nat.min_eq_left (Nat.mul_le_mul_right _ (Nat.le_succ n))]
  rw [this, h4, List.take_append_of_le_length (by omega), List.take_of_length_le (by omega)]
theorem own_cap {w : World} {H : Nat} {e : TypeId} {z n g cap : Nat} {xs : List Value} (h : w.ownsRow H e z (.slice (some ⟨g, 0, none⟩) n cap) n xs) : n ≤ cap := by
  obtain ⟨cap', cur, hv, h1, h2, h3, _⟩ := own_heap h rfl
  have hc : cap = cap' := by
    injection hv
  omega
set_option maxHeartbeats 4000000 in
theorem shut_last (w : World) (b H : Nat) (s nm : ByteArray) (p : Nat) (vo : Value) (n q : Int) (o0 o1 o2 o3 : Value) (a1 a2 : Option Addr) (n1 k1 n2 k2 : Nat)
    (h : PIn w b s p 0 ⟨vo, n, o0, o1, o2, o3⟩) (ho : w.ownsRow H 50 4 vo 1 (flatE [(.string nm, .slice a1 n1 k1, .slice a2 n2 k2, .int .i64 q)])) :
    Calls Tryz.prog 102 #[ptr b] w fun e w' => e = .returned (.bool true) ∧ Keep (· = b) w w' ∧ ∃ vo', PIn w' b s p 0 ⟨vo', n, .string nm, .slice a1 n1 k1, .slice a2 n2 k2, .int .i64 q⟩ ∧ w'.ownsRow H 50 4 vo' 0 [] ∧ vo'.ownBlock = vo.ownBlock := by
  obtain ⟨g, cap, hv, _, hg⟩ := ho.form (by omega)
  subst hv
  have HP := hideT h
  have HO := hideT ho
  have hcap := own_cap ho
  have hne : g ≠ b := fun e => own_ne ho h (by decide) (by rw [← e]; rfl)
  clear h ho
  go_enter Tryz.func102, Tryz.ntmps102
  go_wp2_with fail
  refine (innermostD w b s p 0 _ g 0 cap (by omega) rfl HP.out).mono ?_
  rintro e w1 ⟨rfl, b1⟩
  have P1 := hideT (HP.out.below b1)
  have O1 := hideT (own_keep (w' := w1) HO.out (fun g' hg' => b1.block g' (own_lt HO.out hg').1))
  have y0 : w1.cell? ⟨g, 0, none⟩ = some (.string nm) := own_cell O1.out rfl
  have y1 : w1.cell? ⟨g, 1, none⟩ = some (.slice a1 n1 k1) := own_cell O1.out rfl
  have y2 : w1.cell? ⟨g, 2, none⟩ = some (.slice a2 n2 k2) := own_cell O1.out rfl
  have y3 : w1.cell? ⟨g, 3, none⟩ = some (.int .i64 q) := own_cell O1.out rfl
  have K1 : Hid (Keep (· = b) w w1) := Keep.of_below b1
  obtain ⟨W, hW⟩ : ∃ W, w1.alloc (.cells #[.string nm, .slice a1 n1 k1, .slice a2 n2 k2, .int .i64 q] 50) = W := ⟨_, rfl⟩
  have B2 : Hid (Below w1.heap.size w1 W) := by rw [← hW]; exact (Below.refl _ w1).alloc (Nat.le_refl _) _
  have LW : Hid (Lies W w1.heap.size 50 #[.string nm, .slice a1 n1 k1, .slice a2 n2 k2, .int .i64 q]) := by
    show Lies W _ _ _
    rw [← hW]
    exact Lies.new w1 _ _
  have HWq := hideT hW
  clear b1 hW
  go_wp2_with fail
  clear y0 y1 y2 y3
  rw [HWq.out]
  have P2 := hideT (P1.out.below B2.out)
  have O2 := hideT (own_keep (w' := W) O1.out (fun g' hg' => B2.out.block g' (own_lt O1.out hg').1))
  have x3 : W.cell? ⟨b, 3, none⟩ = some (.slice (some ⟨g, 0, none⟩) 1 cap) := P2.out.cell 3
  have f3 : W.frozen? ⟨b, 3, none⟩ = false := P2.out.free 3
  have t1 : (1 : Int) ≤ (cap : Int) := by omega
  have t2 : (0 : Int) ≤ (cap : Int) := by omega
  obtain ⟨X, hX⟩ : ∃ X, (W.setCell ⟨b, 3, none⟩ (.slice (some ⟨g, 0, none⟩) 0 cap)).drew = X := ⟨_, rfl⟩
  have KX : Hid (Keep (· = b) w X) := by
    show Keep _ _ X
    rw [← hX]
    exact ((K1.out.trans (Keep.of_below B2.out)).trans (Keep.set _ ⟨b, 3, none⟩ _ rfl)).trans (Keep.of_below (Below.refl _ _).drew)
  have PX : Hid (PIn X b s p 0 ⟨.slice (some ⟨g, 0, none⟩) 0 cap, n, o0, o1, o2, o3⟩) := by
    show PIn X _ _ _ _ _
    rw [← hX]
    exact PIn.below (R := ⟨.slice (some ⟨g, 0, none⟩) 0 cap, n, o0, o1, o2, o3⟩) (P2.out.set 3 _) (Below.refl _ _).drew
  have hbw : b < w1.heap.size := P1.out.lt
  have LX : Hid (Lies X w1.heap.size 50 #[.string nm, .slice a1 n1 k1, .slice a2 n2 k2, .int .i64 q]) := by
    show Lies X _ _ _
    rw [← hX]
    exact (LW.out.off _ _ (by show w1.heap.size ≠ b; omega)).below (Below.refl _ _).drew
  have OX : Hid (X.ownsRow H 50 4 (.slice (some ⟨g, 0, none⟩) 0 cap) 0 []) := by
    show X.ownsRow _ _ _ _ _ _
    have h1 := own_shrink (n := 0) (xs := []) O2.out rfl
    refine own_keep h1 (fun g' hg' => ?_)
    obtain rfl : g = g' := Option.some.inj hg'
    rw [← hX]
    exact Below.heap_setCell _ _ _ _ hne
  have HX := hideT hX
  clear hX
  go_region
  all_goals rw [HX.out]
  all_goals clear x3 f3
  all_goals have x3 : X.cell? ⟨b, 3, none⟩ = some (.slice (some ⟨g, 0, none⟩) 0 cap) := PX.out.cell 3
  all_goals have z0 : X.cell? ⟨w1.heap.size, 0, none⟩ = some (.string nm) := LX.out.cell 0
  all_goals have z1 : X.cell? ⟨w1.heap.size, 1, none⟩ = some (.slice a1 n1 k1) := LX.out.cell 1
  all_goals have z2 : X.cell? ⟨w1.heap.size, 2, none⟩ = some (.slice a2 n2 k2) := LX.out.cell 2
  all_goals have z3 : X.cell? ⟨w1.heap.size, 3, none⟩ = some (.int .i64 q) := LX.out.cell 3
  all_goals have x5 : X.cell? ⟨b, 5, none⟩ = some o0 := PX.out.cell 5
  all_goals have x6 : X.cell? ⟨b, 6, none⟩ = some o1 := PX.out.cell 6
  all_goals have x7 : X.cell? ⟨b, 7, none⟩ = some o2 := PX.out.cell 7
  all_goals have x8 : X.cell? ⟨b, 8, none⟩ = some o3 := PX.out.cell 8
  all_goals have f5 : X.frozen? ⟨b, 5, none⟩ = false := PX.out.free 5
  all_goals have f6 : X.frozen? ⟨b, 6, none⟩ = false := PX.out.free 6
  all_goals have f7 : X.frozen? ⟨b, 7, none⟩ = false := PX.out.free 7
  all_goals have f8 : X.frozen? ⟨b, 8, none⟩ = false := PX.out.free 8
  all_goals go_wp2_with fail
  all_goals go_ret
  all_goals refine ⟨rfl, ?_, .slice (some ⟨g, 0, none⟩) 0 cap, ?_, ?_, rfl⟩
  all_goals first
    | exact ((((PX.out.set 5 (.string nm)).set 6 (.slice a1 n1 k1)).set 7 (.slice a2 n2 k2)).set 8 (.int .i64 q))
    | exact (((KX.out.trans (Keep.set X ⟨b, 5, none⟩ (.string nm) rfl)).trans (Keep.set _ ⟨b, 6, none⟩ (.slice a1 n1 k1) rfl)).trans (Keep.set _ ⟨b, 7, none⟩ (.slice a2 n2 k2) rfl)).trans (Keep.set _ ⟨b, 8, none⟩ (.int .i64 q) rfl)
    | exact own_keep OX.out (fun g' hg' => (put4_keep X b 5 (.string nm) (.slice a1 n1 k1) (.slice a2 n2 k2) (.int .i64 q)).block g' (own_lt OX.out hg').1 (fun e => hne ((Option.some.inj hg').trans e)))
/-- Behind the append of an empty kid: the cells that are read and written next. -/
theorem kid_grown {W W' w3 : World} {H b g d cap g2 cap2 B : Nat} {kv : Value} {M qs : List Quad} {x y z u c0 c1 c2 c3 : Value} {C : Array Value} {t : TypeId} (hown : w3.ownsRow H 50 4 (.slice (some ⟨g2, 0, none⟩) (qs.length + 1) cap2) (qs.length + 1) (flatE qs ++ [.string ⟨#[]⟩, nilS, nilS, .int .i64 0]))
    (ho : W.ownsRow H 50 4 (.slice (some ⟨g, 0, none⟩) d cap) d (flatE (M ++ [(x, y, z, u)]))) (hl : Lies W b t C) (ht : t ≠ 50) (hbx : Lies W B 50 #[c0, c1, c2, c3])
    (hgrow : W'.grownBy w3 kv.ownBlock) (hB : Below W.heap.size W W') (hg : kv.ownBlock ≠ some g) (hb : kv.ownBlock ≠ some b) (hbB : kv.ownBlock ≠ some B) (h2 : kv.ownBlock = some g2 ∨ W.heap.size ≤ g2) :
    w3.ownsRow H 50 4 (.slice (some ⟨g2, 0, none⟩) (qs.length + 1) cap2) (qs.length + 1) (flatE (qs ++ [(.string ⟨#[]⟩, nilS, nilS, .int .i64 0)])) ∧ w3.ownsRow H 50 4 (.slice (some ⟨g, 0, none⟩) d cap) d (flatE (M ++ [(x, y, z, u)])) ∧ Lies w3 b t C ∧ g2 ≠ g ∧ g2 ≠ b ∧ g ≠ b ∧
    (w3.cell? ⟨g2, qs.length * 4, none⟩ = some (.string ⟨#[]⟩) ∧ w3.cell? ⟨g2, qs.length * 4 + 1, none⟩ = some nilS ∧ w3.cell? ⟨g2, qs.length * 4 + 2, none⟩ = some nilS ∧ w3.cell? ⟨g2, qs.length * 4 + 3, none⟩ = some (.int .i64 0)) ∧
    (w3.frozen? ⟨g2, qs.length * 4, none⟩ = false ∧ w3.frozen? ⟨g2, qs.length * 4 + 1, none⟩ = false ∧ w3.frozen? ⟨g2, qs.length * 4 + 2, none⟩ = false ∧ w3.frozen? ⟨g2, qs.length * 4 + 3, none⟩ = false) ∧
    (w3.cell? ⟨g, M.length * 4 + 2, none⟩ = some z ∧ w3.frozen? ⟨g, M.length * 4 + 2, none⟩ = false) ∧
    (w3.cell? ⟨B, 0, none⟩ = some c0 ∧ w3.cell? ⟨B, 1, none⟩ = some c1 ∧ w3.cell? ⟨B, 2, none⟩ = some c2 ∧ w3.cell? ⟨B, 3, none⟩ = some c3) := by
  have e2 : w3.ownsRow H 50 4 (.slice (some ⟨g2, 0, none⟩) (qs.length + 1) cap2) (qs.length + 1) (flatE (qs ++ [(.string ⟨#[]⟩, nilS, nilS, .int .i64 0)])) := by
    rw [flatE_app]
    exact hown
  have go : ∀ k, k < W.heap.size → kv.ownBlock ≠ some k → w3.heap[k]? = W.heap[k]? := fun k hk hn => (hgrow.block k (Nat.lt_of_lt_of_le hk hB.size) (fun e => hn e.symm)).trans (hB.block k hk)
  have l3 : Lies w3 b t C := by
    unfold Lies at *
    rw [go b (Lies.lt (C := C) (t := t) hl) hb, hl]
  have x3 : Lies w3 B 50 #[c0, c1, c2, c3] := by
    unfold Lies at *
    rw [go B (Lies.lt (C := #[c0, c1, c2, c3]) (t := 50) hbx) hbB, hbx]
  have hglt := (own_lt ho (g := g) rfl).1
  have o3 := own_keep (w' := w3) ho (fun g' hg' => by
    obtain rfl : g = g' := Option.some.inj hg'
    exact go g hglt hg)
  have n1 : g2 ≠ g := fun e => by
    rcases h2 with h2 | h2
    · exact hg (by rw [h2, e])
    · omega
  obtain ⟨q0, q1, q2, q3⟩ := flatE_last qs (.string ⟨#[]⟩) nilS nilS (.int .i64 0)
  refine ⟨e2, o3, l3, n1, fun e => own_ne e2 l3 ht (by rw [← e]; rfl), fun e => own_ne o3 l3 ht (by rw [← e]; rfl), ⟨own_cell e2 q0, own_cell e2 q1, own_cell e2 q2, own_cell e2 q3⟩, ⟨own_free e2 _, own_free e2 _, own_free e2 _, own_free e2 _⟩, ⟨own_cell o3 (flatE_last M x y z u).2.2.1, own_free o3 _⟩, x3.cell 0, x3.cell 1, x3.cell 2, x3.cell 3⟩
/-- The kid written into its place, the row into its element: in either order. -/
theorem kid_named {S : Nat → Prop} {w w3 : World} {H g2 m cap2 g d cap bk : Nat} {t : TypeId} {C : Array Value} {qs M : List Quad} {a0 a1 a2 a3 x y z u : Value} (c0 c1 c2 c3 v : Value) (h : w3.ownsRow H 50 4 (.slice (some ⟨g2, 0, none⟩) m cap2) m (flatE (qs ++ [(a0, a1, a2, a3)])))
    (ho : w3.ownsRow H 50 4 (.slice (some ⟨g, 0, none⟩) d cap) d (flatE (M ++ [(x, y, z, u)]))) (hl : Lies w3 bk t C) (n1 : g2 ≠ g) (n2 : g2 ≠ bk) (n3 : g ≠ bk) (KG : Keep S w w3) (hgi : ∀ i, i < w.heap.size → i = g2 ∨ i = g → S i) :
    (∃ X, ((((w3.setCell ⟨g2, qs.length * 4, none⟩ c0).setCell ⟨g2, qs.length * 4 + 1, none⟩ c1).setCell ⟨g2, qs.length * 4 + 2, none⟩ c2).setCell ⟨g2, qs.length * 4 + 3, none⟩ c3).setCell ⟨g, M.length * 4 + 2, none⟩ v = X ∧ Keep S w X ∧ Lies X bk t C ∧ X.ownsRow H 50 4 (.slice (some ⟨g2, 0, none⟩) m cap2) m (flatE (qs ++ [(c0, c1, c2, c3)])) ∧ X.ownsRow H 50 4 (.slice (some ⟨g, 0, none⟩) d cap) d (flatE (M ++ [(x, y, v, u)]))) ∧
    (∃ X, ((((w3.setCell ⟨g, M.length * 4 + 2, none⟩ v).setCell ⟨g2, qs.length * 4, none⟩ c0).setCell ⟨g2, qs.length * 4 + 1, none⟩ c1).setCell ⟨g2, qs.length * 4 + 2, none⟩ c2).setCell ⟨g2, qs.length * 4 + 3, none⟩ c3 = X ∧ Keep S w X ∧ Lies X bk t C ∧ X.ownsRow H 50 4 (.slice (some ⟨g2, 0, none⟩) m cap2) m (flatE (qs ++ [(c0, c1, c2, c3)])) ∧ X.ownsRow H 50 4 (.slice (some ⟨g, 0, none⟩) d cap) d (flatE (M ++ [(x, y, v, u)]))) := by
  have s1 : ∀ X : World, X.ownsRow H 50 4 (.slice (some ⟨g, 0, none⟩) d cap) d (flatE (M ++ [(x, y, z, u)])) → (X.setCell ⟨g, M.length * 4 + 2, none⟩ v).ownsRow H 50 4 (.slice (some ⟨g, 0, none⟩) d cap) d (flatE (M ++ [(x, y, v, u)])) := fun X hX => by
    have := own_set hX (M.length * 4 + 2) v
    rw [(flatE_set M x y z u v).2.2.1] at this
    exact this
  have k4 := fun X : World => put4_keep X g2 (qs.length * 4) c0 c1 c2 c3
  constructor
  · refine ⟨_, rfl, ?_, (put4_lies hl n2).off _ _ (fun e => n3 e.symm), ?_, ?_⟩
    · exact (KG.on (k4 w3) (fun i hi e => hgi i hi (.inl e))).on (Keep.set (S := (· = g)) _ ⟨g, M.length * 4 + 2, none⟩ v rfl) (fun i hi e => hgi i hi (.inr e))
    · exact own_keep (put4_own h) (fun g' hg' => Below.heap_setCell _ _ _ _ (fun e => n1 ((Option.some.inj hg').trans e)))
    · exact s1 _ (own_keep ho (fun g' hg' => (k4 w3).block g' (own_lt ho hg').1 (fun e => n1 (((Option.some.inj hg').trans e).symm))))
  · refine ⟨_, rfl, ?_, put4_lies (hl.off _ _ (fun e => n3 e.symm)) n2, ?_, ?_⟩
    · exact (KG.on (Keep.set (S := (· = g)) w3 ⟨g, M.length * 4 + 2, none⟩ v rfl) (fun i hi e => hgi i hi (.inr e))).on (k4 _) (fun i hi e => hgi i hi (.inl e))
    · exact put4_own (own_keep h (fun g' hg' => Below.heap_setCell _ _ _ _ (fun e => n1 ((Option.some.inj hg').trans e))))
    · have h1 := s1 _ ho
      exact own_keep h1 (fun g' hg' => (k4 _).block g' (own_lt h1 hg').1 (fun e => n1 (((Option.some.inj hg').trans e).symm)))
end Go.Proofs.YtjfonpbnohbpfaaGreatDoor
/-
  The program's shut, within another element.
-/
set_option linter.unusedSimpArgs false
set_option linter.unusedVariables false
namespace Go.Proofs.YtjfonpbnohbpfaaGreatDoor
open Go.RowKit
set_option maxHeartbeats 8000000 in
set_option maxRecDepth 100000 in
theorem shut_in (w : World) (b H : Nat) (s nm : ByteArray) (p : Nat) (vo kv : Value) (n q : Int) (o0 o1 o2 o3 x y u : Value) (a1 a2 : Option Addr) (n1 k1 n2 k2 : Nat) (M qs : List Quad) (hM : M.length < 11) (hqs : qs.length ≤ 1000000) (hH : H ≤ w.heap.size)
    (h : PIn w b s p 0 ⟨vo, n, o0, o1, o2, o3⟩) (ho : w.ownsRow H 50 4 vo (M.length + 1 + 1) (flatE (M ++ [(x, y, kv, u)] ++ [(.string nm, .slice a1 n1 k1, .slice a2 n2 k2, .int .i64 q)])))
    (hk : w.ownsRow H 50 4 kv qs.length (flatE qs)) (hvk : ∀ g, vo.ownBlock = some g → kv.ownBlock ≠ some g) :
    Calls Tryz.prog 102 #[ptr b] w fun e w' => e = .returned (.bool true) ∧ Keep (fun k => k = b ∨ vo.ownBlock = some k ∨ kv.ownBlock = some k) w w' ∧ ∃ vo' kv', PIn w' b s p 0 ⟨vo', n, o0, o1, o2, o3⟩ ∧ vo'.ownBlock = vo.ownBlock ∧
      w'.ownsRow H 50 4 vo' (M.length + 1) (flatE (M ++ [(x, y, kv', u)])) ∧ w'.ownsRow H 50 4 kv' (qs.length + 1) (flatE (qs ++ [(.string nm, .slice a1 n1 k1, .slice a2 n2 k2, .int .i64 q)])) ∧ Grew w kv kv' := by
  obtain ⟨i0, hi0, hz0, hz1, hz2⟩ := info_parts infoE
  obtain ⟨g, cap, hv, _, hg⟩ := ho.form (by omega)
  subst hv
  have hkg : kv.ownBlock ≠ some g := hvk g rfl
  have hkb : kv.ownBlock ≠ some b := own_ne hk h (by decide)
  obtain ⟨kad, kcap, hkv⟩ : ∃ kad kcap, kv = .slice kad qs.length kcap := by
    rcases hk.2 with ⟨rfl, h0⟩ | ⟨g, cap, cur, rfl, _⟩
    · exact ⟨none, 0, by rw [h0]⟩
    · exact ⟨_, _, rfl⟩
  subst hkv
  have HP := hideT h
  have HO := hideT ho
  have HK := hideT hk
  have hcap := own_cap ho
  have hne : g ≠ b := fun e => own_ne ho h (by decide) (by rw [← e]; rfl)
  have hglt := (own_lt ho (g := g) rfl).1
  obtain ⟨d, hd⟩ : ∃ d, d = M.length + 1 := ⟨_, rfl⟩
  have hd12 : d ≤ 12 := by omega
  have hLl : (M ++ [(x, y, Value.slice kad qs.length kcap, u)]).length = d := by rw [List.length_append, hd]; rfl
  rw [← hd] at HO HP hcap
  have HD := hideT hd
  clear h ho hk hvk
  obtain ⟨L, hL⟩ : ∃ L, L = M ++ [(x, y, Value.slice kad qs.length kcap, u)] := ⟨_, rfl⟩
  have HL := hideT hL
  rw [← hL] at HO hLl
  rw [← hd]
  clear hL hd
  go_enter Tryz.func102, Tryz.ntmps102
  go_wp2_with fail
  refine (innermostD w b s p 0 _ g d cap (by omega) rfl HP.out).mono ?_
  rintro e w1 ⟨rfl, b1⟩
  have P1 := hideT (HP.out.below b1)
  have O1 := hideT (own_keep (w' := w1) HO.out (fun g' hg' => b1.block g' (own_lt HO.out hg').1))
  have Kk1 := hideT (own_keep (w' := w1) HK.out (fun g' hg' => b1.block g' (own_lt HK.out hg').1))
  have hfl := flatE_last L (.string nm) (.slice a1 n1 k1) (.slice a2 n2 k2) (.int .i64 q)
  rw [hLl] at hfl
  have y0 : w1.cell? ⟨g, d * 4, none⟩ = some (.string nm) := own_cell O1.out hfl.1
  have y1 : w1.cell? ⟨g, d * 4 + 1, none⟩ = some (.slice a1 n1 k1) := own_cell O1.out hfl.2.1
  have y2 : w1.cell? ⟨g, d * 4 + 2, none⟩ = some (.slice a2 n2 k2) := own_cell O1.out hfl.2.2.1
  have y3 : w1.cell? ⟨g, d * 4 + 3, none⟩ = some (.int .i64 q) := own_cell O1.out hfl.2.2.2
  have K1 : Hid (Keep (· = b) w w1) := Keep.of_below b1
  obtain ⟨W, hW⟩ : ∃ W, w1.alloc (.cells #[.string nm, .slice a1 n1 k1, .slice a2 n2 k2, .int .i64 q] 50) = W := ⟨_, rfl⟩
  have B2 : Hid (Below w1.heap.size w1 W) := by rw [← hW]; exact (Below.refl _ w1).alloc (Nat.le_refl _) _
  have LW : Hid (Lies W w1.heap.size 50 #[.string nm, .slice a1 n1 k1, .slice a2 n2 k2, .int .i64 q]) := by
    show Lies W _ _ _
    rw [← hW]
    exact Lies.new w1 _ _
  have HWq := hideT hW
  have z1 : w.heap.size ≤ w1.heap.size := b1.size
  clear b1 hW hfl
  go_wp2_with fail
  clear y0 y1 y2 y3
  rw [HWq.out]
  have P2 := hideT (P1.out.below B2.out)
  have O2 := hideT (own_keep (w' := W) O1.out (fun g' hg' => B2.out.block g' (own_lt O1.out hg').1))
  have Kk2 := hideT (own_keep (w' := W) Kk1.out (fun g' hg' => B2.out.block g' (own_lt Kk1.out hg').1))
  obtain ⟨m, hm⟩ : ∃ m, m = d + 1 := ⟨_, rfl⟩
  have x3 : W.cell? ⟨b, 3, none⟩ = some (.slice (some ⟨g, 0, none⟩) m cap) := by rw [hm]; exact P2.out.cell 3
  have f3 : W.frozen? ⟨b, 3, none⟩ = false := P2.out.free 3
  have tm : m ≤ 13 := by omega
  have t1 : IntKind.i64.wrap ((m : Int) - 1) = (d : Int) := by rw [IntKind.wrap_i64]; omega
  have t2 : (0 : Int) ≤ (d : Int) := by omega
  have t3 : (d : Int) ≤ (cap : Int) := by omega
  obtain ⟨X, hX⟩ : ∃ X, (W.setCell ⟨b, 3, none⟩ (.slice (some ⟨g, 0, none⟩) d cap)).drew = X := ⟨_, rfl⟩
  have KX : Hid (Keep (· = b) w X) := by
    show Keep _ _ X
    rw [← hX]
    exact ((K1.out.trans (Keep.of_below B2.out)).trans (Keep.set _ ⟨b, 3, none⟩ _ rfl)).trans (Keep.of_below (Below.refl _ _).drew)
  have PX : Hid (PIn X b s p 0 ⟨.slice (some ⟨g, 0, none⟩) d cap, n, o0, o1, o2, o3⟩) := by
    show PIn X _ _ _ _ _
    rw [← hX]
    exact PIn.below (R := ⟨.slice (some ⟨g, 0, none⟩) d cap, n, o0, o1, o2, o3⟩) (P2.out.set 3 _) (Below.refl _ _).drew
  have hbw : b < w1.heap.size := P1.out.lt
  have LX : Hid (Lies X w1.heap.size 50 #[.string nm, .slice a1 n1 k1, .slice a2 n2 k2, .int .i64 q]) := by
    show Lies X _ _ _
    rw [← hX]
    exact (LW.out.off _ _ (by show w1.heap.size ≠ b; omega)).below (Below.refl _ _).drew
  have OX : Hid (X.ownsRow H 50 4 (.slice (some ⟨g, 0, none⟩) d cap) d (flatE (M ++ [(x, y, .slice kad qs.length kcap, u)]))) := by
    show X.ownsRow _ _ _ _ _ _
    have h1 := O2.out
    rw [flatE_app] at h1
    have h2 := own_shrink (n := d) (xs := flatE L) h1 (by rw [flatE_len, hLl])
    rw [HL.out] at h2
    refine own_keep h2 (fun g' hg' => ?_)
    obtain rfl : g = g' := Option.some.inj hg'
    rw [← hX]
    exact Below.heap_setCell _ _ _ _ hne
  have KkX : Hid (X.ownsRow H 50 4 (.slice kad qs.length kcap) qs.length (flatE qs)) := by
    show X.ownsRow _ _ _ _ _ _
    refine own_keep Kk2.out (fun g' hg' => ?_)
    rw [← hX]
    exact Below.heap_setCell _ _ _ _ (fun e => hkb (by rw [hg', e]))
  have HX := hideT hX
  clear hX
  have HM' := hideT hm
  clear hm
  go_region
  all_goals rw [HX.out]
  all_goals clear x3 f3
  all_goals have x3 : X.cell? ⟨b, 3, none⟩ = some (.slice (some ⟨g, 0, none⟩) d cap) := PX.out.cell 3
  all_goals have td : ((d : Int) == 0) = false := beq_eq_false_iff_ne.2 (by have := HD.out; omega)
  all_goals go_wp2_with fail
  refine (innermostD X b s p 0 _ g M.length cap (by omega) (by show Value.slice _ d cap = _; rw [HD.out]) PX.out).mono ?_
  rintro e w2 ⟨rfl, b2⟩
  have P3 := hideT (PX.out.below b2)
  have O3 := hideT (own_keep (w' := w2) OX.out (fun g' hg' => b2.block g' (own_lt OX.out hg').1))
  have Kk3 := hideT (own_keep (w' := w2) KkX.out (fun g' hg' => b2.block g' (own_lt KkX.out hg').1))
  have L3 := hideT (LX.out.below b2)
  have K3 : Hid (Keep (· = b) w w2) := KX.out.trans (Keep.of_below b2)
  have z3 : w.heap.size ≤ w2.heap.size := K3.out.size
  have c2 : w2.cell? ⟨g, M.length * 4 + 2, none⟩ = some (.slice kad qs.length kcap) := own_cell O3.out (flatE_last M x y (.slice kad qs.length kcap) u).2.2.1
  have e0 : w2.cell? ⟨w1.heap.size, 0, none⟩ = some (.string nm) := L3.out.cell 0
  have e1 : w2.cell? ⟨w1.heap.size, 1, none⟩ = some (.slice a1 n1 k1) := L3.out.cell 1
  have e2 : w2.cell? ⟨w1.heap.size, 2, none⟩ = some (.slice a2 n2 k2) := L3.out.cell 2
  have e3 : w2.cell? ⟨w1.heap.size, 3, none⟩ = some (.int .i64 q) := L3.out.cell 3
  have hkB : (Value.slice kad qs.length kcap).ownBlock ≠ some w1.heap.size := fun e => by
    have := (own_lt Kk1.out e).1
    omega
  have hH2 : H ≤ w2.heap.size := by omega
  have hglt2 := (own_lt O3.out (g := g) rfl).1
  have hBlt := L3.out.lt
  clear b2 x3 td
  go_wp2_with fail
  go_region_law
    ((refine step_append_lies _ (by rfl) _ _ _ (by rfl) H 50 i0 _ 4 72 Tryz.underlying48 hi0 hz0 hz1 hz2 rfl (by omega) (.slice kad qs.length kcap) qs.length (flatE qs) (by rfl) ((Kk3.out.alloc _).drew)
        ⟨w2.heap.size, 0, none⟩ 1 1 [.string ⟨#[]⟩, nilS, nilS, .int .i64 0] (by rfl) (by rfl) (World.news_of_block (cs := #[.string ⟨#[]⟩, nilS, nilS, .int .i64 0]) (t := 50) (fr := (0, 0)) (heap_alloc_new w2 _)) (by simp [Value.oneCell'])
        (by omega) (by unfold maxLen; omega) (by omega) (by first | (simp; done) | (simp; omega)) (w2.heap.size + 1) (by simp) ?_; intro g2 cap2 w3 hown1 hgrow hat hlt
      obtain ⟨r1, r2, r3, m1, m2, m3, ⟨i0', i1', i2', i3'⟩, ⟨j0, j1, j2, j3⟩, ⟨j4, j5⟩, v0, v1, v2, v3⟩ := kid_grown hown1 O3.out P3.out (by decide) L3.out hgrow (((Below.refl _ w2).alloc (Nat.le_refl _) _).drew) hkg hkb hkB (by rcases hat with h | h; exact .inl h; exact .inr (by omega))
      have q0 : (0 : Int) ≤ (qs.length : Int) := (by omega)
      have q1 : (qs.length : Int) < (qs.length : Int) + 1 := (by omega)))
  all_goals have KG : Keep (fun k => k = b ∨ (Value.slice (some ⟨g, 0, none⟩) (d + 1) cap).ownBlock = some k ∨ (Value.slice kad qs.length kcap).ownBlock = some k) w w3 := ((K3.out.wide (fun k _ e => .inl e)).trans (Keep.of_below (((Below.refl _ w2).alloc (Nat.le_refl _) _).drew))).on (Keep.grown hgrow) (fun i _ e => .inr (.inr e))
  all_goals obtain ⟨⟨XA, eA, fA⟩, ⟨XB, eB, fB⟩⟩ := kid_named (.string nm) (.slice a1 n1 k1) (.slice a2 n2 k2) (.int .i64 q) (.slice (some ⟨g2, 0, none⟩) (qs.length + 1) cap2) r1 r2 r3 m1 m2 m3 KG (by
      intro i hi e
      rcases e with e | e
      · rcases hat with h | h
        · exact .inr (.inr (by rw [h, e]))
        · omega
      · exact .inr (.inl (by rw [e]; rfl)))
  all_goals have GR := hideT (grew_of (w := w) (m := qs.length + 1) (cap := cap2) hat z3)
  all_goals clear i0' i1' i2' i3' j0 j1 j2 j3 j4 j5 v0 v1 v2 v3 hown1 hgrow hat KG r1 r2 r3 c2 e0 e1 e2 e3
  all_goals first
    | (rw [eA]; have F := hideT fA; clear fA fB eA eB)
    | (rw [eB]; have F := hideT fB; clear fA fB eA eB)
  all_goals go_wp2_with fail
  all_goals go_ret
  all_goals exact ⟨rfl, F.out.1, _, F.out.2.1, rfl, _, F.out.2.2.2, F.out.2.2.1, GR.out⟩
end Go.Proofs.YtjfonpbnohbpfaaGreatDoor
/-
  The program's nextWithin and within, where kids are read as they must be.
-/
set_option linter.unusedSimpArgs false
set_option linter.unusedVariables false
namespace Go.Proofs.YtjfonpbnohbpfaaGreatDoor
open Go.RowKit
set_option maxRecDepth 100000
/-- Which part nextWithin finds. -/
def nextW (s : List UInt8) (p : Nat) (P : Value) : Value :=
  if decide (p < Xp.skip s p) = true then meth 95 P else if Xp.hasL s p [60, 33, 45, 45] = true then meth 97 P else if Xp.hasL s p [60] = true ∧ Xp.hasL s p [60, 47] = false then meth 28 P else .nilFunc
theorem nextWithinD (w : World) (b : Nat) (s : ByteArray) (p : Nat) (R : PRest) (hs : s.size ≤ 1000000) (hp : p ≤ s.size) (h : PIn w b s p 0 R) :
    Calls Tryz.prog 130 #[ptr b] w fun e w' => e = .returned (nextW s.data.toList p (ptr b)) ∧ Below w.heap.size w w' := by
  have H := hideT h
  clear h
  have hmf : ∀ (fn : Fn) (first cap : Array Value) (w : World), (Instr.makeFunc fn first cap).run Tryz.prog w = .ok (.func fn first cap) w := fun _ _ _ _ => rfl
  have q0 : ∀ (w : World), (binOp .neq 105 .nilFunc .nilFunc).run Tryz.prog w = .ok (.bool false) w := fun _ => rfl
  have q1 : ∀ (w : World) (f : Nat), (binOp .neq 105 (meth f (ptr b)) .nilFunc).run Tryz.prog w = .ok (.bool true) w := fun _ _ => rfl
  by_cases hA : ∃ f, nextA s.data.toList p (ptr b) = meth f (ptr b)
  · obtain ⟨f, hf⟩ := hA
    have HA : Hid (nextA s.data.toList p (ptr b) = meth f (ptr b)) := hf
    have HN : Hid (nextW s.data.toList p (ptr b) = meth f (ptr b)) := by
      show nextW _ _ _ = _
      unfold nextA at hf
      unfold nextW
      split at hf
      · rename_i h1
        rw [if_pos h1]
        exact hf
      · rename_i h1
        split at hf
        · rename_i h2
          rw [if_neg h1, if_pos h2]
          exact hf
        · cases hf
    clear hf
    have q2 := fun w => q1 w f
    go_enter Tryz.func130, Tryz.ntmps130
    go_wp2_with fail
    refine (nextAroundD w b s p R hs hp H.out).mono ?_
    rw [HA.out]
    rintro d w1 ⟨rfl, b1⟩
    go_wp2_with fail
    go_ret
    rw [HN.out]
    exact ⟨rfl, b1⟩
  · have hn : nextA s.data.toList p (ptr b) = .nilFunc := by
      unfold nextA at hA ⊢
      split
      · rename_i h1
        rw [if_pos h1] at hA
        exact absurd ⟨_, rfl⟩ hA
      · rename_i h1
        split
        · rename_i h2
          rw [if_neg h1, if_pos h2] at hA
          exact absurd ⟨_, rfl⟩ hA
        · rfl
    have HA := hideT hn
    have HN : Hid (nextW s.data.toList p (ptr b) = if Xp.hasL s.data.toList p [60] = true ∧ Xp.hasL s.data.toList p [60, 47] = false then meth 28 (ptr b) else .nilFunc) := by
      show nextW _ _ _ = _
      unfold nextA at hn
      unfold nextW
      split at hn
      · cases hn
      · rename_i h1
        split at hn
        · cases hn
        · rename_i h2
          rw [if_neg h1, if_neg h2]
    obtain ⟨v, V⟩ : ∃ v, Hid (Xp.hasL s.data.toList p (⟨#[60]⟩ : ByteArray).data.toList = v) := ⟨_, rfl⟩
    obtain ⟨u, U⟩ : ∃ v, Hid (Xp.hasL s.data.toList p (⟨#[60, 47]⟩ : ByteArray).data.toList = v) := ⟨_, rfl⟩
    have HN2 : Hid (nextW s.data.toList p (ptr b) = if v = true ∧ u = false then meth 28 (ptr b) else .nilFunc) := by
      show nextW _ _ _ = _
      rw [HN.out, show Xp.hasL s.data.toList p [60] = v from V.out, show Xp.hasL s.data.toList p [60, 47] = u from U.out]
    clear hA hn
    cases v
    case false =>
      go_enter Tryz.func130, Tryz.ntmps130
      go_wp2_with fail
      refine (nextAroundD w b s p R hs hp H.out).mono ?_
      rw [HA.out]
      rintro d w1 ⟨rfl, b1⟩
      go_wp2_with fail
      refine (aheadD w1 b s ⟨#[60]⟩ p 0 R false hs hp (H.out.below b1) V).mono ?_
      rintro d w2 ⟨rfl, b2⟩
      go_wp2_with fail
      go_ret
      rw [HN2.out, if_neg (by simp)]
      exact ⟨rfl, b1.trans (b2.mono b1.size)⟩
    case true =>
      go_enter Tryz.func130, Tryz.ntmps130
      go_wp2_with fail
      refine (nextAroundD w b s p R hs hp H.out).mono ?_
      rw [HA.out]
      rintro d w1 ⟨rfl, b1⟩
      go_wp2_with fail
      refine (aheadD w1 b s ⟨#[60]⟩ p 0 R true hs hp (H.out.below b1) V).mono ?_
      rintro d w2 ⟨rfl, b2⟩
      have B2 := hideT (b1.trans (b2.mono b1.size))
      clear b1 b2
      go_wp2_with fail
      refine (aheadD w2 b s ⟨#[60, 47]⟩ p 0 R u hs hp (H.out.below B2.out) U).mono ?_
      rintro d w3 ⟨rfl, b3⟩
      have B3 := hideT (B2.out.trans (b3.mono B2.out.size))
      clear b3
      cases u
      all_goals go_wp2_with fail
      all_goals go_ret
      · rw [HN2.out, if_pos (by simp)]
        exact ⟨rfl, B3.out⟩
      · rw [HN2.out, if_neg (by simp)]
        exact ⟨rfl, B3.out⟩
theorem enterE : Enters Tryz.prog 28 := enters_of Tryz.func28 (by kernel_rfl) rfl
theorem enterW : Enters Tryz.prog 130 := enters_of Tryz.func130 (by kernel_rfl) rfl
/-- The blocks of a tree that was made since there were h of them, but the live ones. -/
def Quiet (h : Nat) (w : World) (vo kv : Value) (k : Nat) : Prop := h ≤ k ∧ k < w.heap.size ∧ vo.ownBlock ≠ some k ∧ kv.ownBlock ≠ some k
theorem Quiet.on {h : Nat} {w w' : World} {vo kv vo' kv' : Value} (hv : Grew w vo vo') (hk : Grew w kv kv') (hs : w.heap.size ≤ w'.heap.size) : ∀ k, Quiet h w vo kv k → Quiet h w' vo' kv' k := by
  rintro k ⟨h1, h2, h3, h4⟩
  refine ⟨h1, by omega, ?_, ?_⟩
  · rcases hv with e | ⟨g, e, hg⟩
    · rw [e]; exact h3
    · rw [e]; intro hh; have := Option.some.inj hh; omega
  · rcases hk with e | ⟨g, e, hg⟩
    · rw [e]; exact h4
    · rw [e]; intro hh; have := Option.some.inj hh; omega
theorem Quiet.keep {h : Nat} {w w' : World} {vo kv : Value} {b : Nat} (hk : Keep (SA b vo kv) w w') (hb : b < h) : ∀ k, Quiet h w vo kv k → w'.heap[k]? = w.heap[k]? := by
  rintro k ⟨h1, h2, h3, h4⟩
  refine hk.block k h2 ?_
  rintro (e | e | e)
  · omega
  · exact h3 e
  · exact h4 e
/-- An element within another one is read as the document reads it. -/
def ElemIn (m : Nat) : Prop := ∀ (w : World) (b H : Nat) (s : ByteArray) (p n : Nat) (vo kv o0 o1 o2 o3 x y u : Value) (M qs : List Quad), s.size ≤ 1000000 → p ≤ s.size → M.length + 1 + m = 12 → n ≤ 400 → qs.length ≤ n → Ok w → Off b → (∀ k, H ≤ k → Off k) → H ≤ w.heap.size →
  PIn w b s p 0 ⟨vo, n, o0, o1, o2, o3⟩ → w.ownsRow H 50 4 vo (M.length + 1) (flatE (M ++ [(x, y, kv, u)])) → w.ownsRow H 50 4 kv qs.length (flatE qs) → (∀ g, vo.ownBlock = some g → kv.ownBlock ≠ some g) →
  Calls Tryz.prog 28 #[ptr b] w (Told
    (fun w' => ∃ (T : Tr) (k n' : Nat) (vo' kv' c0 c1 c2 c3 : Value), Xp.elem m s.data.toList p n = .ok (T, k, n') ∧ Keep (SA b vo kv) w w' ∧ PIn w' b s k 0 ⟨vo', n', o0, o1, o2, o3⟩ ∧ w'.ownsRow H 50 4 vo' (M.length + 1) (flatE (M ++ [(x, y, kv', u)])) ∧
      w'.ownsRow H 50 4 kv' (qs.length + 1) (flatE (qs ++ [(c0, c1, c2, c3)])) ∧ Grew w vo vo' ∧ Grew w kv kv' ∧ (∀ g, vo'.ownBlock = some g → kv'.ownBlock ≠ some g) ∧ EInR w' (Quiet w.heap.size w' vo' kv') m c0 c1 c2 c3 T)
    (fun w' => ∃ q e : Nat, Xp.elem m s.data.toList p n = .error (q, e) ∧ Keep (SA b vo kv) w w' ∧ ∃ R', PIn w' b s q e R'))
end Go.Proofs.YtjfonpbnohbpfaaGreatDoor
/-
  The program's within.
-/
set_option linter.unusedSimpArgs false
set_option linter.unusedVariables false
namespace Go.Proofs.YtjfonpbnohbpfaaGreatDoor
open Go.RowKit
theorem nextW_some {s : List UInt8} {p f : Nat} {P : Value} (h : nextA s p P = meth f P) : nextW s p P = meth f P := by
  unfold nextA at h
  unfold nextW
  split at h
  · rename_i h1
    rw [if_pos h1]
    exact h
  · rename_i h1
    split at h
    · rename_i h2
      rw [if_neg h1, if_pos h2]
      exact h
    · cases h
theorem nextW_none {s : List UInt8} {p : Nat} {P : Value} (h : nextA s p P = .nilFunc) : nextW s p P = if Xp.hasL s p [60] = true ∧ Xp.hasL s p [60, 47] = false then meth 28 P else .nilFunc := by
  unfold nextA at h
  unfold nextW
  split at h
  · cases h
  · rename_i h1
    split at h
    · cases h
    · rename_i h2
      rw [if_neg h1, if_neg h2]
theorem KRow.turn {w w' : World} {H : Nat} {R R' : Nat → Prop} {n : Nat} {kv : Value} {ks : List Tr} (h : KRow w H R n kv ks) (hkv : ∀ g, kv.ownBlock = some g → w'.heap[g]? = w.heap[g]?) (hk : ∀ k, R k → w'.heap[k]? = w.heap[k]?) (hR : ∀ k, R k → R' k) : KRow w' H R' n kv ks := by
  obtain ⟨qs, ho, hq, he⟩ := h
  exact ⟨qs, own_keep ho hkv, hq, fun i q K h1 h2 => EInR.turn hk hR (he i q K h1 h2)⟩
/-- What within keeps up, from the world w on. -/
structure WIn (w w' : World) (m b H : Nat) (s nm : ByteArray) (p n : Nat) (vo kv o0 o1 o2 o3 av u : Value) (L : List Quad) (k n' : Nat) (ks : List Tr) (vo' kv' : Value) : Prop where
  same : Xp.kids m s.data.toList nm.data.toList p n [] = Xp.kids m s.data.toList nm.data.toList k n' ks
  pk : p ≤ k
  ks' : k ≤ s.size
  n4 : n' ≤ 400
  kn : ks.length ≤ n'
  keep : Keep (SA b vo kv) w w'
  pin : PIn w' b s k 0 ⟨vo', n', o0, o1, o2, o3⟩
  own : w'.ownsRow H 50 4 vo' (L.length + 1) (flatE (L ++ [(.string nm, av, kv', u)]))
  row : KRow w' H (Quiet w.heap.size w' vo' kv') m kv' ks
  gv : Grew w vo vo'
  gk : Grew w kv kv'
  apart : ∀ g, vo'.ownBlock = some g → kv'.ownBlock ≠ some g
theorem SA_grew {w : World} {b : Nat} {vo kv vo' kv' : Value} (hv : Grew w vo vo') (hk : Grew w kv kv') : ∀ i, i < w.heap.size → SA b vo' kv' i → SA b vo kv i := by
  intro i hi e
  rcases e with e | e | e
  · exact .inl e
  · rcases hv with h | ⟨g, h, hg⟩
    · exact .inr (.inl (by rw [← h]; exact e))
    · rw [h] at e
      have := Option.some.inj e
      omega
  · rcases hk with h | ⟨g, h, hg⟩
    · exact .inr (.inr (by rw [← h]; exact e))
    · rw [h] at e
      have := Option.some.inj e
      omega
/-- A step that turns nothing but the parser's own block. -/
theorem WIn.step {w w1 w2 : World} {m b H : Nat} {s nm : ByteArray} {p n : Nat} {vo kv o0 o1 o2 o3 av u : Value} {L : List Quad} {k n' : Nat} {ks : List Tr} {vo' kv' : Value} (h : WIn w w1 m b H s nm p n vo kv o0 o1 o2 o3 av u L k n' ks vo' kv') (hb : b < w.heap.size) (hk : Keep (· = b) w1 w2) {j : Nat} (hp : PIn w2 b s j 0 ⟨vo', n', o0, o1, o2, o3⟩) (hj : p ≤ j) (hjs : j ≤ s.size) (he : Xp.kids m s.data.toList nm.data.toList k n' ks = Xp.kids m s.data.toList nm.data.toList j n' ks) :
    WIn w w2 m b H s nm p n vo kv o0 o1 o2 o3 av u L j n' ks vo' kv' := by
  have hne : vo'.ownBlock ≠ some b := own_ne h.own h.pin (by decide)
  obtain ⟨qs, ho, hq, hee⟩ := h.row
  have hkb : kv'.ownBlock ≠ some b := own_ne ho h.pin (by decide)
  refine ⟨h.same.trans he, hj, hjs, h.n4, h.kn, h.keep.trans (hk.wide (fun i _ e => .inl e)), hp, ?_, ?_, h.gv, h.gk, h.apart⟩
  · exact own_keep h.own (fun g hg => hk.block g (own_lt h.own hg).1 (fun e => hne (by rw [hg, e])))
  · refine h.row.turn (fun g hg => hk.block g (own_lt ho hg).1 (fun e => hkb (by rw [hg, e]))) (fun i hi => hk.block i hi.2.1 (fun e => ?_)) (Quiet.on (Grew.refl _ _) (Grew.refl _ _) hk.size)
    have := hi.1
    omega
theorem withinD (m : Nat) (hE : ElemIn m) (w : World) (b H : Nat) (s nm : ByteArray) (p n : Nat) (vo o0 o1 o2 o3 av u : Value) (L : List Quad) (hs : s.size ≤ 1000000) (hp : p ≤ s.size) (hL : L.length + 1 + m = 12) (hn : n ≤ 400) (hw : Ok w) (hoff : Off b) (hO : ∀ k, H ≤ k → Off k) (hH : H ≤ w.heap.size)
    (h : PIn w b s p 0 ⟨vo, n, o0, o1, o2, o3⟩) (ho : w.ownsRow H 50 4 vo (L.length + 1) (flatE (L ++ [(.string nm, av, nilS, u)]))) :
    Calls Tryz.prog 103 #[ptr b] w (Told
      (fun w' => ∃ (k n' : Nat) (ks : List Tr) (vo' kv' : Value), WIn w w' m b H s nm p n vo nilS o0 o1 o2 o3 av u L k n' ks vo' kv' ∧ Xp.misc s.data.toList k = .ok k ∧ ¬ (Xp.hasL s.data.toList k [60] = true ∧ Xp.hasL s.data.toList k [60, 47] = false))
      (fun w' => ∃ q e : Nat, Xp.kids m s.data.toList nm.data.toList p n [] = .error (q, e) ∧ Keep (SA b vo nilS) w w' ∧ ∃ R', PIn w' b s q e R')) := by
  have hmf : ∀ (fn : Fn) (first cap : Array Value) (w : World), (Instr.makeFunc fn first cap).run Tryz.prog w = .ok (.func fn first cap) w := fun _ _ _ _ => rfl
  have hbl : b < w.heap.size := Lies.lt h
  have hL' : s.data.toList.length = s.size := Array.length_toList
  have hSoff : ∀ i, SA b vo nilS i → Off i := by
    intro i hi
    rcases hi with rfl | hi | hi
    · exact hoff
    · exact hO i (own_lt ho hi).2
    · cases hi
  have C : Hid (Calls Tryz.prog 61 #[ptr b, meth 130 (ptr b)] w (Told
      (fun w' => ∃ (k n' : Nat) (ks : List Tr) (vo' kv' : Value), WIn w w' m b H s nm p n vo nilS o0 o1 o2 o3 av u L k n' ks vo' kv' ∧ Xp.misc s.data.toList k = .ok k ∧ ¬ (Xp.hasL s.data.toList k [60] = true ∧ Xp.hasL s.data.toList k [60, 47] = false))
      (fun w' => ∃ q e : Nat, Xp.kids m s.data.toList nm.data.toList p n [] = .error (q, e) ∧ Keep (SA b vo nilS) w w' ∧ ∃ R', PIn w' b s q e R'))) := by
    refine repeatD (ptr b) (ptr b) 130 (fun w' => ∃ (k n' : Nat) (ks : List Tr) (vo' kv' : Value), WIn w w' m b H s nm p n vo nilS o0 o1 o2 o3 av u L k n' ks vo' kv') _ _ (fun w' => s.size - placeP w' b) enterW ?_ w ⟨p, n, [], vo, nilS, ⟨rfl, Nat.le_refl _, hp, hn, Nat.zero_le _, Keep.refl _ _, h, ho, ⟨[], World.ownsRow_nil _ _ _ _, rfl, fun i q K h1 _ => by simp at h1⟩, Grew.refl _ _, Grew.refl _ _, fun _ _ e => by cases e⟩⟩
    rintro w1 ⟨k, n', ks, vo', kv', I1⟩
    refine (nextWithinD w1 b s k _ hs I1.ks' I1.pin).mono ?_
    rintro d w2 ⟨rfl, b2⟩
    have I2 := I1.step hbl (Keep.of_below b2) (I1.pin.below b2) I1.pk I1.ks' rfl
    have hw2 : Ok w2 := hw.keep I2.keep hSoff
    rcases stepA w2 b s k _ hs I1.ks' hw2 hoff I2.pin with ⟨h1, h2⟩ | ⟨f, h1, h2, h3⟩
    · rw [nextW_none h1]
      by_cases he : Xp.hasL s.data.toList k [60] = true ∧ Xp.hasL s.data.toList k [60, 47] = false
      · rw [if_pos he]
        refine .inr ⟨_, rfl, enterE, ?_⟩
        obtain ⟨qs, ho2, hq2, hee⟩ := I2.row
        have hkk := Xp.kids_kid (m := m) (s := s.data.toList) (nm := nm.data.toList) (n := n') (ks := ks) (by rw [hL']; exact I1.ks') h2 he.2 he.1
        refine (hE w2 b H s k n' vo' kv' o0 o1 o2 o3 (.string nm) av u L qs hs I1.ks' hL I1.n4 (by rw [hq2]; exact I1.kn) hw2 hoff hO (by have := I2.keep.size; omega) I2.pin I2.own ho2 I2.apart).mono ?_
        rintro d w3 (⟨rfl, T, j, n'', vo'', kv'', c0, c1, c2, c3, e3, k3, p3, o3', q3, gv3, gk3, ap3, t3⟩ | ⟨rfl, q, e, e3, k3, R', p3⟩)
        · have hg := Xp.elem_goes s.data.toList m k n' T j n'' (by rw [hL']; exact I1.ks') e3
          rw [hL'] at hg
          rw [e3] at hkk
          refine .inl ⟨rfl, ⟨j, n'', ks ++ [T], vo'', kv'', ⟨I1.same.trans hkk, by have := I1.pk; omega, hg.2.1, hg.2.2.2, by rw [List.length_append]; have := I1.kn; simp; omega, I2.keep.on k3 (SA_grew I2.gv I2.gk), p3, o3', ?_, I2.gv.trans I2.keep.size gv3, I2.gk.trans I2.keep.size gk3, ap3⟩⟩, ?_⟩
          · refine ⟨qs ++ [(c0, c1, c2, c3)], by rw [List.length_append]; exact q3, by rw [List.length_append, List.length_append, hq2]; rfl, ?_⟩
            intro i q K hi hK
            rcases Nat.lt_or_ge i qs.length with hlt | hge
            · rw [List.getElem?_append_left hlt] at hi
              rw [List.getElem?_append_left (by omega)] at hK
              exact EInR.turn (Quiet.keep k3 hbl) (Quiet.on gv3 gk3 k3.size) (hee i q K hi hK)
            · rw [List.getElem?_append_right hge] at hi
              rw [List.getElem?_append_right (by omega)] at hK
              have hi0 : i - qs.length = 0 := by
                have := (List.getElem?_eq_some_iff.1 hi).1
                simp at this
                omega
              rw [hi0] at hi
              rw [← hq2, hi0] at hK
              simp only [List.getElem?_cons_zero, Option.some.injEq] at hi hK
              subst hi hK
              exact EInR.turn (fun _ _ => rfl) (fun k hk => ⟨by have := hk.1; have := I2.keep.size; omega, hk.2⟩) t3
          · rw [placeP_of (k := k) (I1.pin.cell 1), placeP_of (k := j) (p3.cell 1)]
            omega
        · rw [e3] at hkk
          exact .inr ⟨rfl, q, e, I1.same.trans hkk, I2.keep.on k3 (SA_grew I2.gv I2.gk), R', p3⟩
      · rw [if_neg he]
        exact .inl ⟨rfl, k, n', ks, vo', kv', I2, h2, he⟩
    · rw [nextW_some h1]
      refine .inr ⟨f, rfl, h2, h3.mono ?_⟩
      rintro d w3 (⟨rfl, k3, j, hj, hjs, r3, e3⟩ | ⟨rfl, k3, j, r3, e3⟩)
      · refine .inl ⟨rfl, ⟨j, n', ks, vo', kv', I2.step hbl k3 r3 (by have := I1.pk; omega) hjs (Xp.kids_misc e3)⟩, ?_⟩
        rw [placeP_of (k := k) (I1.pin.cell 1), placeP_of (k := j) (r3.cell 1)]
        omega
      · exact .inr ⟨rfl, j, 2, I1.same.trans (Xp.kids_err e3), I2.keep.trans (k3.wide (fun i _ e => .inl e)), _, r3⟩
  go_enter Tryz.func103, Tryz.ntmps103
  go_wp2_with fail
  refine C.out.mono ?_
  rintro d w1 (⟨rfl, h1⟩ | ⟨rfl, h1⟩)
  · have H1 := hideT h1
    clear h1
    go_wp2_with fail
    go_ret
    exact .inl ⟨rfl, H1.out⟩
  · have H1 := hideT h1
    clear h1
    go_wp2_with fail
    go_ret
    exact .inr ⟨rfl, H1.out⟩
end Go.Proofs.YtjfonpbnohbpfaaGreatDoor
/-
  The program's rest: what stands behind an element's attributes.
-/
set_option linter.unusedSimpArgs false
set_option linter.unusedVariables false
namespace Go.Proofs.YtjfonpbnohbpfaaGreatDoor
open Go.RowKit
theorem inTurn4 (P X : Value) (gs c f0 f1 f2 f3 : Nat) (C : Array Value) (t : TypeId) (hC : C = #[meth f0 P, meth f1 P, meth f2 P, meth f3 P]) (J0 J1 J2 J3 J4 F : World → Prop) (e0 : Enters Tryz.prog f0) (e1 : Enters Tryz.prog f1) (e2 : Enters Tryz.prog f2) (e3 : Enters Tryz.prog f3)
    (h0 : ∀ w, Lies w gs t C → J0 w → Calls Tryz.prog f0 #[P] w (Told (fun w' => Lies w' gs t C ∧ J1 w') F)) (h1 : ∀ w, Lies w gs t C → J1 w → Calls Tryz.prog f1 #[P] w (Told (fun w' => Lies w' gs t C ∧ J2 w') F))
    (h2 : ∀ w, Lies w gs t C → J2 w → Calls Tryz.prog f2 #[P] w (Told (fun w' => Lies w' gs t C ∧ J3 w') F)) (h3 : ∀ w, Lies w gs t C → J3 w → Calls Tryz.prog f3 #[P] w (Told J4 F)) (w : World) (hl : Lies w gs t C) (hJ : J0 w) :
    Calls Tryz.prog 26 #[X, .slice (some ⟨gs, 0, none⟩) 4 c] w (Told J4 F) := by
  refine inTurnD P X gs 4 c (fun i => match i with | 0 => f0 | 1 => f1 | 2 => f2 | _ => f3) (fun i w => match i with | 0 => Lies w gs t C ∧ J0 w | 1 => Lies w gs t C ∧ J1 w | 2 => Lies w gs t C ∧ J2 w | 3 => Lies w gs t C ∧ J3 w | _ => J4 w) F (by decide) ?_ ?_ ?_ w ⟨hl, hJ⟩
  · intro i hi
    obtain rfl | rfl | rfl | rfl : i = 0 ∨ i = 1 ∨ i = 2 ∨ i = 3 := by omega
    · exact e0
    · exact e1
    · exact e2
    · exact e3
  · intro i w' hi hI
    obtain rfl | rfl | rfl | rfl : i = 0 ∨ i = 1 ∨ i = 2 ∨ i = 3 := by omega
    all_goals rw [hI.1.cell, hC]
    all_goals rfl
  · intro i w' hi hI
    obtain rfl | rfl | rfl | rfl : i = 0 ∨ i = 1 ∨ i = 2 ∨ i = 3 := by omega
    · exact h0 w' hI.1 hI.2
    · exact h1 w' hI.1 hI.2
    · exact h2 w' hI.1 hI.2
    · exact h3 w' hI.1 hI.2
theorem inTurn3 (P X : Value) (gs c f0 f1 f2 : Nat) (C : Array Value) (t : TypeId) (hC : C = #[meth f0 P, meth f1 P, meth f2 P]) (J0 J1 J2 J4 F : World → Prop) (e0 : Enters Tryz.prog f0) (e1 : Enters Tryz.prog f1) (e2 : Enters Tryz.prog f2)
    (h0 : ∀ w, Lies w gs t C → J0 w → Calls Tryz.prog f0 #[P] w (Told (fun w' => Lies w' gs t C ∧ J1 w') F)) (h1 : ∀ w, Lies w gs t C → J1 w → Calls Tryz.prog f1 #[P] w (Told (fun w' => Lies w' gs t C ∧ J2 w') F))
    (h2 : ∀ w, Lies w gs t C → J2 w → Calls Tryz.prog f2 #[P] w (Told J4 F)) (w : World) (hl : Lies w gs t C) (hJ : J0 w) :
    Calls Tryz.prog 26 #[X, .slice (some ⟨gs, 0, none⟩) 3 c] w (Told J4 F) := by
  refine inTurnD P X gs 3 c (fun i => match i with | 0 => f0 | 1 => f1 | _ => f2) (fun i w => match i with | 0 => Lies w gs t C ∧ J0 w | 1 => Lies w gs t C ∧ J1 w | 2 => Lies w gs t C ∧ J2 w | _ => J4 w) F (by decide) ?_ ?_ ?_ w ⟨hl, hJ⟩
  · intro i hi
    obtain rfl | rfl | rfl : i = 0 ∨ i = 1 ∨ i = 2 := by omega
    · exact e0
    · exact e1
    · exact e2
  · intro i w' hi hI
    obtain rfl | rfl | rfl : i = 0 ∨ i = 1 ∨ i = 2 := by omega
    all_goals rw [hI.1.cell, hC]
    all_goals rfl
  · intro i w' hi hI
    obtain rfl | rfl | rfl : i = 0 ∨ i = 1 ∨ i = 2 := by omega
    · exact h0 w' hI.1 hI.2
    · exact h1 w' hI.1 hI.2
    · exact h2 w' hI.1 hI.2
/-- What stands behind an element's attributes. -/
def Xp.rest (m : Nat) (s : List UInt8) (nm : ByteArray) (l : List Xp.Att) (p j n : Nat) : Except (Nat × Nat) (Tr × Nat × Nat) :=
  if Xp.hasL s j [47, 62] = true then .ok (Xp.mkT nm l [] p, j + 2, n) else if Xp.hasL s j [62] = true then (match Xp.kids m s nm.data.toList (j + 1) n [] with | .error e => .error e | .ok (ks, i, n') => .ok (Xp.mkT nm l ks p, i, n')) else .error (j, 2)
theorem enterWi : Enters Tryz.prog 103 := enters_of Tryz.func103 (by kernel_rfl) rfl
theorem enterEt : Enters Tryz.prog 104 := enters_of Tryz.func104 (by kernel_rfl) rfl
theorem enterSh : Enters Tryz.prog 102 := enters_of Tryz.func102 (by kernel_rfl) rfl
/-- How an element is ended: from each world in which it stands whole. -/
def Shuts (w : World) (m b H : Nat) (s nm : ByteArray) (p : Nat) (vo o0 o1 o2 o3 av : Value) (L : List Quad) (l : List (ByteArray × ByteArray)) (Post : World → Tr → Nat → Nat → Prop) : Prop :=
  ∀ (w' : World) (k n' : Nat) (ks : List Tr) (vo' kv' : Value), Keep (SA b vo nilS) w w' → PIn w' b s k 0 ⟨vo', n', o0, o1, o2, o3⟩ → w'.ownsRow H 50 4 vo' (L.length + 1) (flatE (L ++ [(.string nm, av, kv', .int .i64 p)])) → AOwn w' H av l →
    KRow w' H (Quiet w.heap.size w' vo' kv') m kv' ks → Grew w vo vo' → Grew w nilS kv' → (∀ g, vo'.ownBlock = some g → kv'.ownBlock ≠ some g) → k ≤ s.size → n' ≤ 400 → ks.length ≤ n' →
    Calls Tryz.prog 102 #[ptr b] w' fun e w'' => e = .returned (.bool true) ∧ Post w'' (Xp.mkT nm l ks p) k n'
set_option maxHeartbeats 2000000 in
theorem restD (m : Nat) (hE : ElemIn m) (w : World) (b H : Nat) (s nm : ByteArray) (p j n : Nat) (vo o0 o1 o2 o3 av : Value) (L : List Quad) (l : List (ByteArray × ByteArray)) (Post : World → Tr → Nat → Nat → Prop) (hs : s.size ≤ 1000000) (hp : j ≤ s.size) (hL : L.length + 1 + m = 12) (hn : n ≤ 400) (hw : Ok w) (hoff : Off b) (hO : ∀ k, H ≤ k → Off k) (hH : H ≤ w.heap.size)
    (h : PIn w b s j 0 ⟨vo, n, o0, o1, o2, o3⟩) (ho : w.ownsRow H 50 4 vo (L.length + 1) (flatE (L ++ [(.string nm, av, nilS, .int .i64 p)]))) (ha : AOwn w H av l) (hsh : Shuts w m b H s nm p vo o0 o1 o2 o3 av L l Post) :
    Calls Tryz.prog 66 #[ptr b] w (Told
      (fun w' => ∃ (T : Tr) (k n' : Nat), Xp.rest m s.data.toList nm l p j n = .ok (T, k, n') ∧ Post w' T k n')
      (fun w' => ∃ q e : Nat, Xp.rest m s.data.toList nm l p j n = .error (q, e) ∧ Keep (SA b vo nilS) w w' ∧ ∃ R', PIn w' b s q e R')) := by
  have hmf : ∀ (fn : Fn) (first cap : Array Value) (w : World), (Instr.makeFunc fn first cap).run Tryz.prog w = .ok (.func fn first cap) w := fun _ _ _ _ => rfl
  have HP := hideT h
  have HO := hideT ho
  have HA := hideT ha
  have HS := hideT hsh
  have HWW := hideT hw
  have HOO := hideT hO
  have HEE := hideT hE
  have hbl : b < w.heap.size := Lies.lt h
  have hne : vo.ownBlock ≠ some b := own_ne ho h (by decide)
  have hab : av.ownBlock ≠ some b := own_ne ha.1 h (by decide)
  obtain ⟨v1, V1⟩ : ∃ v, Hid (Xp.hasL s.data.toList j (⟨#[47, 62]⟩ : ByteArray).data.toList = v) := ⟨_, rfl⟩
  obtain ⟨v2, V2⟩ : ∃ v, Hid (Xp.hasL s.data.toList j (⟨#[62]⟩ : ByteArray).data.toList = v) := ⟨_, rfl⟩
  have HR : Hid (Xp.rest m s.data.toList nm l p j n = if v1 = true then .ok (Xp.mkT nm l [] p, j + 2, n) else if v2 = true then (match Xp.kids m s.data.toList nm.data.toList (j + 1) n [] with | .error e => .error e | .ok (ks, i, n') => .ok (Xp.mkT nm l ks p, i, n')) else .error (j, 2)) := by
    show _ = _
    unfold Xp.rest
    rw [show Xp.hasL s.data.toList j [47, 62] = v1 from V1.out, show Xp.hasL s.data.toList j [62] = v2 from V2.out]
  clear h ho ha hsh hw hO hE
  cases v1
  case true =>
    have hj2 : j + 2 ≤ s.size := Xp.has_room V1.out (by decide)
    go_enter Tryz.func66, Tryz.ntmps66
    go_wp2_with fail
    refine (aheadD w b s ⟨#[47, 62]⟩ j 0 _ true hs hp HP.out V1).mono ?_
    rintro e w1 ⟨rfl, b1⟩
    have P1 := hideT (HP.out.below b1)
    have x1 : w1.cell? ⟨b, 1, none⟩ = some (.int .i64 j) := P1.out.cell 1
    have f1 : w1.frozen? ⟨b, 1, none⟩ = false := P1.out.free 1
    obtain ⟨W, hW⟩ : ∃ W, w1.setCell ⟨b, 1, none⟩ (.int .i64 ((j : Int) + 2)) = W := ⟨_, rfl⟩
    have KW : Hid (Keep (· = b) w W) := by
      show Keep _ _ W
      rw [← hW]
      exact (Keep.of_below b1).trans (Keep.set _ ⟨b, 1, none⟩ _ rfl)
    have PW : Hid (PIn W b s (j + 2 : Nat) 0 ⟨vo, n, o0, o1, o2, o3⟩) := by
      show PIn W _ _ _ _ _
      rw [← hW]
      exact P1.out.set 1 _
    have HWq := hideT hW
    clear b1 hW
    have OW := hideT (own_keep (w' := W) HO.out (fun g hg => KW.out.block g (own_lt HO.out hg).1 (fun e => hne (by rw [hg, e]))))
    have AW := hideT (HA.out.keep (w' := W) (fun g hg => KW.out.block g (own_lt HA.out.1 hg).1 (fun e => hab (by rw [hg, e]))))
    go_wp2_with fail
    rw [HWq.out]
    refine (HS.out W (j + 2) n [] vo nilS (KW.out.wide (fun i _ e => .inl e)) PW.out OW.out AW.out ⟨[], World.ownsRow_nil _ _ _ _, rfl, fun i q K h1 _ => by simp at h1⟩ (Grew.refl _ _) (Grew.refl _ _) (fun _ _ e => by cases e) hj2 hn (Nat.zero_le _)).mono ?_
    rintro e w2 ⟨rfl, q2⟩
    have Q2 := hideT q2
    clear q2
    go_wp2_with fail
    go_ret
    refine .inl ⟨rfl, _, _, _, ?_, Q2.out⟩
    rw [HR.out, if_pos (by trivial)]
  case false =>
    cases v2
    case false =>
      go_enter Tryz.func66, Tryz.ntmps66
      go_wp2_with fail
      refine (aheadD w b s ⟨#[47, 62]⟩ j 0 _ false hs hp HP.out V1).mono ?_
      rintro e w1 ⟨rfl, b1⟩
      have P1 := hideT (HP.out.below b1)
      have K1 : Hid (Keep (· = b) w w1) := Keep.of_below b1
      clear b1
      go_wp2_with fail
      refine (mustD w1 b s ⟨#[62]⟩ j _ false hs hp (by decide) P1.out V2).mono ?_
      rintro e w2 ⟨rfl, k2, _, r2⟩
      have R2 := hideT (r2 rfl)
      have K2 := hideT (K1.out.trans k2)
      clear k2 r2
      go_wp2_with fail
      go_ret
      refine .inr ⟨rfl, j, 2, ?_, K2.out.wide (fun i _ e => .inl e), _, R2.out⟩
      rw [HR.out, if_neg (by simp), if_neg (by simp)]
    case true =>
      have hj1 : j + 1 ≤ s.size := Xp.has_room V2.out (by decide)
      have HR2 : Hid (Xp.rest m s.data.toList nm l p j n = (match Xp.kids m s.data.toList nm.data.toList (j + 1) n [] with | .error e => .error e | .ok (ks, i, n') => .ok (Xp.mkT nm l ks p, i, n'))) := by
        show _ = _
        rw [HR.out, if_neg (by simp), if_pos (by trivial)]
      go_enter Tryz.func66, Tryz.ntmps66
      go_wp2_with fail
      refine (aheadD w b s ⟨#[47, 62]⟩ j 0 _ false hs hp HP.out V1).mono ?_
      rintro e w1 ⟨rfl, b1⟩
      have P1 := hideT (HP.out.below b1)
      have K1 : Hid (Keep (· = b) w w1) := Keep.of_below b1
      clear b1
      go_wp2_with fail
      refine (mustD w1 b s ⟨#[62]⟩ j _ true hs hp (by decide) P1.out V2).mono ?_
      rintro e w2 ⟨rfl, k2, r2, _⟩
      have R2 : Hid (PIn w2 b s (j + 1 : Nat) 0 ⟨vo, n, o0, o1, o2, o3⟩) := r2 rfl
      have K2 := hideT (K1.out.trans k2)
      clear k2 r2
      obtain ⟨W, hW⟩ : ∃ W, w2.alloc (.cells #[meth 103 (ptr b), meth 104 (ptr b), meth 102 (ptr b)] 105) = W := ⟨_, rfl⟩
      have BW : Hid (Below w2.heap.size w2 W) := by rw [← hW]; exact (Below.refl _ w2).alloc (Nat.le_refl _) _
      have LW : Hid (Lies W w2.heap.size 105 #[meth 103 (ptr b), meth 104 (ptr b), meth 102 (ptr b)]) := by
        show Lies W _ _ _
        rw [← hW]
        exact Lies.new w2 _ _
      have KW := hideT (K2.out.trans (Keep.of_below BW.out))
      have PW := hideT (R2.out.below BW.out)
      have OW := hideT (own_keep (w' := W) HO.out (fun g hg => KW.out.block g (own_lt HO.out hg).1 (fun e => hne (by rw [hg, e]))))
      have AW := hideT (HA.out.keep (w' := W) (fun g hg => KW.out.block g (own_lt HA.out.1 hg).1 (fun e => hab (by rw [hg, e]))))
      have hgs : ∀ vo' : Value, Grew W vo vo' → ∀ kv' : Value, Grew W nilS kv' → ¬ SA b vo nilS w2.heap.size := by
        intro _ _ _ _ e
        have hz := K2.out.size
        rcases e with e | e | e
        · omega
        · have := (own_lt HO.out e).1
          omega
        · cases e
      have hnS : ¬ SA b vo nilS w2.heap.size := hgs vo (Grew.refl _ _) nilS (Grew.refl _ _)
      have hbs : ¬ w2.heap.size = b := by have := K2.out.size; omega
      have C : Hid (Calls Tryz.prog 26 #[ptr b, .slice (some ⟨w2.heap.size, 0, none⟩) 3 3] W (Told
          (fun w' => ∃ (T : Tr) (k n' : Nat), Xp.rest m s.data.toList nm l p j n = .ok (T, k, n') ∧ Post w' T k n')
          (fun w' => ∃ q e : Nat, Xp.rest m s.data.toList nm l p j n = .error (q, e) ∧ Keep (SA b vo nilS) w w' ∧ ∃ R', PIn w' b s q e R'))) := by
        refine inTurn3 (ptr b) (ptr b) w2.heap.size 3 _ _ _ _ 105 rfl (fun w' => w' = W)
          (fun wa => ∃ (k n' : Nat) (ks : List Tr) (vo' kv' : Value), WIn W wa m b H s nm (j + 1) n vo nilS o0 o1 o2 o3 av (.int .i64 p) L k n' ks vo' kv' ∧ Xp.misc s.data.toList k = .ok k ∧ ¬ (Xp.hasL s.data.toList k [60] = true ∧ Xp.hasL s.data.toList k [60, 47] = false))
          (fun w' => ∃ (wa : World) (k i n' : Nat) (ks : List Tr) (vo' kv' : Value), WIn W wa m b H s nm (j + 1) n vo nilS o0 o1 o2 o3 av (.int .i64 p) L k n' ks vo' kv' ∧ Keep (· = b) wa w' ∧ PIn w' b s i 0 ⟨vo', n', o0, o1, o2, o3⟩ ∧ i ≤ s.size ∧ Xp.kids m s.data.toList nm.data.toList (j + 1) n [] = .ok (ks, i, n'))
          _ _ enterWi enterEt enterSh ?_ ?_ ?_ W LW.out rfl
        · rintro w' hl rfl
          refine (withinD m HEE.out w' b H s nm (j + 1) n vo o0 o1 o2 o3 av (.int .i64 p) L hs hj1 hL hn (HWW.out.keep KW.out (fun i hi => by subst hi; exact hoff)) hoff HOO.out (by have := KW.out.size; omega) PW.out OW.out).mono ?_
          rintro d w3 (⟨rfl, k, n', ks, vo', kv', I, h1, h2⟩ | ⟨rfl, q, e, h1, k3, R', p3⟩)
          · exact .inl ⟨rfl, hl.keep I.keep hnS, k, n', ks, vo', kv', I, h1, h2⟩
          · refine .inr ⟨rfl, q, e, ?_, (KW.out.wide (fun i _ e => .inl e)).trans k3, R', p3⟩
            rw [HR2.out, h1]
        · rintro w' hl ⟨k, n', ks, vo', kv', I, h1, h2⟩
          have hkW : Keep (· = b) w W := KW.out
          have hokw : Ok w' := HWW.out.keep ((KW.out.wide (R := SA b vo nilS) (fun i _ e => .inl e)).trans I.keep) (fun i hi => by
            rcases hi with rfl | hi | hi
            · exact hoff
            · exact HOO.out i (own_lt HO.out hi).2
            · cases hi)
          refine (endTagD w' b H s nm k _ L av kv' (.int .i64 p) hs I.ks' (by omega) hokw hoff I.pin I.own).mono ?_
          rintro d w3 (⟨rfl, i, v3, e3, hi, his, k3, p3⟩ | ⟨rfl, q, hq, k3, p3⟩)
          · refine .inl ⟨rfl, hl.keep k3 hbs, w', k, i, n', ks, vo', kv', I, k3, p3, his, ?_⟩
            rw [I.same, Xp.kids_end h1 v3, e3]
          · refine .inr ⟨rfl, q, 2, ?_, ((KW.out.wide (fun i _ e => .inl e)).trans I.keep).trans (k3.wide (fun i _ e => .inl e)), _, p3⟩
            rw [HR2.out, I.same]
            rcases hq with ⟨v3, rfl⟩ | ⟨v3, e3⟩
            · rw [Xp.kids_no h1 v3 (by
                cases hh : Xp.hasL s.data.toList q [60] with
                | false => rfl
                | true => exact absurd ⟨hh, v3⟩ h2)]
            · rw [Xp.kids_end h1 v3, e3]
        · rintro w' hl ⟨wa, k, i, n', ks, vo', kv', I, k3, p3, his, e3⟩
          have kwa : Keep (SA b vo nilS) w wa := (KW.out.wide (fun i _ e => .inl e)).trans I.keep
          have kw' : Keep (SA b vo nilS) w w' := kwa.trans (k3.wide (fun i _ e => .inl e))
          have hne' : vo'.ownBlock ≠ some b := own_ne I.own I.pin (by decide)
          obtain ⟨qs, ho2, hq2, hee⟩ := I.row
          have hkb : kv'.ownBlock ≠ some b := own_ne ho2 I.pin (by decide)
          refine (HS.out w' i n' ks vo' kv' kw' p3 ?_ ?_ ?_ ((Grew.refl w vo).trans KW.out.size I.gv) ((Grew.refl w nilS).trans KW.out.size I.gk) I.apart his I.n4 I.kn).mono ?_
          · exact own_keep I.own (fun g hg => k3.block g (own_lt I.own hg).1 (fun e => hne' (by rw [hg, e])))
          · refine HA.out.keep (fun g hg => kw'.block g (own_lt HA.out.1 hg).1 ?_)
            rintro (e | e | e)
            · exact hab (by rw [hg, e])
            · exact own_ne2 HO.out HA.out.1 (by decide) g e hg
            · cases e
          · refine I.row.turn (fun g hg => k3.block g (own_lt ho2 hg).1 (fun e => hkb (by rw [hg, e]))) (fun i hi => k3.block i hi.2.1 (fun e => ?_)) (fun i hi => ?_)
            · have := hi.1
              have := KW.out.size
              omega
            · have h5 := Quiet.on (Grew.refl wa vo') (Grew.refl wa kv') k3.size i hi
              exact ⟨by have := h5.1; have := KW.out.size; omega, h5.2⟩
          · rintro d w4 ⟨rfl, q4⟩
            refine .inl ⟨rfl, _, _, _, ?_, q4⟩
            rw [HR2.out, e3]
      have HWq := hideT hW
      clear hW hgs hnS hbs
      go_wp2_with fail
      rw [HWq.out]
      refine C.out.mono ?_
      rintro d w5 (⟨rfl, h5⟩ | ⟨rfl, h5⟩)
      · have H5 := hideT h5
        clear h5
        go_wp2_with fail
        go_ret
        exact .inl ⟨rfl, H5.out⟩
      · have H5 := hideT h5
        clear h5
        go_wp2_with fail
        go_ret
        exact .inr ⟨rfl, H5.out⟩
end Go.Proofs.YtjfonpbnohbpfaaGreatDoor
/-
  The program's element.
-/
set_option linter.unusedSimpArgs false
set_option linter.unusedVariables false
namespace Go.Proofs.YtjfonpbnohbpfaaGreatDoor
open Go.RowKit
theorem Xp.elem_rest (m : Nat) (s : List UInt8) (p n : Nat) : Xp.elem (m + 1) s p n = (if Xp.hasL s p [60] = true then (if 400 ≤ n then .error (p, 4) else match Xp.qual s (p + 1) with
      | none => .error (p + 1, 2)
      | some k => match Xp.tagF 9 s k [] with
        | .error e => .error e
        | .ok (l, j) => Xp.rest m s (Xp.ba (Xp.cut s (p + 1) k)) l p j (n + 1)) else .error (p, 2)) := by
  rw [Xp.elem_eq]
  try rfl
theorem enterBg : Enters Tryz.prog 63 := enters_of Tryz.func63 (by kernel_rfl) rfl
theorem enterNm : Enters Tryz.prog 64 := enters_of Tryz.func64 (by kernel_rfl) rfl
theorem enterAt : Enters Tryz.prog 65 := enters_of Tryz.func65 (by kernel_rfl) rfl
theorem enterRs : Enters Tryz.prog 66 := enters_of Tryz.func66 (by kernel_rfl) rfl
theorem Xp.cut_extract (s : ByteArray) (p k : Nat) : Xp.ba (Xp.cut s.data.toList p k) = s.extract p k := by
  apply Xp.ba_inj
  rw [Lib.extract_data]
  rfl
/-- The four parts of an element, as values, in a block of their own. -/
def parts4 (b : Nat) : Array Value := #[meth 63 (ptr b), meth 64 (ptr b), meth 65 (ptr b), meth 66 (ptr b)]
/-- An element, whatever it is ended by. -/
theorem parts_elem (m : Nat) (hE : ElemIn m) (w0 w : World) (b H gs : Nat) (s : ByteArray) (p n : Nat) (vo o0 o1 o2 o3 : Value) (L : List Quad) (Post : World → Tr → Nat → Nat → Prop) (hs : s.size ≤ 1000000) (hp : p ≤ s.size) (hL : L.length + 1 + m = 12) (hn : n ≤ 400) (hw : Ok w) (hoff : Off b) (hO : ∀ k, H ≤ k → Off k) (hH : H ≤ w.heap.size)
    (h : PIn w b s p 0 ⟨vo, n, o0, o1, o2, o3⟩) (ho : w.ownsRow H 50 4 vo L.length (flatE L)) (hgs : Lies w gs 105 (parts4 b)) (hgb : gs ≠ b) (hgv : vo.ownBlock ≠ some gs)
    (hsh : ∀ (w3 : World) (vo3 av : Value) (nm : ByteArray) (l : List (ByteArray × ByteArray)), Keep (SA b vo nilS) w w3 → Grew w vo vo3 → (∀ g, av.ownBlock = some g → w.heap.size ≤ g) → nm.size ≤ 1000000 → Shuts w3 m b H s nm p vo3 o0 o1 o2 o3 av L l Post) :
    Calls Tryz.prog 26 #[ptr b, .slice (some ⟨gs, 0, none⟩) 4 4] w (Told
      (fun w' => ∃ (T : Tr) (k n' : Nat), Xp.elem (m + 1) s.data.toList p n = .ok (T, k, n') ∧ Post w' T k n')
      (fun w' => ∃ q e : Nat, Xp.elem (m + 1) s.data.toList p n = .error (q, e) ∧ Keep (SA b vo nilS) w w' ∧ ∃ R', PIn w' b s q e R')) := by
  have hel := Xp.elem_rest m s.data.toList p n
  have hbl : b < w.heap.size := Lies.lt h
  have hgl : gs < w.heap.size := hgs.lt
  have hgrew : ∀ vo1 : Value, Grew w vo vo1 → vo1.ownBlock ≠ some gs := by
    intro vo1 hg e
    rcases hg with hg | ⟨g, hg, hl⟩
    · exact hgv (by rw [← hg]; exact e)
    · rw [hg] at e
      have := Option.some.inj e
      omega
  have hSoff : ∀ i, SA b vo nilS i → Off i := by
    intro i hi
    rcases hi with rfl | hi | hi
    · exact hoff
    · exact hO i (own_lt ho hi).2
    · cases hi
  refine inTurn4 (ptr b) (ptr b) gs 4 _ _ _ _ (parts4 b) 105 rfl (fun w' => w' = w)
    (fun w' => Xp.hasL s.data.toList p [60] = true ∧ n < 400 ∧ p + 1 ≤ s.size ∧ ∃ vo1, Grew w vo vo1 ∧ Keep (SA b vo nilS) w w' ∧ PIn w' b s (p + 1 : Nat) 0 ⟨vo1, (n + 1 : Nat), o0, o1, o2, o3⟩ ∧ w'.ownsRow H 50 4 vo1 (L.length + 1) (flatE (L ++ [(.string ⟨#[]⟩, nilS, nilS, .int .i64 p)])))
    (fun w' => Xp.hasL s.data.toList p [60] = true ∧ n < 400 ∧ ∃ (k : Nat) (vo1 : Value), Xp.qual s.data.toList (p + 1) = some k ∧ k ≤ s.size ∧ Grew w vo vo1 ∧ Keep (SA b vo nilS) w w' ∧ PIn w' b s k 0 ⟨vo1, (n + 1 : Nat), o0, o1, o2, o3⟩ ∧ w'.ownsRow H 50 4 vo1 (L.length + 1) (flatE (L ++ [(.string (s.extract (p + 1) k), nilS, nilS, .int .i64 p)])))
    (fun w' => Xp.hasL s.data.toList p [60] = true ∧ n < 400 ∧ ∃ (k j : Nat) (vo1 av : Value) (l : List (ByteArray × ByteArray)), Xp.qual s.data.toList (p + 1) = some k ∧ k ≤ s.size ∧ Xp.tagF 9 s.data.toList k [] = .ok (l, j) ∧ j ≤ s.size ∧ Grew w vo vo1 ∧ (∀ g, av.ownBlock = some g → w.heap.size ≤ g) ∧ Keep (SA b vo nilS) w w' ∧ PIn w' b s j 0 ⟨vo1, (n + 1 : Nat), o0, o1, o2, o3⟩ ∧ w'.ownsRow H 50 4 vo1 (L.length + 1) (flatE (L ++ [(.string (s.extract (p + 1) k), av, nilS, .int .i64 p)])) ∧ AOwn w' H av l)
    _ _ enterBg enterNm enterAt enterRs ?_ ?_ ?_ ?_ w hgs rfl
  · rintro w' hl rfl
    cases hv : Xp.hasL s.data.toList p [60] with
    | false =>
      refine (begin_no w' b H s p n vo o0 o1 o2 o3 L hs hp h hv).mono ?_
      rintro d w1 ⟨rfl, k1, p1⟩
      refine .inr ⟨rfl, p, 2, ?_, k1.wide (fun i _ e => .inl e), _, p1⟩
      rw [hel, if_neg (by rw [hv]; simp)]
    | true =>
      by_cases hn4 : n = 400
      · have hform : ∃ ad cap, vo = .slice ad L.length cap := by
          rcases ho.2 with ⟨rfl, h0⟩ | ⟨g, cap, cur, rfl, _⟩
          · exact ⟨none, 0, by rw [h0]⟩
          · exact ⟨_, _, rfl⟩
        obtain ⟨ad, cap, hvo⟩ := hform
        rw [hvo] at h
        refine (begin_full w' b H s p n ad L.length cap o0 o1 o2 o3 hs hp (by omega) hn (.inr hn4) h hv).mono ?_
        rintro d w1 ⟨rfl, k1, p1⟩
        refine .inr ⟨rfl, p, 4, ?_, k1.wide (fun i _ e => .inl e), _, p1⟩
        rw [hel, if_pos hv, if_pos (by omega)]
      · refine (begin_ok w' b H s p n vo o0 o1 o2 o3 L hs hp (by omega) (by omega) hH h ho hv).mono ?_
        rintro d w1 ⟨rfl, k1, vo1, p1, o1', g1⟩
        have k1' : Keep (SA b vo nilS) w' w1 := k1.wide (fun i _ e => by rcases e with e | e; exact .inl e; exact .inr (.inl e))
        refine .inl ⟨rfl, hl.keep k1' ?_, rfl, by omega, Xp.has_room hv (by decide), vo1, g1, k1', p1, o1'⟩
        rintro (e | e | e)
        · exact hgb e
        · exact hgv e
        · cases e
  · rintro w1 hl ⟨hv, hn4, hp1, vo1, g1, k1, p1, o1'⟩
    have hw1 : Ok w1 := hw.keep k1 hSoff
    refine (elementNameD w1 b H s (p + 1) ⟨vo1, (n + 1 : Nat), o0, o1, o2, o3⟩ L (.string ⟨#[]⟩) nilS nilS (.int .i64 p) hs hp1 (by omega) hw1 hoff p1 o1').mono ?_
    rintro d w2 (⟨rfl, k, e2, hk1, hk2, k2, p2, o2'⟩ | ⟨rfl, e2, k2, p2⟩)
    · have k2' : Keep (SA b vo nilS) w w2 := k1.on k2 (fun i hi e => SA_grew g1 (Grew.refl _ nilS) i hi (by rcases e with e | e; exact .inl e; exact .inr (.inl e)))
      refine .inl ⟨rfl, hl.keep k2 ?_, hv, hn4, k, vo1, e2, hk2, g1, k2', p2, o2'⟩
      rintro (e | e)
      · exact hgb e
      · exact hgrew vo1 g1 e
    · refine .inr ⟨rfl, p + 1, 2, ?_, k1.trans (k2.wide (fun i _ e => .inl e)), _, p2⟩
      rw [hel, if_pos hv, if_neg (by omega), e2]
  · rintro w1 hl ⟨hv, hn4, k, vo1, e1, hk, g1, k1, p1, o1'⟩
    have hw1 : Ok w1 := hw.keep k1 hSoff
    refine (attributesD w1 b H s k ⟨vo1, (n + 1 : Nat), o0, o1, o2, o3⟩ L (.string (s.extract (p + 1) k)) nilS nilS (.int .i64 p) hs hk (by omega) hw1 hoff (by have := k1.size; omega) p1 o1' ⟨World.ownsRow_nil _ _ _ _, by decide, fun p hp => by simp at hp⟩ hO).mono ?_
    rintro d w2 (⟨rfl, l, j, av, e2, hj1, hj2, k2, p2, o2', a2, ga⟩ | ⟨rfl, q, e, e2, k2, p2⟩)
    · refine .inl ⟨rfl, hl.keep k2 ?_, hv, hn4, k, j, vo1, av, l, e1, hk, e2, hj2, g1, ?_, k1.on k2 (SA_grew g1 (Grew.refl _ nilS)), p2, o2', a2⟩
      · rintro (e | e | e)
        · exact hgb e
        · exact hgrew vo1 g1 e
        · cases e
      · intro g hg
        rcases ga with ga | ⟨g', ga, hga⟩
        · rw [ga] at hg
          cases hg
        · rw [ga] at hg
          have := Option.some.inj hg
          have := k1.size
          omega
    · refine .inr ⟨rfl, q, e, ?_, k1.on k2 (SA_grew g1 (Grew.refl _ nilS)), _, p2⟩
      rw [hel, if_pos hv, if_neg (by omega), e1]
      dsimp only
      rw [e2]
  · rintro w1 hl ⟨hv, hn4, k, j, vo1, av, l, e1, hk, e2, hj, g1, hav, k1, p1, o1', a1⟩
    have hw1 : Ok w1 := hw.keep k1 hSoff
    have hnm : (s.extract (p + 1) k).size ≤ 1000000 := by rw [ByteArray.size_extract]; omega
    have hel2 : Xp.elem (m + 1) s.data.toList p n = Xp.rest m s.data.toList (s.extract (p + 1) k) l p j (n + 1) := by
      rw [hel, if_pos hv, if_neg (by omega), e1]
      dsimp only
      rw [e2]
      dsimp only
      rw [Xp.cut_extract]
    refine (restD m hE w1 b H s (s.extract (p + 1) k) p j (n + 1) vo1 o0 o1 o2 o3 av L l Post hs hj hL (by omega) hw1 hoff hO (by have := k1.size; omega) p1 o1' a1 (hsh w1 vo1 av _ l k1 g1 hav hnm)).mono ?_
    rintro d w2 (⟨rfl, T, k', n', e3, q3⟩ | ⟨rfl, q, e, e3, k3, R', p3⟩)
    · exact .inl ⟨rfl, T, k', n', by rw [hel2]; exact e3, q3⟩
    · exact .inr ⟨rfl, q, e, by rw [hel2]; exact e3, k1.on k3 (SA_grew g1 (Grew.refl _ nilS)), R', p3⟩
end Go.Proofs.YtjfonpbnohbpfaaGreatDoor
/-
  The program's element, within another one: by induction on how many storeys are left.
-/
set_option linter.unusedSimpArgs false
set_option linter.unusedVariables false
namespace Go.Proofs.YtjfonpbnohbpfaaGreatDoor
open Go.RowKit
theorem elementD_of (w : World) (b : Nat) (T F : World → Prop) (C : Calls Tryz.prog 26 #[ptr b, .slice (some ⟨w.heap.size, 0, none⟩) 4 4] (w.alloc (.cells (parts4 b) 105)) (Told T F)) :
    Calls Tryz.prog 28 #[ptr b] w (Told T F) := by
  have hmf : ∀ (fn : Fn) (first cap : Array Value) (w : World), (Instr.makeFunc fn first cap).run Tryz.prog w = .ok (.func fn first cap) w := fun _ _ _ _ => rfl
  have HC := hideT C
  clear C
  go_enter Tryz.func28, Tryz.ntmps28
  go_wp2_with fail
  refine HC.out.mono ?_
  rintro d w5 (⟨rfl, h5⟩ | ⟨rfl, h5⟩)
  · have H5 := hideT h5
    clear h5
    go_wp2_with fail
    go_ret
    exact .inl ⟨rfl, H5.out⟩
  · have H5 := hideT h5
    clear h5
    go_wp2_with fail
    go_ret
    exact .inr ⟨rfl, H5.out⟩
theorem own_form {w : World} {H : Nat} {e : TypeId} {z : Nat} {v : Value} {n : Nat} {xs : List Value} (h : w.ownsRow H e z v n xs) : ∃ a cap, v = .slice a n cap := by
  rcases h.2 with ⟨rfl, h0⟩ | ⟨g, cap, cur, rfl, _⟩
  · exact ⟨none, 0, by rw [h0]⟩
  · exact ⟨_, _, rfl⟩
theorem Grew.old {w : World} {v v' : Value} (h : Grew w v v') {g : Nat} (hg : g < w.heap.size) (hv : v.ownBlock ≠ some g) : v'.ownBlock ≠ some g := by
  rcases h with h | ⟨g', h, hl⟩
  · rw [h]; exact hv
  · rw [h]; intro e; have := Option.some.inj e; omega
theorem elemIn_zero : ElemIn 0 := by
  intro w b H s p n vo kv o0 o1 o2 o3 x y u M qs hs hp hM hn hq hw hoff hO hH h ho hk hvk
  have hbl : b < w.heap.size := Lies.lt h
  obtain ⟨ad, cap, hvo⟩ := own_form ho
  rw [show M.length + 1 = 12 by omega] at hvo
  subst hvo
  refine elementD_of w b _ _ ?_
  have bW : Below w.heap.size w (w.alloc (.cells (parts4 b) 105)) := (Below.refl _ w).alloc (Nat.le_refl _) _
  have lW := Lies.new w 105 (parts4 b)
  obtain ⟨W, hW⟩ : ∃ W, w.alloc (.cells (parts4 b) 105) = W := ⟨_, rfl⟩
  rw [hW] at bW lW ⊢
  have pW := h.below bW
  refine inTurn4 (ptr b) (ptr b) w.heap.size 4 _ _ _ _ (parts4 b) 105 rfl (fun w' => w' = W) (fun _ => False) (fun _ => False) (fun _ => False) _ _ enterBg enterNm enterAt enterRs ?_ (fun _ _ h => h.elim) (fun _ _ h => h.elim) (fun _ _ h => h.elim) W lW rfl
  rintro w' hl rfl
  cases hv : Xp.hasL s.data.toList p [60] with
  | false =>
    refine (begin_no w' b H s p n _ o0 o1 o2 o3 [] hs hp pW hv).mono ?_
    rintro d w1 ⟨rfl, k1, p1⟩
    refine .inr ⟨rfl, p, 2, ?_, (Keep.of_below bW).trans (k1.wide (fun i _ e => .inl e)), _, p1⟩
    unfold Xp.elem
    rw [if_neg (by rw [hv]; simp)]
  | true =>
    refine (begin_full w' b H s p n ad 12 cap o0 o1 o2 o3 hs hp (by omega) hn (.inl rfl) pW hv).mono ?_
    rintro d w1 ⟨rfl, k1, p1⟩
    refine .inr ⟨rfl, p, 4, ?_, (Keep.of_below bW).trans (k1.wide (fun i _ e => .inl e)), _, p1⟩
    unfold Xp.elem
    rw [if_pos hv]
theorem elemIn_succ (m : Nat) (hE : ElemIn m) : ElemIn (m + 1) := by
  intro w b H s p n vo kv o0 o1 o2 o3 x y u M qs hs hp hM hn hq hw hoff hO hH h ho hk hvk
  have hbl : b < w.heap.size := Lies.lt h
  have hkb : kv.ownBlock ≠ some b := own_ne hk h (by decide)
  have hvb : vo.ownBlock ≠ some b := own_ne ho h (by decide)
  refine elementD_of w b _ _ ?_
  have bW : Below w.heap.size w (w.alloc (.cells (parts4 b) 105)) := (Below.refl _ w).alloc (Nat.le_refl _) _
  have lW := Lies.new w 105 (parts4 b)
  obtain ⟨W, hW⟩ : ∃ W, w.alloc (.cells (parts4 b) 105) = W := ⟨_, rfl⟩
  rw [hW] at bW lW ⊢
  clear hW
  have hzW := bW.size
  have pW := h.below bW
  have oW := own_keep (w' := W) ho (fun g hg => bW.block g (own_lt ho hg).1)
  have kW := own_keep (w' := W) hk (fun g hg => bW.block g (own_lt hk hg).1)
  have hLl : (M ++ [(x, y, kv, u)]).length = M.length + 1 := by rw [List.length_append]; rfl
  have hkW : Keep (SA b vo kv) w W := Keep.of_below bW
  refine (parts_elem m hE w W b H w.heap.size s p n vo o0 o1 o2 o3 (M ++ [(x, y, kv, u)])
    (fun w'' T k n' => ∃ (vo' kv' c0 c1 c2 c3 : Value), Keep (SA b vo kv) w w'' ∧ PIn w'' b s k 0 ⟨vo', n', o0, o1, o2, o3⟩ ∧ w''.ownsRow H 50 4 vo' (M.length + 1) (flatE (M ++ [(x, y, kv', u)])) ∧
      w''.ownsRow H 50 4 kv' (qs.length + 1) (flatE (qs ++ [(c0, c1, c2, c3)])) ∧ Grew w vo vo' ∧ Grew w kv kv' ∧ (∀ g, vo'.ownBlock = some g → kv'.ownBlock ≠ some g) ∧ EInR w'' (Quiet w.heap.size w'' vo' kv') (m + 1) c0 c1 c2 c3 T)
    hs hp (by rw [hLl]; omega) hn (hw.below bW) hoff hO (by omega) pW (by rw [hLl]; exact oW) lW (by omega) (fun e => by have := (own_lt ho e).1; omega) ?_).mono ?_
  · intro w3 vo3 av nm l k3 g3 hav hnm w' k n' ks vo' kv' k' p' o' a' r' gv' gk' ap' hks hn' hkn
    obtain ⟨iqs, io, iq, ie⟩ := r'
    have z3 := k3.size
    have z' := k'.size
    have gwv : Grew w vo vo' := (Grew.refl w vo).trans hzW (g3.trans z3 gv')
    -- the parent's row stands as it was
    have hk3v : ∀ g, kv.ownBlock = some g → vo3.ownBlock ≠ some g := fun g hg => g3.old (by have := (own_lt hk hg).1; omega) (fun e => hvk g e hg)
    have hkv' : ∀ g, kv.ownBlock = some g → vo'.ownBlock ≠ some g := fun g hg => gwv.old (own_lt hk hg).1 (fun e => hvk g e hg)
    have kk3 : w3.ownsRow H 50 4 kv qs.length (flatE qs) := own_keep kW (fun g hg => k3.block g (own_lt kW hg).1 (by
      rintro (e | e | e)
      · exact hkb (by rw [hg, e])
      · exact hvk g e hg
      · cases e))
    have kk' : w'.ownsRow H 50 4 kv qs.length (flatE qs) := own_keep kk3 (fun g hg => k'.block g (own_lt kk3 hg).1 (by
      rintro (e | e | e)
      · exact hkb (by rw [hg, e])
      · exact hk3v g hg e
      · cases e))
    obtain ⟨a1, c1, hav1⟩ := own_form a'.1
    obtain ⟨a2, c2, hkv2⟩ := own_form io
    have o'' := o'
    rw [hav1, hkv2, hLl] at o''
    refine (shut_in w' b H s nm k vo' kv n' p o0 o1 o2 o3 x y u a1 a2 _ c1 _ c2 M qs (by omega) (by omega) (by omega) p' o'' kk' (fun g hg e => hkv' g e hg)).mono ?_
    rintro d w'' ⟨rfl, k4, vo'', kv'', p4, hvo4, o4, q4, g4⟩
    refine ⟨rfl, vo'', kv'', .string nm, av, kv', .int .i64 p, ?_, p4, o4, by rw [hav1, hkv2]; exact q4, ?_, ?_, ?_, ?_⟩
    · have e1 : Keep (SA b vo kv) w w3 := hkW.on k3 (fun i hi e => by rcases e with e | e | e; exact .inl e; exact .inr (.inl e); cases e)
      have e2 : Keep (SA b vo kv) w w' := e1.on k' (fun i hi e => by
        rcases SA_grew ((Grew.refl w vo).trans hzW g3) (Grew.refl w nilS) i hi e with e | e | e
        · exact .inl e
        · exact .inr (.inl e)
        · cases e)
      refine e2.on k4 (fun i hi e => ?_)
      rcases e with e | e | e
      · exact .inl e
      · rcases SA_grew gwv (Grew.refl w nilS) i hi (.inr (.inl e)) with e | e | e
        · exact .inl e
        · exact .inr (.inl e)
        · cases e
      · exact .inr (.inr e)
    · rcases gwv with e | ⟨g, e, hg⟩
      · exact .inl (hvo4.trans e)
      · exact .inr ⟨g, hvo4.trans e, hg⟩
    · exact (Grew.refl w kv).trans (by omega) g4
    · intro g hg
      rw [hvo4] at hg
      exact g4.old (own_lt o' hg).1 (fun e => hkv' g e hg)
    · -- the tree
      have z4 := k4.size
      have avn : ∀ g, av.ownBlock = some g → ¬ (g = b ∨ vo'.ownBlock = some g ∨ kv.ownBlock = some g) := by
        intro g hg e
        rcases e with e | e | e
        · have := hav g hg; omega
        · exact own_ne2 o' a'.1 (by decide) g e hg
        · exact own_ne2 kk' a'.1 (by decide) g e hg
      have a4 : AOwn w'' H av l := a'.keep (fun g hg => k4.block g (own_lt a'.1 hg).1 (avn g hg))
      have kvf : ∀ g, kv'.ownBlock = some g → w3.heap.size ≤ g := by
        intro g hg
        rcases gk' with e | ⟨g', e, hg'⟩
        · rw [e] at hg; cases hg
        · rw [e] at hg; have := Option.some.inj hg; omega
      have kvn : ∀ g, kv'.ownBlock = some g → ¬ (g = b ∨ vo'.ownBlock = some g ∨ kv.ownBlock = some g) := by
        intro g hg e
        have h1 := kvf g hg
        rcases e with e | e | e
        · omega
        · exact ap' g e hg
        · have := (own_lt hk e).1; omega
      have hQ : ∀ i, Quiet w3.heap.size w' vo' kv' i → Quiet w.heap.size w'' vo'' kv'' i := by
        rintro i ⟨h1, h2, h3, h4⟩
        refine ⟨by omega, by omega, by rw [hvo4]; exact h3, g4.old h2 (fun e => ?_)⟩
        have := (own_lt hk e).1
        omega
      have hQh : ∀ i, Quiet w3.heap.size w' vo' kv' i → w''.heap[i]? = w'.heap[i]? := by
        rintro i ⟨h1, h2, h3, h4⟩
        refine k4.block i h2 ?_
        rintro (e | e | e)
        · omega
        · exact h3 e
        · have := (own_lt hk e).1; omega
      have r4 : KRow w'' H (Quiet w.heap.size w'' vo'' kv'') m kv' ks := KRow.turn ⟨iqs, io, iq, ie⟩ (fun g hg => k4.block g (own_lt io hg).1 (kvn g hg)) hQh hQ
      refine tree_of hnm a4 r4 ?_ ?_ (by omega)
      · intro g hg
        refine ⟨by have := hav g hg; omega, (own_lt a4.1 hg).1, ?_, ?_⟩
        · intro e; exact own_ne2 o4 a4.1 (by decide) g e hg
        · intro e; exact own_ne2 q4 a4.1 (by decide) g e hg
      · intro g hg
        have h1 := kvf g hg
        have h2 := (own_lt io hg).1
        refine ⟨by omega, by omega, by rw [hvo4]; exact fun e => ap' g e hg, g4.old h2 (fun e => ?_)⟩
        have := (own_lt hk e).1
        omega
  · rintro d w' (⟨rfl, T, k, n', e, vo', kv', c0, c1, c2, c3, h1, h2, h3, h4, h5, h6, h7, h8⟩ | ⟨rfl, q, e, e1, k1, R', p1⟩)
    · exact .inl ⟨rfl, T, k, n', vo', kv', c0, c1, c2, c3, e, h1, h2, h3, h4, h5, h6, h7, h8⟩
    · exact .inr ⟨rfl, q, e, e1, hkW.on k1 (fun i hi e => by rcases e with e | e | e; exact .inl e; exact .inr (.inl e); cases e), R', p1⟩
theorem elemIn_all : ∀ m, ElemIn m
  | 0 => elemIn_zero
  | m + 1 => elemIn_succ m (elemIn_all m)
end Go.Proofs.YtjfonpbnohbpfaaGreatDoor
/-
  The program's Parse.
-/
set_option linter.unusedSimpArgs false
set_option linter.unusedVariables false
namespace Go.Proofs.YtjfonpbnohbpfaaGreatDoor
open Go.RowKit
/-- The outermost element. -/
theorem elementTop (w : World) (b H : Nat) (s : ByteArray) (p : Nat) (hs : s.size ≤ 1000000) (hp : p ≤ s.size) (hw : Ok w) (hoff : Off b) (hO : ∀ k, H ≤ k → Off k) (hH : H ≤ w.heap.size) (o0 o1 o2 o3 : Value)
    (h : PIn w b s p 0 ⟨nilS, 0, o0, o1, o2, o3⟩) :
    Calls Tryz.prog 28 #[ptr b] w (Told
      (fun w' => ∃ (T : Tr) (k n' : Nat) (vo' c0 c1 c2 c3 : Value), Xp.elem 12 s.data.toList p 0 = .ok (T, k, n') ∧ Keep (· = b) w w' ∧ PIn w' b s k 0 ⟨vo', n', c0, c1, c2, c3⟩ ∧ EInR w' (fun i => w.heap.size ≤ i ∧ i < w'.heap.size) 12 c0 c1 c2 c3 T)
      (fun w' => ∃ q e : Nat, Xp.elem 12 s.data.toList p 0 = .error (q, e) ∧ Keep (· = b) w w' ∧ ∃ R', PIn w' b s q e R')) := by
  have hbl : b < w.heap.size := Lies.lt h
  refine elementD_of w b _ _ ?_
  have bW : Below w.heap.size w (w.alloc (.cells (parts4 b) 105)) := (Below.refl _ w).alloc (Nat.le_refl _) _
  have lW := Lies.new w 105 (parts4 b)
  obtain ⟨W, hW⟩ : ∃ W, w.alloc (.cells (parts4 b) 105) = W := ⟨_, rfl⟩
  rw [hW] at bW lW ⊢
  clear hW
  have hzW := bW.size
  have pW := h.below bW
  have hS : ∀ i, SA b nilS nilS i → i = b := by
    rintro i (e | e | e)
    · exact e
    · cases e
    · cases e
  refine (parts_elem 11 (elemIn_all 11) w W b H w.heap.size s p 0 nilS o0 o1 o2 o3 []
    (fun w'' T k n' => ∃ (vo' c0 c1 c2 c3 : Value), Keep (· = b) w w'' ∧ PIn w'' b s k 0 ⟨vo', n', c0, c1, c2, c3⟩ ∧ EInR w'' (fun i => w.heap.size ≤ i ∧ i < w''.heap.size) 12 c0 c1 c2 c3 T)
    hs hp rfl (by decide) (hw.below bW) hoff hO (by omega) pW (World.ownsRow_nil _ _ _ _) lW (by omega) (fun e => by cases e) ?_).mono ?_
  · intro w3 vo3 av nm l k3 g3 hav hnm w' k n' ks vo' kv' k' p' o' a' r' gv' gk' ap' hks hn' hkn
    obtain ⟨iqs, io, iq, ie⟩ := r'
    have z3 := k3.size
    have z' := k'.size
    obtain ⟨a1, c1, hav1⟩ := own_form a'.1
    obtain ⟨a2, c2, hkv2⟩ := own_form io
    have o'' : w'.ownsRow H 50 4 vo' 1 (flatE [(.string nm, av, kv', .int .i64 p)]) := o'
    rw [hav1, hkv2] at o''
    refine (shut_last w' b H s nm k vo' n' p o0 o1 o2 o3 a1 a2 _ c1 _ c2 p' o'').mono ?_
    rintro d w'' ⟨rfl, k4, vo'', p4, _, _⟩
    have z4 := k4.size
    refine ⟨rfl, vo'', .string nm, av, kv', .int .i64 p, ?_, by rw [hav1, hkv2]; exact p4, ?_⟩
    · have e1 : Keep (· = b) w w3 := (Keep.of_below bW).on k3 (fun i hi e => hS i e)
      have e2 : Keep (· = b) w w' := e1.on k' (fun i hi e => hS i (SA_grew ((Grew.refl w nilS).trans hzW g3) (Grew.refl w nilS) i hi e))
      exact e2.trans k4
    · have kvf : ∀ g, kv'.ownBlock = some g → w3.heap.size ≤ g := by
        intro g hg
        rcases gk' with e | ⟨g', e, hg'⟩
        · rw [e] at hg; cases hg
        · rw [e] at hg; have := Option.some.inj hg; omega
      have a4 : AOwn w'' H av l := a'.keep (fun g hg => k4.block g (own_lt a'.1 hg).1 (fun e => by have := hav g hg; omega))
      have r4 : KRow w'' H (fun i => w.heap.size ≤ i ∧ i < w''.heap.size) 11 kv' ks := KRow.turn ⟨iqs, io, iq, ie⟩ (fun g hg => k4.block g (own_lt io hg).1 (fun e => by have := kvf g hg; omega)) (fun i hi => k4.block i hi.2.1 (fun e => by have := hi.1; omega)) (fun i hi => ⟨by have := hi.1; omega, by have := hi.2.1; omega⟩)
      refine tree_of hnm a4 r4 ?_ ?_ (by omega)
      · intro g hg
        exact ⟨by have := hav g hg; omega, (own_lt a4.1 hg).1⟩
      · intro g hg
        have h1 := kvf g hg
        have h2 := (own_lt io hg).1
        exact ⟨by omega, by omega⟩
  · rintro d w' (⟨rfl, T, k, n', e, vo', c0, c1, c2, c3, h1, h2, h3⟩ | ⟨rfl, q, e, e1, k1, R', p1⟩)
    · exact .inl ⟨rfl, T, k, n', vo', c0, c1, c2, c3, e, h1, h2, h3⟩
    · exact .inr ⟨rfl, q, e, e1, (Keep.of_below bW).on k1 (fun i hi e => hS i e), R', p1⟩
theorem enterAr : Enters Tryz.prog 27 := enters_of Tryz.func27 (by kernel_rfl) rfl
theorem enterEn : Enters Tryz.prog 29 := enters_of Tryz.func29 (by kernel_rfl) rfl
def partsP (b : Nat) : Array Value := #[meth 27 (ptr b), meth 28 (ptr b), meth 27 (ptr b), meth 29 (ptr b)]
/-- The four parts of a text. -/
theorem parts_text (w : World) (b H gs : Nat) (s : ByteArray) (hs : s.size ≤ 8000) (hw : Ok w) (hoff : Off b) (hO : ∀ k, H ≤ k → Off k) (hH : H ≤ w.heap.size) (o0 o1 o2 o3 : Value)
    (h : PIn w b s 0 0 ⟨nilS, 0, o0, o1, o2, o3⟩) (hgs : Lies w gs 105 (partsP b)) (hgb : gs ≠ b) :
    Calls Tryz.prog 26 #[ptr b, .slice (some ⟨gs, 0, none⟩) 4 4] w (Told
      (fun w' => ∃ (T : Tr) (vo' c0 c1 c2 c3 : Value) (n' : Nat), Xp.parse s.data.toList = .ok T ∧ Keep (· = b) w w' ∧ PIn w' b s s.size 0 ⟨vo', n', c0, c1, c2, c3⟩ ∧ EInR w' (fun i => w.heap.size ≤ i ∧ i < w'.heap.size) 12 c0 c1 c2 c3 T)
      (fun w' => ∃ q e : Nat, Xp.parse s.data.toList = .error (q, e) ∧ Keep (· = b) w w' ∧ ∃ R', PIn w' b s q e R')) := by
  have hL' : s.data.toList.length = s.size := Array.length_toList
  have hbl : b < w.heap.size := Lies.lt h
  have hpar : Xp.parse s.data.toList = (match Xp.misc s.data.toList 0 with
    | .error q => .error (q, 2)
    | .ok p => match Xp.elem 12 s.data.toList p 0 with
      | .error e => .error e
      | .ok (T, k, n) => match Xp.misc s.data.toList k with
        | .error q => .error (q, 2)
        | .ok j => if j < s.data.toList.length then .error (j, 2) else .ok T) := by
    unfold Xp.parse
    rw [if_neg (by rw [hL']; omega)]
    try rfl
  have hoks : ∀ w' : World, Keep (· = b) w w' → Ok w' := fun w' k => hw.keep k (fun i hi => by rw [hi]; exact hoff)
  refine inTurn4 (ptr b) (ptr b) gs 4 _ _ _ _ (partsP b) 105 rfl (fun w' => w' = w)
    (fun w' => ∃ p : Nat, Xp.misc s.data.toList 0 = .ok p ∧ p ≤ s.size ∧ Keep (· = b) w w' ∧ PIn w' b s p 0 ⟨nilS, 0, o0, o1, o2, o3⟩)
    (fun w' => ∃ (p k n' : Nat) (T : Tr) (vo' c0 c1 c2 c3 : Value), Xp.misc s.data.toList 0 = .ok p ∧ Xp.elem 12 s.data.toList p 0 = .ok (T, k, n') ∧ k ≤ s.size ∧ Keep (· = b) w w' ∧ PIn w' b s k 0 ⟨vo', n', c0, c1, c2, c3⟩ ∧ EInR w' (fun i => w.heap.size ≤ i ∧ i < w'.heap.size) 12 c0 c1 c2 c3 T)
    (fun w' => ∃ (p k n' j : Nat) (T : Tr) (vo' c0 c1 c2 c3 : Value), Xp.misc s.data.toList 0 = .ok p ∧ Xp.elem 12 s.data.toList p 0 = .ok (T, k, n') ∧ Xp.misc s.data.toList k = .ok j ∧ j ≤ s.size ∧ Keep (· = b) w w' ∧ PIn w' b s j 0 ⟨vo', n', c0, c1, c2, c3⟩ ∧ EInR w' (fun i => w.heap.size ≤ i ∧ i < w'.heap.size) 12 c0 c1 c2 c3 T)
    _ _ enterAr enterE enterAr enterEn ?_ ?_ ?_ ?_ w hgs rfl
  · rintro w' hl rfl
    refine (aroundD w' b s 0 _ (by omega) (Nat.zero_le _) hw hoff h).mono ?_
    rintro d w1 (⟨rfl, k1, p, _, hp, p1, e1⟩ | ⟨rfl, k1, q, p1, e1⟩)
    · exact .inl ⟨rfl, hl.keep k1 hgb, p, e1, hp, k1, p1⟩
    · refine .inr ⟨rfl, q, 2, ?_, k1, _, p1⟩
      rw [hpar, e1]
  · rintro w1 hl ⟨p, e1, hp, k1, p1⟩
    refine (elementTop w1 b H s p (by omega) hp (hoks w1 k1) hoff hO (by have := k1.size; omega) o0 o1 o2 o3 p1).mono ?_
    rintro d w2 (⟨rfl, T, k, n', vo', c0, c1, c2, c3, e2, k2, p2, t2⟩ | ⟨rfl, q, e, e2, k2, R', p2⟩)
    · have hg := Xp.elem_goes s.data.toList 12 p 0 T k n' (by rw [hL']; exact hp) e2
      refine .inl ⟨rfl, hl.keep k2 hgb, p, k, n', T, vo', c0, c1, c2, c3, e1, e2, by rw [hL'] at hg; exact hg.2.1, k1.trans k2, p2, EInR.turn (fun _ _ => rfl) (fun i hi => ⟨by have := hi.1; have := k1.size; omega, hi.2⟩) t2⟩
    · refine .inr ⟨rfl, q, e, ?_, k1.trans k2, R', p2⟩
      rw [hpar, e1]
      dsimp only
      rw [e2]
  · rintro w1 hl ⟨p, k, n', T, vo', c0, c1, c2, c3, e1, e2, hk, k1, p1, t1⟩
    refine (aroundD w1 b s k _ (by omega) hk (hoks w1 k1) hoff p1).mono ?_
    rintro d w2 (⟨rfl, k2, j, _, hj, p2, e3⟩ | ⟨rfl, k2, q, p2, e3⟩)
    · exact .inl ⟨rfl, hl.keep k2 hgb, p, k, n', j, T, vo', c0, c1, c2, c3, e1, e2, e3, hj, k1.trans k2, p2, EInR.turn (fun i hi => k2.block i hi.2 (fun e => by have := hi.1; omega)) (fun i hi => ⟨hi.1, by have := hi.2; have := k2.size; omega⟩) t1⟩
    · refine .inr ⟨rfl, q, 2, ?_, k1.trans k2, _, p2⟩
      rw [hpar, e1]
      dsimp only
      rw [e2]
      dsimp only
      rw [e3]
  · rintro w1 hl ⟨p, k, n', j, T, vo', c0, c1, c2, c3, e1, e2, e3, hj, k1, p1, t1⟩
    refine (endD w1 b s j 0 _ (by omega) hj p1).mono ?_
    rintro d w2 ⟨rfl, p2, k2⟩
    by_cases hjs : j = s.size
    · subst hjs
      refine .inl ⟨by simp, T, vo', c0, c1, c2, c3, n', ?_, k1.trans k2, by simpa using p2, EInR.turn (fun i hi => k2.block i hi.2 (fun e => by have := hi.1; omega)) (fun i hi => ⟨hi.1, by have := hi.2; have := k2.size; omega⟩) t1⟩
      rw [hpar, e1]
      dsimp only
      rw [e2]
      dsimp only
      rw [e3]
      dsimp only
      rw [if_neg (by omega)]
    · refine .inr ⟨by simp [hjs], j, 2, ?_, k1.trans k2, _, by simpa [hjs] using p2⟩
      rw [hpar, e1]
      dsimp only
      rw [e2]
      dsimp only
      rw [e3]
      dsimp only
      rw [if_pos (by omega)]
theorem Ok.off {w : World} (h : Ok w) : ∀ k, w.heap.size ≤ k → Off k := by
  obtain ⟨⟨h1, h2⟩, m, h3⟩ := h
  have a1 := cell_lt (h1 0 (by decide))
  have a2 := cell_lt (h2 0 (by decide)).1
  have a3 := cell_lt h3
  intro k hk
  exact ⟨fun e => by rw [e] at hk; exact absurd a1 (Nat.not_lt.2 hk), fun e => by rw [e] at hk; exact absurd a2 (Nat.not_lt.2 hk), fun e => by rw [e] at hk; exact absurd a3 (Nat.not_lt.2 hk)⟩
/-- What Parse answers, as the document reads the text. -/
def ParseTold (s : ByteArray) (e : Ending) (w' : World) : Prop :=
  (∀ q er : Nat, Xp.parse s.data.toList = .error (q, er) → e = .returned (.tuple #[.agg #[.string ⟨#[]⟩, nilS, nilS, .int .i64 0], .int .i64 q, .int .i64 er])) ∧
  (∀ T : Tr, Xp.parse s.data.toList = .ok T → ∃ c0 c1 c2 c3, e = .returned (.tuple #[.agg #[c0, c1, c2, c3], .int .i64 s.size, .int .i64 0]) ∧ EIn w' 12 c0 c1 c2 c3 T)
abbrev zeroE : Array Value := #[.string ⟨#[]⟩, nilS, nilS, .int .i64 0]
/-- The world in which the parser begins. -/
theorem parse_start (w : World) (s : ByteArray) : ∃ W, ((w.alloc (.cells #[.string ⟨#[]⟩, .slice none 0 0, .slice none 0 0, .int .i64 0] 50)).alloc (.cells #[.string s, .int .i64 0, .int .i64 0, .slice none 0 0, .int .i64 0, .string ⟨#[]⟩, .slice none 0 0, .slice none 0 0, .int .i64 0] 73)).alloc (.cells (partsP (w.heap.size + 1)) 105) = W ∧
    Below w.heap.size w W ∧ W.heap.size = w.heap.size + 3 ∧ Lies W w.heap.size 50 zeroE ∧ PIn W (w.heap.size + 1) s 0 0 ⟨nilS, 0, .string ⟨#[]⟩, nilS, nilS, .int .i64 0⟩ ∧ Lies W (w.heap.size + 1 + 1) 105 (partsP (w.heap.size + 1)) := by
  have b1 : Below w.heap.size w (w.alloc (.cells zeroE 50)) := (Below.refl _ w).alloc (Nat.le_refl _) _
  have l1 := Lies.new w 50 zeroE
  have z1 : (w.alloc (.cells zeroE 50)).heap.size = w.heap.size + 1 := by simp
  obtain ⟨w1, h1⟩ : ∃ w1, w.alloc (.cells zeroE 50) = w1 := ⟨_, rfl⟩
  rw [h1] at b1 l1 z1
  have b2 : Below w1.heap.size w1 (w1.alloc (.cells #[.string s, .int .i64 0, .int .i64 0, .slice none 0 0, .int .i64 0, .string ⟨#[]⟩, .slice none 0 0, .slice none 0 0, .int .i64 0] 73)) := (Below.refl _ w1).alloc (Nat.le_refl _) _
  have l2 := Lies.new w1 73 #[.string s, .int .i64 0, .int .i64 0, .slice none 0 0, .int .i64 0, .string ⟨#[]⟩, .slice none 0 0, .slice none 0 0, .int .i64 0]
  have z2 : (w1.alloc (.cells #[.string s, .int .i64 0, .int .i64 0, .slice none 0 0, .int .i64 0, .string ⟨#[]⟩, .slice none 0 0, .slice none 0 0, .int .i64 0] 73)).heap.size = w1.heap.size + 1 := by simp
  obtain ⟨w2, h2⟩ : ∃ w2, w1.alloc (.cells #[.string s, .int .i64 0, .int .i64 0, .slice none 0 0, .int .i64 0, .string ⟨#[]⟩, .slice none 0 0, .slice none 0 0, .int .i64 0] 73) = w2 := ⟨_, rfl⟩
  rw [h2] at b2 l2 z2
  have b3 : Below w2.heap.size w2 (w2.alloc (.cells (partsP (w.heap.size + 1)) 105)) := (Below.refl _ w2).alloc (Nat.le_refl _) _
  have l3 := Lies.new w2 105 (partsP (w.heap.size + 1))
  have z3 : (w2.alloc (.cells (partsP (w.heap.size + 1)) 105)).heap.size = w2.heap.size + 1 := by simp
  have hh : w1 = w.alloc (.cells #[.string ⟨#[]⟩, .slice none 0 0, .slice none 0 0, .int .i64 0] 50) := h1.symm
  rw [← hh, h2]
  refine ⟨_, rfl, ?_, by omega, ?_, ?_, ?_⟩
  · exact b1.trans ((b2.trans (b3.mono (by omega))).mono (by omega))
  · exact (l1.below b2).below b3
  · rw [z1] at l2
    exact l2.below b3
  · rw [z2, z1] at l3
    exact l3
set_option maxHeartbeats 2000000 in
theorem parseD (s : ByteArray) (w : World) (hs : s.size ≤ 1000000) (hw : Ok w) :
    Calls Tryz.prog 11 #[.string s] w fun e w' => ParseTold s e w' ∧ Below w.heap.size w w' := by
  have HWW := hideT hw
  have HL := hideT (show s.data.toList.length = s.size from Array.length_toList)
  clear hw
  by_cases hl : 8000 < s.size
  · have HE : Hid (Xp.parse s.data.toList = .error (0, 3)) := by
      show _ = _
      unfold Xp.parse
      rw [if_pos (by rw [HL.out]; exact hl)]
    go_enter Tryz.func11, Tryz.ntmps11
    go_wp2_with fail
    refine bodyPost_ret (v := .tuple #[.agg #[.string ⟨#[]⟩, .slice none 0 0, .slice none 0 0, .int .i64 0], .int .i64 0, .int .i64 3]) (by simp [results, Tryz.results11, go_sem]) rfl ⟨⟨fun q er h => ?_, fun T h => ?_⟩, (Below.refl _ w).alloc (Nat.le_refl _) _⟩
    · have := HE.out.symm.trans h
      simp only [Except.error.injEq, Prod.mk.injEq] at this
      obtain ⟨rfl, rfl⟩ := this
      rfl
    · have := HE.out.symm.trans h
      cases this
  · have hmf : ∀ (fn : Fn) (first cap : Array Value) (w : World), (Instr.makeFunc fn first cap).run Tryz.prog w = .ok (.func fn first cap) w := fun _ _ _ _ => rfl
    obtain ⟨W, hW, bW, zW, lr, lp, lg⟩ := parse_start w s
    have HOf := hideT HWW.out.off
    have C := hideT (parts_text W (w.heap.size + 1) w.heap.size (w.heap.size + 1 + 1) s (by omega) (HWW.out.below bW) (HOf.out _ (by omega)) HOf.out (by omega) _ _ _ _ lp lg (by omega))
    have HWq := hideT hW
    have LR := hideT lr
    have BW := hideT bW
    clear hW bW lr lp lg
    go_enter Tryz.func11, Tryz.ntmps11
    go_wp2_with fail
    rw [show (((w.alloc (.cells #[.string ⟨#[]⟩, .slice none 0 0, .slice none 0 0, .int .i64 0] 50)).alloc (.cells #[.string s, .int .i64 0, .int .i64 0, .slice none 0 0, .int .i64 0, .string ⟨#[]⟩, .slice none 0 0, .slice none 0 0, .int .i64 0] 73)).alloc (.cells #[.func (.func 27) #[.pointer (some ⟨w.heap.size + 1, 0, none⟩)] #[], .func (.func 28) #[.pointer (some ⟨w.heap.size + 1, 0, none⟩)] #[], .func (.func 27) #[.pointer (some ⟨w.heap.size + 1, 0, none⟩)] #[], .func (.func 29) #[.pointer (some ⟨w.heap.size + 1, 0, none⟩)] #[]] 105)) = W from HWq.out]
    refine C.out.mono ?_
    rintro d w5 (⟨rfl, T, vo', c0, c1, c2, c3, n', hT, k5, p5, t5⟩ | ⟨rfl, q, e, hE, k5, R', p5⟩)
    · have T5 := hideT t5
      obtain ⟨nm, pp, al, ks, rfl, rfl, hTT, hnm, ⟨ab, ao, ⟨aao, acap, rfl, _⟩, _⟩, kb, ko, ⟨kao, kcap, rfl, _⟩, _⟩ := t5
      have HT := hideT hT
      have K5 := hideT k5
      have P5 := hideT p5
      have L5 := hideT (LR.out.keep k5 (by omega))
      have B5 : Hid (Below w.heap.size w w5) := k5.below BW.out (fun i hi e => by omega)
      have x5 : w5.cell? ⟨w.heap.size + 1, 5, none⟩ = some (.string nm) := p5.cell 5
      have x6 : w5.cell? ⟨w.heap.size + 1, 6, none⟩ = some (.slice aao al.length acap) := p5.cell 6
      have x7 : w5.cell? ⟨w.heap.size + 1, 7, none⟩ = some (.slice kao ks.length kcap) := p5.cell 7
      have x8 : w5.cell? ⟨w.heap.size + 1, 8, none⟩ = some (.int .i64 pp) := p5.cell 8
      have r0 : w5.cell? ⟨w.heap.size, 0, none⟩ = some (.string ⟨#[]⟩) := L5.out.cell 0
      have r1 : w5.cell? ⟨w.heap.size, 1, none⟩ = some nilS := L5.out.cell 1
      have r2 : w5.cell? ⟨w.heap.size, 2, none⟩ = some nilS := L5.out.cell 2
      have r3 : w5.cell? ⟨w.heap.size, 3, none⟩ = some (.int .i64 0) := L5.out.cell 3
      have f0 : w5.frozen? ⟨w.heap.size, 0, none⟩ = false := L5.out.free 0
      have f1 : w5.frozen? ⟨w.heap.size, 1, none⟩ = false := L5.out.free 1
      have f2 : w5.frozen? ⟨w.heap.size, 2, none⟩ = false := L5.out.free 2
      have f3 : w5.frozen? ⟨w.heap.size, 3, none⟩ = false := L5.out.free 3
      clear hT k5 p5 hTT hnm
      go_wp2_with fail
      refine bodyPost_ret (v := .tuple #[.agg #[.string nm, .slice aao al.length acap, .slice kao ks.length kcap, .int .i64 pp], .int .i64 s.size, .int .i64 0]) (by simp [results, Tryz.results11, go_sem, r0, r1, r2, r3]) rfl ⟨⟨fun q' er h => ?_, fun T' h => ?_⟩, (((B5.out.setCell (Nat.le_refl _) _).setCell (Nat.le_refl _) _).setCell (Nat.le_refl _) _).setCell (Nat.le_refl _) _⟩
      · have := HT.out.symm.trans h
        cases this
      · have := HT.out.symm.trans h
        obtain rfl : T = T' := by injection this
        refine ⟨_, _, _, _, rfl, EInR.toEIn (R := fun i => W.heap.size ≤ i ∧ i < w5.heap.size) (EInR.turn (fun i hi => (put4_keep w5 w.heap.size 0 (.string nm) (.slice aao al.length acap) (.slice kao ks.length kcap) (.int .i64 pp)).block i hi.2 (fun e => by have := hi.1; omega)) (fun i hi => hi) T5.out)⟩
    · have HE := hideT hE
      have K5 := hideT k5
      have P5 := hideT p5
      have L5 := hideT (LR.out.keep k5 (by omega))
      have B5 : Hid (Below w.heap.size w w5) := k5.below BW.out (fun i hi e => by omega)
      have x1 : w5.cell? ⟨w.heap.size + 1, 1, none⟩ = some (.int .i64 q) := p5.cell 1
      have x2 : w5.cell? ⟨w.heap.size + 1, 2, none⟩ = some (.int .i64 e) := p5.cell 2
      have r0 : w5.cell? ⟨w.heap.size, 0, none⟩ = some (.string ⟨#[]⟩) := L5.out.cell 0
      have r1 : w5.cell? ⟨w.heap.size, 1, none⟩ = some nilS := L5.out.cell 1
      have r2 : w5.cell? ⟨w.heap.size, 2, none⟩ = some nilS := L5.out.cell 2
      have r3 : w5.cell? ⟨w.heap.size, 3, none⟩ = some (.int .i64 0) := L5.out.cell 3
      have f0 : w5.frozen? ⟨w.heap.size, 0, none⟩ = false := L5.out.free 0
      have f1 : w5.frozen? ⟨w.heap.size, 1, none⟩ = false := L5.out.free 1
      have f2 : w5.frozen? ⟨w.heap.size, 2, none⟩ = false := L5.out.free 2
      have f3 : w5.frozen? ⟨w.heap.size, 3, none⟩ = false := L5.out.free 3
      clear hE k5 p5
      go_wp2_with fail
      go_region
      all_goals go_wp2_with fail
      all_goals refine bodyPost_ret (v := .tuple #[.agg #[.string ⟨#[]⟩, .slice none 0 0, .slice none 0 0, .int .i64 0], .int .i64 q, .int .i64 e]) (by simp [results, Tryz.results11, go_sem, r0, r1, r2, r3]) rfl ⟨⟨fun q' er h => ?_, fun T h => ?_⟩, ?_⟩
      all_goals first
        | (have := HE.out.symm.trans h
           simp only [Except.error.injEq, Prod.mk.injEq] at this
           obtain ⟨rfl, rfl⟩ := this
           rfl)
        | (have := HE.out.symm.trans h
           cases this)
        | exact ((((B5.out.setCell (Nat.le_refl _) _).setCell (Nat.le_refl _) _).setCell (Nat.le_refl _) _).setCell (Nat.le_refl _) _).drew
end Go.Proofs.YtjfonpbnohbpfaaGreatDoor
