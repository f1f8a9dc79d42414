/-
  The program's shut.
-/
import Derived.Test.YtimecocegnnjjaaDoorDEnd
set_option linter.unusedSimpArgs false
set_option linter.unusedVariables false
namespace Go.Proofs.YtimecocegnnjjaaDoor
open Go.RowKit
theorem own_shrink {w : World} {H : Nat} {e : TypeId} {z n g cap : Nat} {xs ys : List Value} (h : w.ownsRow H e z (.slice (some ⟨g, 0, none⟩) (n + 1) cap) (n + 1) (xs ++ ys)) (hx : xs.length = n * z) : w.ownsRow H e z (.slice (some ⟨g, 0, none⟩) n cap) n xs := by
  obtain ⟨cap', cur, hv, h1, h2, h3, h5, h6, h4⟩ := own_heap h rfl
  have hc : cap = cap' := by
    injection hv
  subst hc
  refine ⟨hx, .inr ⟨g, cap, cur, rfl, h1, h2, by omega, h5, h6, ?_⟩⟩
  have : cur.toList.take (n * z) = (cur.toList.take ((n + 1) * z)).take (n * z) := by
    rw [List.take_take, Nat.min_eq_left (Nat.mul_le_mul_right _ (Nat.le_succ n))]
  rw [this, h4, List.take_append_of_le_length (by omega), List.take_of_length_le (by omega)]
theorem own_cap {w : World} {H : Nat} {e : TypeId} {z n g cap : Nat} {xs : List Value} (h : w.ownsRow H e z (.slice (some ⟨g, 0, none⟩) n cap) n xs) : n ≤ cap := by
  obtain ⟨cap', cur, hv, h1, h2, h3, _⟩ := own_heap h rfl
  have hc : cap = cap' := by
    injection hv
  omega
set_option maxHeartbeats 4000000 in
theorem shut_last (w : World) (b H : Nat) (s nm : ByteArray) (p : Nat) (vo : Value) (n q : Int) (o0 o1 o2 o3 : Value) (a1 a2 : Option Addr) (n1 k1 n2 k2 : Nat)
    (h : PIn w b s p 0 ⟨vo, n, o0, o1, o2, o3⟩) (ho : w.ownsRow H 25 4 vo 1 (flatE [(.string nm, .slice a1 n1 k1, .slice a2 n2 k2, .int .i64 q)])) :
    Calls Tryd.prog 46 #[ptr b] w fun e w' => e = .returned (.bool true) ∧ Keep (· = b) w w' ∧ ∃ vo', PIn w' b s p 0 ⟨vo', n, .string nm, .slice a1 n1 k1, .slice a2 n2 k2, .int .i64 q⟩ ∧ w'.ownsRow H 25 4 vo' 0 [] ∧ vo'.ownBlock = vo.ownBlock := by
  obtain ⟨g, cap, hv, _, hg⟩ := ho.form (by omega)
  subst hv
  have HP := hideT h
  have HO := hideT ho
  have hcap := own_cap ho
  have hne : g ≠ b := fun e => own_ne ho h (by decide) (by rw [← e]; rfl)
  clear h ho
  go_enter Tryd.func46, Tryd.ntmps46
  go_wp2_with fail
  refine (innermostD w b s p 0 _ g 0 cap (by omega) rfl HP.out).mono ?_
  rintro e w1 ⟨rfl, b1⟩
  have P1 := hideT (HP.out.below b1)
  have O1 := hideT (own_keep (w' := w1) HO.out (fun g' hg' => b1.block g' (own_lt HO.out hg').1))
  have y0 : w1.cell? ⟨g, 0, none⟩ = some (.string nm) := own_cell O1.out rfl
  have y1 : w1.cell? ⟨g, 1, none⟩ = some (.slice a1 n1 k1) := own_cell O1.out rfl
  have y2 : w1.cell? ⟨g, 2, none⟩ = some (.slice a2 n2 k2) := own_cell O1.out rfl
  have y3 : w1.cell? ⟨g, 3, none⟩ = some (.int .i64 q) := own_cell O1.out rfl
  have K1 : Hid (Keep (· = b) w w1) := Keep.of_below b1
  obtain ⟨W, hW⟩ : ∃ W, w1.alloc (.cells #[.string nm, .slice a1 n1 k1, .slice a2 n2 k2, .int .i64 q] 25) = W := ⟨_, rfl⟩
  have B2 : Hid (Below w1.heap.size w1 W) := by rw [← hW]; exact (Below.refl _ w1).alloc (Nat.le_refl _) _
  have LW : Hid (Lies W w1.heap.size 25 #[.string nm, .slice a1 n1 k1, .slice a2 n2 k2, .int .i64 q]) := by
    show Lies W _ _ _
    rw [← hW]
    exact Lies.new w1 _ _
  have HWq := hideT hW
  clear b1 hW
  go_wp2_with fail
  clear y0 y1 y2 y3
  rw [HWq.out]
  have P2 := hideT (P1.out.below B2.out)
  have O2 := hideT (own_keep (w' := W) O1.out (fun g' hg' => B2.out.block g' (own_lt O1.out hg').1))
  have x3 : W.cell? ⟨b, 3, none⟩ = some (.slice (some ⟨g, 0, none⟩) 1 cap) := P2.out.cell 3
  have f3 : W.frozen? ⟨b, 3, none⟩ = false := P2.out.free 3
  have t1 : (1 : Int) ≤ (cap : Int) := by omega
  have t2 : (0 : Int) ≤ (cap : Int) := by omega
  obtain ⟨X, hX⟩ : ∃ X, (W.setCell ⟨b, 3, none⟩ (.slice (some ⟨g, 0, none⟩) 0 cap)).drew = X := ⟨_, rfl⟩
  have KX : Hid (Keep (· = b) w X) := by
    show Keep _ _ X
    rw [← hX]
    exact ((K1.out.trans (Keep.of_below B2.out)).trans (Keep.set _ ⟨b, 3, none⟩ _ rfl)).trans (Keep.of_below (Below.refl _ _).drew)
  have PX : Hid (PIn X b s p 0 ⟨.slice (some ⟨g, 0, none⟩) 0 cap, n, o0, o1, o2, o3⟩) := by
    show PIn X _ _ _ _ _
    rw [← hX]
    exact PIn.below (R := ⟨.slice (some ⟨g, 0, none⟩) 0 cap, n, o0, o1, o2, o3⟩) (P2.out.set 3 _) (Below.refl _ _).drew
  have hbw : b < w1.heap.size := P1.out.lt
  have LX : Hid (Lies X w1.heap.size 25 #[.string nm, .slice a1 n1 k1, .slice a2 n2 k2, .int .i64 q]) := by
    show Lies X _ _ _
    rw [← hX]
    exact (LW.out.off _ _ (by show w1.heap.size ≠ b; omega)).below (Below.refl _ _).drew
  have OX : Hid (X.ownsRow H 25 4 (.slice (some ⟨g, 0, none⟩) 0 cap) 0 []) := by
    show X.ownsRow _ _ _ _ _ _
    have h1 := own_shrink (n := 0) (xs := []) O2.out rfl
    refine own_keep h1 (fun g' hg' => ?_)
    obtain rfl : g = g' := Option.some.inj hg'
    rw [← hX]
    exact Below.heap_setCell _ _ _ _ hne
  have HX := hideT hX
  clear hX
  go_region
  all_goals rw [HX.out]
  all_goals clear x3 f3
  all_goals have x3 : X.cell? ⟨b, 3, none⟩ = some (.slice (some ⟨g, 0, none⟩) 0 cap) := PX.out.cell 3
  all_goals have z0 : X.cell? ⟨w1.heap.size, 0, none⟩ = some (.string nm) := LX.out.cell 0
  all_goals have z1 : X.cell? ⟨w1.heap.size, 1, none⟩ = some (.slice a1 n1 k1) := LX.out.cell 1
  all_goals have z2 : X.cell? ⟨w1.heap.size, 2, none⟩ = some (.slice a2 n2 k2) := LX.out.cell 2
  all_goals have z3 : X.cell? ⟨w1.heap.size, 3, none⟩ = some (.int .i64 q) := LX.out.cell 3
  all_goals have x5 : X.cell? ⟨b, 5, none⟩ = some o0 := PX.out.cell 5
  all_goals have x6 : X.cell? ⟨b, 6, none⟩ = some o1 := PX.out.cell 6
  all_goals have x7 : X.cell? ⟨b, 7, none⟩ = some o2 := PX.out.cell 7
  all_goals have x8 : X.cell? ⟨b, 8, none⟩ = some o3 := PX.out.cell 8
  all_goals have f5 : X.frozen? ⟨b, 5, none⟩ = false := PX.out.free 5
  all_goals have f6 : X.frozen? ⟨b, 6, none⟩ = false := PX.out.free 6
  all_goals have f7 : X.frozen? ⟨b, 7, none⟩ = false := PX.out.free 7
  all_goals have f8 : X.frozen? ⟨b, 8, none⟩ = false := PX.out.free 8
  all_goals go_wp2_with fail
  all_goals go_ret
  all_goals refine ⟨rfl, ?_, .slice (some ⟨g, 0, none⟩) 0 cap, ?_, ?_, rfl⟩
  all_goals first
    | exact ((((PX.out.set 5 (.string nm)).set 6 (.slice a1 n1 k1)).set 7 (.slice a2 n2 k2)).set 8 (.int .i64 q))
    | exact (((KX.out.trans (Keep.set X ⟨b, 5, none⟩ (.string nm) rfl)).trans (Keep.set _ ⟨b, 6, none⟩ (.slice a1 n1 k1) rfl)).trans (Keep.set _ ⟨b, 7, none⟩ (.slice a2 n2 k2) rfl)).trans (Keep.set _ ⟨b, 8, none⟩ (.int .i64 q) rfl)
    | exact own_keep OX.out (fun g' hg' => (put4_keep X b 5 (.string nm) (.slice a1 n1 k1) (.slice a2 n2 k2) (.int .i64 q)).block g' (own_lt OX.out hg').1 (fun e => hne ((Option.some.inj hg').trans e)))
/-- Behind the append of an empty kid: the cells that are read and written next. -/
theorem kid_grown {W W' w3 : World} {H b g d cap g2 cap2 B : Nat} {kv : Value} {M qs : List Quad} {x y z u c0 c1 c2 c3 : Value} {C : Array Value} {t : TypeId} (hown : w3.ownsRow H 25 4 (.slice (some ⟨g2, 0, none⟩) (qs.length + 1) cap2) (qs.length + 1) (flatE qs ++ [.string ⟨#[]⟩, nilS, nilS, .int .i64 0]))
    (ho : W.ownsRow H 25 4 (.slice (some ⟨g, 0, none⟩) d cap) d (flatE (M ++ [(x, y, z, u)]))) (hl : Lies W b t C) (ht : t ≠ 25) (hbx : Lies W B 25 #[c0, c1, c2, c3])
    (hgrow : W'.grownBy w3 kv.ownBlock) (hB : Below W.heap.size W W') (hg : kv.ownBlock ≠ some g) (hb : kv.ownBlock ≠ some b) (hbB : kv.ownBlock ≠ some B) (h2 : kv.ownBlock = some g2 ∨ W.heap.size ≤ g2) :
    w3.ownsRow H 25 4 (.slice (some ⟨g2, 0, none⟩) (qs.length + 1) cap2) (qs.length + 1) (flatE (qs ++ [(.string ⟨#[]⟩, nilS, nilS, .int .i64 0)])) ∧ w3.ownsRow H 25 4 (.slice (some ⟨g, 0, none⟩) d cap) d (flatE (M ++ [(x, y, z, u)])) ∧ Lies w3 b t C ∧ g2 ≠ g ∧ g2 ≠ b ∧ g ≠ b ∧
    (w3.cell? ⟨g2, qs.length * 4, none⟩ = some (.string ⟨#[]⟩) ∧ w3.cell? ⟨g2, qs.length * 4 + 1, none⟩ = some nilS ∧ w3.cell? ⟨g2, qs.length * 4 + 2, none⟩ = some nilS ∧ w3.cell? ⟨g2, qs.length * 4 + 3, none⟩ = some (.int .i64 0)) ∧
    (w3.frozen? ⟨g2, qs.length * 4, none⟩ = false ∧ w3.frozen? ⟨g2, qs.length * 4 + 1, none⟩ = false ∧ w3.frozen? ⟨g2, qs.length * 4 + 2, none⟩ = false ∧ w3.frozen? ⟨g2, qs.length * 4 + 3, none⟩ = false) ∧
    (w3.cell? ⟨g, M.length * 4 + 2, none⟩ = some z ∧ w3.frozen? ⟨g, M.length * 4 + 2, none⟩ = false) ∧
    (w3.cell? ⟨B, 0, none⟩ = some c0 ∧ w3.cell? ⟨B, 1, none⟩ = some c1 ∧ w3.cell? ⟨B, 2, none⟩ = some c2 ∧ w3.cell? ⟨B, 3, none⟩ = some c3) := by
  have e2 : w3.ownsRow H 25 4 (.slice (some ⟨g2, 0, none⟩) (qs.length + 1) cap2) (qs.length + 1) (flatE (qs ++ [(.string ⟨#[]⟩, nilS, nilS, .int .i64 0)])) := by
    rw [flatE_app]
    exact hown
  have go : ∀ k, k < W.heap.size → kv.ownBlock ≠ some k → w3.heap[k]? = W.heap[k]? := fun k hk hn => (hgrow.block k (Nat.lt_of_lt_of_le hk hB.size) (fun e => hn e.symm)).trans (hB.block k hk)
  have l3 : Lies w3 b t C := by
    unfold Lies at *
    rw [go b (Lies.lt (C := C) (t := t) hl) hb, hl]
  have x3 : Lies w3 B 25 #[c0, c1, c2, c3] := by
    unfold Lies at *
    rw [go B (Lies.lt (C := #[c0, c1, c2, c3]) (t := 25) hbx) hbB, hbx]
  have hglt := (own_lt ho (g := g) rfl).1
  have o3 := own_keep (w' := w3) ho (fun g' hg' => by
    obtain rfl : g = g' := Option.some.inj hg'
    exact go g hglt hg)
  have n1 : g2 ≠ g := fun e => by
    rcases h2 with h2 | h2
    · exact hg (by rw [h2, e])
    · omega
  obtain ⟨q0, q1, q2, q3⟩ := flatE_last qs (.string ⟨#[]⟩) nilS nilS (.int .i64 0)
  refine ⟨e2, o3, l3, n1, fun e => own_ne e2 l3 ht (by rw [← e]; rfl), fun e => own_ne o3 l3 ht (by rw [← e]; rfl), ⟨own_cell e2 q0, own_cell e2 q1, own_cell e2 q2, own_cell e2 q3⟩, ⟨own_free e2 _, own_free e2 _, own_free e2 _, own_free e2 _⟩, ⟨own_cell o3 (flatE_last M x y z u).2.2.1, own_free o3 _⟩, x3.cell 0, x3.cell 1, x3.cell 2, x3.cell 3⟩
/-- The kid written into its place, the row into its element: in either order. -/
theorem kid_named {S : Nat → Prop} {w w3 : World} {H g2 m cap2 g d cap bk : Nat} {t : TypeId} {C : Array Value} {qs M : List Quad} {a0 a1 a2 a3 x y z u : Value} (c0 c1 c2 c3 v : Value) (h : w3.ownsRow H 25 4 (.slice (some ⟨g2, 0, none⟩) m cap2) m (flatE (qs ++ [(a0, a1, a2, a3)])))
    (ho : w3.ownsRow H 25 4 (.slice (some ⟨g, 0, none⟩) d cap) d (flatE (M ++ [(x, y, z, u)]))) (hl : Lies w3 bk t C) (n1 : g2 ≠ g) (n2 : g2 ≠ bk) (n3 : g ≠ bk) (KG : Keep S w w3) (hgi : ∀ i, i < w.heap.size → i = g2 ∨ i = g → S i) :
    (∃ X, ((((w3.setCell ⟨g2, qs.length * 4, none⟩ c0).setCell ⟨g2, qs.length * 4 + 1, none⟩ c1).setCell ⟨g2, qs.length * 4 + 2, none⟩ c2).setCell ⟨g2, qs.length * 4 + 3, none⟩ c3).setCell ⟨g, M.length * 4 + 2, none⟩ v = X ∧ Keep S w X ∧ Lies X bk t C ∧ X.ownsRow H 25 4 (.slice (some ⟨g2, 0, none⟩) m cap2) m (flatE (qs ++ [(c0, c1, c2, c3)])) ∧ X.ownsRow H 25 4 (.slice (some ⟨g, 0, none⟩) d cap) d (flatE (M ++ [(x, y, v, u)]))) ∧
    (∃ X, ((((w3.setCell ⟨g, M.length * 4 + 2, none⟩ v).setCell ⟨g2, qs.length * 4, none⟩ c0).setCell ⟨g2, qs.length * 4 + 1, none⟩ c1).setCell ⟨g2, qs.length * 4 + 2, none⟩ c2).setCell ⟨g2, qs.length * 4 + 3, none⟩ c3 = X ∧ Keep S w X ∧ Lies X bk t C ∧ X.ownsRow H 25 4 (.slice (some ⟨g2, 0, none⟩) m cap2) m (flatE (qs ++ [(c0, c1, c2, c3)])) ∧ X.ownsRow H 25 4 (.slice (some ⟨g, 0, none⟩) d cap) d (flatE (M ++ [(x, y, v, u)]))) := by
  have s1 : ∀ X : World, X.ownsRow H 25 4 (.slice (some ⟨g, 0, none⟩) d cap) d (flatE (M ++ [(x, y, z, u)])) → (X.setCell ⟨g, M.length * 4 + 2, none⟩ v).ownsRow H 25 4 (.slice (some ⟨g, 0, none⟩) d cap) d (flatE (M ++ [(x, y, v, u)])) := fun X hX => by
    have := own_set hX (M.length * 4 + 2) v
    rw [(flatE_set M x y z u v).2.2.1] at this
    exact this
  have k4 := fun X : World => put4_keep X g2 (qs.length * 4) c0 c1 c2 c3
  constructor
  · refine ⟨_, rfl, ?_, (put4_lies hl n2).off _ _ (fun e => n3 e.symm), ?_, ?_⟩
    · exact (KG.on (k4 w3) (fun i hi e => hgi i hi (.inl e))).on (Keep.set (S := (· = g)) _ ⟨g, M.length * 4 + 2, none⟩ v rfl) (fun i hi e => hgi i hi (.inr e))
    · exact own_keep (put4_own h) (fun g' hg' => Below.heap_setCell _ _ _ _ (fun e => n1 ((Option.some.inj hg').trans e)))
    · exact s1 _ (own_keep ho (fun g' hg' => (k4 w3).block g' (own_lt ho hg').1 (fun e => n1 (((Option.some.inj hg').trans e).symm))))
  · refine ⟨_, rfl, ?_, put4_lies (hl.off _ _ (fun e => n3 e.symm)) n2, ?_, ?_⟩
    · exact (KG.on (Keep.set (S := (· = g)) w3 ⟨g, M.length * 4 + 2, none⟩ v rfl) (fun i hi e => hgi i hi (.inr e))).on (k4 _) (fun i hi e => hgi i hi (.inl e))
    · exact put4_own (own_keep h (fun g' hg' => Below.heap_setCell _ _ _ _ (fun e => n1 ((Option.some.inj hg').trans e))))
    · have h1 := s1 _ ho
      exact own_keep h1 (fun g' hg' => (k4 _).block g' (own_lt h1 hg').1 (fun e => n1 (((Option.some.inj hg').trans e).symm)))
end Go.Proofs.YtimecocegnnjjaaDoor
