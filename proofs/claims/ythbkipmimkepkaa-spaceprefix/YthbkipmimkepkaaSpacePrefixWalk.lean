/-
  SpacePrefix: what a prefix is called does not matter.
-/
import Derived.Test.YthbkipmimkepkaaSKnown
import Derived.Test.YthbkipmimkepkaaSSame
import Derived.Test.YthbkipmimkepkaaRefIs
set_option linter.unusedSimpArgs false
set_option linter.unusedVariables false
namespace Go.Proofs.Ythbkipmimkepkaa
open Go.RowKit
abbrev kA : Att := (⟨#[107]⟩, ⟨#[49]⟩)
def prT (p u : ByteArray) : Tr := Xp.mkT (p ++ ⟨#[58, 97]⟩) [(⟨#[120, 109, 108, 110, 115, 58]⟩ ++ p, u), kA] [Xp.mkT (p ++ ⟨#[58, 98]⟩) [] [] 0] 0
def prC (u : ByteArray) : Tr := Xp.mkT ⟨#[97]⟩ [(xmlnsB, u), kA] [Xp.mkT ⟨#[98]⟩ [] [] 0] 0
def prN (u : ByteArray) : Tr := mkN u ⟨#[97]⟩ [kA] [mkN u ⟨#[98]⟩ [] [] 0] 0
theorem splitB_two (s a b : ByteArray) (hs : s.data.toList = a.data.toList ++ 58 :: b.data.toList) (h : ∀ x ∈ a.data.toList, x ≠ 58) : splitB s = (a, b) := by
  unfold splitB
  rw [hs, Sp.splitL_two _ _ h]
theorem sp_k : splitB ⟨#[107]⟩ = (e0, ⟨#[107]⟩) := by kernel_rfl
theorem sp_a1 : splitB ⟨#[97]⟩ = (e0, ⟨#[97]⟩) := by kernel_rfl
theorem sp_b1 : splitB ⟨#[98]⟩ = (e0, ⟨#[98]⟩) := by kernel_rfl
theorem may_of {p s : ByteArray} (h : s ≠ e0) (h1 : p ≠ xmlB) (h2 : p ≠ xmlnsB) : mayB p s = true := by
  unfold mayB
  rw [decide_eq_false h, decide_eq_false h1, decide_eq_false h2]
  rfl
theorem res_prC (u : ByteArray) : resP 2 G0 (prC u) = .ok (prN u) := by
  unfold prC prN
  simp (decide := true) [resP_mk, resT, enterP, stepP, kidsP, sp_k, sp_a1, sp_b1, upd]
theorem res_pr (p u : ByteArray) (hp : Sp.isB p.data.toList = true) (hx : p ≠ xmlB) (hn : p ≠ xmlnsB) (hu : u ≠ e0) : resP 2 G0 (prT p u) = .ok (prN u) := by
  have hc := Sp.isB_no_colon _ hp
  have s1 : splitB (p ++ ⟨#[58, 97]⟩) = (p, ⟨#[97]⟩) := splitB_two _ p ⟨#[97]⟩ (by rw [Sp.cat_data]) hc
  have s2 : splitB (p ++ ⟨#[58, 98]⟩) = (p, ⟨#[98]⟩) := splitB_two _ p ⟨#[98]⟩ (by rw [Sp.cat_data]) hc
  have s3 : splitB (⟨#[120, 109, 108, 110, 115, 58]⟩ ++ p) = (xmlnsB, p) := splitB_two _ xmlnsB p (by rw [Sp.cat_data]; rfl) (by decide)
  have n1 : ¬ (⟨#[120, 109, 108, 110, 115, 58]⟩ ++ p : ByteArray) = xmlnsB := by
    intro e
    rw [e] at s3
    have h4 : splitB xmlnsB = (e0, xmlnsB) := by kernel_rfl
    rw [h4] at s3
    have := (Prod.mk.inj s3).1
    exact absurd this (by decide)
  unfold prT prN
  have m1 : mayB p u = true := may_of hu hx hn
  simp (decide := true) [resP_mk, resT, enterP, stepP, kidsP, sp_k, s1, s2, s3, n1, m1, upd]
theorem sameN_refl : ∀ (n : Nat) (T : Tr), sameN n T T
  | 0, _ => trivial
  | n + 1, T => ⟨rfl, rfl, rfl, rfl, fun i x y h1 h2 => by rw [h1] at h2; cases h2; exact sameN_refl n x⟩
theorem att_two {a b c d : ByteArray} {n m : Nat} (h1 : a.size ≤ n) (h2 : b.size ≤ m) (h3 : c.size ≤ n) (h4 : d.size ≤ m) : ∀ p ∈ [(a, b), (c, d)], p.1.size ≤ n ∧ p.2.size ≤ m := by
  intro p hp
  simp only [List.mem_cons, List.mem_nil_iff, or_false] at hp
  rcases hp with rfl | rfl
  · exact ⟨h1, h2⟩
  · exact ⟨h3, h4⟩
theorem cat_size (a b : ByteArray) : (a ++ b).size = a.size + b.size := by
  have h := Sp.cat_data a b
  have h1 : (a ++ b).data.toList.length = a.data.toList.length + b.data.toList.length := by rw [h, List.length_append]
  simp
set_option maxHeartbeats 2000000 in
theorem prefixedD (p u : ByteArray) (w : World) (hp : p.size ≤ 12) (hu : u.size ≤ 50) :
    Calls Try.prog 19 #[.string p, .string u] w fun e w' => Below w.heap.size w w' ∧ ∃ c1 c2, e = .returned (.agg #[.string (p ++ ⟨#[58, 97]⟩), c1, c2, .int .i64 0]) ∧ EIn w' 2 (.string (p ++ ⟨#[58, 97]⟩)) c1 c2 (.int .i64 0) (prT p u) := by
  have z1 : (p ++ ⟨#[58, 97]⟩ : ByteArray).size = p.size + 2 := cat_size _ _
  have z2 : (p ++ ⟨#[58, 98]⟩ : ByteArray).size = p.size + 2 := cat_size _ _
  have z3 : (⟨#[120, 109, 108, 110, 115, 58]⟩ ++ p : ByteArray).size = 6 + p.size := cat_size _ _
  have Z1 := hideT z1
  have Z2 := hideT z2
  have Z3 := hideT z3
  clear z1 z2 z3
  go_enter Try.func19, Try.ntmps19
  go_wp2_with fail
  generalize hW1 : w.alloc _ = W1
  obtain ⟨B1, L1, z1⟩ := of_alloc hW1
  generalize hW2 : W1.alloc _ = W2
  obtain ⟨B2, L2, z2⟩ := of_alloc hW2
  generalize hW3 : W2.alloc _ = W3
  obtain ⟨B3, L3, z3⟩ := of_alloc hW3
  rw [z1] at L2 z2
  rw [z2] at L3 z3
  have BT1 : Below W1.heap.size W1 W3 := B2.trans (B3.mono B2.size)
  have r0 := (L1.below BT1).cell 0
  have r1 := (L1.below BT1).cell 1
  have r2 := (L1.below BT1).cell 2
  have r3 := (L1.below BT1).cell 3
  simp only [List.getElem?_toArray, List.getElem?_cons_zero, List.getElem?_cons_succ] at r0 r1 r2 r3
  refine bodyPost_ret (v := .agg #[.string (p ++ ⟨#[58, 97]⟩), .slice (some ⟨w.heap.size + 1, 0, none⟩) 2 2, .slice (some ⟨w.heap.size + 1 + 1, 0, none⟩) 1 1, .int .i64 0]) (by simp [results, Try.results19, go_sem, r0, r1, r2, r3]) rfl ⟨B1.trans (BT1.mono B1.size), _, _, rfl, ?_⟩
  refine EIn.node 1 _ _ _ _ (by have := Z1.out; omega) (ARow.lies (L2.below B3) _ rfl (by simp) (att_two (by have := Z3.out; omega) (by omega) (by decide) (by decide)) _ _ rfl) L3 [(.string (p ++ ⟨#[58, 98]⟩), nilS, nilS, .int .i64 0)] _ rfl rfl (by simp) (fun i q K e1 e2 => ?_) _ _ rfl
  match i with
  | 0 =>
    cases e1
    cases e2
    exact EIn.leaf 0 _ _ _ _ (by have := Z2.out; omega) (ARow.nil _)
  | i + 1 => cases e1
theorem fine_pr (p u : ByteArray) (hp : p.size ≤ 12) (hu : u.size ≤ 50) : fineT 2 (prT p u) := by
  have z1 : (p ++ ⟨#[58, 97]⟩ : ByteArray).size = p.size + 2 := cat_size _ _
  have z2 : (p ++ ⟨#[58, 98]⟩ : ByteArray).size = p.size + 2 := cat_size _ _
  have z3 : (⟨#[120, 109, 108, 110, 115, 58]⟩ ++ p : ByteArray).size = 6 + p.size := cat_size _ _
  refine fine_node (by omega) (att_two (by omega) (by omega) (by decide) (by decide)) (fun K hK => ?_)
  rw [List.mem_singleton.1 hK]
  exact fine_node (by omega) (by simp) (by simp)
theorem isRef_v (s : ByteArray) (w : World) (hs : s.size ≤ maxLen) (b : Bool) (h : Hid (Sp.isB s.data.toList = b)) :
    Calls Try.prog 18 #[.string s] w fun e w' => e = .returned (.bool b) ∧ w' = w := by
  have := isRef_any s w hs
  rw [h.out] at this
  exact this
set_option maxHeartbeats 4000000 in
theorem spacePrefix_walk (p : ByteArray) (hp : p.size ≤ maxLen) (q : ByteArray) (hq : q.size ≤ maxLen) (u : ByteArray) (hu : u.size ≤ maxLen) (w : World) (hok : OkS w) :
    Calls Try.prog 5 #[.string p, .string q, .string u] w fun e w' => e = .returned (.bool true) ∧ Below w.heap.size w w' := by
  obtain ⟨bp, HP⟩ : ∃ b, Hid (Sp.isB p.data.toList = b) := ⟨_, rfl⟩
  obtain ⟨bq, HQ⟩ : ∃ b, Hid (Sp.isB q.data.toList = b) := ⟨_, rfl⟩
  cases bp
  case false =>
    go_enter Try.func5, Try.ntmps5
    go_wp2_with fail
    refine (isRef_v p w hp false HP).mono ?_
    rintro e w1 ⟨rfl, rfl⟩
    go_wp2_with fail
    go_ret
    exact ⟨rfl, Below.refl _ _⟩
  cases bq
  case false =>
    go_enter Try.func5, Try.ntmps5
    go_wp2_with fail
    refine (isRef_v p w hp true HP).mono ?_
    rintro e w1 ⟨rfl, rfl⟩
    go_wp2_with fail
    refine (isRef_v q _ hq false HQ).mono ?_
    rintro e w2 ⟨rfl, rfl⟩
    go_wp2_with fail
    go_ret
    exact ⟨rfl, Below.refl _ _⟩
  by_cases h1 : p = xmlB
  · subst h1
    go_enter Try.func5, Try.ntmps5
    go_wp2_with fail
    refine (isRef_v xmlB w hp true HP).mono ?_
    rintro e w1 ⟨rfl, rfl⟩
    go_wp2_with fail
    refine (isRef_v q _ hq true HQ).mono ?_
    rintro e w2 ⟨rfl, rfl⟩
    go_wp2_with fail
    go_ret
    exact ⟨rfl, Below.refl _ _⟩
  have h1a : ¬ p.toList = [120, 109, 108] := tl_ne xmlB _ h1 rfl
  have h1b : (p.toList == [120, 109, 108]) = false := tl_beq xmlB _ h1 rfl
  by_cases h2 : p = xmlnsB
  · have HH1 := hideT h1
    clear h1
    subst h2
    go_enter Try.func5, Try.ntmps5
    go_wp2_with fail
    refine (isRef_v xmlnsB w hp true HP).mono ?_
    rintro e w1 ⟨rfl, rfl⟩
    go_wp2_with fail
    refine (isRef_v q _ hq true HQ).mono ?_
    rintro e w2 ⟨rfl, rfl⟩
    go_wp2_with fail
    go_ret
    exact ⟨rfl, Below.refl _ _⟩
  have h2a : ¬ p.toList = [120, 109, 108, 110, 115] := tl_ne xmlnsB _ h2 rfl
  have h2b : (p.toList == [120, 109, 108, 110, 115]) = false := tl_beq xmlnsB _ h2 rfl
  by_cases h3 : q = xmlB
  · have HH1 := hideT h1
    have HH2 := hideT h2
    clear h1 h2
    subst h3
    go_enter Try.func5, Try.ntmps5
    go_wp2_with fail
    refine (isRef_v p w hp true HP).mono ?_
    rintro e w1 ⟨rfl, rfl⟩
    go_wp2_with fail
    refine (isRef_v xmlB _ hq true HQ).mono ?_
    rintro e w2 ⟨rfl, rfl⟩
    go_wp2_with fail
    go_ret
    exact ⟨rfl, Below.refl _ _⟩
  have h3a : ¬ q.toList = [120, 109, 108] := tl_ne xmlB _ h3 rfl
  have h3b : (q.toList == [120, 109, 108]) = false := tl_beq xmlB _ h3 rfl
  by_cases h4 : q = xmlnsB
  · clear h1 h2 h3
    subst h4
    go_enter Try.func5, Try.ntmps5
    go_wp2_with fail
    refine (isRef_v p w hp true HP).mono ?_
    rintro e w1 ⟨rfl, rfl⟩
    go_wp2_with fail
    refine (isRef_v xmlnsB _ hq true HQ).mono ?_
    rintro e w2 ⟨rfl, rfl⟩
    go_wp2_with fail
    go_ret
    exact ⟨rfl, Below.refl _ _⟩
  have h4a : ¬ q.toList = [120, 109, 108, 110, 115] := tl_ne xmlnsB _ h4 rfl
  have h4b : (q.toList == [120, 109, 108, 110, 115]) = false := tl_beq xmlnsB _ h4 rfl
  have H1 := hideT h1
  have H2 := hideT h2
  have H3 := hideT h3
  have H4 := hideT h4
  clear h1 h2 h3 h4
  by_cases h5 : u = e0
  · subst h5
    go_enter Try.func5, Try.ntmps5
    go_wp2_with fail
    refine (isRef_v p w hp true HP).mono ?_
    rintro e w1 ⟨rfl, rfl⟩
    go_wp2_with fail
    refine (isRef_v q _ hq true HQ).mono ?_
    rintro e w2 ⟨rfl, rfl⟩
    go_wp2_with fail
    go_ret
    exact ⟨rfl, Below.refl _ _⟩
  have h5a := (tl_empty h5).1
  have h5b := (tl_empty h5).2
  have H5 := hideT h5
  clear h5
  by_cases h6 : (u.size : Int) > 50
  · skip
    go_enter Try.func5, Try.ntmps5
    go_wp2_with fail
    refine (isRef_v p w hp true HP).mono ?_
    rintro e w1 ⟨rfl, rfl⟩
    go_wp2_with fail
    refine (isRef_v q _ hq true HQ).mono ?_
    rintro e w2 ⟨rfl, rfl⟩
    go_wp2_with fail
    go_ret
    exact ⟨rfl, Below.refl _ _⟩
  have hp12 : p.size ≤ 12 := by have := (Sp.isB_mem _ HP.out).2.1; simpa using this
  have hq12 : q.size ≤ 12 := by have := (Sp.isB_mem _ HQ.out).2.1; simpa using this
  have hu50 : u.size ≤ 50 := by omega
  go_enter Try.func5, Try.ntmps5
  go_wp2_with fail
  refine (isRef_v p w hp true HP).mono ?_
  rintro e w1 ⟨rfl, rfl⟩
  go_wp2_with fail
  refine (isRef_v q _ hq true HQ).mono ?_
  rintro e w2 ⟨rfl, rfl⟩
  go_wp2_with fail
  refine (prefixedD p u _ hp12 hu50).mono ?_
  rintro e v1 ⟨b1, x1, x2, rfl, E1⟩
  have okv1 := hok.below b1 hok.lt
  go_wp2_with fail
  refine (ResolveD v1 2 _ _ _ _ (prT p u) okv1 E1 (fine_pr p u hp12 hu50) (by simp [prT, attN_mk])).mono ?_
  rintro e v2 ⟨b2, ee, eo⟩
  clear ee
  obtain ⟨a0, a1, a2, a3, a4, rfl, t1⟩ := eo _ (res_pr p u HP.out H1.out H2.out H5.out)
  have T1 := t1.toNIn
  obtain ⟨rfl, rfl, rfl, _, ⟨ad, ac, rfl⟩, ab, ao, ak, akc, rfl, hak, _⟩ := t1.inv
  obtain rfl := hak (by simp)
  clear eo t1 E1
  go_wp2_with fail
  generalize hY1 : v2.alloc _ = Y1
  obtain ⟨c1, L1, z1⟩ := of_alloc hY1
  have B2 := b1.trans ((b2.trans (c1.mono b2.size)).mono b1.size)
  refine (prefixedD q u Y1 hq12 hu50).mono ?_
  rintro e v3 ⟨b3, y1, y2, rfl, E2⟩
  have B3 := B2.trans (b3.mono B2.size)
  go_wp2_with fail
  refine (ResolveD v3 2 _ _ _ _ (prT q u) (hok.below B3 hok.lt) E2 (fine_pr q u hq12 hu50) (by simp [prT, attN_mk])).mono ?_
  rintro e v4 ⟨b4, ee, eo⟩
  clear ee
  obtain ⟨g0, g1, g2, g3, g4, rfl, t2⟩ := eo _ (res_pr q u HQ.out H3.out H4.out H5.out)
  have T2 := t2.toNIn
  obtain ⟨rfl, rfl, rfl, _, ⟨gd, gc, rfl⟩, gb, go, gk, gkc, rfl, hgk, _⟩ := t2.inv
  obtain rfl := hgk (by simp)
  clear eo t2 E2
  go_wp2_with fail
  generalize hY2 : v4.alloc _ = Y2
  obtain ⟨c2, L2, z2⟩ := of_alloc hY2
  generalize hW1 : Y2.alloc _ = W1
  obtain ⟨d1, M1, m1⟩ := of_alloc hW1
  generalize hW2 : W1.alloc _ = W2
  obtain ⟨d2, M2, m2⟩ := of_alloc hW2
  rw [z2] at M1 m1
  rw [m1] at M2 m2
  have BW : Below v4.heap.size v4 W2 := c2.trans ((d1.trans (d2.mono d1.size)).mono c2.size)
  have B4 := B3.trans ((b4.trans (BW.mono b4.size)).mono B3.size)
  have E3 : EIn W2 2 (.string ⟨#[97]⟩) (.slice (some ⟨v4.heap.size + 1, 0, none⟩) 2 2) (.slice (some ⟨v4.heap.size + 1 + 1, 0, none⟩) 1 1) (.int .i64 0) (prC u) := by
    refine EIn.node 1 _ _ _ _ (by decide) (ARow.lies (M1.below d2) _ rfl (by simp) (att_two (by decide) (by omega) (by decide) (by decide)) _ _ rfl) M2 [(.string ⟨#[98]⟩, nilS, nilS, .int .i64 0)] _ rfl rfl (by simp) (fun i q K e1 e2 => ?_) _ _ rfl
    match i with
    | 0 =>
      cases e1
      cases e2
      exact EIn.leaf 0 _ _ _ _ (by decide) (ARow.nil _)
    | i + 1 => cases e1
  have F3 : fineT 2 (prC u) := by
    refine fine_node (by decide) (att_two (by decide) (by omega) (by decide) (by decide)) (fun K hK => ?_)
    rw [List.mem_singleton.1 hK]
    exact fine_node (by decide) (by simp) (by simp)
  refine (ResolveD W2 2 _ _ _ _ (prC u) (hok.below B4 hok.lt) E3 F3 (by simp [prC, attN_mk])).mono ?_
  rintro e v5 ⟨b5, ee, eo⟩
  clear ee
  obtain ⟨k0, k1, k2, k3, k4, rfl, t3⟩ := eo _ (res_prC u)
  have T3 := t3.toNIn
  obtain ⟨rfl, rfl, rfl, _, ⟨hd, hc, rfl⟩, hb, ho, hk, hkc, rfl, hhk, _⟩ := t3.inv
  obtain rfl := hhk (by simp)
  clear eo t3 E3 F3
  simp only [List.length_cons, List.length_nil, Nat.zero_add] at T1 T2 T3
  have c5 := (Below.refl v5.heap.size v5).alloc (Nat.le_refl _) (.cells #[.string u, .string ⟨#[97]⟩, .slice hd 1 hc, .slice (some ⟨hb, ho, none⟩) 1 hkc, .int .i64 0] 25)
  have L5 := Lies.new v5 25 #[.string u, .string ⟨#[97]⟩, .slice hd 1 hc, .slice (some ⟨hb, ho, none⟩) 1 hkc, .int .i64 0]
  have bW : Below W2.heap.size W2 _ := b5.trans (c5.mono b5.size)
  have b4Y : Below v4.heap.size v4 _ := BW.trans (bW.mono BW.size)
  have bY2 : Below Y2.heap.size Y2 _ := (d1.trans (d2.mono d1.size)).trans (bW.mono (d1.trans (d2.mono d1.size)).size)
  have bv3 := b4.trans (b4Y.mono b4.size)
  have bY1 := b3.trans (bv3.mono b3.size)
  have bv2 := c1.trans (bY1.mono c1.size)
  have BF := hideT (B2.trans (bY1.mono B2.size))
  have p0 := (L1.below bY1).cell 0
  have p1 := (L1.below bY1).cell 1
  have p2 := (L1.below bY1).cell 2
  have p3 := (L1.below bY1).cell 3
  have p4 := (L1.below bY1).cell 4
  simp only [List.getElem?_toArray, List.getElem?_cons_zero, List.getElem?_cons_succ] at p0 p1 p2 p3 p4
  have q0 := (L2.below bY2).cell 0
  have q1 := (L2.below bY2).cell 1
  have q2 := (L2.below bY2).cell 2
  have q3 := (L2.below bY2).cell 3
  have q4 := (L2.below bY2).cell 4
  simp only [List.getElem?_toArray, List.getElem?_cons_zero, List.getElem?_cons_succ] at q0 q1 q2 q3 q4
  have r0 := L5.cell 0
  have r1 := L5.cell 1
  have r2 := L5.cell 2
  have r3 := L5.cell 3
  have r4 := L5.cell 4
  simp only [List.getElem?_toArray, List.getElem?_cons_zero, List.getElem?_cons_succ] at r0 r1 r2 r3 r4
  have N1 := hideT (NIn.below bv2 T1)
  have N2 := hideT (NIn.below b4Y T2)
  have N3 := hideT (NIn.below c5 T3)
  have HOK := hideT (hok.below BF.out hok.lt)
  have LA := hideT (L1.below bY1)
  have LC := hideT L5
  clear hY1 hY2 hW1 hW2 c1 L1 z1 B2 b1 b2 b3 B3 b4 c2 L2 z2 d1 M1 m1 d2 M2 m2 BW B4 b5 c5 L5 bW b4Y bY2 bv3 bY1 bv2 T1 T2 T3 hok okv1
  go_wp2_with fail
  refine (sameN_ref 2 _ _ _ _ _ _ _ _ _ _ _ _ _ N1.out N2.out).mono ?_
  rintro e w7 ⟨⟨bb, rfl, hbb⟩, b7⟩
  obtain rfl := hbb.2 (sameN_refl 2 _)
  have N4 := hideT (NIn.below b7 N1.out)
  have N5 := hideT (NIn.below b7 N3.out)
  have B7 := hideT (BF.out.trans (b7.mono BF.out.size))
  have H7 := hideT (HOK.out.below b7 HOK.out.lt)
  have p0 := cell_below b7 rfl p0
  have r0 := cell_below b7 rfl r0
  have p1 := cell_below b7 rfl p1
  have r1 := cell_below b7 rfl r1
  have p2 := cell_below b7 rfl p2
  have r2 := cell_below b7 rfl r2
  have p3 := cell_below b7 rfl p3
  have r3 := cell_below b7 rfl r3
  have p4 := cell_below b7 rfl p4
  have r4 := cell_below b7 rfl r4
  clear b7 hbb q0 q1 q2 q3 q4
  go_wp2_with fail
  refine (sameN_ref 2 _ _ _ _ _ _ _ _ _ _ _ _ _ N4.out N5.out).mono ?_
  rintro e w8 ⟨⟨bb, rfl, hbb⟩, b8⟩
  obtain rfl := hbb.2 (sameN_refl 2 _)
  have H8 := hideT (H7.out.below b8 H7.out.lt)
  have B8 := hideT (B7.out.trans (b8.mono B7.out.size))
  clear b8 hbb
  go_wp2_with fail
  refine (knownS _ H8.out).mono ?_
  rintro e w9 ⟨rfl, b9⟩
  go_wp2_with fail
  go_ret
  exact ⟨rfl, B8.out.trans (b9.mono B8.out.size)⟩
end Go.Proofs.Ythbkipmimkepkaa
