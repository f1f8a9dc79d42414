/-
  The program's itemElement and To, of a model that is a bare plan.
-/
import Derived.Test.YtjfonpbnohbpfaaGreatDoorBWord
set_option linter.unusedSimpArgs false
set_option linter.unusedVariables false
namespace Go.Proofs.YtjfonpbnohbpfaaGreatDoor
open Go.RowKit
set_option maxRecDepth 100000
theorem sentElsNil (kv : Value) (lo : ByteArray) (a : Option Addr) (c : Nat) (w : World) :
    Calls Tryz.prog 57 #[kv, .string lo, .slice a 0 c] w fun e w' => e = .returned kv ∧ Below w.heap.size w w' := by
  go_enter Tryz.func57, Tryz.ntmps57
  go_wp2_with fail
  go_loopw [11, 0] (fun i q wr => i = .int .i64 0 ∧ q = kv ∧ Hid (Below w.heap.size w wr)) (fun i _ _ => 0)
  case atStart => exact ⟨rfl, rfl, Below.refl _ _⟩
  case round =>
    obtain ⟨rfl, rfl, HW⟩ := hrel
    go_wp2_with fail
    go_ret
    exact ⟨rfl, HW.out⟩
/-- What a bare item's element is. -/
def bareEl (x : Mp.Item) : Tr := Bp.el (Bp.wordI Bp.kindTbl x.kind) [] [(Bp.idW, x.id)]
set_option maxHeartbeats 4000000 in
theorem itemElBare (w : World) (af ai : Option Addr) (cf ci nf ni : Nat) (fs : List ByteArray) (l : List Mp.Item) (hm : ModelAt w af cf ai ci ⟨fs, l⟩) (hnf : nf = fs.length) (hni : ni = l.length) (x : Mp.Item) (hx : l[0]? = some x) (h1 : 1 ≤ x.kind) (h5 : x.kind < 5) (hr : x.req = false) (he : x.entry = []) (hex : x.exit = []) (hk : Mp.kidsN l x.id l.length = []) (hz : x.id.size ≤ 140000000000000) (hok : KindOk w) (n : Nat) :
    Calls Tryz.prog 23 #[.agg #[.slice af nf cf, .slice ai ni ci], .int .i64 0] w fun e w' => ∃ ab, e = .returned (.agg #[.string Bp.spaceB, .string (Bp.wordI Bp.kindTbl x.kind), .slice (some ⟨ab, 0, none⟩) 1 1, .slice none 0 0, .int .i64 0]) ∧ w.heap.size ≤ ab ∧ ab < w'.heap.size ∧ Lies w' ab 66 #[.string Bp.idW, .string x.id] ∧ Below w.heap.size w w' := by
  obtain ⟨_, _, _, b, o, ha, hc⟩ := irow_at hm.items
  obtain ⟨a5, c5, a6, c6, I0⟩ := hc 0 x hx
  have hl0 : 0 < l.length := (List.getElem?_eq_some_iff.1 hx).1
  obtain rfl := ha hl0
  rw [Nat.zero_mul, Nat.add_zero] at I0
  have HM := hideT hm.items
  have HK := hideT hk
  have HOK := hideT hok
  have HNI := hideT hni
  have d0 := I0.c0
  have d1 := I0.c1
  have d2 := I0.c2
  have d3 := I0.c3
  have d4 := I0.c4
  have d5 := I0.c5
  have d6 := I0.c6
  rw [hr] at d3
  rw [he] at d5
  rw [hex] at d6
  obtain ⟨xid, hxid⟩ : ∃ y, y = x.id := ⟨_, rfl⟩
  obtain ⟨xk, hxk⟩ : ∃ y, y = x.kind := ⟨_, rfl⟩
  obtain ⟨xp, hxp⟩ : ∃ y, y = x.parent := ⟨_, rfl⟩
  obtain ⟨xt, hxt⟩ : ∃ y, y = x.ticks := ⟨_, rfl⟩
  rw [← hxid] at d0 HK hz ⊢
  rw [← hxk] at d1 h1 h5 ⊢
  rw [← hxp] at d2
  rw [← hxt] at d4
  have hn0 : 0 < ni := by omega
  have lb : b < w.heap.size := cell_lt d0
  have lb2 : b < w.heap.size + 1 := by omega
  have lb3 : b ≠ w.heap.size := by omega
  have lb4 : b ≠ w.heap.size + 1 := by omega
  have t5 : (xk == 5) = false := beq_eq_false_iff_ne.2 (by omega)
  obtain ⟨W, hW, BW, zW, LM, LR, LI⟩ : ∃ W, ((w.alloc (.cells #[.slice af nf cf, .slice (some ⟨b, o, none⟩) ni ci] 25)).alloc (.cells #[.string ⟨#[]⟩, .string ⟨#[]⟩, .slice none 0 0, .slice none 0 0, .int .i64 0] 45)).alloc (.cells #[.string xid, .int .i64 xk, .string xp, .bool false, .int .i64 xt, .slice a5 0 c5, .slice a6 0 c6] 31) = W ∧ Below w.heap.size w W ∧ W.heap.size = w.heap.size + 3 ∧ Lies W w.heap.size 25 #[.slice af nf cf, .slice (some ⟨b, o, none⟩) ni ci] ∧ Lies W (w.heap.size + 1) 45 #[.string ⟨#[]⟩, .string ⟨#[]⟩, .slice none 0 0, .slice none 0 0, .int .i64 0] ∧ Lies W (w.heap.size + 2) 31 #[.string xid, .int .i64 xk, .string xp, .bool false, .int .i64 xt, .slice a5 0 c5, .slice a6 0 c6] := by
    obtain ⟨W1, e1⟩ : ∃ W1, w.alloc (.cells #[.slice af nf cf, .slice (some ⟨b, o, none⟩) ni ci] 25) = W1 := ⟨_, rfl⟩
    obtain ⟨b1, k1, z1⟩ := of_alloc e1
    obtain ⟨W2, e2⟩ : ∃ W2, W1.alloc (.cells #[.string ⟨#[]⟩, .string ⟨#[]⟩, .slice none 0 0, .slice none 0 0, .int .i64 0] 45) = W2 := ⟨_, rfl⟩
    obtain ⟨b2, k2, z2⟩ := of_alloc e2
    obtain ⟨W3, e3⟩ : ∃ W3, W2.alloc (.cells #[.string xid, .int .i64 xk, .string xp, .bool false, .int .i64 xt, .slice a5 0 c5, .slice a6 0 c6] 31) = W3 := ⟨_, rfl⟩
    obtain ⟨b3, k3, z3⟩ := of_alloc e3
    rw [e1, e2, e3]
    rw [z1] at k2 z2
    rw [z2] at k3 z3
    exact ⟨W3, rfl, b1.trans ((b2.trans (b3.mono (by omega))).mono (by omega)), z3, k1.below (b2.trans (b3.mono (by omega))), k2.below b3, k3⟩
  have HW := hideT hW
  have HBW := hideT BW
  have HZW := hideT zW
  have HLM := hideT LM
  have HLR := hideT LR
  have HLI := hideT LI
  clear hm ha hc I0 hk hok hni hW BW zW LM LR LI hx hr he hex hxid hxk hxp hxt hl0 hnf
  go_enter Tryz.func23, Tryz.ntmps23
  go_wp2_with fail
  rw [HW.out]
  refine (attrD Bp.idW xid W hz).mono ?_
  rintro e w1 ⟨rfl, b1⟩
  clear d0 d1 d2 d3 d4 d5 d6
  obtain ⟨V, hV, BV, LA, zV⟩ : ∃ V, w1.alloc (.cells #[.string Bp.idW, .string xid] 66) = V ∧ Below w1.heap.size w1 V ∧ Lies V w1.heap.size 66 #[.string Bp.idW, .string xid] ∧ V.heap.size = w1.heap.size + 1 := ⟨_, rfl, (Below.refl _ w1).alloc (Nat.le_refl _) _, Lies.new w1 _ _, by simp⟩
  have BB := hideT (b1.trans (BV.mono b1.size))
  have LIV := HLI.out.below BB.out
  have i0 : V.cell? ⟨w.heap.size + 2, 0, none⟩ = some (.string xid) := LIV.cell 0
  have i1 : V.cell? ⟨w.heap.size + 2, 1, none⟩ = some (.int .i64 xk) := LIV.cell 1
  have i3 : V.cell? ⟨w.heap.size + 2, 3, none⟩ = some (.bool false) := LIV.cell 3
  have i5 : V.cell? ⟨w.heap.size + 2, 5, none⟩ = some (.slice a5 0 c5) := LIV.cell 5
  have HLA := hideT LA
  have HZV := hideT zV
  have q1 := b1.size
  clear LIV BV LA zV b1
  go_wp2_with fail
  refine (sentElsNil (.slice none 0 0) Bp.entryW a5 c5 V).mono ?_
  rintro e w2 ⟨rfl, b2⟩
  have B2 := hideT (BB.out.trans (b2.mono BB.out.size))
  have i6 : w2.cell? ⟨w.heap.size + 2, 6, none⟩ = some (.slice a6 0 c6) := (HLI.out.below B2.out).cell 6
  have HA2 := hideT (HLA.out.below b2)
  clear i0 i1 i3 i5 hV b2
  go_wp2_with fail
  refine (sentElsNil (.slice none 0 0) Bp.exitW a6 c6 w2).mono ?_
  rintro e w3 ⟨rfl, b3⟩
  have B3 := hideT (B2.out.trans (b3.mono B2.out.size))
  have j0 : w3.cell? ⟨w.heap.size + 2, 0, none⟩ = some (.string xid) := (HLI.out.below B3.out).cell 0
  have m0 : w3.cell? ⟨w.heap.size, 0, none⟩ = some (.slice af nf cf) := (HLM.out.below B3.out).cell 0
  have m1 : w3.cell? ⟨w.heap.size, 1, none⟩ = some (.slice (some ⟨b, o, none⟩) ni ci) := (HLM.out.below B3.out).cell 1
  have HA3 := hideT (HA2.out.below b3)
  have BW3 := hideT (HBW.out.trans (B3.out.mono HBW.out.size))
  have IR3 : Hid (IRow w3 (.slice (some ⟨b, o, none⟩) ni ci) l) := by
    have := irow_below HM.out BW3.out
    rw [← HNI.out] at this
    exact this
  clear i6 b3
  go_wp2_with fail
  refine (kidsM w3 _ _ ni ci l xid IR3.out).mono ?_
  rintro e w4 ⟨ao, cap, rfl, _, b4⟩
  rw [HK.out]
  have B4 := hideT (B3.out.trans (b4.mono B3.out.size))
  have HA4 := hideT (HA3.out.below b4)
  have BW4 := hideT (BW3.out.trans (b4.mono BW3.out.size))
  clear j0 m0 m1 b4
  go_wp2_with fail
  go_loopw [47, 7] (fun i kv wr => i = .int .i64 0 ∧ kv = .slice none 0 0 ∧ Hid (wr = w4)) (fun i _ _ => 0)
  case atStart => exact ⟨rfl, rfl, rfl⟩
  case round =>
    obtain ⟨rfl, rfl, HWR⟩ := hrel
    have hwr := HWR.out
    subst hwr
    have k1 : wr.cell? ⟨w.heap.size + 2, 1, none⟩ = some (.int .i64 xk) := (HLI.out.below B4.out).cell 1
    go_wp2_with fail
    refine (kindWordD xk h1 (by omega) wr (HOK.out.below BW4.out)).mono ?_
    rintro e w5 ⟨rfl, b5⟩
    clear k1
    obtain ⟨kw, hkw⟩ : ∃ y, y = Bp.wordI Bp.kindTbl xk := ⟨_, rfl⟩
    rw [← hkw]
    have HKW := hideT hkw
    clear hkw
    go_wp2_with fail
    refine (elementD kw none (some ⟨w1.heap.size, 0, none⟩) 0 0 1 1 w5).mono ?_
    rintro e w6 ⟨rfl, b6⟩
    have B6 := hideT (B4.out.trans ((b5.trans (b6.mono b5.size)).mono B4.out.size))
    have BW6 := hideT (HBW.out.trans (B6.out.mono HBW.out.size))
    have HA6 := hideT ((HA4.out.below b5).below b6)
    have LR6 := hideT (HLR.out.below B6.out)
    have r0 : w6.cell? ⟨w.heap.size + 1, 0, none⟩ = some (.string ⟨#[]⟩) := LR6.out.cell 0
    have r1 : w6.cell? ⟨w.heap.size + 1, 1, none⟩ = some (.string ⟨#[]⟩) := LR6.out.cell 1
    have r2 : w6.cell? ⟨w.heap.size + 1, 2, none⟩ = some (.slice none 0 0) := LR6.out.cell 2
    have r3 : w6.cell? ⟨w.heap.size + 1, 3, none⟩ = some (.slice none 0 0) := LR6.out.cell 3
    have r4 : w6.cell? ⟨w.heap.size + 1, 4, none⟩ = some (.int .i64 0) := LR6.out.cell 4
    have f0 : w6.frozen? ⟨w.heap.size + 1, 0, none⟩ = false := LR6.out.free 0
    have f1 : w6.frozen? ⟨w.heap.size + 1, 1, none⟩ = false := LR6.out.free 1
    have f2 : w6.frozen? ⟨w.heap.size + 1, 2, none⟩ = false := LR6.out.free 2
    have f3 : w6.frozen? ⟨w.heap.size + 1, 3, none⟩ = false := LR6.out.free 3
    have f4 : w6.frozen? ⟨w.heap.size + 1, 4, none⟩ = false := LR6.out.free 4
    clear b5 b6
    go_wp2_with fail
    obtain ⟨X, hX, bX, lX, kX⟩ : ∃ X, ((((w6.setCell ⟨w.heap.size + 1, 0, none⟩ (.string Bp.spaceB)).setCell ⟨w.heap.size + 1, 1, none⟩ (.string kw)).setCell ⟨w.heap.size + 1, 2, none⟩ (.slice (some ⟨w1.heap.size, 0, none⟩) 1 1)).setCell ⟨w.heap.size + 1, 3, none⟩ (.slice none 0 0)).setCell ⟨w.heap.size + 1, 4, none⟩ (.int .i64 0) = X ∧ Below w.heap.size w X ∧ Lies X (w.heap.size + 1) 45 #[.string Bp.spaceB, .string kw, .slice (some ⟨w1.heap.size, 0, none⟩) 1 1, .slice none 0 0, .int .i64 0] ∧ Lies X w1.heap.size 66 #[.string Bp.idW, .string xid] := by
      refine ⟨_, rfl, (((((BW6.out.setCell (Nat.le_succ _) _).setCell (Nat.le_succ _) _).setCell (Nat.le_succ _) _).setCell (Nat.le_succ _) _).setCell (Nat.le_succ _) _), (((((LR6.out.set 0 _).set 1 _).set 2 _).set 3 _).set 4 _), ?_⟩
      have hne : w1.heap.size ≠ w.heap.size + 1 := by have := HZW.out; omega
      exact ((((HA6.out.off _ _ hne).off _ _ hne).off _ _ hne).off _ _ hne).off _ _ hne
    rw [hX]
    have s0 : X.cell? ⟨w.heap.size + 1, 0, none⟩ = some (.string Bp.spaceB) := lX.cell 0
    have s1 : X.cell? ⟨w.heap.size + 1, 1, none⟩ = some (.string kw) := lX.cell 1
    have s2 : X.cell? ⟨w.heap.size + 1, 2, none⟩ = some (.slice (some ⟨w1.heap.size, 0, none⟩) 1 1) := lX.cell 2
    have s3 : X.cell? ⟨w.heap.size + 1, 3, none⟩ = some (.slice none 0 0) := lX.cell 3
    have s4 : X.cell? ⟨w.heap.size + 1, 4, none⟩ = some (.int .i64 0) := lX.cell 4
    refine bodyPost_ret (v := .agg #[.string Bp.spaceB, .string kw, .slice (some ⟨w1.heap.size, 0, none⟩) 1 1, .slice none 0 0, .int .i64 0]) (by simp [results, Tryz.results23, go_sem, s0, s1, s2, s3, s4]) rfl ⟨w1.heap.size, by rw [HKW.out], by have := HZW.out; omega, kX.lt, kX, bX⟩
theorem one_named {w : World} {ab kb : Nat} {kw lo : ByteArray} {i : ByteArray} {R : Nat → Prop} (ha : Lies w ab 66 #[.string Bp.idW, .string i]) (hk : ∀ (j : Nat) c, [Value.string Bp.spaceB, .string kw, .slice (some ⟨ab, 0, none⟩) 1 1, .slice none 0 0, .int .i64 0][j]? = some c → w.cell? ⟨kb, j, none⟩ = some c) (ra : R ab) (rk : R kb) (hi : i.size ≤ 140737488355328) (n c : Nat) : NInR w R (n + 2) (.string Bp.spaceB) (.string lo) (.slice none 0 0) (.slice (some ⟨kb, 0, none⟩) 1 c) (.int .i64 0) (Bp.el lo [Bp.el kw [] [(Bp.idW, i)]] []) := by
  have a0 : w.cell? ⟨ab, 0, none⟩ = some (.string Bp.idW) := ha.cell 0
  have a1 : w.cell? ⟨ab, 1, none⟩ = some (.string i) := ha.cell 1
  have AR : ARowR w R (.slice (some ⟨ab, 0, none⟩) 1 1) [(Bp.idW, i)] := by
    refine ⟨ab, 0, ⟨_, 1, rfl, fun _ => rfl⟩, fun _ => ra, ⟨by simp, att_one (by decide) hi⟩, fun j q hq => ?_⟩
    match j with
    | 0 =>
      cases hq
      exact ⟨a0, a1⟩
    | j + 1 => cases hq
  refine ⟨Bp.spaceB, lo, 0, [], [Bp.el kw [] [(Bp.idW, i)]], rfl, rfl, rfl, rfl, ⟨0, 0, ⟨none, 0, rfl, fun h => absurd h (by decide)⟩, fun h => absurd h (by decide), ⟨by decide, fun p hp => by cases hp⟩, fun j q hq => by simp at hq⟩, kb, 0, ⟨_, c, rfl, fun _ => rfl⟩, fun _ => rk, by simp, fun j K hK => ?_⟩
  match j with
  | 0 =>
    cases hK
    refine ⟨_, _, _, _, _, ⟨hk 0 _ rfl, hk 1 _ rfl, hk 2 _ rfl, hk 3 _ rfl, hk 4 _ rfl⟩, ?_⟩
    exact ⟨Bp.spaceB, kw, 0, [(Bp.idW, i)], [], rfl, rfl, rfl, rfl, AR, 0, 0, ⟨none, 0, rfl, fun h => absurd h (by decide)⟩, fun h => absurd h (by decide), by decide, fun j K hK => by simp at hK⟩
  | j + 1 => cases hK
set_option maxHeartbeats 4000000 in
theorem toBare (w : World) (af ai : Option Addr) (cf ci nf ni : Nat) (x : Mp.Item) (hm : ModelAt w af cf ai ci ⟨[], [x]⟩) (hnf : nf = 0) (hni : ni = 1) (his : Mp.isB ⟨[], [x]⟩ = true) (h1 : 1 ≤ x.kind) (h5 : x.kind < 5) (hr : x.req = false) (he : x.entry = []) (hex : x.exit = []) (hk : Mp.kidsN [x] x.id 1 = []) (hz : x.id.size ≤ 140000000000000) (hok : KindOk w) (n : Nat) :
    Calls Tryz.prog 9 #[.agg #[.slice af nf cf, .slice ai ni ci]] w fun e w' => (∃ c0 c1 c2 c3 c4, e = .returned (.agg #[c0, c1, c2, c3, c4]) ∧ NInR w' (· < w'.heap.size) (n + 2) c0 c1 c2 c3 c4 (Bp.el Bp.caseW [bareEl x] [])) ∧ Below w.heap.size w w' := by
  have HM := hideT hm
  have HK := hideT hk
  have HOK := hideT hok
  have HIS := hideT his
  subst hnf
  subst hni
  obtain ⟨i0, hi0, hz0, hz1, hz2⟩ := info_parts infoN
  obtain ⟨W, hW, BW, zW, LM, LR⟩ : ∃ W, (w.alloc (.cells #[.slice af 0 cf, .slice ai 1 ci] 25)).alloc (.cells #[.string ⟨#[]⟩, .string ⟨#[]⟩, .slice none 0 0, .slice none 0 0, .int .i64 0] 45) = W ∧ Below w.heap.size w W ∧ W.heap.size = w.heap.size + 2 ∧ Lies W w.heap.size 25 #[.slice af 0 cf, .slice ai 1 ci] ∧ Lies W (w.heap.size + 1) 45 #[.string ⟨#[]⟩, .string ⟨#[]⟩, .slice none 0 0, .slice none 0 0, .int .i64 0] := by
    obtain ⟨W1, e1⟩ : ∃ W1, w.alloc (.cells #[.slice af 0 cf, .slice ai 1 ci] 25) = W1 := ⟨_, rfl⟩
    obtain ⟨b1, k1, z1⟩ := of_alloc e1
    obtain ⟨W2, e2⟩ : ∃ W2, W1.alloc (.cells #[.string ⟨#[]⟩, .string ⟨#[]⟩, .slice none 0 0, .slice none 0 0, .int .i64 0] 45) = W2 := ⟨_, rfl⟩
    obtain ⟨b2, k2, z2⟩ := of_alloc e2
    rw [e1, e2]
    rw [z1] at k2 z2
    exact ⟨W2, rfl, b1.trans (b2.mono (by omega)), z2, k1.below b2, k2⟩
  have HW := hideT hW
  have HBW := hideT BW
  have HZW := hideT zW
  have HLM := hideT LM
  have HLR := hideT LR
  have m0 : W.cell? ⟨w.heap.size, 0, none⟩ = some (.slice af 0 cf) := LM.cell 0
  have m1 : W.cell? ⟨w.heap.size, 1, none⟩ = some (.slice ai 1 ci) := LM.cell 1
  clear hm hk hok his hW BW zW LM LR
  go_enter Tryz.func9, Tryz.ntmps9
  go_wp2_with fail
  try rw [HW.out]
  refine (isVV W ⟨[], [x]⟩ af ai cf ci 0 1 (HM.out.below HBW.out) rfl rfl true HIS).mono ?_
  rintro e w1 ⟨rfl, b1⟩
  have LM1 := hideT (HLM.out.below b1)
  have LR1 := hideT (HLR.out.below b1)
  have BW1 := hideT (HBW.out.trans (b1.mono HBW.out.size))
  have q1 := b1.size
  have n0 : w1.cell? ⟨w.heap.size, 0, none⟩ = some (.slice af 0 cf) := LM1.out.cell 0
  clear m0 m1 b1
  go_wp2_with fail
  go_loopw [13, 3] (fun i kv wr => i = .int .i64 0 ∧ kv = .slice none 0 0 ∧ Hid (wr = w1)) (fun i _ _ => 0)
  case atStart => exact ⟨rfl, rfl, rfl⟩
  case round =>
    obtain ⟨rfl, rfl, HWR⟩ := hrel
    have hwr := HWR.out
    subst hwr
    have m0 : wr.cell? ⟨w.heap.size, 0, none⟩ = some (.slice af 0 cf) := LM1.out.cell 0
    have m1 : wr.cell? ⟨w.heap.size, 1, none⟩ = some (.slice ai 1 ci) := LM1.out.cell 1
    go_wp2_with fail
    refine (itemElBare wr af ai cf ci 0 1 [] [x] (HM.out.below BW1.out) rfl rfl x rfl h1 h5 hr he hex HK.out hz (HOK.out.below BW1.out) n).mono ?_
    rintro e w2 ⟨ab, rfl, qa, qb, la, b2⟩
    have LR2 := hideT (LR1.out.below b2)
    have BW2 := hideT (BW1.out.trans (b2.mono BW1.out.size))
    have q2 := b2.size
    have HLA := hideT la
    obtain ⟨kw, hkw⟩ : ∃ y, y = Bp.wordI Bp.kindTbl x.kind := ⟨_, rfl⟩
    have HKW := hideT hkw
    rw [← hkw]
    have HON := hideT (World.ownsRow_nil w2 w2.heap.size 45 5)
    clear m0 m1 n0 hkw la b2
    go_wp2_with (first | (at_builtin; refine wpList_append_lies _ (by rfl) _ _ _ (by rfl) w2.heap.size 45 i0 _ 5 88 Tryz.underlying43 hi0 hz0 hz1 hz2 rfl (by omega) (.slice none 0 0) 0 [] (by rfl) (HON.out.alloc _) ⟨w2.heap.size, 0, none⟩ 1 1 [.string Bp.spaceB, .string kw, .slice (some ⟨ab, 0, none⟩) 1 1, .slice none 0 0, .int .i64 0] (by rfl) (by rfl) (World.news_of_block (cs := #[.string Bp.spaceB, .string kw, .slice (some ⟨ab, 0, none⟩) 1 1, .slice none 0 0, .int .i64 0]) (t := 45) (fr := (0, 0)) (heap_alloc_new w2 _)) (by simp [Value.oneCell']) (by omega) (by unfold maxLen; omega) (by omega) (by first | (simp; done) | (simp; omega)) (w2.heap.size + 1) (by simp) ?_; intro gb cap2 w3 hown hgrow hat hlt3) | fail)
    have bA := (Below.refl w2.heap.size w2).alloc (Nat.le_refl _) (.cells #[.string Bp.spaceB, .string kw, .slice (some ⟨ab, 0, none⟩) 1 1, .slice none 0 0, .int .i64 0] 45)
    have b3 : Below w2.heap.size w2 w3 := bA.grown hgrow bA.size (fun k hk => by cases hk)
    have BW3 := hideT (BW2.out.trans (b3.mono BW2.out.size))
    have HLA3 := hideT (HLA.out.below b3)
    have LR3 := hideT (LR2.out.below b3)
    have KC : Hid (∀ (j : Nat) c, [Value.string Bp.spaceB, .string kw, .slice (some ⟨ab, 0, none⟩) 1 1, .slice none 0 0, .int .i64 0][j]? = some c → w3.cell? ⟨gb, j, none⟩ = some c) := fun j c hc => own_cell hown hc
    have hgb : w2.heap.size ≤ gb := (own_lt hown rfl).2
    clear hown hgrow hat bA b3 hi0 hz0 hz1 hz2
    refine (elementD Bp.caseW (some ⟨gb, 0, none⟩) none 1 cap2 0 0 w3).mono ?_
    rintro e w6 ⟨rfl, b6⟩
    have BW6 := hideT (BW3.out.trans (b6.mono BW3.out.size))
    have LR6 := hideT (LR3.out.below b6)
    have HLA6 := hideT (HLA3.out.below b6)
    have KC6 : Hid (∀ (j : Nat) c, [Value.string Bp.spaceB, .string kw, .slice (some ⟨ab, 0, none⟩) 1 1, .slice none 0 0, .int .i64 0][j]? = some c → w6.cell? ⟨gb, j, none⟩ = some c) := fun j c hc => below_cell b6 _ _ (KC.out j c hc)
    have q6 := b6.size
    have r0 : w6.cell? ⟨w.heap.size + 1, 0, none⟩ = some (.string ⟨#[]⟩) := LR6.out.cell 0
    have r1 : w6.cell? ⟨w.heap.size + 1, 1, none⟩ = some (.string ⟨#[]⟩) := LR6.out.cell 1
    have r2 : w6.cell? ⟨w.heap.size + 1, 2, none⟩ = some (.slice none 0 0) := LR6.out.cell 2
    have r3 : w6.cell? ⟨w.heap.size + 1, 3, none⟩ = some (.slice none 0 0) := LR6.out.cell 3
    have r4 : w6.cell? ⟨w.heap.size + 1, 4, none⟩ = some (.int .i64 0) := LR6.out.cell 4
    have f0 : w6.frozen? ⟨w.heap.size + 1, 0, none⟩ = false := LR6.out.free 0
    have f1 : w6.frozen? ⟨w.heap.size + 1, 1, none⟩ = false := LR6.out.free 1
    have f2 : w6.frozen? ⟨w.heap.size + 1, 2, none⟩ = false := LR6.out.free 2
    have f3 : w6.frozen? ⟨w.heap.size + 1, 3, none⟩ = false := LR6.out.free 3
    have f4 : w6.frozen? ⟨w.heap.size + 1, 4, none⟩ = false := LR6.out.free 4
    clear b6
    go_wp2_with fail
    obtain ⟨X, hX, bX, lX, kX, kc⟩ : ∃ X, ((((w6.setCell ⟨w.heap.size + 1, 0, none⟩ (.string Bp.spaceB)).setCell ⟨w.heap.size + 1, 1, none⟩ (.string Bp.caseW)).setCell ⟨w.heap.size + 1, 2, none⟩ (.slice none 0 0)).setCell ⟨w.heap.size + 1, 3, none⟩ (.slice (some ⟨gb, 0, none⟩) 1 cap2)).setCell ⟨w.heap.size + 1, 4, none⟩ (.int .i64 0) = X ∧ Below w.heap.size w X ∧ Lies X (w.heap.size + 1) 45 #[.string Bp.spaceB, .string Bp.caseW, .slice none 0 0, .slice (some ⟨gb, 0, none⟩) 1 cap2, .int .i64 0] ∧ Lies X ab 66 #[.string Bp.idW, .string x.id] ∧ KeepBut (w.heap.size + 1) w6 X := by
      have hne : ab ≠ w.heap.size + 1 := by have := HZW.out; omega
      exact ⟨_, rfl, (((((BW6.out.setCell (Nat.le_succ _) _).setCell (Nat.le_succ _) _).setCell (Nat.le_succ _) _).setCell (Nat.le_succ _) _).setCell (Nat.le_succ _) _), (((((LR6.out.set 0 _).set 1 _).set 2 _).set 3 _).set 4 _), ((((HLA6.out.off _ _ hne).off _ _ hne).off _ _ hne).off _ _ hne).off _ _ hne, keep_set (keep_set (keep_set (keep_set (keep_set (keep_refl _ _) 0 _) 1 _) 2 _) 3 _) 4 _⟩
    rw [hX]
    have s0 : X.cell? ⟨w.heap.size + 1, 0, none⟩ = some (.string Bp.spaceB) := lX.cell 0
    have s1 : X.cell? ⟨w.heap.size + 1, 1, none⟩ = some (.string Bp.caseW) := lX.cell 1
    have s2 : X.cell? ⟨w.heap.size + 1, 2, none⟩ = some (.slice none 0 0) := lX.cell 2
    have s3 : X.cell? ⟨w.heap.size + 1, 3, none⟩ = some (.slice (some ⟨gb, 0, none⟩) 1 cap2) := lX.cell 3
    have s4 : X.cell? ⟨w.heap.size + 1, 4, none⟩ = some (.int .i64 0) := lX.cell 4
    refine bodyPost_ret (v := .agg #[.string Bp.spaceB, .string Bp.caseW, .slice none 0 0, .slice (some ⟨gb, 0, none⟩) 1 cap2, .int .i64 0]) (by simp [results, Tryz.results9, go_sem, s0, s1, s2, s3, s4]) rfl ⟨⟨_, _, _, _, _, rfl, ?_⟩, bX⟩
    have kcc : ∀ (j : Nat) c, [Value.string Bp.spaceB, .string kw, .slice (some ⟨ab, 0, none⟩) 1 1, .slice none 0 0, .int .i64 0][j]? = some c → X.cell? ⟨gb, j, none⟩ = some c := fun j c hc => kc _ _ (by show gb ≠ _; have := HZW.out; omega) (KC6.out j c hc)
    have := one_named (R := (· < X.heap.size)) (lo := Bp.caseW) kX kcc kX.lt (cell_lt (kcc 0 _ rfl)) (by omega) n cap2
    unfold bareEl
    rw [← HKW.out]
    exact this
end Go.Proofs.YtjfonpbnohbpfaaGreatDoor
