/-
  The program's item, of kinds other than Timer.
-/
import Derived.Test.YtjfonpbnohbpfaaGreatDoorBHead
import Derived.Test.YtjfonpbnohbpfaaGreatDoorBTab
import Derived.Test.YtjfonpbnohbpfaaGreatDoorBPush
import Derived.Deep.RegionLaw
set_option linter.unusedSimpArgs false
set_option linter.unusedVariables false
namespace Go.Proofs.YtjfonpbnohbpfaaGreatDoor
open Go.RowKit
set_option maxRecDepth 100000
theorem itemAloneD (w : World) (sp lo v : Value) (a3 : Option Addr) (n3 m3 : Nat) (p : Int) (l : List Att) (h : ARow w v l) (kind : Int) (hk : kind ≠ 5) :
    Calls Tryz.prog 155 #[.agg #[sp, lo, v, .slice a3 n3 m3, .int .i64 p], .int .i64 kind] w (HPost l kind w) := by
  by_cases hr : 0 ≤ Bp.atZ l Bp.reqW
  · exact itemAloneB w sp lo v a3 n3 m3 p l h kind hk hr
  · exact itemAloneA w sp lo v a3 n3 m3 p l h kind hk hr
theorem infoIt : (Tryz.prog.info? 31).map (fun i => (i.zero, i.size, i.bytes)) = some (some (.agg #[.string ⟨#[]⟩, .int .i64 0, .string ⟨#[]⟩, .bool false, .int .i64 0, .slice none 0 0, .slice none 0 0]), 7, 104) := by kernel_rfl
theorem Fit.push {M : Nat} {s : Bp.BS} (h : Fit M s) (x : Mp.Item) (h5 : x.entry = []) (h6 : x.exit = []) (p : ByteArray) : Fit (M + 1) ⟨s.files, s.items ++ [x], p⟩ := by
  refine ⟨Nat.le_succ_of_le h.1, by simp; exact h.2.1, fun y hy => ?_⟩
  rcases List.mem_append.1 hy with hy | hy
  · exact ⟨Nat.le_succ_of_le (h.2.2 y hy).1, Nat.le_succ_of_le (h.2.2 y hy).2⟩
  · rw [List.mem_singleton.1 hy, h5, h6]
    exact ⟨Nat.zero_le _, Nat.zero_le _⟩
theorem BMem.grewI {B b : Nat} {U W w3 : World} {Q : Nat → Prop} {s : Bp.BS} {fv iv o1 o2 : Value} {at_ : Int} {C : List (List Value)} (h : BMem B b U Q s fv iv o1 o2 at_ C) (hB : Below U.heap.size U W) (hg : W.grownBy w3 iv.ownBlock) :
    Lies w3 b 61 #[fv, iv, .string s.parent, o1, o2, .int .i64 at_] ∧ (∀ k, outQ U b fv iv k → w3.heap[k]? = U.heap[k]?) ∧ (∀ g, fv.ownBlock = some g → w3.heap[g]? = U.heap[g]?) ∧ U.heap.size ≤ w3.heap.size := by
  refine ⟨(h.lies.below hB).keep (Keep.grown hg) (own_ne (own_below h.items hB) (h.lies.below hB) (by decide)), fun k hk => ?_, fun g hf => ?_, Nat.le_trans hB.size hg.size⟩
  · rw [hg.block k (Nat.lt_of_lt_of_le hk.1 hB.size) (fun e => hk.2.2.2 e.symm), hB.block k hk.1]
  · have := (own_lt h.files hf).1
    rw [hg.block g (Nat.lt_of_lt_of_le this hB.size) (fun e => own_ne2 h.items h.files (by decide) g e.symm hf), hB.block g this]
theorem BMem.pushed {B b : Nat} {U W w3 : World} {Q : Nat → Prop} {s : Bp.BS} {fv iv o1 o2 : Value} {at_ : Int} {C : List (List Value)} {g cap : Nat} (h : BMem B b U Q s fv iv o1 o2 at_ C) (hB : Below U.heap.size U W) (hg : W.grownBy w3 iv.ownBlock) (hat : iv.ownBlock = some g ∨ U.heap.size ≤ g) (x : Mp.Item) (h5 : x.entry = []) (h6 : x.exit = []) (hx : x.id.size ≤ 140737488355328 ∧ x.parent.size ≤ 140737488355328)
    (hown : w3.ownsRow B 31 7 (.slice (some ⟨g, 0, none⟩) (s.items.length + 1) cap) (s.items.length + 1) (C.flatten ++ itemC x nilS nilS)) (hM : ∀ y ∈ s.items, y.entry.length ≤ 10000000000000 ∧ y.exit.length ≤ 10000000000000) :
    BMem B b ((w3.setCell ⟨b, 1, none⟩ (.slice (some ⟨g, 0, none⟩) (s.items.length + 1) cap)).setCell ⟨b, 2, none⟩ (.string x.id)) (outQ U b fv iv) ⟨s.files, s.items ++ [x], x.id⟩ fv (.slice (some ⟨g, 0, none⟩) (s.items.length + 1) cap) o1 o2 at_ (C ++ [itemC x nilS nilS]) := by
  obtain ⟨g1, g2, g3, g4⟩ := h.grewI hB hg
  have hl1 := g1.set 1 (.slice (some ⟨g, 0, none⟩) (s.items.length + 1) cap)
  refine h.push x h5 h6 hx (hl1.set 2 (.string x.id)) (own_off (own_off hown g1 (by decide) _ _) hl1 (by decide) _ _) (fun k hk => ?_) (fun k hk => ?_) (fun k hk e => ?_) (by simpa [World.setCell] using g4) hM
  · rw [Below.heap_setCell _ _ _ _ hk.2.1, Below.heap_setCell _ _ _ _ hk.2.1, g2 k hk]
  · have hne : k ≠ b := fun e => own_ne h.files h.lies (by decide) (by rw [← e]; exact hk)
    rw [Below.heap_setCell _ _ _ _ hne, Below.heap_setCell _ _ _ _ hne, g3 k hk]
  · obtain rfl : g = k := Option.some.inj e
    rcases hat with hat | hat
    · exact hat
    · omega
theorem TQ.setB {w w' : World} {Q Q' : Nat → Prop} {b : Nat} (h : TQ w Q w' Q') (hb : ∀ k, Q k → k ≠ b) (j : Nat) (u : Value) : TQ w Q (w'.setCell ⟨b, j, none⟩ u) Q :=
  ⟨h.os, h.tape, h.output, by simpa [World.setCell] using h.size, fun k hk => ⟨(Below.heap_setCell _ _ _ _ (hb k hk)).trans (h.keep k hk).1, hk⟩⟩
theorem Fault.set {b : Nat} {w : World} {q : Int} (h : Fault b w q) (u : Value) : Fault b (w.setCell ⟨b, 2, none⟩ u) q := by
  obtain ⟨c0, c1, c2, c3, c4, h⟩ := h
  exact ⟨c0, c1, u, c3, c4, h.set 2 u⟩
set_option maxHeartbeats 4000000 in
theorem itemD (b B d lim M : Nat) (kind : Int) (hk : kind ≠ 5) (T : Tr) (s : Bp.BS) (tbl : Bp.Tab Bp.BS) (w : World) (Q : Nat → Prop) (h : BIn B b M w Q s) (n0 n1 n2 n3 n4 : Value) (hT : NInR w Q (d + 1) n0 n1 n2 n3 n4 T) (hM : M + (1 + tot d (Bp.klT T)) ≤ lim) (hlim : lim ≤ 1000000) (tv : Value) (tab : List Ent) (htab : RowQ 3 tabR w Q tv tab)
    (hkids : ∀ w' Q' s', BIn B b (M + 1) w' Q' s' → NInR w' Q' (d + 1) n0 n1 n2 n3 n4 T → RowQ 3 tabR w' Q' tv tab → Calls Tryz.prog 45 #[.pointer (some ⟨b, 0, none⟩), .agg #[n0, n1, n2, n3, n4], tv] w' (BPost b w' Q' (BIn B b (M + (1 + tot d (Bp.klT T)))) (Bp.kids tbl 0 s' (Bp.klT T)))) :
    Calls Tryz.prog 135 #[.pointer (some ⟨b, 0, none⟩), .agg #[n0, n1, n2, n3, n4], .int .i64 kind, tv] w (BPost b w Q (BIn B b (M + (1 + tot d (Bp.klT T)))) (Bp.itemG tbl kind s T)) := by
  obtain ⟨sp, lo, a2, l2, m2, a3, l3, m3, p, rfl, rfl, rfl, rfl, rfl, _, _, hap⟩ := hT.five
  obtain ⟨tao, tcap, tb, tz, rfl, _⟩ := tab_at htab
  have HAT := hideT hT.attrs
  have HT := hideT hT
  have HTAB := hideT htab
  have HK := hideT hkids
  have SX := hideT h.six
  have HBI := hideT h
  have HAP := hideT hap
  obtain ⟨i0, hi0, hz0, hz1, hz2⟩ := info_parts infoIt
  obtain ⟨W1, hW1, B1, L1⟩ : ∃ W1, w.alloc (.cells #[.string sp, .string lo, .slice a2 l2 m2, .slice a3 l3 m3, .int .i64 p] 45) = W1 ∧ Below w.heap.size w W1 ∧ Lies W1 w.heap.size 45 #[.string sp, .string lo, .slice a2 l2 m2, .slice a3 l3 m3, .int .i64 p] := ⟨_, rfl, (Below.refl _ w).alloc (Nat.le_refl _) _, Lies.new w _ _⟩
  have HB1 := hideT B1
  have HL1 := hideT L1
  have HW1 := hideT hW1
  have x0 : W1.cell? ⟨w.heap.size, 0, none⟩ = some (.string sp) := L1.cell 0
  have x1 : W1.cell? ⟨w.heap.size, 1, none⟩ = some (.string lo) := L1.cell 1
  have x2 : W1.cell? ⟨w.heap.size, 2, none⟩ = some (.slice a2 l2 m2) := L1.cell 2
  have x3 : W1.cell? ⟨w.heap.size, 3, none⟩ = some (.slice a3 l3 m3) := L1.cell 3
  have x4 : W1.cell? ⟨w.heap.size, 4, none⟩ = some (.int .i64 p) := L1.cell 4
  clear hT htab hkids h hap B1 L1
  go_enter Tryz.func135, Tryz.ntmps135
  go_wp2_with fail
  try rw [HW1.out]
  refine (itemAloneD W1 _ _ _ a3 l3 m3 p (Bp.alT T) (HAT.out.below' HB1.out) kind hk).mono ?_
  rintro e w2 ⟨rfl, hidz, b2⟩
  have hW1 := HW1.out
  clear hW1 HW1
  obtain ⟨idv, hid⟩ : ∃ x, Bp.headI (Bp.alT T) kind = x := ⟨_, rfl⟩
  obtain ⟨⟨tk, rk, okk⟩, hS⟩ : ∃ x, Bp.headS (Bp.alT T) kind = x := ⟨_, rfl⟩
  rw [hid] at hidz
  rw [hid, hS]
  dsimp only
  have B2 := hideT (HB1.out.trans (b2.mono HB1.out.size))
  have L2 := hideT (HL1.out.below b2)
  have T2 := hideT (TQ.fresh B2.out (fun k hk => (SX.out.2 k hk).1))
  have I2 := hideT (HBI.out.fresh B2.out)
  clear x0 x1 x2 x3 x4 b2
  cases okk with
  | false =>
    have HF : Hid (Bp.itemG tbl kind s T = .error p) := by
      show _ = _
      unfold Bp.itemG Bp.head
      rw [hS, if_neg (show ¬ (false = true) by decide), HAP.out]
    obtain ⟨U, hU, BU, LU⟩ : ∃ U, w2.alloc (.cells #[.string idv, .int .i64 kind, .string ⟨#[]⟩, .bool rk, .int .i64 tk, .slice none 0 0, .slice none 0 0] 31) = U ∧ Below w2.heap.size w2 U ∧ Lies U w2.heap.size 31 #[.string idv, .int .i64 kind, .string ⟨#[]⟩, .bool rk, .int .i64 tk, .slice none 0 0, .slice none 0 0] := ⟨_, rfl, (Below.refl _ w2).alloc (Nat.le_refl _) _, Lies.new w2 _ _⟩
    have LN := L2.out.below BU
    have y0 : U.cell? ⟨w.heap.size, 0, none⟩ = some (.string sp) := LN.cell 0
    have y1 : U.cell? ⟨w.heap.size, 1, none⟩ = some (.string lo) := LN.cell 1
    have y2 : U.cell? ⟨w.heap.size, 2, none⟩ = some (.slice a2 l2 m2) := LN.cell 2
    have y3 : U.cell? ⟨w.heap.size, 3, none⟩ = some (.slice a3 l3 m3) := LN.cell 3
    have y4 : U.cell? ⟨w.heap.size, 4, none⟩ = some (.int .i64 p) := LN.cell 4
    have TU := hideT (T2.out.trans (TQ.fresh BU (fun k hk => (I2.out.six.2 k hk).1)))
    have SU := hideT (I2.out.fresh BU).six
    clear BU LU LN hid hS
    subst hU
    go_wp2_with fail
    refine (faultD _ _ b _ _ _ _ p SU.out).mono ?_
    rintro e w3 ⟨rfl, t3, f3⟩
    go_wp2_with fail
    go_ret
    exact BPost.err (TU.out.trans t3) f3 HF.out
  | true =>
    have HH : Hid (Bp.head (Bp.alT T) kind = some (idv, tk, rk)) := by
      show _ = _
      unfold Bp.head
      rw [hS, hid, if_pos rfl]
    obtain ⟨U, hU, BU, LU⟩ : ∃ U, w2.alloc (.cells #[.string idv, .int .i64 kind, .string ⟨#[]⟩, .bool rk, .int .i64 tk, .slice none 0 0, .slice none 0 0] 31) = U ∧ Below w2.heap.size w2 U ∧ Lies U w2.heap.size 31 #[.string idv, .int .i64 kind, .string ⟨#[]⟩, .bool rk, .int .i64 tk, .slice none 0 0, .slice none 0 0] := ⟨_, rfl, (Below.refl _ w2).alloc (Nat.le_refl _) _, Lies.new w2 _ _⟩
    have hpu : U.cell? ⟨b, 2, none⟩ = some (.string s.parent) := by
      obtain ⟨_, _, _, _, _, _, _, m0⟩ := I2.out.fresh BU
      exact m0.lies.cell 2
    clear BU LU hid hS
    subst hU
    go_wp2_with fail
    clear hpu
    generalize hV : w2.alloc _ = V
    obtain ⟨BV, LV, zV⟩ := of_alloc hV
    have TV := hideT (T2.out.trans (TQ.fresh BV (fun k hk => (I2.out.six.2 k hk).1)))
    obtain ⟨hfit, fv, iv, o1, o2, at_, C, mem⟩ := I2.out.fresh BV
    obtain ⟨ia, ic, rfl⟩ := slice_form mem.items
    have v1 : V.cell? ⟨b, 1, none⟩ = some (.slice ia s.items.length ic) := mem.lies.cell 1
    have i0' : V.cell? ⟨w2.heap.size, 0, none⟩ = some (.string idv) := LV.cell 0
    have i1' : V.cell? ⟨w2.heap.size, 1, none⟩ = some (.int .i64 kind) := LV.cell 1
    have i2' : V.cell? ⟨w2.heap.size, 2, none⟩ = some (.string s.parent) := LV.cell 2
    have i3' : V.cell? ⟨w2.heap.size, 3, none⟩ = some (.bool rk) := LV.cell 3
    have i4' : V.cell? ⟨w2.heap.size, 4, none⟩ = some (.int .i64 tk) := LV.cell 4
    have i5' : V.cell? ⟨w2.heap.size, 5, none⟩ = some (.slice none 0 0) := LV.cell 5
    have i6' : V.cell? ⟨w2.heap.size, 6, none⟩ = some (.slice none 0 0) := LV.cell 6
    have fb1 : V.frozen? ⟨b, 1, none⟩ = false := mem.lies.free 1
    have MEM := hideT mem
    have lb := mem.lies.lt
    have li := LV.lt
    have FIT := hideT hfit
    have hn := hfit.2.1
    have LVh := hideT LV
    have LNh := hideT (L2.out.below BV)
    have hpar := mem.par
    have hbV : B ≤ V.heap.size := by have := mem.bB; have := mem.lies.lt; omega
    have hms : ∀ y ∈ s.items, y.entry.length ≤ 10000000000000 ∧ y.exit.length ≤ 10000000000000 := fun y hy => by have := hfit.2.2 y hy; omega
    have HMS := hideT hms
    clear LV BV mem hfit hms hV zV
    have HOWN := hideT MEM.out.items
    go_region_law
      ((refine step_append_lies _ (by rfl) _ _ _ (by rfl) B 31 i0 _ 7 104 Tryz.underlying23 hi0 hz0 hz1 hz2 rfl (by omega) (.slice ia s.items.length ic) s.items.length C.flatten (by rfl) ((HOWN.out.alloc _).drew) ⟨V.heap.size, 0, none⟩ 1 1 [.string idv, .int .i64 kind, .string s.parent, .bool rk, .int .i64 tk, .slice none 0 0, .slice none 0 0] (by rfl) (by rfl) (World.news_of_block (cs := #[.string idv, .int .i64 kind, .string s.parent, .bool rk, .int .i64 tk, .slice none 0 0, .slice none 0 0]) (t := 31) (fr := (0, 0)) (heap_alloc_new V _)) (by simp [Value.oneCell']) (by omega) (by unfold maxLen; omega) (by omega) (by first | (simp; done) | (simp; omega)) (V.heap.size + 1) (by simp) ?_; intro g cap2 w3 hown hgrow hat hlt; obtain ⟨g1, g2, g3, g4⟩ := MEM.out.grewI (((Below.refl _ V).alloc (Nat.le_refl _) _).drew) hgrow; have y1 : w3.cell? ⟨b, 1, none⟩ = some (.slice ia s.items.length ic) := g1.cell 1; have z1 : w3.frozen? ⟨b, 1, none⟩ = false := g1.free 1))
    all_goals
      have PM := hideT (MEM.out.pushed (((Below.refl _ V).alloc (Nat.le_refl _) _).drew) hgrow (hat.imp id (fun e => by omega)) ⟨idv, kind, s.parent, rk, tk, [], []⟩ rfl rfl ⟨hidz, hpar⟩ hown HMS.out)
      have FP := hideT (FIT.out.push ⟨idv, kind, s.parent, rk, tk, [], []⟩ rfl rfl idv)
      have OI : Hid (outQ V b fv (.slice ia s.items.length ic) w2.heap.size) := MEM.out.quiet _ (.inr ⟨Nat.le_refl _, li⟩)
      have ON : Hid (outQ V b fv (.slice ia s.items.length ic) w.heap.size) := MEM.out.quiet _ (.inl (.inr ⟨Nat.le_refl _, L2.out.lt⟩))
      have LX := hideT (g1.set 1 (.slice (some ⟨g, 0, none⟩) (s.items.length + 1) cap2))
      have TX : Hid (TQ w Q ((w3.setCell ⟨b, 1, none⟩ (.slice (some ⟨g, 0, none⟩) (s.items.length + 1) cap2)).setCell ⟨b, 2, none⟩ (.string idv)) (outQ V b fv (.slice ia s.items.length ic))) := TV.out.trans ⟨hgrow.os, hgrow.tape, hgrow.output, (by simpa [World.setCell] using g4), fun k hk => ⟨(Below.heap_setCell _ _ _ _ (MEM.out.quiet k hk).2.1).trans ((Below.heap_setCell _ _ _ _ (MEM.out.quiet k hk).2.1).trans (g2 k (MEM.out.quiet k hk))), MEM.out.quiet k hk⟩⟩
      have e0 : (w3.setCell ⟨b, 1, none⟩ (.slice (some ⟨g, 0, none⟩) (s.items.length + 1) cap2)).cell? ⟨w2.heap.size, 0, none⟩ = some (.string idv) := by
        rw [World.cell?_of_block (w := V) (a := ⟨w2.heap.size, 0, none⟩) ((Below.heap_setCell _ _ _ _ OI.out.2.1).trans (g2 _ OI.out))]
        exact LVh.out.cell 0
      have NX : Hid (∀ j, ((w3.setCell ⟨b, 1, none⟩ (.slice (some ⟨g, 0, none⟩) (s.items.length + 1) cap2)).setCell ⟨b, 2, none⟩ (.string idv)).cell? ⟨w.heap.size, j, none⟩ = V.cell? ⟨w.heap.size, j, none⟩) := fun j => World.cell?_of_block (w := V) (a := ⟨w.heap.size, j, none⟩) ((Below.heap_setCell _ _ _ _ ON.out.2.1).trans ((Below.heap_setCell _ _ _ _ ON.out.2.1).trans (g2 _ ON.out)))
      obtain ⟨X0, hX0⟩ : ∃ X0, w3.setCell ⟨b, 1, none⟩ (.slice (some ⟨g, 0, none⟩) (s.items.length + 1) cap2) = X0 := ⟨_, rfl⟩
      rw [hX0] at PM LX TX e0 NX ⊢
      obtain ⟨X, hX⟩ : ∃ X, X0.setCell ⟨b, 2, none⟩ (.string idv) = X := ⟨_, rfl⟩
      rw [hX] at TX NX
      have PX : Hid (BMem B b X (outQ V b fv (.slice ia s.items.length ic)) ⟨s.files, s.items ++ [⟨idv, kind, s.parent, rk, tk, [], []⟩], idv⟩ fv (.slice (some ⟨g, 0, none⟩) (s.items.length + 1) cap2) o1 o2 at_ (C ++ [itemC ⟨idv, kind, s.parent, rk, tk, [], []⟩ nilS nilS])) := by rw [← hX]; exact PM.out
      have e2 : X0.cell? ⟨b, 2, none⟩ = some (.string s.parent) := LX.out.cell 2
      have e3 : X0.frozen? ⟨b, 2, none⟩ = false := LX.out.free 2
      have n0' : X.cell? ⟨w.heap.size, 0, none⟩ = some (.string sp) := (NX.out 0).trans (LNh.out.cell 0)
      have n1' : X.cell? ⟨w.heap.size, 1, none⟩ = some (.string lo) := (NX.out 1).trans (LNh.out.cell 1)
      have n2' : X.cell? ⟨w.heap.size, 2, none⟩ = some (.slice a2 l2 m2) := (NX.out 2).trans (LNh.out.cell 2)
      have n3' : X.cell? ⟨w.heap.size, 3, none⟩ = some (.slice a3 l3 m3) := (NX.out 3).trans (LNh.out.cell 3)
      have n4' : X.cell? ⟨w.heap.size, 4, none⟩ = some (.int .i64 p) := (NX.out 4).trans (LNh.out.cell 4)
      clear hX0 hown hgrow hat hlt g1 g2 g3 g4 y1 z1 PM v1 i0' i1' i2' i3' i4' i5' i6' fb1 hi0 hz0 hz1 hz2
      go_wp2_with fail
      refine (HK.out X _ (Bp.put s kind (idv, tk, rk)) ⟨FP.out, _, _, _, _, _, _, PX.out⟩ (TX.out.tree HT.out) (tab_tq HTAB.out TX.out)).mono ?_
      rintro e w5 ⟨Q3, t3, ok3, er3⟩
      cases hr : Bp.kids tbl 0 (Bp.put s kind (idv, tk, rk)) (Bp.klT T) with
        | error q =>
          have HF : Hid (Bp.itemG tbl kind s T = .error q) := by
            show _ = _
            unfold Bp.itemG
            rw [HH.out]
            simp only [hr]
          obtain ⟨rfl, fe⟩ := er3 q hr
          have FE := hideT fe
          obtain ⟨c0, c1, c2, c3, c4, fl⟩ := fe
          have k2 : w5.cell? ⟨b, 2, none⟩ = some c2 := fl.cell 2
          have k3 : w5.frozen? ⟨b, 2, none⟩ = false := fl.free 2
          have TE := hideT ((TX.out.trans t3).setB (fun k hk => (SX.out.2 k hk).2) 2 (.string s.parent))
          clear n0' n1' n2' n3' n4' e0 e2 e3 t3 ok3 er3 hr fl
          go_wp2_with fail
          go_ret
          exact BPost.err TE.out (FE.out.set _) HF.out
        | ok s' =>
          have HF : Hid (Bp.itemG tbl kind s T = .ok { s' with parent := s.parent }) := by
            show _ = _
            unfold Bp.itemG
            rw [HH.out]
            simp only [hr]
          obtain ⟨rfl, hf', fv', iv', o1', o2', at', C', m'⟩ := ok3 s' hr
          have k2 : w5.cell? ⟨b, 2, none⟩ = some (.string s'.parent) := m'.lies.cell 2
          have k3 : w5.frozen? ⟨b, 2, none⟩ = false := m'.lies.free 2
          have MP := hideT (m'.parent s.parent hpar)
          have FF : Hid (Fit (M + (1 + tot d (Bp.klT T))) { s' with parent := s.parent }) := hf'
          have TE := hideT ((TX.out.trans t3).trans (TQ.of_keep (S := (· = b)) (Keep.set w5 ⟨b, 2, none⟩ (.string s.parent) rfl) (fun k hk => ⟨(m'.quiet k hk).1, (m'.quiet k hk).2.1⟩) (fun k hk => hk)))
          clear n0' n1' n2' n3' n4' e0 e2 e3 t3 ok3 er3 hr m' hf'
          go_wp2_with fail
          go_ret
          exact BPost.ok TE.out ⟨FF.out, _, _, _, _, _, _, MP.out⟩ HF.out
end Go.Proofs.YtjfonpbnohbpfaaGreatDoor
