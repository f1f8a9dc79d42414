/-
  The program's rest: what stands behind an element's attributes.
-/
import Derived.Test.YtimecocegnnjjaaDoorDWithin2
set_option linter.unusedSimpArgs false
set_option linter.unusedVariables false
namespace Go.Proofs.YtimecocegnnjjaaDoor
open Go.RowKit
theorem inTurn4 (P X : Value) (gs c f0 f1 f2 f3 : Nat) (C : Array Value) (t : TypeId) (hC : C = #[meth f0 P, meth f1 P, meth f2 P, meth f3 P]) (J0 J1 J2 J3 J4 F : World → Prop) (e0 : Enters Tryd.prog f0) (e1 : Enters Tryd.prog f1) (e2 : Enters Tryd.prog f2) (e3 : Enters Tryd.prog f3)
    (h0 : ∀ w, Lies w gs t C → J0 w → Calls Tryd.prog f0 #[P] w (Told (fun w' => Lies w' gs t C ∧ J1 w') F)) (h1 : ∀ w, Lies w gs t C → J1 w → Calls Tryd.prog f1 #[P] w (Told (fun w' => Lies w' gs t C ∧ J2 w') F))
    (h2 : ∀ w, Lies w gs t C → J2 w → Calls Tryd.prog f2 #[P] w (Told (fun w' => Lies w' gs t C ∧ J3 w') F)) (h3 : ∀ w, Lies w gs t C → J3 w → Calls Tryd.prog f3 #[P] w (Told J4 F)) (w : World) (hl : Lies w gs t C) (hJ : J0 w) :
    Calls Tryd.prog 14 #[X, .slice (some ⟨gs, 0, none⟩) 4 c] w (Told J4 F) := by
  refine inTurnD P X gs 4 c (fun i => match i with | 0 => f0 | 1 => f1 | 2 => f2 | _ => f3) (fun i w => match i with | 0 => Lies w gs t C ∧ J0 w | 1 => Lies w gs t C ∧ J1 w | 2 => Lies w gs t C ∧ J2 w | 3 => Lies w gs t C ∧ J3 w | _ => J4 w) F (by decide) ?_ ?_ ?_ w ⟨hl, hJ⟩
  · intro i hi
    obtain rfl | rfl | rfl | rfl : i = 0 ∨ i = 1 ∨ i = 2 ∨ i = 3 := by omega
    · exact e0
    · exact e1
    · exact e2
    · exact e3
  · intro i w' hi hI
    obtain rfl | rfl | rfl | rfl : i = 0 ∨ i = 1 ∨ i = 2 ∨ i = 3 := by omega
    all_goals rw [hI.1.cell, hC]
    all_goals rfl
  · intro i w' hi hI
    obtain rfl | rfl | rfl | rfl : i = 0 ∨ i = 1 ∨ i = 2 ∨ i = 3 := by omega
    · exact h0 w' hI.1 hI.2
    · exact h1 w' hI.1 hI.2
    · exact h2 w' hI.1 hI.2
    · exact h3 w' hI.1 hI.2
theorem inTurn3 (P X : Value) (gs c f0 f1 f2 : Nat) (C : Array Value) (t : TypeId) (hC : C = #[meth f0 P, meth f1 P, meth f2 P]) (J0 J1 J2 J4 F : World → Prop) (e0 : Enters Tryd.prog f0) (e1 : Enters Tryd.prog f1) (e2 : Enters Tryd.prog f2)
    (h0 : ∀ w, Lies w gs t C → J0 w → Calls Tryd.prog f0 #[P] w (Told (fun w' => Lies w' gs t C ∧ J1 w') F)) (h1 : ∀ w, Lies w gs t C → J1 w → Calls Tryd.prog f1 #[P] w (Told (fun w' => Lies w' gs t C ∧ J2 w') F))
    (h2 : ∀ w, Lies w gs t C → J2 w → Calls Tryd.prog f2 #[P] w (Told J4 F)) (w : World) (hl : Lies w gs t C) (hJ : J0 w) :
    Calls Tryd.prog 14 #[X, .slice (some ⟨gs, 0, none⟩) 3 c] w (Told J4 F) := by
  refine inTurnD P X gs 3 c (fun i => match i with | 0 => f0 | 1 => f1 | _ => f2) (fun i w => match i with | 0 => Lies w gs t C ∧ J0 w | 1 => Lies w gs t C ∧ J1 w | 2 => Lies w gs t C ∧ J2 w | _ => J4 w) F (by decide) ?_ ?_ ?_ w ⟨hl, hJ⟩
  · intro i hi
    obtain rfl | rfl | rfl : i = 0 ∨ i = 1 ∨ i = 2 := by omega
    · exact e0
    · exact e1
    · exact e2
  · intro i w' hi hI
    obtain rfl | rfl | rfl : i = 0 ∨ i = 1 ∨ i = 2 := by omega
    all_goals rw [hI.1.cell, hC]
    all_goals rfl
  · intro i w' hi hI
    obtain rfl | rfl | rfl : i = 0 ∨ i = 1 ∨ i = 2 := by omega
    · exact h0 w' hI.1 hI.2
    · exact h1 w' hI.1 hI.2
    · exact h2 w' hI.1 hI.2
/-- What stands behind an element's attributes. -/
def Xp.rest (m : Nat) (s : List UInt8) (nm : ByteArray) (l : List Xp.Att) (p j n : Nat) : Except (Nat × Nat) (Tr × Nat × Nat) :=
  if Xp.hasL s j [47, 62] = true then .ok (Xp.mkT nm l [] p, j + 2, n) else if Xp.hasL s j [62] = true then (match Xp.kids m s nm.data.toList (j + 1) n [] with | .error e => .error e | .ok (ks, i, n') => .ok (Xp.mkT nm l ks p, i, n')) else .error (j, 2)
theorem enterWi : Enters Tryd.prog 47 := enters_of Tryd.func47 (by kernel_rfl) rfl
theorem enterEt : Enters Tryd.prog 48 := enters_of Tryd.func48 (by kernel_rfl) rfl
theorem enterSh : Enters Tryd.prog 46 := enters_of Tryd.func46 (by kernel_rfl) rfl
/-- How an element is ended: from each world in which it stands whole. -/
def Shuts (w : World) (m b H : Nat) (s nm : ByteArray) (p : Nat) (vo o0 o1 o2 o3 av : Value) (L : List Quad) (l : List (ByteArray × ByteArray)) (Post : World → Tr → Nat → Nat → Prop) : Prop :=
  ∀ (w' : World) (k n' : Nat) (ks : List Tr) (vo' kv' : Value), Keep (SA b vo nilS) w w' → PIn w' b s k 0 ⟨vo', n', o0, o1, o2, o3⟩ → w'.ownsRow H 25 4 vo' (L.length + 1) (flatE (L ++ [(.string nm, av, kv', .int .i64 p)])) → AOwn w' H av l →
    KRow w' H (Quiet w.heap.size w' vo' kv') m kv' ks → Grew w vo vo' → Grew w nilS kv' → (∀ g, vo'.ownBlock = some g → kv'.ownBlock ≠ some g) → k ≤ s.size → n' ≤ 400 → ks.length ≤ n' →
    Calls Tryd.prog 46 #[ptr b] w' fun e w'' => e = .returned (.bool true) ∧ Post w'' (Xp.mkT nm l ks p) k n'
set_option maxHeartbeats 2000000 in
theorem restD (m : Nat) (hE : ElemIn m) (w : World) (b H : Nat) (s nm : ByteArray) (p j n : Nat) (vo o0 o1 o2 o3 av : Value) (L : List Quad) (l : List (ByteArray × ByteArray)) (Post : World → Tr → Nat → Nat → Prop) (hs : s.size ≤ 1000000) (hp : j ≤ s.size) (hL : L.length + 1 + m = 12) (hn : n ≤ 400) (hw : Ok w) (hoff : Off b) (hO : ∀ k, H ≤ k → Off k) (hH : H ≤ w.heap.size)
    (h : PIn w b s j 0 ⟨vo, n, o0, o1, o2, o3⟩) (ho : w.ownsRow H 25 4 vo (L.length + 1) (flatE (L ++ [(.string nm, av, nilS, .int .i64 p)]))) (ha : AOwn w H av l) (hsh : Shuts w m b H s nm p vo o0 o1 o2 o3 av L l Post) :
    Calls Tryd.prog 30 #[ptr b] w (Told
      (fun w' => ∃ (T : Tr) (k n' : Nat), Xp.rest m s.data.toList nm l p j n = .ok (T, k, n') ∧ Post w' T k n')
      (fun w' => ∃ q e : Nat, Xp.rest m s.data.toList nm l p j n = .error (q, e) ∧ Keep (SA b vo nilS) w w' ∧ ∃ R', PIn w' b s q e R')) := by
  have hmf : ∀ (fn : Fn) (first cap : Array Value) (w : World), (Instr.makeFunc fn first cap).run Tryd.prog w = .ok (.func fn first cap) w := fun _ _ _ _ => rfl
  have HP := hideT h
  have HO := hideT ho
  have HA := hideT ha
  have HS := hideT hsh
  have HWW := hideT hw
  have HOO := hideT hO
  have HEE := hideT hE
  have hbl : b < w.heap.size := Lies.lt h
  have hne : vo.ownBlock ≠ some b := own_ne ho h (by decide)
  have hab : av.ownBlock ≠ some b := own_ne ha.1 h (by decide)
  obtain ⟨v1, V1⟩ : ∃ v, Hid (Xp.hasL s.data.toList j (⟨#[47, 62]⟩ : ByteArray).data.toList = v) := ⟨_, rfl⟩
  obtain ⟨v2, V2⟩ : ∃ v, Hid (Xp.hasL s.data.toList j (⟨#[62]⟩ : ByteArray).data.toList = v) := ⟨_, rfl⟩
  have HR : Hid (Xp.rest m s.data.toList nm l p j n = if v1 = true then .ok (Xp.mkT nm l [] p, j + 2, n) else if v2 = true then (match Xp.kids m s.data.toList nm.data.toList (j + 1) n [] with | .error e => .error e | .ok (ks, i, n') => .ok (Xp.mkT nm l ks p, i, n')) else .error (j, 2)) := by
    show _ = _
    unfold Xp.rest
    rw [show Xp.hasL s.data.toList j [47, 62] = v1 from V1.out, show Xp.hasL s.data.toList j [62] = v2 from V2.out]
  clear h ho ha hsh hw hO hE
  cases v1
  case true =>
    have hj2 : j + 2 ≤ s.size := Xp.has_room V1.out (by decide)
    go_enter Tryd.func30, Tryd.ntmps30
    go_wp2_with fail
    refine (aheadD w b s ⟨#[47, 62]⟩ j 0 _ true hs hp HP.out V1).mono ?_
    rintro e w1 ⟨rfl, b1⟩
    have P1 := hideT (HP.out.below b1)
    have x1 : w1.cell? ⟨b, 1, none⟩ = some (.int .i64 j) := P1.out.cell 1
    have f1 : w1.frozen? ⟨b, 1, none⟩ = false := P1.out.free 1
    obtain ⟨W, hW⟩ : ∃ W, w1.setCell ⟨b, 1, none⟩ (.int .i64 ((j : Int) + 2)) = W := ⟨_, rfl⟩
    have KW : Hid (Keep (· = b) w W) := by
      show Keep _ _ W
      rw [← hW]
      exact (Keep.of_below b1).trans (Keep.set _ ⟨b, 1, none⟩ _ rfl)
    have PW : Hid (PIn W b s (j + 2 : Nat) 0 ⟨vo, n, o0, o1, o2, o3⟩) := by
      show PIn W _ _ _ _ _
      rw [← hW]
      exact P1.out.set 1 _
    have HWq := hideT hW
    clear b1 hW
    have OW := hideT (own_keep (w' := W) HO.out (fun g hg => KW.out.block g (own_lt HO.out hg).1 (fun e => hne (by rw [hg, e]))))
    have AW := hideT (HA.out.keep (w' := W) (fun g hg => KW.out.block g (own_lt HA.out.1 hg).1 (fun e => hab (by rw [hg, e]))))
    go_wp2_with fail
    rw [HWq.out]
    refine (HS.out W (j + 2) n [] vo nilS (KW.out.wide (fun i _ e => .inl e)) PW.out OW.out AW.out ⟨[], World.ownsRow_nil _ _ _ _, rfl, fun i q K h1 _ => by simp at h1⟩ (Grew.refl _ _) (Grew.refl _ _) (fun _ _ e => by cases e) hj2 hn (Nat.zero_le _)).mono ?_
    rintro e w2 ⟨rfl, q2⟩
    have Q2 := hideT q2
    clear q2
    go_wp2_with fail
    go_ret
    refine .inl ⟨rfl, _, _, _, ?_, Q2.out⟩
    rw [HR.out, if_pos (by trivial)]
  case false =>
    cases v2
    case false =>
      go_enter Tryd.func30, Tryd.ntmps30
      go_wp2_with fail
      refine (aheadD w b s ⟨#[47, 62]⟩ j 0 _ false hs hp HP.out V1).mono ?_
      rintro e w1 ⟨rfl, b1⟩
      have P1 := hideT (HP.out.below b1)
      have K1 : Hid (Keep (· = b) w w1) := Keep.of_below b1
      clear b1
      go_wp2_with fail
      refine (mustD w1 b s ⟨#[62]⟩ j _ false hs hp (by decide) P1.out V2).mono ?_
      rintro e w2 ⟨rfl, k2, _, r2⟩
      have R2 := hideT (r2 rfl)
      have K2 := hideT (K1.out.trans k2)
      clear k2 r2
      go_wp2_with fail
      go_ret
      refine .inr ⟨rfl, j, 2, ?_, K2.out.wide (fun i _ e => .inl e), _, R2.out⟩
      rw [HR.out, if_neg (by simp), if_neg (by simp)]
    case true =>
      have hj1 : j + 1 ≤ s.size := Xp.has_room V2.out (by decide)
      have HR2 : Hid (Xp.rest m s.data.toList nm l p j n = (match Xp.kids m s.data.toList nm.data.toList (j + 1) n [] with | .error e => .error e | .ok (ks, i, n') => .ok (Xp.mkT nm l ks p, i, n'))) := by
        show _ = _
        rw [HR.out, if_neg (by simp), if_pos (by trivial)]
      go_enter Tryd.func30, Tryd.ntmps30
      go_wp2_with fail
      refine (aheadD w b s ⟨#[47, 62]⟩ j 0 _ false hs hp HP.out V1).mono ?_
      rintro e w1 ⟨rfl, b1⟩
      have P1 := hideT (HP.out.below b1)
      have K1 : Hid (Keep (· = b) w w1) := Keep.of_below b1
      clear b1
      go_wp2_with fail
      refine (mustD w1 b s ⟨#[62]⟩ j _ true hs hp (by decide) P1.out V2).mono ?_
      rintro e w2 ⟨rfl, k2, r2, _⟩
      have R2 : Hid (PIn w2 b s (j + 1 : Nat) 0 ⟨vo, n, o0, o1, o2, o3⟩) := r2 rfl
      have K2 := hideT (K1.out.trans k2)
      clear k2 r2
      obtain ⟨W, hW⟩ : ∃ W, w2.alloc (.cells #[meth 47 (ptr b), meth 48 (ptr b), meth 46 (ptr b)] 60) = W := ⟨_, rfl⟩
      have BW : Hid (Below w2.heap.size w2 W) := by rw [← hW]; exact (Below.refl _ w2).alloc (Nat.le_refl _) _
      have LW : Hid (Lies W w2.heap.size 60 #[meth 47 (ptr b), meth 48 (ptr b), meth 46 (ptr b)]) := by
        show Lies W _ _ _
        rw [← hW]
        exact Lies.new w2 _ _
      have KW := hideT (K2.out.trans (Keep.of_below BW.out))
      have PW := hideT (R2.out.below BW.out)
      have OW := hideT (own_keep (w' := W) HO.out (fun g hg => KW.out.block g (own_lt HO.out hg).1 (fun e => hne (by rw [hg, e]))))
      have AW := hideT (HA.out.keep (w' := W) (fun g hg => KW.out.block g (own_lt HA.out.1 hg).1 (fun e => hab (by rw [hg, e]))))
      have hgs : ∀ vo' : Value, Grew W vo vo' → ∀ kv' : Value, Grew W nilS kv' → ¬ SA b vo nilS w2.heap.size := by
        intro _ _ _ _ e
        have hz := K2.out.size
        rcases e with e | e | e
        · omega
        · have := (own_lt HO.out e).1
          omega
        · cases e
      have hnS : ¬ SA b vo nilS w2.heap.size := hgs vo (Grew.refl _ _) nilS (Grew.refl _ _)
      have hbs : ¬ w2.heap.size = b := by have := K2.out.size; omega
      have C : Hid (Calls Tryd.prog 14 #[ptr b, .slice (some ⟨w2.heap.size, 0, none⟩) 3 3] W (Told
          (fun w' => ∃ (T : Tr) (k n' : Nat), Xp.rest m s.data.toList nm l p j n = .ok (T, k, n') ∧ Post w' T k n')
          (fun w' => ∃ q e : Nat, Xp.rest m s.data.toList nm l p j n = .error (q, e) ∧ Keep (SA b vo nilS) w w' ∧ ∃ R', PIn w' b s q e R'))) := by
        refine inTurn3 (ptr b) (ptr b) w2.heap.size 3 _ _ _ _ 60 rfl (fun w' => w' = W)
          (fun wa => ∃ (k n' : Nat) (ks : List Tr) (vo' kv' : Value), WIn W wa m b H s nm (j + 1) n vo nilS o0 o1 o2 o3 av (.int .i64 p) L k n' ks vo' kv' ∧ Xp.misc s.data.toList k = .ok k ∧ ¬ (Xp.hasL s.data.toList k [60] = true ∧ Xp.hasL s.data.toList k [60, 47] = false))
          (fun w' => ∃ (wa : World) (k i n' : Nat) (ks : List Tr) (vo' kv' : Value), WIn W wa m b H s nm (j + 1) n vo nilS o0 o1 o2 o3 av (.int .i64 p) L k n' ks vo' kv' ∧ Keep (· = b) wa w' ∧ PIn w' b s i 0 ⟨vo', n', o0, o1, o2, o3⟩ ∧ i ≤ s.size ∧ Xp.kids m s.data.toList nm.data.toList (j + 1) n [] = .ok (ks, i, n'))
          _ _ enterWi enterEt enterSh ?_ ?_ ?_ W LW.out rfl
        · rintro w' hl rfl
          refine (withinD m HEE.out w' b H s nm (j + 1) n vo o0 o1 o2 o3 av (.int .i64 p) L hs hj1 hL hn (HWW.out.keep KW.out (fun i hi => by subst hi; exact hoff)) hoff HOO.out (by have := KW.out.size; omega) PW.out OW.out).mono ?_
          rintro d w3 (⟨rfl, k, n', ks, vo', kv', I, h1, h2⟩ | ⟨rfl, q, e, h1, k3, R', p3⟩)
          · exact .inl ⟨rfl, hl.keep I.keep hnS, k, n', ks, vo', kv', I, h1, h2⟩
          · refine .inr ⟨rfl, q, e, ?_, (KW.out.wide (fun i _ e => .inl e)).trans k3, R', p3⟩
            rw [HR2.out, h1]
        · rintro w' hl ⟨k, n', ks, vo', kv', I, h1, h2⟩
          have hkW : Keep (· = b) w W := KW.out
          have hokw : Ok w' := HWW.out.keep ((KW.out.wide (R := SA b vo nilS) (fun i _ e => .inl e)).trans I.keep) (fun i hi => by
            rcases hi with rfl | hi | hi
            · exact hoff
            · exact HOO.out i (own_lt HO.out hi).2
            · cases hi)
          refine (endTagD w' b H s nm k _ L av kv' (.int .i64 p) hs I.ks' (by omega) hokw hoff I.pin I.own).mono ?_
          rintro d w3 (⟨rfl, i, v3, e3, hi, his, k3, p3⟩ | ⟨rfl, q, hq, k3, p3⟩)
          · refine .inl ⟨rfl, hl.keep k3 hbs, w', k, i, n', ks, vo', kv', I, k3, p3, his, ?_⟩
            rw [I.same, Xp.kids_end h1 v3, e3]
          · refine .inr ⟨rfl, q, 2, ?_, ((KW.out.wide (fun i _ e => .inl e)).trans I.keep).trans (k3.wide (fun i _ e => .inl e)), _, p3⟩
            rw [HR2.out, I.same]
            rcases hq with ⟨v3, rfl⟩ | ⟨v3, e3⟩
            · rw [Xp.kids_no h1 v3 (by
                cases hh : Xp.hasL s.data.toList q [60] with
                | false => rfl
                | true => exact absurd ⟨hh, v3⟩ h2)]
            · rw [Xp.kids_end h1 v3, e3]
        · rintro w' hl ⟨wa, k, i, n', ks, vo', kv', I, k3, p3, his, e3⟩
          have kwa : Keep (SA b vo nilS) w wa := (KW.out.wide (fun i _ e => .inl e)).trans I.keep
          have kw' : Keep (SA b vo nilS) w w' := kwa.trans (k3.wide (fun i _ e => .inl e))
          have hne' : vo'.ownBlock ≠ some b := own_ne I.own I.pin (by decide)
          obtain ⟨qs, ho2, hq2, hee⟩ := I.row
          have hkb : kv'.ownBlock ≠ some b := own_ne ho2 I.pin (by decide)
          refine (HS.out w' i n' ks vo' kv' kw' p3 ?_ ?_ ?_ ((Grew.refl w vo).trans KW.out.size I.gv) ((Grew.refl w nilS).trans KW.out.size I.gk) I.apart his I.n4 I.kn).mono ?_
          · exact own_keep I.own (fun g hg => k3.block g (own_lt I.own hg).1 (fun e => hne' (by rw [hg, e])))
          · refine HA.out.keep (fun g hg => kw'.block g (own_lt HA.out.1 hg).1 ?_)
            rintro (e | e | e)
            · exact hab (by rw [hg, e])
            · exact own_ne2 HO.out HA.out.1 (by decide) g e hg
            · cases e
          · refine I.row.turn (fun g hg => k3.block g (own_lt ho2 hg).1 (fun e => hkb (by rw [hg, e]))) (fun i hi => k3.block i hi.2.1 (fun e => ?_)) (fun i hi => ?_)
            · have := hi.1
              have := KW.out.size
              omega
            · have h5 := Quiet.on (Grew.refl wa vo') (Grew.refl wa kv') k3.size i hi
              exact ⟨by have := h5.1; have := KW.out.size; omega, h5.2⟩
          · rintro d w4 ⟨rfl, q4⟩
            refine .inl ⟨rfl, _, _, _, ?_, q4⟩
            rw [HR2.out, e3]
      have HWq := hideT hW
      clear hW hgs hnS hbs
      go_wp2_with fail
      rw [HWq.out]
      refine C.out.mono ?_
      rintro d w5 (⟨rfl, h5⟩ | ⟨rfl, h5⟩)
      · have H5 := hideT h5
        clear h5
        go_wp2_with fail
        go_ret
        exact .inl ⟨rfl, H5.out⟩
      · have H5 := hideT h5
        clear h5
        go_wp2_with fail
        go_ret
        exact .inr ⟨rfl, H5.out⟩
end Go.Proofs.YtimecocegnnjjaaDoor
