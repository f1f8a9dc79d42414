/-
  The program's attribute.
-/
import Derived.Test.YtimecocegnnjjaaDoorDTwice
set_option linter.unusedSimpArgs false
set_option linter.unusedVariables false
namespace Go.Proofs.YtimecocegnnjjaaDoor
open Go.RowKit
/-- What an attribute's call may turn. -/
def SA (b : Nat) (vo av : Value) (k : Nat) : Prop := k = b ∨ vo.ownBlock = some k ∨ av.ownBlock = some k
theorem AOwn.keep {w w' : World} {H : Nat} {av : Value} {l : List (ByteArray × ByteArray)} (h : AOwn w H av l) (hk : ∀ g, av.ownBlock = some g → w'.heap[g]? = w.heap[g]?) : AOwn w' H av l := ⟨own_keep h.1 hk, h.2⟩
/-- A variable that a closure captures, behind a world. -/
theorem boxed (w : World) (nm : ByteArray) : ∃ W, w.alloc (.cells #[.string nm] 9) = W ∧ Below w.heap.size w W ∧ W.cell? ⟨w.heap.size, 0, none⟩ = some (.string nm) ∧ w.heap.size + 1 = W.heap.size :=
  ⟨_, rfl, (Below.refl _ w).alloc (Nat.le_refl _) _, (Lies.new w 9 #[.string nm]).cell 0, by simp⟩
theorem AOwn.snoc {w : World} {H : Nat} {av : Value} {l : List (ByteArray × ByteArray)} {nm t : ByteArray} (h : w.ownsRow H 36 2 av (l.length + 1) (flatA l ++ [.string nm, .string t])) (h8 : l.length ≤ 7) (hz : ∀ p ∈ l, p.1.size ≤ 1000000 ∧ p.2.size ≤ 1000000) (h1 : nm.size ≤ 1000000) (h2 : t.size ≤ 1000000) : AOwn w H av (l ++ [(nm, t)]) := by
  refine ⟨?_, by rw [List.length_append]; simp; omega, fun p hp => ?_⟩
  · rw [flatA_app, List.length_append]
    exact h
  · rcases List.mem_append.1 hp with hp | hp
    · exact hz p hp
    · rw [List.mem_singleton.1 hp]
      exact ⟨h1, h2⟩
/-- Behind the append of an attribute: the rest stands as it was. -/
theorem attr_grown {W W' w3 : World} {H b g d cap : Nat} {vo : Value} {L : List Quad} {x y z u : Value} {C : Array Value} {t : TypeId} (ho : W.ownsRow H 25 4 (.slice (some ⟨g, 0, none⟩) d cap) d (flatE (L ++ [(x, y, z, u)]))) (hl : Lies W b t C)
    (hgrow : W'.grownBy w3 vo.ownBlock) (hB : Below W.heap.size W W') (hg : vo.ownBlock ≠ some g) (hb : vo.ownBlock ≠ some b) :
    w3.ownsRow H 25 4 (.slice (some ⟨g, 0, none⟩) d cap) d (flatE (L ++ [(x, y, z, u)])) ∧ Lies w3 b t C ∧ w3.cell? ⟨g, L.length * 4 + 1, none⟩ = some y ∧ w3.frozen? ⟨g, L.length * 4 + 1, none⟩ = false := by
  have hl' := hl.below hB
  have hl3 : Lies w3 b t C := by
    have := hgrow.block b hl'.lt (fun e => hb e.symm)
    unfold Lies at *
    rw [this, hl']
  have h2 := own_keep (w' := W') ho (fun g' hg' => hB.block g' (own_lt ho hg').1)
  have h3 := own_keep (w' := w3) h2 (fun g' hg' => hgrow.block g' (own_lt h2 hg').1 (fun e => hg (by have h9 : g = g' := Option.some.inj hg'; rw [h9]; exact e.symm)))
  exact ⟨h3, hl3, own_cell h3 (flatE_last L x y z u).2.1, own_free h3 _⟩
theorem set_named {S : Nat → Prop} {w w3 : World} {H g n cap bk : Nat} {t : TypeId} {C : Array Value} {L : List Quad} {x y z u : Value} (v : Value) (h : w3.ownsRow H 25 4 (.slice (some ⟨g, 0, none⟩) n cap) n (flatE (L ++ [(x, y, z, u)]))) (hl : Lies w3 bk t C) (hn : g ≠ bk) (KG : Keep S w w3) (hgi : S g) :
    ∃ X, w3.setCell ⟨g, L.length * 4 + 1, none⟩ v = X ∧ Keep S w X ∧ Lies X bk t C ∧ X.ownsRow H 25 4 (.slice (some ⟨g, 0, none⟩) n cap) n (flatE (L ++ [(x, v, z, u)])) ∧ (∀ k, k ≠ g → X.heap[k]? = w3.heap[k]?) := by
  have h1 := own_set h (L.length * 4 + 1) v
  rw [(flatE_set L x y z u v).2.1] at h1
  exact ⟨_, rfl, KG.trans (Keep.set _ ⟨g, L.length * 4 + 1, none⟩ v hgi), hl.off _ _ (fun e => hn e.symm), h1, fun k hk => Below.heap_setCell _ _ _ _ hk⟩
set_option maxHeartbeats 4000000 in
theorem attributeD (w : World) (b H : Nat) (s : ByteArray) (p : Nat) (R : PRest) (L : List Quad) (x av z u : Value) (l : List (ByteArray × ByteArray)) (hs : s.size ≤ 1000000) (hp : p ≤ s.size) (hL : L.length < 12) (hw : Ok w) (hoff : Off b) (hH : H ≤ w.heap.size)
    (h : PIn w b s p 0 R) (ho : w.ownsRow H 25 4 R.vo (L.length + 1) (flatE (L ++ [(x, av, z, u)]))) (ha : AOwn w H av l) :
    Calls Tryd.prog 65 #[ptr b] w (Told
      (fun w' => ∃ (a : ByteArray × ByteArray) (k : Nat) (av' : Value), Xp.attr s.data.toList p l = .ok (a, k) ∧ k ≤ s.size ∧ Keep (SA b R.vo av) w w' ∧ PIn w' b s k 0 R ∧ w'.ownsRow H 25 4 R.vo (L.length + 1) (flatE (L ++ [(x, av', z, u)])) ∧ AOwn w' H av' (l ++ [a]) ∧ Grew w av av')
      (fun w' => ∃ q e : Nat, Xp.attr s.data.toList p l = .error (q, e) ∧ Keep (SA b R.vo av) w w' ∧ PIn w' b s q e R)) := by
  obtain ⟨g, cap, hv, _, hg⟩ := ho.form (by omega)
  have HV := hideT hv
  have HP := hideT h
  have HO := hideT ho
  have HA := hideT ha
  have HWW := hideT hw
  have hne : R.vo.ownBlock ≠ some b := own_ne ho h (by decide)
  have hgb : g ≠ b := fun e => hne (by rw [hv, e]; rfl)
  have hab : av.ownBlock ≠ some b := own_ne ha.1 h (by decide)
  have hag : av.ownBlock ≠ some g := fun e => own_ne2 ho ha.1 (by decide) g (by rw [hv]; rfl) e
  obtain ⟨aad, acap, hav⟩ : ∃ aad acap, av = .slice aad l.length acap := by
    rcases ha.1.2 with ⟨rfl, h0⟩ | ⟨g, cap, cur, rfl, _⟩
    · exact ⟨none, 0, by rw [h0]⟩
    · exact ⟨_, _, rfl⟩
  have hl8 : l.length ≤ 8 := ha.2.1
  have hmf : ∀ (fn : Fn) (first cap : Array Value) (w : World), (Instr.makeFunc fn first cap).run Tryd.prog w = .ok (.func fn first cap) w := fun _ _ _ _ => rfl
  have x1 : w.cell? ⟨b, 1, none⟩ = some (.int .i64 p) := h.cell 1
  clear h ho hv hw ha
  go_enter Tryd.func65, Tryd.ntmps65
  go_wp2_with fail
  go_region_held3 (fun w' => w'.cell? ⟨b, 1, none⟩ = some (.int .i64 p)) (go_keep) ((go_at_call 44; refine (innermostD _ b s p 0 R g L.length cap (by omega) HV.out (HP.out.below (Below.refl _ w).drew)).mono ?_; rintro e w1 ⟨rfl, b1⟩; have y1 : w1.cell? ⟨b, 1, none⟩ = some (.int .i64 p) := ((HP.out.below (Below.refl _ w).drew).below b1).cell 1))
  have B1 : Hid (Below w.heap.size w w1) := (Below.refl _ w).drew.trans b1
  have P1 := hideT (HP.out.below B1.out)
  have A1 := hideT (HA.out.keep (w' := w1) (fun g' hg' => B1.out.block g' (own_lt HA.out.1 hg').1))
  have O1 : Hid (w1.ownsRow H 25 4 (.slice (some ⟨g, 0, none⟩) (L.length + 1) cap) (L.length + 1) (flatE (L ++ [(x, av, z, u)]))) := by
    have := own_keep (w' := w1) HO.out (fun g' hg' => B1.out.block g' (own_lt HO.out hg').1)
    rw [HV.out] at this
    exact this
  have c1 : w1.cell? ⟨g, L.length * 4 + 1, none⟩ = some (.slice aad l.length acap) := by
    rw [← hav]
    exact own_cell O1.out (flatE_last L x av z u).2.1
  clear b1 x1
  by_cases h8 : l.length = 8
  · have HE : Hid (Xp.attr s.data.toList p l = .error (p, 4)) := by
      show _ = _
      unfold Xp.attr
      rw [if_pos (by omega)]
    have t8 : ((l.length : Int) == 8) = true := by rw [h8]; rfl
    clear h8
    go_wp2_with fail
    refine (failD w1 b s p 0 p 4 R P1.out).mono ?_
    rintro e w2 ⟨rfl, r2, k2⟩
    go_wp2_with fail
    go_ret
    exact .inr ⟨rfl, p, 4, HE.out, ((Keep.of_below B1.out).trans k2).wide (fun k _ e => .inl e), r2⟩
  · have t8 : ((l.length : Int) == 8) = false := beq_eq_false_iff_ne.2 (by omega)
    have H8 : Hid (¬ 8 ≤ l.length) := by show ¬ _; omega
    clear h8
    have hl7 : l.length ≤ 7 := by have := H8.out; omega
    go_wp2_with fail
    refine (qualD w1 b s p R hs hp (HWW.out.below B1.out) P1.out).mono ?_
    rintro e w2 ⟨k2, g2, e2⟩
    cases hq : Xp.qual s.data.toList p with
    | none =>
      obtain ⟨rfl, r2⟩ := e2 hq
      have HE : Hid (Xp.attr s.data.toList p l = .error (p, 2)) := by
        show _ = _
        unfold Xp.attr
        rw [if_neg H8.out, hq]
      have K2 := hideT ((Keep.of_below B1.out).trans k2)
      have R2 := hideT r2
      obtain ⟨W, hW, bW, _⟩ := boxed w2 ⟨#[]⟩
      have HB := hideT bW
      have HWq := hideT hW
      clear k2 r2 g2 e2 hq c1 y1 hW bW
      go_wp2_with fail
      go_ret
      refine .inr ⟨rfl, p, 2, HE.out, ?_, ?_⟩
      · rw [HWq.out]
        exact (K2.out.trans (Keep.of_below HB.out)).wide (fun k _ e => .inl e)
      · rw [HWq.out]
        exact R2.out.below HB.out
    | some k =>
      obtain ⟨rfl, hk1, hk2, r2⟩ := g2 k hq
      have HQ := hideT hq
      have K2 := hideT ((Keep.of_below B1.out).trans k2)
      have R2 := hideT r2
      have A2 := hideT (A1.out.keep (w' := w2) (fun g' hg' => k2.block g' (own_lt A1.out.1 hg').1 (fun e => hab (by rw [hg', e]))))
      have O2 : Hid (w2.ownsRow H 25 4 (.slice (some ⟨g, 0, none⟩) (L.length + 1) cap) (L.length + 1) (flatE (L ++ [(x, av, z, u)]))) := own_keep (w' := w2) O1.out (fun g' hg' => k2.block g' (own_lt O1.out hg').1 (fun e => hgb (by have := Option.some.inj hg'; exact this.trans e)))
      obtain ⟨nm, hnm⟩ : ∃ nm, nm = s.extract p k := ⟨_, rfl⟩
      have HNM := hideT hnm
      have hnl : nm.data.toList = Xp.cut s.data.toList p k := by rw [hnm, Lib.extract_data]; rfl
      have hnz : nm.size ≤ 1000000 := by rw [hnm, ByteArray.size_extract]; omega
      rw [← hnm]
      obtain ⟨W, hW, bW, cW, zW⟩ := boxed w2 nm
      have HB := hideT bW
      have HWq := hideT hW
      have CW := hideT cW
      have P3 := hideT (R2.out.below bW)
      have A3 := hideT (A2.out.keep (w' := W) (fun g' hg' => bW.block g' (own_lt A2.out.1 hg').1))
      have O3 : Hid (W.ownsRow H 25 4 (.slice (some ⟨g, 0, none⟩) (L.length + 1) cap) (L.length + 1) (flatE (L ++ [(x, av, z, u)]))) := own_keep (w' := W) O2.out (fun g' hg' => bW.block g' (own_lt O2.out hg').1)
      have c3 : (w2.alloc (.cells #[.string nm] 9)).cell? ⟨g, L.length * 4 + 1, none⟩ = some (.slice aad l.length acap) := by
        rw [HWq.out, ← hav]
        exact own_cell O3.out (flatE_last L x av z u).2.1
      clear k2 r2 g2 e2 hq c1 y1 hW bW cW hnm
      go_wp2_with fail
      rw [HWq.out]
      obtain ⟨v5, V5⟩ : ∃ v, Hid (l.any (fun a => a.1.data.toList == nm.data.toList) = v) := ⟨_, rfl⟩
      obtain ⟨v6, V6⟩ : ∃ v, Hid (Xp.hasL s.data.toList k (⟨#[61]⟩ : ByteArray).data.toList = v) := ⟨_, rfl⟩
      have HAT : Hid (Xp.attr s.data.toList p l = if v5 = true then .error (p, 2) else if v6 = true then (match Xp.value s.data.toList (k + 1) with | none => .error (k + 1, 2) | some (v, j) => .ok ((nm, Xp.ba v), j)) else .error (k, 2)) := by
        show _ = _
        unfold Xp.attr
        rw [if_neg H8.out, HQ.out]
        have e5 := V5.out
        rw [hnl] at e5
        have e6 : Xp.hasL s.data.toList k [61] = v6 := V6.out
        simp only [e5, e6]
        have e7 : Xp.ba (Xp.cut s.data.toList p k) = nm := by
          rw [← hnl]
          rfl
        rw [e7]
        try (cases Xp.value s.data.toList (k + 1) <;> rfl)
      rw [← hav]
      refine (twiceD W w2.heap.size H nm av l CW.out A3.out v5 V5).mono ?_
      rintro e w4 ⟨rfl, b4⟩
      have B4 : Hid (Below w2.heap.size w2 w4) := HB.out.trans (b4.mono (by omega))
      have P4 := hideT (R2.out.below B4.out)
      have K4 := hideT (K2.out.trans (Keep.of_below B4.out))
      have A4 := hideT (A2.out.keep (w' := w4) (fun g' hg' => B4.out.block g' (own_lt A2.out.1 hg').1))
      have O4 : Hid (w4.ownsRow H 25 4 (.slice (some ⟨g, 0, none⟩) (L.length + 1) cap) (L.length + 1) (flatE (L ++ [(x, av, z, u)]))) := own_keep (w' := w4) O2.out (fun g' hg' => B4.out.block g' (own_lt O2.out hg').1)
      have C4 : Hid (w4.cell? ⟨w2.heap.size, 0, none⟩ = some (.string nm)) := by
        show _ = _
        rw [b4.cell (by show w2.heap.size < W.heap.size; omega)]
        exact CW.out
      have hz4 : w2.heap.size < w4.heap.size := cell_lt C4.out
      clear b4 c3
      cases v5
      case true =>
        have HE : Hid (Xp.attr s.data.toList p l = .error (p, 2)) := by
          show _ = _
          rw [HAT.out, if_pos (by trivial)]
        go_wp2_with fail
        refine (failD w4 b s k 0 p 2 R P4.out).mono ?_
        rintro e w5 ⟨rfl, r5, k5⟩
        go_wp2_with fail
        go_ret
        exact .inr ⟨rfl, p, 2, HE.out, (K4.out.trans k5).wide (fun k _ e => .inl e), r5⟩
      go_wp2_with fail
      refine (mustD w4 b s ⟨#[61]⟩ k R v6 hs hk2 (by decide) P4.out V6).mono ?_
      rintro e w5 ⟨rfl, k5, r5, e5⟩
      cases v6
      case false =>
        have HE : Hid (Xp.attr s.data.toList p l = .error (k, 2)) := by
          show _ = _
          rw [HAT.out, if_neg (by simp), if_neg (by simp)]
        have R5 := hideT (e5 rfl)
        have K5 := hideT (K4.out.trans k5)
        clear e5 r5 k5
        go_wp2_with fail
        go_ret
        exact .inr ⟨rfl, k, 2, HE.out, K5.out.wide (fun k _ e => .inl e), R5.out⟩
      have hk3 : k + 1 ≤ s.size := Xp.has_room V6.out (by decide)
      have R5 := hideT (r5 rfl)
      have K5 := hideT (K4.out.trans k5)
      have A5 := hideT (A4.out.keep (w' := w5) (fun g' hg' => k5.block g' (own_lt A4.out.1 hg').1 (fun e => hab (by rw [hg', e]))))
      have O5 : Hid (w5.ownsRow H 25 4 (.slice (some ⟨g, 0, none⟩) (L.length + 1) cap) (L.length + 1) (flatE (L ++ [(x, av, z, u)]))) := own_keep (w' := w5) O4.out (fun g' hg' => k5.block g' (own_lt O4.out hg').1 (fun e => hgb (by have := Option.some.inj hg'; exact this.trans e)))
      have hbb : b < w2.heap.size := R2.out.lt
      have C5 : Hid (w5.cell? ⟨w2.heap.size, 0, none⟩ = some (.string nm)) := by
        show _ = _
        rw [k5.cell (a := ⟨w2.heap.size, 0, none⟩) hz4 (by show ¬ w2.heap.size = b; omega)]
        exact C4.out
      have hz5 : w2.heap.size < w5.heap.size := cell_lt C5.out
      clear e5 r5 k5
      go_wp2_with fail
      refine (valueD w5 b s (k + 1) R hs hk3 (HWW.out.keep K5.out (fun i hi => by subst hi; exact hoff)) hoff R5.out).mono ?_
      rintro e w6 ⟨k6, g6, e6⟩
      cases hvv : Xp.value s.data.toList (k + 1) with
      | none =>
        obtain ⟨rfl, r6⟩ := e6 hvv
        have HE : Hid (Xp.attr s.data.toList p l = .error (k + 1, 2)) := by
          show _ = _
          rw [HAT.out, if_neg (by simp), if_pos (by trivial), hvv]
        have R6 := hideT r6
        have K6 := hideT (K5.out.trans k6)
        clear e6 r6 k6 g6 hvv
        go_wp2_with fail
        go_ret
        exact .inr ⟨rfl, k + 1, 2, HE.out, K6.out.wide (fun k _ e => .inl e), R6.out⟩
      | some tj =>
        obtain ⟨t, j⟩ := tj
        obtain ⟨rfl, hj, r6⟩ := g6 t j hvv
        have HE : Hid (Xp.attr s.data.toList p l = .ok ((nm, Xp.ba t), j)) := by
          show _ = _
          rw [HAT.out, if_neg (by simp), if_pos (by trivial), hvv]
        have HVV := hideT hvv
        have R6 := hideT r6
        have K6 := hideT (K5.out.trans k6)
        have A6 := hideT (A5.out.keep (w' := w6) (fun g' hg' => k6.block g' (own_lt A5.out.1 hg').1 (fun e => hab (by rw [hg', e]))))
        have O6 : Hid (w6.ownsRow H 25 4 (.slice (some ⟨g, 0, none⟩) (L.length + 1) cap) (L.length + 1) (flatE (L ++ [(x, av, z, u)]))) := own_keep (w' := w6) O5.out (fun g' hg' => k6.block g' (own_lt O5.out hg').1 (fun e => hgb (by have := Option.some.inj hg'; exact this.trans e)))
        have c6 : w6.cell? ⟨w2.heap.size, 0, none⟩ = some (.string nm) := by
          rw [k6.cell (a := ⟨w2.heap.size, 0, none⟩) hz5 (by show ¬ w2.heap.size = b; omega)]
          exact C5.out
        have d6 : w6.cell? ⟨g, L.length * 4 + 1, none⟩ = some (.slice aad l.length acap) := by
          rw [← hav]
          exact own_cell O6.out (flatE_last L x av z u).2.1
        have hg6 := (own_lt O6.out (g := g) rfl).1
        have hz6 : w2.heap.size < w6.heap.size := cell_lt c6
        have hH6 : H ≤ w6.heap.size := by have := (own_lt O6.out (g := g) rfl).2; omega
        have A6' : Hid (w6.ownsRow H 36 2 (.slice aad l.length acap) l.length (flatA l)) := by
          have := A6.out.1
          rw [hav] at this
          exact this
        obtain ⟨i0, hi0, hz0, hz1, hz2⟩ := info_parts infoA
        clear e6 r6 k6 g6 hvv
        have htz : (Xp.ba t).size ≤ 1000000 := by
          have := Xp.value_len HVV.out
          show t.toArray.size ≤ 1000000
          rw [List.size_toArray]
          omega
        have hz := hideT A6.out.2.2
        have hgg : ((.slice aad l.length acap : Value)).ownBlock ≠ some g := by rw [← hav]; exact hag
        have hgb2 : ((.slice aad l.length acap : Value)).ownBlock ≠ some b := by rw [← hav]; exact hab
        have hbW : b < w6.heap.size := by omega
        go_wp2_with fail
        go_region_law
          ((refine step_append_lies _ (by rfl) _ _ _ (by rfl) H 36 i0 _ 2 32 Tryd.underlying22 hi0 hz0 hz1 hz2 rfl (by omega) (.slice aad l.length acap) l.length (flatA l) (by rfl) ((A6'.out.alloc _).drew)
              ⟨w6.heap.size, 0, none⟩ 1 1 [.string nm, .string (Xp.ba t)] (by rfl) (by rfl) (World.news_of_block (cs := #[.string nm, .string (Xp.ba t)]) (t := 36) (fr := (0, 0)) (heap_alloc_new w6 _)) (by simp [Value.oneCell'])
              (by omega) (by unfold maxLen; omega) (by omega) (by first | (simp; done) | (simp; omega)) (w6.heap.size + 1) (by simp) ?_; intro g2 cap2 w7 hown1 hgrow hat hlt; obtain ⟨O7, P7, y7, f7⟩ := attr_grown O6.out R6.out hgrow (((Below.refl _ w6).alloc (Nat.le_refl _) _).drew) hgg hgb2))
        all_goals have KG : Keep (SA b R.vo av) w w7 := ((K6.out.wide (fun k _ e => .inl e)).trans (Keep.of_below (((Below.refl _ w6).alloc (Nat.le_refl _) _).drew))).on (Keep.grown hgrow) (fun i _ e => .inr (.inr (by rw [hav]; exact e)))
        all_goals obtain ⟨X, eX, kX, pX, oX, nX⟩ := set_named (.slice (some ⟨g2, 0, none⟩) (l.length + 1) cap2) O7 P7 hgb KG (.inr (.inl (by rw [HV.out]; rfl)))
        all_goals have hg2 : g2 ≠ g := fun e => own_ne2 O7 hown1 (by decide) g rfl (by rw [e]; rfl)
        all_goals have AX := hideT ((AOwn.snoc hown1 (by omega) hz.out hnz htz).keep (w' := X) (fun g' hg' => nX g' (fun e => hg2 ((Option.some.inj hg').trans e))))
        all_goals have GR : Grew w av (.slice (some ⟨g2, 0, none⟩) (l.length + 1) cap2) := (by rw [hav]; exact grew_of hat K6.out.size)
        all_goals have GR := hideT GR
        all_goals have KX := hideT kX
        all_goals have PX := hideT pX
        all_goals have OX := hideT oX
        all_goals clear kX pX oX nX KG O7 P7 hown1 hgrow hat y7 f7
        all_goals rw [eX]
        all_goals clear eX
        all_goals go_wp2_with fail
        all_goals go_ret
        all_goals refine .inl ⟨rfl, (nm, Xp.ba t), j, _, HE.out, hj, KX.out, PX.out, ?_, AX.out, GR.out⟩
        all_goals rw [HV.out]
        all_goals exact OX.out
end Go.Proofs.YtimecocegnnjjaaDoor
