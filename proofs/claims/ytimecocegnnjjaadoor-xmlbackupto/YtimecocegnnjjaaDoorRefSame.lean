/-
  The document's Same, by its contract.
-/
import Derived.Test.YtimecocegnnjjaaDoorSameAttrs
import Derived.Test.YtimecocegnnjjaaDoorPartC
import Derived.Deep.RegionWith
set_option linter.unusedSimpArgs false
set_option linter.unusedVariables false
namespace Go.Proofs.YtimecocegnnjjaaDoor
open Go.RowKit

theorem ret_boolB {a b : Bool} {p : Prop} (h : a = b) (hp : b = true ↔ p) : ∃ c, Ending.returned (.bool a) = .returned (.bool c) ∧ (c = true ↔ p) := ⟨b, by rw [h], hp⟩

theorem sameAttrs_v (w : World) (va vb : Value) (la lb : List (ByteArray × ByteArray)) (ha : ARow w va la) (hb : ARow w vb lb) (b : Bool) (h : Hid (decide (la = lb) = b)) :
    Calls Tryd.prog 18 #[va, vb] w fun e w' => e = .returned (.bool b) ∧ Below w.heap.size w w' := by
  have := sameAttrs_any w va vb la lb ha hb
  rw [h.out] at this
  exact this

set_option maxHeartbeats 1000000 in
set_option maxRecDepth 100000 in
theorem same_ref : ∀ (n : Nat) (w : World) (c0 c1 c2 c3 d0 d1 d2 d3 : Value) (T U : Tr), EIn w n c0 c1 c2 c3 T → EIn w n d0 d1 d2 d3 U →
    Calls Tryd.prog 9 #[.agg #[c0, c1, c2, c3], .agg #[d0, d1, d2, d3]] w fun e w' => (∃ b : Bool, e = .returned (.bool b) ∧ (b = true ↔ Xp.sameT n T U)) ∧ Below w.heap.size w w' := by
  intro n
  induction n with
  | zero => intro w c0 c1 c2 c3 d0 d1 d2 d3 T U h; exact h.elim
  | succ n ih =>
    rintro w c0 c1 c2 c3 d0 d1 d2 d3 T U ⟨nm, p, l, ks, rfl, rfl, rfl, hs1, ha1, kb1, ko1, ⟨kao1, kcap1, rfl, hkao1⟩, hkl1, hk1⟩ ⟨nm2, p2, l2, ks2, rfl, rfl, rfl, hs2, ha2, kb2, ko2, ⟨kao2, kcap2, rfl, hkao2⟩, hkl2, hk2⟩
    have IH : Hid (∀ (w : World) (c0 c1 c2 c3 d0 d1 d2 d3 : Value) (T U : Tr), EIn w n c0 c1 c2 c3 T → EIn w n d0 d1 d2 d3 U → Calls Tryd.prog 9 #[.agg #[c0, c1, c2, c3], .agg #[d0, d1, d2, d3]] w fun e w' => (∃ b : Bool, e = .returned (.bool b) ∧ (b = true ↔ Xp.sameT n T U)) ∧ Below w.heap.size w w') := ih
    clear ih
    have HA1 : Hid (ARow w c1 l) := ha1
    have HA2 : Hid (ARow w d1 l2) := ha2
    have HS : Hid (Xp.sameT (n + 1) (Xp.mkT nm l ks p) (Xp.mkT nm2 l2 ks2 p2) ↔ nm = nm2 ∧ l = l2 ∧ ks.length = ks2.length ∧ ∀ (i : Nat) (x y : Tr), ks[i]? = some x → ks2[i]? = some y → Xp.sameT n x y) := by
      show _ ↔ _
      rw [Xp.sameT_succ, Xp.nm_mk, Xp.nm_mk, Xp.as_mk, Xp.as_mk, Xp.ks_mk, Xp.ks_mk]
      constructor
      · rintro ⟨a, b, c, d⟩
        exact ⟨Xp.ba_inj a, Xp.pairs_inj b, c, d⟩
      · rintro ⟨a, b, c, d⟩
        exact ⟨by rw [a], by rw [b], c, d⟩
    have HK1 : Hid (∀ (i : Nat) K, ks[i]? = some K → ∃ d0 d1 d2 d3, Four w kb1 (ko1 + 4 * i) d0 d1 d2 d3 ∧ EIn w n d0 d1 d2 d3 K) := hk1
    have HK2 : Hid (∀ (i : Nat) K, ks2[i]? = some K → ∃ d0 d1 d2 d3, Four w kb2 (ko2 + 4 * i) d0 d1 d2 d3 ∧ EIn w n d0 d1 d2 d3 K) := hk2
    have BW : Hid (Below w.heap.size w ((w.alloc (.cells #[.string nm, c1, .slice kao1 ks.length kcap1, .int .i64 p] 25)).alloc (.cells #[.string nm2, d1, .slice kao2 ks2.length kcap2, .int .i64 p2] 25))) := ((Below.refl _ w).alloc (Nat.le_refl _) _).alloc (by simp) _
    clear ha1 ha2 hk1 hk2
    by_cases e1 : nm = nm2
    · subst e1
      cases e2 : decide (l = l2)
      · have HF : Hid (¬ Xp.sameT (n + 1) (Xp.mkT nm l ks p) (Xp.mkT nm l2 ks2 p2)) := fun h => absurd (HS.out.1 h).2.1 (of_decide_eq_false e2)
        have E2 : Hid (decide (l = l2) = false) := e2
        clear e2
        go_enter Tryd.func9, Tryd.ntmps9
        go_wp2_with fail
        refine (sameAttrs_v _ c1 d1 l l2 (HA1.out.below BW.out) (HA2.out.below BW.out) false E2).mono ?_
        rintro e w1 ⟨rfl, b1⟩
        go_wp2_with fail
        go_ret
        exact ⟨⟨false, rfl, by simp; exact HF.out⟩, BW.out.trans (b1.mono (by simp; omega))⟩
      · have E2 : Hid (decide (l = l2) = true) := e2
        clear e2
        by_cases hlen : ks.length = ks2.length
        · by_cases h0 : 0 < ks.length
          · obtain rfl := hkao1 h0
            obtain rfl := hkao2 (by omega)
            obtain ⟨m, hm⟩ : ∃ m, m = ks.length := ⟨_, rfl⟩
            have HM : Hid (m = ks.length) := hm
            have HL : Hid (ks.length = ks2.length) := hlen
            rw [← hlen, ← hm] at BW
            rw [← hlen, ← hm]
            rw [← hm] at hkl1 h0
            clear hlen hm hkl2 hkao1 hkao2
            go_enter Tryd.func9, Tryd.ntmps9
            go_wp2_with fail
            refine (sameAttrs_v _ c1 d1 l l2 (HA1.out.below BW.out) (HA2.out.below BW.out) true E2).mono ?_
            rintro e w1 ⟨rfl, b1⟩
            have B1 : Hid (Below w.heap.size w w1) := BW.out.trans (b1.mono (by simp; omega))
            have z1 : w.heap.size + 2 ≤ w1.heap.size := by have := b1.size; simp at this; omega
            have x1 : w1.cell? ⟨w.heap.size, 2, none⟩ = some (.slice (some ⟨kb1, ko1, none⟩) m kcap1) := by
              rw [b1.cell (by simp; omega), cell_old _ _ _ (by simp), cell_new]
              rfl
            have x2 : w1.cell? ⟨w.heap.size + 1, 2, none⟩ = some (.slice (some ⟨kb2, ko2, none⟩) m kcap2) := by
              have h := cell_new (w.alloc (.cells #[.string nm, c1, .slice (some ⟨kb1, ko1, none⟩) m kcap1, .int .i64 p] 25)) #[.string nm, d1, .slice (some ⟨kb2, ko2, none⟩) m kcap2, .int .i64 p2] 25 2
              rw [World.size_alloc] at h
              rw [b1.cell (by simp), h]
              rfl
            have X1 : Hid (w1.cell? ⟨w.heap.size, 2, none⟩ = some (.slice (some ⟨kb1, ko1, none⟩) m kcap1)) := x1
            have X2 : Hid (w1.cell? ⟨w.heap.size + 1, 2, none⟩ = some (.slice (some ⟨kb2, ko2, none⟩) m kcap2)) := x2
            clear b1
            go_wp2_with fail
            go_loopw [5] (fun i wr => ∃ k : Nat, k ≤ m ∧ i = .int .i64 k ∧ Hid (Below w1.heap.size w1 wr) ∧ w1.heap.size ≤ wr.heap.size ∧ Hid (∀ (j : Nat) (x y : Tr), j < k → ks[j]? = some x → ks2[j]? = some y → Xp.sameT n x y)) (fun i _ => m - (intOf i).toNat)
            case atStart => exact ⟨0, by omega, rfl, Below.refl _ _, Nat.le_refl _, fun j x y hj => absurd hj (by omega)⟩
            case round =>
              obtain ⟨k, hk, rfl, HB, hsz, HJ⟩ := hrel
              clear x1 x2
              have x1 : wr.cell? ⟨w.heap.size, 2, none⟩ = some (.slice (some ⟨kb1, ko1, none⟩) m kcap1) := by rw [HB.out.cell (cell_lt X1.out)]; exact X1.out
              have x2 : wr.cell? ⟨w.heap.size + 1, 2, none⟩ = some (.slice (some ⟨kb2, ko2, none⟩) m kcap2) := by rw [HB.out.cell (cell_lt X2.out)]; exact X2.out
              by_cases hlt : k < m
              · obtain ⟨K, hK⟩ : ∃ K, ks[k]? = some K := ⟨ks[k]'(by have := HM.out; omega), List.getElem?_eq_getElem _⟩
                obtain ⟨L, hL⟩ : ∃ L, ks2[k]? = some L := ⟨ks2[k]'(by have := HM.out; have := HL.out; omega), List.getElem?_eq_getElem _⟩
                have HKK : Hid (ks[k]? = some K) := hK
                have HLL : Hid (ks2[k]? = some L) := hL
                obtain ⟨f0, f1, f2, f3, hf, he⟩ := HK1.out k K hK
                obtain ⟨g0, g1, g2, g3, hg, hge⟩ := HK2.out k L hL
                have BR : Hid (Below w.heap.size w wr) := B1.out.trans (HB.out.mono (by omega))
                have EF : Hid (EIn wr n f0 f1 f2 f3 K) := EIn.below BR.out he
                have EG : Hid (EIn wr n g0 g1 g2 g3 L) := EIn.below BR.out hge
                obtain ⟨q0, q1, q2, q3⟩ := hf.below BR.out
                obtain ⟨r0, r1, r2, r3⟩ := hg.below BR.out
                rw [Nat.mul_comm] at q0 q1 q2 q3 r0 r1 r2 r3
                clear hK hL hf hg he hge
                go_wp2_with fail
                go_region_with (go_at_call 9; refine (IH.out _ f0 f1 f2 f3 g0 g1 g2 g3 K L ?_ ?_).mono ?_; exact EIn.below ((Below.refl _ wr).drew) EF.out; exact EIn.below ((Below.refl _ wr).drew) EG.out; rintro e w2 ⟨⟨b, rfl, hbs⟩, b2⟩)
                all_goals have B2 : Hid (Below w1.heap.size w1 w2) := HB.out.drew.trans (b2.mono hsz)
                all_goals have z2 : w1.heap.size ≤ w2.heap.size := B2.out.size
                all_goals clear b2 q0 q1 q2 q3 r0 r1 r2 r3 EF EG x1 x2
                all_goals have HBS : Hid (b = true ↔ Xp.sameT n K L) := hbs
                all_goals clear hbs
                all_goals cases b
                all_goals go_wp2_with fail
                all_goals first
                  | (go_ret
                     refine ⟨⟨false, rfl, ?_⟩, B1.out.trans (B2.out.mono (by omega))⟩
                     constructor
                     · intro h
                       cases h
                     · intro h
                       exact HBS.out.2 ((HS.out.1 h).2.2.2 k K L HKK.out HLL.out))
                  | (go_roundw
                     case rel =>
                       refine ⟨k + 1, by omega, by go_num, B2, z2, fun j x y hj hx hy => ?_⟩
                       by_cases hj' : j < k
                       · exact HJ.out j x y hj' hx hy
                       · obtain rfl : j = k := by omega
                         rw [HKK.out] at hx
                         rw [HLL.out] at hy
                         cases hx
                         cases hy
                         exact HBS.out.1 rfl
                     case measure => simp [intOf]; omega)
              · have HF : Hid (Xp.sameT (n + 1) (Xp.mkT nm l ks p) (Xp.mkT nm l2 ks2 p2)) := by
                  show Xp.sameT _ _ _
                  refine HS.out.2 ⟨?_, of_decide_eq_true E2.out, HL.out, fun i x y hx hy => ?_⟩
                  · first | trivial | rfl
                  · have hi : i < ks.length := (List.getElem?_eq_some_iff.1 hx).1
                    exact HJ.out i x y (by have := HM.out; omega) hx hy
                go_wp2_with fail
                go_ret
                exact ⟨⟨true, rfl, fun _ => HF.out, fun _ => rfl⟩, B1.out.trans (HB.out.mono (by omega))⟩
          · have HF : Hid (Xp.sameT (n + 1) (Xp.mkT nm l ks p) (Xp.mkT nm l2 ks2 p2)) := by
              show Xp.sameT _ _ _
              refine HS.out.2 ⟨?_, of_decide_eq_true E2.out, hlen, fun i x y hx hy => ?_⟩
              · first | trivial | rfl
              · have hi : i < ks.length := (List.getElem?_eq_some_iff.1 hx).1
                omega
            have hz1 : ks.length = 0 := by omega
            have hz2 : ks2.length = 0 := by omega
            rw [hz1, hz2] at BW
            rw [hz1, hz2]
            clear hz1 hz2 hlen h0 hkl1 hkl2 hkao1 hkao2 HK1 HK2 IH
            go_enter Tryd.func9, Tryd.ntmps9
            go_wp2_with fail
            refine (sameAttrs_v _ c1 d1 l l2 (HA1.out.below BW.out) (HA2.out.below BW.out) true E2).mono ?_
            rintro e w1 ⟨rfl, b1⟩
            have B1 : Hid (Below w.heap.size w w1) := BW.out.trans (b1.mono (by simp; omega))
            have x1 : w1.cell? ⟨w.heap.size, 2, none⟩ = some (.slice kao1 0 kcap1) := by
              rw [b1.cell (by simp; omega), cell_old _ _ _ (by simp), cell_new]
              rfl
            have x2 : w1.cell? ⟨w.heap.size + 1, 2, none⟩ = some (.slice kao2 0 kcap2) := by
              have h := cell_new (w.alloc (.cells #[.string nm, c1, .slice kao1 0 kcap1, .int .i64 p] 25)) #[.string nm, d1, .slice kao2 0 kcap2, .int .i64 p2] 25 2
              rw [World.size_alloc] at h
              rw [b1.cell (by simp), h]
              rfl
            clear b1
            go_wp2_with fail
            refine wp_loop_rounds 1 ?_
            rw [rounds_succ]
            go_wp2_with fail
            go_ret
            exact ⟨⟨true, rfl, fun _ => HF.out, fun _ => rfl⟩, B1.out⟩
        · have HF : Hid (¬ Xp.sameT (n + 1) (Xp.mkT nm l ks p) (Xp.mkT nm l2 ks2 p2)) := fun h => hlen (HS.out.1 h).2.2.1
          have tl : ((ks.length : Int) != (ks2.length : Int)) = true := by rw [bne_iff_ne]; omega
          clear hlen hkao1 hkao2 HK1 HK2 IH
          go_enter Tryd.func9, Tryd.ntmps9
          go_wp2_with fail
          refine (sameAttrs_v _ c1 d1 l l2 (HA1.out.below BW.out) (HA2.out.below BW.out) true E2).mono ?_
          rintro e w1 ⟨rfl, b1⟩
          have B1 : Hid (Below w.heap.size w w1) := BW.out.trans (b1.mono (by simp; omega))
          have x1 : w1.cell? ⟨w.heap.size, 2, none⟩ = some (.slice kao1 ks.length kcap1) := by
            rw [b1.cell (by simp; omega), cell_old _ _ _ (by simp), cell_new]
            rfl
          have x2 : w1.cell? ⟨w.heap.size + 1, 2, none⟩ = some (.slice kao2 ks2.length kcap2) := by
            have h := cell_new (w.alloc (.cells #[.string nm, c1, .slice kao1 ks.length kcap1, .int .i64 p] 25)) #[.string nm, d1, .slice kao2 ks2.length kcap2, .int .i64 p2] 25 2
            rw [World.size_alloc] at h
            rw [b1.cell (by simp), h]
            rfl
          clear b1
          go_wp2_with fail
          go_ret
          exact ⟨⟨false, rfl, by simp; exact HF.out⟩, B1.out⟩
    · have HF : Hid (¬ Xp.sameT (n + 1) (Xp.mkT nm l ks p) (Xp.mkT nm2 l2 ks2 p2)) := fun h => e1 (HS.out.1 h).1
      have e1' : ¬ nm.toList = nm2.toList := fun h => e1 (toList_inj h)
      clear e1 hkao1 hkao2 HK1 HK2 IH
      go_enter Tryd.func9, Tryd.ntmps9
      go_wp2_with fail
      go_ret
      exact ⟨⟨false, rfl, by simp; exact HF.out⟩, BW.out⟩
end Go.Proofs.YtimecocegnnjjaaDoor
