/-
  The program's enter: what an element's attributes declare.
-/
import Derived.Test.YthbkipmimkepkabSPlain
set_option linter.unusedSimpArgs false
set_option linter.unusedVariables false
namespace Go.Proofs.Ythbkipmimkepkab
open Go.RowKit
theorem SIn.rowOff {w : World} {B sb mb n : Nat} {hv : Value} {L : List Hide} {G : Env} (h : SIn w B sb mb n hv L G) {H : Nat} {t : TypeId} {z : Nat} {v : Value} {m : Nat} {xs : List Value} (ho : w.ownsRow H t z v m xs) (h1 : t ≠ 47) (h2 : t ≠ 60) : ∀ g, v.ownBlock = some g → ¬ SS sb mb hv g := by
  intro g hg
  obtain ⟨_, cur, _, _, hl, _⟩ := own_heap ho hg
  exact h.off (C := cur) (t := t) hl h1 h2
theorem SIn.rowKeep {w w' : World} {B sb mb n : Nat} {hv : Value} {L : List Hide} {G : Env} (h : SIn w B sb mb n hv L G) {H : Nat} {t : TypeId} {z : Nat} {v : Value} {m : Nat} {xs : List Value} (ho : w.ownsRow H t z v m xs) (h1 : t ≠ 47) (h2 : t ≠ 60) (k : Keep (SS sb mb hv) w w') : w'.ownsRow H t z v m xs :=
  own_keep ho (fun g hg => k.block g (own_lt ho hg).1 (h.rowOff ho h1 h2 g hg))
theorem SIn.grown {w w' : World} {B sb mb n : Nat} {hv : Value} {L : List Hide} {G : Env} (h : SIn w B sb mb n hv L G) {H : Nat} {t : TypeId} {z : Nat} {v : Value} {m : Nat} {xs : List Value} (ho : w.ownsRow H t z v m xs) (h1 : t ≠ 47) (h2 : t ≠ 60) (hg : w.grownBy w' v.ownBlock) : SIn w' B sb mb n hv L G :=
  h.keep (fun k hk => hg.block k (h.old k hk).1 (fun e => h.rowOff ho h1 h2 k e.symm hk))
theorem drop_at {α : Type} : ∀ {l : List α} {k : Nat} {a : α}, l[k]? = some a → l.drop k = a :: l.drop (k + 1)
  | [], k, a, h => by simp at h
  | b :: l, 0, a, h => by
    simp only [List.getElem?_cons_zero, Option.some.injEq] at h
    subst h
    rfl
  | b :: l, k + 1, a, h => by
    rw [List.getElem?_cons_succ] at h
    rw [List.drop_succ_cons, List.drop_succ_cons]
    exact drop_at h
theorem split_size {s p q : ByteArray} (h : splitB s = (p, q)) : p.size ≤ s.size ∧ q.size ≤ s.size := by
  have h1 : p = ⟨(Sp.splitL s.data.toList).1.toArray⟩ := by rw [← (Prod.mk.inj h).1]
  have h2 : q = ⟨(Sp.splitL s.data.toList).2.toArray⟩ := by rw [← (Prod.mk.inj h).2]
  have hs : s.data.toList.length = s.size := Array.length_toList
  have e1 : p.size = (Sp.splitL s.data.toList).1.length := by rw [h1]; rfl
  have e2 : q.size = (Sp.splitL s.data.toList).2.length := by rw [h2]; rfl
  rw [e1, e2, ← hs]
  unfold Sp.splitL
  split
  · simp only [List.length_take, List.length_drop]
    omega
  · simp
theorem snoc_in {w : World} {B sb mb n : Nat} {hv : Value} {L P : List Hide} {G : Env} {x : Hide} (h : SIn w B sb mb (n + P.length + 1) hv (L ++ P ++ [x]) G) : SIn w B sb mb (n + (P ++ [x]).length) hv (L ++ (P ++ [x])) G := by
  rw [List.length_append, ← List.append_assoc]
  exact h
set_option maxHeartbeats 4000000 in
theorem enterD (w0 w : World) (B sb mb n : Nat) (hv av : Value) (L : List Hide) (G : Env) (l : List Att) (hw0 : w0.heap.size = B) (hB : Below B w0 w) (hok : OkS w0) (h : SIn w B sb mb n hv L G) (ha : ARow w0 av l)
    (hl : l.length ≤ 100000000) (hz : ∀ p ∈ l, p.1.size ≤ 1000000 ∧ p.2.size ≤ 140000000000000) (hn : n + l.length ≤ 100000000) (hL : L.length + l.length ≤ 100000000) :
    Calls Try.prog 12 #[.pointer (some ⟨sb, 0, none⟩), av] w fun e w' => Keep (SS sb mb hv) w w' ∧
      (enterP (G, [], []) l = none → e = .returned (.tuple #[nilS, .bool false]) ∧ ∃ n' hv' L' G', SIn w' B sb mb n' hv' L' G') ∧
      (∀ s, enterP (G, [], []) l = some s → ∃ ov hv', e = .returned (.tuple #[ov, .bool true]) ∧ SIn w' B sb mb (n + s.2.1.length) hv' (L ++ s.2.1) s.1 ∧ Grew w hv hv' ∧ w'.ownsRow w.heap.size 24 2 ov s.2.2.length (flatA s.2.2)) := by
  obtain ⟨ab, ao, ⟨aad, acap, rfl, haad⟩, _, hc⟩ := ha
  have HB := hideT hB
  have HK := hideT hok
  have HS := hideT h
  have HC := hideT hc
  have HAD := hideT haad
  obtain ⟨i0, hi0, hz0, hz1, hz2⟩ := info_parts infoA
  have hBw : B ≤ w.heap.size := Nat.le_trans h.sB (Nat.le_of_lt h.lies.lt)
  obtain ⟨m, hm⟩ : ∃ m, m = l.length := ⟨_, rfl⟩
  have HM := hideT hm
  rw [← hm] at hl hn hL ⊢
  have HZ := hideT hz
  clear hB hok h hc haad hm hz
  go_enter Try.func12, Try.ntmps12
  go_wp2_with fail
  go_loopw [13, 6] (fun i o wr => ∃ k : Nat, k ≤ m ∧ i = .int .i64 k ∧ ∃ (s : St) (hv' : Value), Hid (enterP (G, [], []) l = enterP s (l.drop k)) ∧ Hid (Keep (SS sb mb hv) w wr) ∧ Hid (SIn wr B sb mb (n + s.2.1.length) hv' (L ++ s.2.1) s.1) ∧ Hid (Grew w hv hv') ∧ Hid (wr.ownsRow w.heap.size 24 2 o s.2.2.length (flatA s.2.2)) ∧ s.2.1.length + s.2.2.length = k) (fun i _ _ => m - (intOf i).toNat)
  case atStart => exact ⟨0, by omega, rfl, (G, [], []), hv, rfl, Keep.refl _ _, by show SIn w B sb mb (n + 0) hv (L ++ []) G; rw [List.append_nil]; exact HS.out, Grew.refl _ _, World.ownsRow_nil _ _ _ _, rfl⟩
  case round =>
    obtain ⟨k, hk, rfl, s, hv', E1, K1, S1, G1, O1, hln⟩ := hrel
    obtain ⟨oad, ocap, ho⟩ := slice_form O1.out
    subst ho
    by_cases hlt : k < m
    · obtain ⟨⟨nm, vl⟩, ha⟩ : ∃ a, l[k]? = some a := ⟨l[k]'(by have := HM.out; omega), List.getElem?_eq_getElem _⟩
      have HA := hideT ha
      obtain rfl := HAD.out (by have := HM.out; omega)
      have BR := hideT (HS.out.base HB.out K1.out)
      obtain ⟨hzn, hzv⟩ := HZ.out (nm, vl) (List.mem_of_getElem? ha)
      obtain ⟨q0, q1⟩ := HC.out k (nm, vl) ha
      rw [← BR.out.cell (p := ⟨ab, ao + 2 * k, none⟩) (by rw [← hw0]; exact cell_lt q0), Nat.mul_comm] at q0
      rw [← BR.out.cell (p := ⟨ab, ao + 2 * k + 1, none⟩) (by rw [← hw0]; exact cell_lt q1), Nat.mul_comm] at q1
      have HD := hideT (drop_at ha)
      obtain ⟨pre, loc, hsp⟩ : ∃ pre loc, splitB nm = (pre, loc) := ⟨_, _, rfl⟩
      have HSP := hideT hsp
      obtain ⟨hzp, hzl⟩ := split_size hsp
      obtain ⟨V, hV, BV, LV⟩ : ∃ V, wr.alloc (.cells #[.string nm, .string vl] 24) = V ∧ Below wr.heap.size wr V ∧ Lies V wr.heap.size 24 #[.string nm, .string vl] := ⟨_, rfl, (Below.refl _ wr).alloc (Nat.le_refl _) _, Lies.new wr _ _⟩
      have okV := hideT (HK.out.below (B := B) (BR.out.trans (BV.mono (by have := BR.out.size; omega))) (by have := HK.out.lt; omega))
      have HVq := hideT hV
      clear ha hsp hV
      go_wp2_with fail
      rw [HVq.out]
      refine (splitD nm _ hzn okV.out pre loc HSP).mono ?_
      rintro e w1 ⟨rfl, b1⟩
      have B1 := hideT (BV.trans (b1.mono BV.size))
      have S2 := hideT (S1.out.below B1.out)
      have K2 := hideT (K1.out.trans (Keep.of_below B1.out))
      have O2 := hideT (own_keep (w' := w1) O1.out (fun g hg => B1.out.block g (own_lt O1.out hg).1))
      have L2 := hideT (LV.below b1)
      have hzw : w.heap.size ≤ w1.heap.size := K2.out.size
      have y0 : w1.cell? ⟨wr.heap.size, 0, none⟩ = some (.string nm) := L2.out.cell 0
      have y1 : w1.cell? ⟨wr.heap.size, 1, none⟩ = some (.string vl) := L2.out.cell 1
      clear BV LV b1 q0 q1 B1
      by_cases hA : nm = xmlnsB
      · have ES : Hid (stepP s (nm, vl) = some (upd s.1 e0 (vl, true), s.2.1 ++ [(e0, s.1 e0)], s.2.2)) := by
          show _ = _
          unfold stepP
          rw [if_pos hA]
        have EE : Hid (enterP (G, [], []) l = enterP (upd s.1 e0 (vl, true), s.2.1 ++ [(e0, s.1 e0)], s.2.2) (l.drop (k + 1))) := by
          show _ = _
          rw [E1.out, HD.out, enter_step _ ES.out]
        subst hA
        go_wp2_with fail
        refine (declareD w1 B sb mb _ hv' _ s.1 e0 vl S2.out (by decide) hzv (by omega) (by rw [List.length_append]; omega)).mono ?_
        rintro e w2 ⟨rfl, k3, hv'', s3, g3⟩
        have S3 := hideT (snoc_in s3)
        have K3 := hideT (K2.out.on k3 (SS_grew G1.out))
        have G3 := hideT (G1.out.trans K2.out.size g3)
        have O3 := hideT (S2.out.rowKeep O2.out (by decide) (by decide) k3)
        clear k3 s3 g3 y0 y1
        go_wp2_with fail
        go_roundw
        case rel => exact ⟨k + 1, by omega, by go_num, _, hv'', EE, K3, S3, G3, O3, by simp only [List.length_append, List.length_singleton]; omega⟩
        case measure => simp [intOf]; omega
      have t1 : ¬ nm.toList = [120, 109, 108, 110, 115] := tl_ne xmlnsB _ hA rfl
      have t2 : (nm.toList == [120, 109, 108, 110, 115]) = false := tl_beq xmlnsB _ hA rfl
      have HNA := hideT hA
      clear hA
      by_cases hP : pre = e0
      · have ES : Hid (stepP s (nm, vl) = some (s.1, s.2.1, s.2.2 ++ [(nm, vl)])) := by
          show _ = _
          unfold stepP
          rw [if_neg HNA.out, HSP.out, if_pos hP]
        have EE : Hid (enterP (G, [], []) l = enterP (s.1, s.2.1, s.2.2 ++ [(nm, vl)]) (l.drop (k + 1))) := by
          show _ = _
          rw [E1.out, HD.out, enter_step _ ES.out]
        subst hP
        go_wp2_with fail
        refine (newAttrD nm vl w1 (by omega) hzv).mono ?_
        rintro e w2 ⟨rfl, b2⟩
        have S3 := hideT (S2.out.below b2)
        have K3 := hideT (K2.out.trans (Keep.of_below b2))
        have O3 := hideT (own_keep (w' := w2) O2.out (fun g hg => b2.block g (own_lt O2.out hg).1))
        have hzw2 : w.heap.size ≤ w2.heap.size := K3.out.size
        have hos : s.2.2.length ≤ 100000000 := by omega
        clear b2 y0 y1
        go_wp2_with (first | (at_builtin; refine wpList_append_lies _ (by rfl) _ _ _ (by rfl) w.heap.size 24 i0 _ 2 32 Try.underlying25 hi0 hz0 hz1 hz2 rfl (by omega) (.slice oad s.2.2.length ocap) s.2.2.length (flatA s.2.2) (by rfl) (O3.out.alloc _) ⟨w2.heap.size, 0, none⟩ 1 1 [.string nm, .string vl] (by rfl) (by rfl) (World.news_of_block (cs := #[.string nm, .string vl]) (t := 24) (fr := (0, 0)) (heap_alloc_new w2 _)) (by simp [Value.oneCell']) (by omega) (by unfold maxLen; omega) (by omega) (by first | (simp; done) | (simp; omega)) (w2.heap.size + 1) (by simp) ?_; intro gb cap2 w3 hown hgrow hat hlt3) | fail)
        have bA := (Below.refl w2.heap.size w2).alloc (Nat.le_refl _) (.cells #[.string nm, .string vl] 24)
        have S4 := hideT ((S3.out.below bA).grown (O3.out.alloc _) (by decide) (by decide) hgrow)
        have K4 : Hid (Keep (SS sb mb hv) w w3) := (K3.out.trans (Keep.of_below bA)).on (Keep.grown hgrow) (fun i hi e => by have := (own_lt O3.out e).2; omega)
        have O4 : Hid (w3.ownsRow w.heap.size 24 2 (.slice (some ⟨gb, 0, none⟩) (s.2.2.length + 1) cap2) (s.2.2 ++ [(nm, vl)]).length (flatA (s.2.2 ++ [(nm, vl)]))) := by
          show World.ownsRow _ _ _ _ _ _ _
          rw [flatA_app, List.length_append]
          exact hown
        refine ⟨⟨k + 1, by omega, by go_num, (s.1, s.2.1, s.2.2 ++ [(nm, vl)]), hv', EE, K4, S4, G1, O4, by simp only [List.length_append, List.length_singleton]; omega⟩, ?_⟩
        first | omega | (simp [intOf]; omega)
      have u1 : ¬ pre.toList = [] := (tl_empty hP).1
      have u2 : pre.toList.isEmpty = false := (tl_empty hP).2
      have HNP := hideT hP
      clear hP
      by_cases hX : pre = xmlnsB
      · obtain ⟨v, hv0⟩ : ∃ v, mayB loc vl = v := ⟨_, rfl⟩
        have HMV := hideT hv0
        have HX := hideT hX
        clear hv0
        subst hX
        cases v with
        | true =>
          have ES : Hid (stepP s (nm, vl) = some (upd s.1 loc (vl, true), s.2.1 ++ [(loc, s.1 loc)], s.2.2)) := by
            show _ = _
            unfold stepP
            rw [if_neg HNA.out, HSP.out, if_neg HNP.out, if_pos ⟨rfl, HMV.out⟩]
          have EE : Hid (enterP (G, [], []) l = enterP (upd s.1 loc (vl, true), s.2.1 ++ [(loc, s.1 loc)], s.2.2) (l.drop (k + 1))) := by
            show _ = _
            rw [E1.out, HD.out, enter_step _ ES.out]
          go_wp2_with fail
          refine (mayD loc vl w1).mono ?_
          rw [HMV.out]
          rintro e w2 ⟨rfl, rfl⟩
          go_wp2_with fail
          refine (declareD _ B sb mb _ hv' _ s.1 loc vl S2.out (by omega) hzv (by omega) (by rw [List.length_append]; omega)).mono ?_
          rintro e w3 ⟨rfl, k3, hv'', s3, g3⟩
          have S3 := hideT (snoc_in s3)
          have K3 := hideT (K2.out.on k3 (SS_grew G1.out))
          have G3 := hideT (G1.out.trans K2.out.size g3)
          have O3 := hideT (S2.out.rowKeep O2.out (by decide) (by decide) k3)
          clear k3 s3 g3 y0 y1
          go_wp2_with fail
          go_roundw
          case rel => exact ⟨k + 1, by omega, by go_num, _, hv'', EE, K3, S3, G3, O3, by simp only [List.length_append, List.length_singleton]; omega⟩
          case measure => simp [intOf]; omega
        | false =>
          have EE : Hid (enterP (G, [], []) l = none) := by
            show _ = _
            rw [E1.out, HD.out]
            refine enter_stop _ ?_
            unfold stepP
            rw [if_neg HNA.out, HSP.out, if_neg HNP.out, if_neg (fun e => by have := e.2; rw [HMV.out] at this; cases this)]
          go_wp2_with fail
          refine (mayD loc vl w1).mono ?_
          rw [HMV.out]
          rintro e w2 ⟨rfl, rfl⟩
          go_wp2_with fail
          go_ret2
          exact ⟨K2.out, fun _ => ⟨rfl, _, _, _, _, S2.out⟩, fun s h => by rw [EE.out] at h; cases h⟩
      · have EE : Hid (enterP (G, [], []) l = none) := by
          show _ = _
          rw [E1.out, HD.out]
          refine enter_stop _ ?_
          unfold stepP
          rw [if_neg HNA.out, HSP.out, if_neg HNP.out, if_neg (fun e => hX e.1)]
        have v1 : ¬ pre.toList = [120, 109, 108, 110, 115] := tl_ne xmlnsB _ hX rfl
        have v2 : (pre.toList == [120, 109, 108, 110, 115]) = false := tl_beq xmlnsB _ hX rfl
        go_wp2_with fail
        go_ret2
        exact ⟨K2.out, fun _ => ⟨rfl, _, _, _, _, S2.out⟩, fun s h => by rw [EE.out] at h; cases h⟩
    · have EE : Hid (enterP (G, [], []) l = some s) := by
        show _ = _
        rw [E1.out, List.drop_eq_nil_of_le (by have := HM.out; omega)]
        rfl
      go_wp2_with fail
      go_ret2
      refine ⟨K1.out, fun h => (by rw [EE.out] at h; cases h), fun s' h => ?_⟩
      rw [EE.out] at h
      cases h
      exact ⟨_, hv', rfl, S1.out, G1.out, O1.out⟩
end Go.Proofs.Ythbkipmimkepkab
