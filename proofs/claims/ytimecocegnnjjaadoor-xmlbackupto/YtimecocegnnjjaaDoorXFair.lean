/-
  The law's own 'fair': what it calls so may be written.
-/
import Derived.Test.YtimecocegnnjjaaDoorXFairP
import Derived.Test.YtimecocegnnjjaaDoorRefQual
import Derived.Test.YtimecocegnnjjaaDoorRefSigns
import Derived.Deep.QuietTactic
import Derived.BigQuiet
set_option linter.unusedSimpArgs false
set_option linter.unusedVariables false
namespace Go.Proofs.YtimecocegnnjjaaDoor
open Go.RowKit
theorem hideF {p : Prop} (h : p) : Hid p := h
theorem qdrew {B : Nat} {a w : World} (h : Below B a w) {n : Nat} : Below B a (w.drewN n) := h.trans ⟨rfl, rfl, rfl, Nat.le_refl _, fun _ _ => rfl⟩
theorem xcell {w w' : World} (hb : Below w.heap.size w w') {a : Addr} {c : Value} (h : w.cell? a = some c) : w'.cell? a = some c := by
  rw [hb.cell (cell_lt h)]
  exact h
theorem isQualRef_w (s : ByteArray) (w : World) (hs : s.size ≤ 1000000) (b : Bool) (h : Hid (Sp.qualB s.data.toList = b)) :
    Calls Tryd.prog 10 #[.string s] w fun e w' => e = .returned (.bool b) ∧ Below w.heap.size w w' :=
  (isQualRef_any s w hs).mono fun e w' ⟨h1, h2⟩ => ⟨by rw [h1, h.out], h2⟩
theorem signsRef_w (s : ByteArray) (w : World) (hs : s.size ≤ 1000000) (hw : Tabs w) (b : Bool) (h : Hid (Sp.signsB s.data.toList = b)) :
    Calls Tryd.prog 11 #[.string s] w fun e w' => e = .returned (.bool b) ∧ Below w.heap.size w w' :=
  (signsT_any s w (by omega) hw).mono fun e w' ⟨h1, h2⟩ => ⟨by rw [h1, h.out], h2⟩
/-- What was looked at up to k may stand. -/
def FairTo (l : List (ByteArray × ByteArray)) (k : Nat) : Prop := (∀ a ∈ l.take k, Sp.qualB a.1.data.toList = true ∧ Sp.signsB a.2.data.toList = true ∧ a.2.data.toList.length ≤ 60) ∧ ((l.take k).map fun a => a.1.data.toList).Nodup
theorem FairTo.next {l : List (ByteArray × ByteArray)} {k : Nat} {pa pb : ByteArray} (h : FairTo l k) (hp : l[k]? = some (pa, pb)) (h1 : Sp.qualB pa.data.toList = true) (h2 : Sp.signsB pb.data.toList = true) (h3 : pb.size ≤ 60) (h4 : ∀ i x, i < k → l[i]? = some x → x.1 ≠ pa) : FairTo l (k + 1) := by
  obtain ⟨hk, e⟩ := List.getElem?_eq_some_iff.1 hp
  unfold FairTo at *
  rw [List.take_succ_eq_append_getElem hk, e, List.map_append]
  refine ⟨fun a ha => ?_, ?_⟩
  · rcases List.mem_append.1 ha with ha | ha
    · exact h.1 a ha
    · rw [List.mem_singleton.1 ha]
      exact ⟨h1, h2, by rw [Array.length_toList]; exact h3⟩
  · rw [List.nodup_append]
    refine ⟨h.2, by simp, fun a ha b hb => ?_⟩
    obtain ⟨y, hy, rfl⟩ := List.mem_map.1 ha
    rw [List.map_singleton, List.mem_singleton] at hb
    subst hb
    obtain ⟨i, hi, e2⟩ := List.mem_iff_getElem.1 hy
    rw [List.length_take] at hi
    rw [List.getElem_take] at e2
    have h5 := h4 i y (by omega) (by rw [List.getElem?_eq_getElem (by omega), e2])
    intro e3
    apply h5
    obtain ⟨⟨y1⟩, y2⟩ := y
    obtain ⟨p1⟩ := pa
    simp only at e3 ⊢
    congr 1
    exact Array.toList_inj.1 e3
set_option maxHeartbeats 4000000 in
set_option maxRecDepth 100000 in
theorem fair_law : ∀ (n : Nat) (w : World) (c0 c1 c2 c3 : Value) (T : Tr) (d : Nat), EIn w n c0 c1 c2 c3 T → Xp.smallT n T → Tabs w → d ≤ 12 →
    Calls Tryd.prog 5 #[.agg #[c0, c1, c2, c3], .int .i64 d] w fun e w' => (∃ b : Bool, e = .returned (.bool b) ∧ (b = true → Xp.fairT (12 - d) T)) ∧ Below w.heap.size w w' := by
  intro n
  induction n with
  | zero => intro w c0 c1 c2 c3 T x h; exact h.elim
  | succ n ih =>
    rintro w c0 c1 c2 c3 T d ⟨nm, p, l, ks, rfl, rfl, rfl, hs1, ⟨ab, ao, ⟨aao, acap, rfl, haao⟩, ⟨hal, hz⟩, hac⟩, kb1, ko1, ⟨kao1, kcap1, rfl, hkao1⟩, hkl1, hk1⟩ hS hTabs hd
    obtain ⟨s1, s2, s3⟩ := hS nm l ks p rfl
    have IH := hideF ih
    have HS2 := hideF s2
    have HS3 := hideF s3
    have HTB := hideF hTabs
    have HC := hideF hac
    have HK1 := hideF hk1
    have HAO := hideF haao
    have HKO := hideF hkao1
    clear ih hz hac hk1 haao hkao1 hS s2 s3 hTabs
    obtain ⟨W, hW⟩ : ∃ W, W = w.alloc (.cells #[.string nm, .slice aao l.length acap, .slice kao1 ks.length kcap1, .int .i64 p] 25) := ⟨_, rfl⟩
    have X0 : Hid (W.cell? ⟨w.heap.size, 0, none⟩ = some (.string nm)) := by
      show _ = _
      rw [hW, cell_new]
      rfl
    have X1 : Hid (W.cell? ⟨w.heap.size, 1, none⟩ = some (.slice aao l.length acap)) := by
      show _ = _
      rw [hW, cell_new]
      rfl
    have X2 : Hid (W.cell? ⟨w.heap.size, 2, none⟩ = some (.slice kao1 ks.length kcap1)) := by
      show _ = _
      rw [hW, cell_new]
      rfl
    have zW : W.heap.size = w.heap.size + 1 := by rw [hW]; simp
    have BV : Hid (Below w.heap.size w W) := by rw [hW]; exact (Below.refl _ w).alloc (Nat.le_refl _) _
    have HWW := hideF hW
    clear hW
    have t0 := X0.out
    have t1 := X1.out
    cases hq : Sp.qualB nm.data.toList with
    | false =>
      have HQ := hideF hq
      clear hq
      go_enter Tryd.func5, Tryd.ntmps5
      go_wp2_with fail
      rw [← HWW.out]
      go_wp2_with (go_at_call 10; refine (isQualRef_w nm W (by omega) false HQ).mono ?_; rintro e w1 ⟨rfl, b1⟩)
      go_ret
      exact ⟨⟨false, rfl, fun h => by cases h⟩, BV.out.trans (b1.mono BV.out.size)⟩
    | true =>
      have HQ := hideF hq
      clear hq
      have q1 : ∀ w1, Below W.heap.size W w1 → w1.cell? ⟨w.heap.size, 1, none⟩ = some (.slice aao l.length acap) := fun w1 b => xcell b X1.out
      have HX1 := hideF q1
      clear q1
      by_cases h8 : 8 < l.length
      · have h8z : (8 : Int) < (l.length : Int) := by omega
        go_enter Tryd.func5, Tryd.ntmps5
        go_wp2_with fail
        rw [← HWW.out]
        go_wp2_with (go_at_call 10; refine (isQualRef_w nm W (by omega) true HQ).mono ?_; rintro e w1 ⟨rfl, b1⟩; have y1 := HX1.out w1 b1)
        go_ret
        exact ⟨⟨false, rfl, fun h => by cases h⟩, BV.out.trans (b1.mono BV.out.size)⟩
      have h8z : ¬ ((8 : Int) < (l.length : Int)) := by omega
      by_cases h12 : 12 ≤ d
      · have h12z : (12 : Int) ≤ (d : Int) := by omega
        go_enter Tryd.func5, Tryd.ntmps5
        go_wp2_with fail
        rw [← HWW.out]
        go_wp2_with (go_at_call 10; refine (isQualRef_w nm W (by omega) true HQ).mono ?_; rintro e w1 ⟨rfl, b1⟩; have y1 := HX1.out w1 b1)
        go_ret
        exact ⟨⟨false, rfl, fun h => by cases h⟩, BV.out.trans (b1.mono BV.out.size)⟩
      have h12z : ¬ ((12 : Int) ≤ (d : Int)) := by omega
      go_enter Tryd.func5, Tryd.ntmps5
      go_wp2_with fail
      rw [← HWW.out]
      go_wp2_with (go_at_call 10; refine (isQualRef_w nm W (by omega) true HQ).mono ?_; rintro e w1 ⟨rfl, b1⟩; have y1 := HX1.out w1 b1; have HB1 := hideF b1; clear b1)
      clear y1 t0 t1
      go_loopw [5] (fun i wr => ∃ k : Nat, k ≤ l.length ∧ i = .int .i64 k ∧ Hid (Below W.heap.size W wr) ∧ Hid (FairTo l k)) (fun i _ => l.length - (intOf i).toNat)
      case atStart => exact ⟨0, by omega, rfl, HB1.out, ⟨fun a ha => by simp at ha, by simp⟩⟩
      case round =>
        obtain ⟨k, hk, rfl, HB, HF⟩ := hrel
        have x1 := HX1.out _ HB.out
        by_cases hlt : k < l.length
        · obtain rfl := HAO.out (by omega)
          obtain ⟨⟨pa, pb⟩, hp⟩ : ∃ p, l[k]? = some p := ⟨l[k]'hlt, List.getElem?_eq_getElem _⟩
          obtain ⟨q1, q2⟩ := HC.out k _ hp
          obtain ⟨z1, z2⟩ := HS2.out _ (List.mem_of_getElem? hp)
          have BR : Hid (Below w.heap.size w wr) := BV.out.trans (HB.out.mono (by omega))
          have p1 : wr.cell? ⟨ab, ao + k * 2, none⟩ = some (.string pa) := by rw [Nat.mul_comm]; exact xcell BR.out q1
          have p2 : wr.cell? ⟨ab, ao + k * 2 + 1, none⟩ = some (.string pb) := by rw [Nat.mul_comm]; exact xcell BR.out q2
          have i0 : (0 : Int) ≤ (k : Int) := by omega
          have i1 : (k : Int) < (l.length : Int) := by omega
          have HP := hideF hp
          simp only at z1 z2
          clear hp q1 q2
          cases hqa : Sp.qualB pa.data.toList with
          | false =>
            have HQA := hideF hqa
            clear hqa
            go_wp2_with (go_at_call 10; refine (isQualRef_w pa wr (by omega) false HQA).mono ?_; rintro e w1 ⟨rfl, b1⟩)
            go_ret
            exact ⟨⟨false, rfl, fun h => by cases h⟩, BV.out.trans ((HB.out.trans (b1.mono HB.out.size)).mono BV.out.size)⟩
          | true =>
            have HQA := hideF hqa
            clear hqa
            cases hsb : Sp.signsB pb.data.toList with
            | false =>
              have HSB := hideF hsb
              clear hsb
              go_wp2_with (first
                | (go_at_call 10; refine (isQualRef_w pa wr (by omega) true HQA).mono ?_; rintro e w2 ⟨rfl, b2⟩; have y1 := xcell b2 x1; have y2 := xcell b2 p2; have HB2 := hideF (HB.out.trans (b2.mono HB.out.size)); clear b2)
                | (go_at_call 11; refine (signsRef_w pb w2 (by omega) (HTB.out.below (BV.out.trans (HB2.out.mono BV.out.size))) false HSB).mono ?_; rintro e w3 ⟨rfl, b3⟩))
              go_ret
              exact ⟨⟨false, rfl, fun h => by cases h⟩, BV.out.trans ((HB2.out.trans (b3.mono HB2.out.size)).mono BV.out.size)⟩
            | true =>
              have HSB := hideF hsb
              clear hsb
              by_cases h60 : 60 < pb.size
              · have h60z : (60 : Int) < (pb.size : Int) := by omega
                go_wp2_with (first
                  | (go_at_call 10; refine (isQualRef_w pa wr (by omega) true HQA).mono ?_; rintro e w2 ⟨rfl, b2⟩; have y1 := xcell b2 x1; have y2 := xcell b2 p2; have HB2 := hideF (HB.out.trans (b2.mono HB.out.size)); clear b2)
                  | (go_at_call 11; refine (signsRef_w pb w2 (by omega) (HTB.out.below (BV.out.trans (HB2.out.mono BV.out.size))) true HSB).mono ?_; rintro e w3 ⟨rfl, b3⟩; have u1 := xcell b3 y1; have u2 := xcell b3 y2))
                go_ret
                exact ⟨⟨false, rfl, fun h => by cases h⟩, BV.out.trans ((HB2.out.trans (b3.mono HB2.out.size)).mono BV.out.size)⟩
              · have h60z : ¬ ((60 : Int) < (pb.size : Int)) := by omega
                go_wp2_with (first
                  | (go_at_call 10; refine (isQualRef_w pa wr (by omega) true HQA).mono ?_; rintro e w2 ⟨rfl, b2⟩; have y1 := xcell b2 x1; have y2 := xcell b2 p2; have HB2 := hideF (HB.out.trans (b2.mono HB.out.size)); clear b2)
                  | (go_at_call 11; refine (signsRef_w pb w2 (by omega) (HTB.out.below (BV.out.trans (HB2.out.mono BV.out.size))) true HSB).mono ?_; rintro e w3 ⟨rfl, b3⟩; have u1 := xcell b3 y1; have u2 := xcell b3 y2; have HB3 := hideF (HB2.out.trans (b3.mono HB2.out.size)); clear b3))
                clear y1 y2 u1 u2 x1 p1 p2
                go_loopw [6] (fun j ws => ∃ q : Nat, q ≤ k ∧ j = .int .i64 q ∧ Hid (Below W.heap.size W ws) ∧ Hid (∀ i x, i < q → l[i]? = some x → x.1 ≠ pa)) (fun j _ => k - (intOf j).toNat)
                case atStart => exact ⟨0, by omega, rfl, HB3.out, fun i x hi => absurd hi (by omega)⟩
                case round =>
                  obtain ⟨q, hq, rfl, HB4, HN⟩ := hrel
                  by_cases hlt4 : q < k
                  · obtain ⟨⟨qa, qb⟩, hq4⟩ : ∃ p, l[q]? = some p := ⟨l[q]'(by omega), List.getElem?_eq_getElem _⟩
                    have BR4 : Hid (Below w.heap.size w wr) := BV.out.trans (HB4.out.mono (by omega))
                    have g1 := HX1.out _ HB4.out
                    have g2 : wr.cell? ⟨ab, ao + q * 2, none⟩ = some (.string qa) := by rw [Nat.mul_comm]; exact xcell BR4.out (HC.out q _ hq4).1
                    have g3 : wr.cell? ⟨ab, ao + k * 2, none⟩ = some (.string pa) := by rw [Nat.mul_comm]; exact xcell BR4.out (HC.out k _ HP.out).1
                    have HQ4 := hideF hq4
                    clear hq4
                    have j1 : (q : Int) < (k : Int) := by omega
                    have j2 : (q : Int) < (l.length : Int) := by omega
                    go_wp2_with fail
                    go_quiet (fail)
                    go_wp2_with fail
                    all_goals rename_i hne
                    all_goals (first
                      | (go_ret; exact ⟨⟨false, rfl, fun h => by cases h⟩, BV.out.trans ((qdrew (HB4.out)).mono BV.out.size)⟩)
                      | (go_roundw
                         case rel => exact ⟨q + 1, by omega, by go_num, qdrew HB4.out, fun i x hi hx => by
                           by_cases e : i = q
                           · subst e
                             rw [HQ4.out] at hx
                             obtain rfl := Option.some.inj hx
                             intro e2
                             simp only at e2
                             subst e2
                             simp at hne
                           · exact HN.out i x (by omega) hx⟩
                         case measure => simp [intOf]; omega))
                  · have hqk : q = k := by omega
                    subst hqk
                    have j1 : ¬ ((q : Int) < (q : Int)) := by omega
                    go_wp2_with fail
                    go_roundw
                    case rel => exact ⟨q + 1, by omega, by go_num, HB4, HF.out.next HP.out HQA.out HSB.out (by omega) HN.out⟩
                    case measure => simp [intOf]; omega
        · have hkl : k = l.length := by omega
          subst hkl
          have i1 : ¬ ((l.length : Int) < (l.length : Int)) := by omega
          go_wp2_with fail
          clear x1
          go_loopw [7] (fun j ws => ∃ q : Nat, q ≤ ks.length ∧ j = .int .i64 q ∧ Hid (Below W.heap.size W ws) ∧ Hid (∀ K ∈ ks.take q, Xp.fairT (12 - (d + 1)) K)) (fun j _ => ks.length - (intOf j).toNat)
          case atStart => exact ⟨0, by omega, rfl, HB.out, fun K hK => by simp at hK⟩
          case round =>
            obtain ⟨q, hq, rfl, HB2, HG⟩ := hrel
            have x2 : wr.cell? ⟨w.heap.size, 2, none⟩ = some (.slice kao1 ks.length kcap1) := xcell HB2.out X2.out
            by_cases hlt2 : q < ks.length
            · obtain rfl := HKO.out (by omega)
              obtain ⟨K, hK⟩ : ∃ K, ks[q]? = some K := ⟨ks[q]'hlt2, List.getElem?_eq_getElem _⟩
              obtain ⟨f0, f1, f2, f3, hf, he⟩ := HK1.out q K hK
              have BR : Hid (Below w.heap.size w wr) := BV.out.trans (HB2.out.mono (by omega))
              have EF : Hid (EIn wr n f0 f1 f2 f3 K) := EIn.below BR.out he
              obtain ⟨q0, q1, q2, q3⟩ := hf.below BR.out
              rw [Nat.mul_comm] at q0 q1 q2 q3
              have j1 : (q : Int) < (ks.length : Int) := by omega
              have HKK := hideF hK
              have HI := hideF (IH.out wr f0 f1 f2 f3 K (d + 1) (EIn.below BR.out he) (HS3.out K (List.mem_of_getElem? hK)) (HTB.out.below BR.out) (by omega))
              rw [show (((d + 1 : Nat)) : Int) = (d : Int) + 1 by omega] at HI
              clear hK hf he
              go_wp2_with fail
              refine HI.out.mono ?_
              rintro e w2 ⟨⟨t, rfl, ht⟩, b2⟩
              have B2 : Hid (Below W.heap.size W w2) := HB2.out.trans (b2.mono HB2.out.size)
              have HT2 := hideF ht
              clear b2 q0 q1 q2 q3 EF x2 ht HI
              cases t with
              | false =>
                go_wp2_with fail
                go_ret
                exact ⟨⟨false, rfl, fun h => by cases h⟩, BV.out.trans (B2.out.mono BV.out.size)⟩
              | true =>
                go_wp2_with fail
                go_roundw
                case rel => exact ⟨q + 1, by omega, by go_num, B2, fun K2 hK2 => by
                  obtain ⟨h1, h2⟩ := List.getElem?_eq_some_iff.1 HKK.out
                  rw [List.take_succ_eq_append_getElem h1, h2] at hK2
                  rcases List.mem_append.1 hK2 with h3 | h3
                  · exact HG.out K2 h3
                  · rw [List.mem_singleton.1 h3]
                    exact HT2.out trivial⟩
                case measure => simp [intOf]; omega
            · have hqk : q = ks.length := by omega
              subst hqk
              have j1 : ¬ ((ks.length : Int) < (ks.length : Int)) := by omega
              have HR : Hid (Xp.fairT (12 - d) (Xp.mkT nm l ks p)) := by
                show Xp.fairT (12 - d) _
                rw [show 12 - d = (12 - (d + 1)) + 1 by omega]
                have f1 := HF.out
                unfold FairTo at f1
                rw [List.take_length] at f1
                have f2 := HG.out
                rw [List.take_length] at f2
                exact ⟨nm, l, ks, p, rfl, HQ.out, by omega, f1.1, f1.2, f2⟩
              go_wp2_with fail
              go_ret
              exact ⟨.inr ⟨rfl, HR.out⟩, BV.out.trans (HB2.out.mono BV.out.size)⟩
end Go.Proofs.YtimecocegnnjjaaDoor
