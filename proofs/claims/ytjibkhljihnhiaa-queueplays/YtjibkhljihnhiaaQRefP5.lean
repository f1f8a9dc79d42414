/-
  The document's Push: at the end of a row with room. (Written by QRefPush.py.)
-/
import Derived.Test.YtjibkhljihnhiaaQRefApp
set_option linter.unusedSimpArgs false
set_option linter.unusedVariables false
namespace Go.Proofs.Ytjibkhljihnhiaa
open Go.RowKit
open Qp
set_option maxHeartbeats 8000000 in
theorem refPush5 (w : World) (H xb g o cap N : Nat) (L : List Thing) (d x : Int) (h : XAt w H xb g o (some ⟨g, o, none⟩) cap L) (hN : L.length = N) (hH : H ≤ w.heap.size) (hl : N < 100) (k : Nat) (hI : Ins L (d, x) k) (hk : k = N) (hc : ¬ cap = k) :
    Calls Try.prog 11 #[.pointer (some ⟨xb, 0, none⟩), .int .i64 d, .int .i64 x] w fun e w' => e = .returned (.bool true) ∧ (∃ g' o' ao' cap', XAt w' H xb g' o' ao' cap' (L.take k ++ [(d, x)] ++ L.drop k)) ∧ Keep (fun k => k = xb) w w' := by
  subst hk
  have q0 : w.cell? ⟨xb, 0, none⟩ = some (.slice (some ⟨g, o, none⟩) k cap) := by
    have := h.box.cell 0
    rw [hN] at this
    exact this
  have f0 := h.box.free 0
  have hxl := h.box.lt
  have hcn := h.capn
  rw [hN] at hcn
  have HX := hideT h
  have HN := hideT hN
  have F0 := hideT f0
  have HXL := hideT hxl
  have Q0 := hideT q0
  have hlz : ¬ ((100 : Int) ≤ (k : Int)) := by omega
  have CW : Hid (∀ q, TwoAt (((w.drewN q).alloc (.cells #[.int .i64 d, .int .i64 x] 49)).alloc (.cells #[] 49)) w.heap.size d x) := fun q => (new_two (w.drewN q) d x w.heap.size rfl).mono (qcell ((Below.refl _ _).alloc (Nat.le_refl _) _))
  have HI := hideT hI
  clear hI
  have hc2 : ¬ k = cap := by omega
  clear h hN
  go_enter Try.func11, Try.ntmps11
  go_wp2_with fail
  go_loop [7] (fun s => ∃ (j : Nat), s = .int .i64 j ∧ j ≤ k) (fun s => k - (intOf s).toNat)
  case atStart => exact ⟨0, rfl, by omega⟩
  case round =>
    obtain ⟨j, rfl, hj⟩ := hrel
    by_cases hlt : j < k
    · have hlt2 : (j : Int) < (k : Int) := by omega
      obtain ⟨c0, c1⟩ := HX.out.two (k := j) (by have := HN.out; omega)
      have hv := HI.out.low j hlt
      generalize at_ L j = a at *
      obtain ⟨a1, a2⟩ := a
      simp only at c0 c1
      rw [lt_no] at hv
      simp only at hv
      by_cases e1 : a1 < d
      · clear hv
        go_wp2_with fail
        go_round
        case rel => exact ⟨j + 1, by go_num, by omega⟩
        case measure => simp [intOf]; omega
      · have e2 : a1 = d := by omega
        have e3 : a2 ≤ x := by omega
        clear hv e1
        subst e2
        go_wp2_with fail
        go_round
        case rel => exact ⟨j + 1, by go_num, by omega⟩
        case measure => simp [intOf]; omega
    · have hjk : j = k := by omega
      obtain rfl := hjk.symm
      clear hlt hj
      have hlt2 : ¬ ((k : Int) < (k : Int)) := by omega
      have hkc : k ≤ cap := by omega
      go_wp2_with fail
      have HTL : Hid ((L.take k).length = k) := by
        show _ = _
        rw [List.length_take, HN.out]
        try omega
      have HTD : Hid ((L.drop k).length = 0) := by
        show _ = _
        rw [List.length_drop, HN.out]
        try omega
      have HS1 : Hid (∀ (q : Nat) u, ((L.take k).map thE).flatten[q]? = some u → w.cell? ((⟨g, o, none⟩ : Addr).add q) = some u) := fun q u hu => by
        rw [← flatQ_is, ← flatQ_take, List.getElem?_take] at hu
        split at hu
        · rw [qadd_plain]
          exact HX.out.cells q u hu
        · cases hu
      go_region_law (first
        | (refine step_appX (by rfl) (.tmp 60) (.tmp 66) (by rfl) (W0 := w) (v := .slice (some ⟨w.heap.size, 0, none⟩) 0 0) (by rfl) (by rfl) (by exact TEQ.empty (qdrewN (Below.refl _ w) _) _ (by simp)) (L.take k) HTL.out (fun _ => ⟨_, rfl, fun q u hu => by first | exact qcell ((qdrewN (Below.refl _ w) _).alloc (by simp) _) _ _ (HS1.out q u hu) | exact qcell (((qdrewN (Below.refl _ w) _).alloc (by simp) _).alloc (by simp) _) _ _ (HS1.out q u hu)⟩) (by simp; try omega) ?_; intro v1 W1 T1 G1; rw [List.nil_append] at T1; have e1 := T1.cell Q0.out; have e1a := fun o1 => qcell ((Below.refl _ W1).alloc (Nat.le_refl _) o1) _ _ e1; skip)
        | (refine step_appX (by rfl) (.tmp 60) (.tmp 66) (by rfl) (W0 := w) (v := .slice (some ⟨w.heap.size, 0, none⟩) 0 0) (by rfl) (by rfl) (by exact (TEQ.empty (qdrewN (Below.refl _ w) _) _ (by simp)).alloc _) (L.take k) HTL.out (fun _ => ⟨_, rfl, fun q u hu => by first | exact qcell ((qdrewN (Below.refl _ w) _).alloc (by simp) _) _ _ (HS1.out q u hu) | exact qcell (((qdrewN (Below.refl _ w) _).alloc (by simp) _).alloc (by simp) _) _ _ (HS1.out q u hu)⟩) (by simp; try omega) ?_; intro v1 W1 T1 G1; rw [List.nil_append] at T1; have e1 := T1.cell Q0.out; have e1a := fun o1 => qcell ((Below.refl _ W1).alloc (Nat.le_refl _) o1) _ _ e1; have X1 := G1.two (w.heap.size + 1) (by simp [Value.ownBlock]) (new_two _ d x _ (by simp)))
        | (refine step_appX (by rfl) (.tmp 60) (.tmp 66) (by rfl) (W0 := w) (v := .slice (some ⟨w.heap.size + 1, 0, none⟩) 0 0) (by rfl) (by rfl) (by exact TEQ.empty ((qdrewN (Below.refl _ w) _).alloc (by simp) _) _ (by simp)) (L.take k) HTL.out (fun _ => ⟨_, rfl, fun q u hu => by first | exact qcell ((qdrewN (Below.refl _ w) _).alloc (by simp) _) _ _ (HS1.out q u hu) | exact qcell (((qdrewN (Below.refl _ w) _).alloc (by simp) _).alloc (by simp) _) _ _ (HS1.out q u hu)⟩) (by simp; try omega) ?_; intro v1 W1 T1 G1; rw [List.nil_append] at T1; have e1 := T1.cell Q0.out; have e1a := fun o1 => qcell ((Below.refl _ W1).alloc (Nat.le_refl _) o1) _ _ e1; have X1 := G1.two w.heap.size (by simp [Value.ownBlock]) (CW.out _))
        | (refine step_appX (by rfl) (.tmp 67) (.tmp 71) (by rfl) (W0 := w) (v := v1) (by rfl) (by rfl) (by first | exact T1.alloc _ | exact T1) [(d, x)] (by rfl) (two_src (by first | exact new_two _ _ _ _ (by rfl) | exact X1)) (by rw [HTL.out]; omega) ?_; intro v2 W2 T2 G2; have e2 := T2.cell Q0.out)
        | (refine step_appX (by rfl) (.tmp 72) (.tmp 78) (by rfl) (W0 := w) (v := v2) (by rfl) (by rfl) (by exact T2) (L.drop k) HTD.out (fun h => absurd h (by omega)) (by rw [List.length_append, HTL.out]; simp; try omega) ?_; intro v3 W3 T3 G3; have e3 := T3.cell Q0.out; have e3f := T3.frozen F0.out HXL.out; obtain ⟨oa, oc, n3, hv3, hn3⟩ := T3.shape; subst hv3; have hT3 := hideT T3; have hN3 := hideT hn3; clear T3 hn3))
      all_goals (try go_wp2_with fail)
      all_goals go_ret
      all_goals exact ⟨rfl, (HX.out.inserted (M := L.take k ++ [(d, x)] ++ L.drop k) hH hT3.out (ins_len HN.out (by omega)) hN3.out)⟩
end Go.Proofs.Ytjibkhljihnhiaa
