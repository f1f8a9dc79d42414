/-
  heap.Push, heap.Pop: the library's own text, over the queue's row.
-/
import Derived.Test.YtjibkhljihnhiaaQDown
set_option linter.unusedSimpArgs false
set_option linter.unusedVariables false
namespace Go.Proofs.Ytjibkhljihnhiaa
open Go.RowKit
open Qp
/-- A queue whose row is a heap. -/
structure QH (w : World) (H b : Nat) (v : Value) (L : List Thing) : Prop where
  q : QAt w H b v L
  heap : HeapN L L.length
theorem QH.keep {w w' : World} {H b : Nat} {v : Value} {L : List Thing} (h : QH w H b v L) {S : Nat → Prop} (k : Keep S w w') (hs : ∀ i, QS b v i → ¬ S i) : QH w' H b v L := ⟨h.q.keep k hs, h.heap⟩
theorem QH.below {w w' : World} {H b : Nat} {v : Value} {L : List Thing} (h : QH w H b v L) (k : Below w.heap.size w w') : QH w' H b v L := ⟨h.q.below k, h.heap⟩
/-- What a call leaves that has turned the queue alone. -/
structure QTo (w w' : World) (H b : Nat) (v v' : Value) (L' : List Thing) : Prop where
  h : QH w' H b v' L'
  keep : Keep (QS b v) w w'
  grew : Grew w v v'
theorem QTo.refl {w : World} {H b : Nat} {v : Value} {L : List Thing} (h : QH w H b v L) : QTo w w H b v v L := ⟨h, Keep.refl _ _, Grew.refl _ _⟩
theorem QTo.trans {w w1 w2 : World} {H b : Nat} {v v1 v2 : Value} {L1 L2 : List Thing} (h : QTo w w1 H b v v1 L1) (k : QTo w1 w2 H b v1 v2 L2) : QTo w w2 H b v v2 L2 :=
  ⟨k.h, h.keep.on k.keep (fun i hi e => by
    rcases e with e | e
    · exact .inl e
    · rcases h.grew with g | ⟨g, g1, g2⟩
      · exact .inr (g ▸ e)
      · rw [g1] at e
        have := Option.some.inj e
        omega), h.grew.trans h.keep.size k.grew⟩
theorem upI (w : World) (H b g n cap : Nat) (L : List Thing) (j : Nat) (x : Int) (hx : x = j) (h : QAt w H b (.slice (some ⟨g, 0, none⟩) n cap) L) (hL : L.length = n) (hj : j < n) (hn : n ≤ 1000) (hu : Up L j) :
    Calls Try.prog 22 #[.iface 46 (.pointer (some ⟨b, 0, none⟩)), .int .i64 x] w fun e w' => e = .returned (.tuple #[]) ∧ ∃ L', QGo w w' H b g n cap L L' ∧ HeapN L' L'.length := by
  subst hx
  exact upQ w H b g n cap L j h hL hj hn hu
theorem downI (w : World) (H b g n cap : Nat) (L0 L : List Thing) (m : Nat) (x : Int) (hx : x = m) (w0 : World) (h : QGo w0 w H b g n cap L0 L) (hm : m ≤ n) (hn : n ≤ 1000) (hu : Down L m 0) :
    Calls Try.prog 23 #[.iface 46 (.pointer (some ⟨b, 0, none⟩)), .int .i64 0, .int .i64 x] w fun e w' => (∃ v, e = .returned (.bool v)) ∧ ∃ L', QGo w0 w' H b g n cap L0 L' ∧ HeapN L' m ∧ (m < n → at_ L' m = at_ L m) := by
  subst hx
  exact downQ w H b g n cap L0 L m w0 h hm hn hu
set_option maxHeartbeats 4000000 in
theorem hpushQ (w : World) (H b : Nat) (v : Value) (L : List Thing) (x : Thing) (h : QH w H b v L) (hH : H ≤ w.heap.size) (hl : L.length < 1000) :
    Calls Try.prog 19 #[.iface 46 (.pointer (some ⟨b, 0, none⟩)), .iface 48 (.agg #[.int .i64 x.1, .int .i64 x.2])] w fun e w' => e = .returned (.tuple #[]) ∧ ∃ v' L', QTo w w' H b v v' L' ∧ L'.Perm (x :: L) := by
  have eP := enters_of Try.func47 (by kernel_rfl) rfl
  have eL := enters_of Try.func40 (by kernel_rfl) rfl
  have mP := fun w => finds_Push w (.pointer (some ⟨b, 0, none⟩))
  obtain ⟨ad, cap, rfl, hcp⟩ := q_form h.q.row
  have HQ := hideT h
  clear h
  go_enter Try.func19, Try.ntmps19
  go_wp2_with (first
    | (go_at_call 47; refine (tpushQ w H b ad cap L x HQ.out.q hH hl).mono ?_; rintro e w1 ⟨rfl, v1, q1, k1, g1⟩; obtain ⟨g, cap1, hv1, hc1, hg0, hg1, hgb⟩ := q1.form (by simp); have hlen : (L ++ [x]).length = L.length + 1 := (by simp); rw [hlen] at hv1; subst hv1; have mL := finds_Len w1 ⟨b, 0, none⟩ _ (q1.box.cell 0); have Q1 := hideT q1; have K1 := hideT k1; have G1 := hideT g1; clear q1 k1 g1 hlen)
    | (go_at_call 40; refine (lenQ _ _ _ _).mono ?_; rintro e w2 ⟨rfl, hw2⟩; obtain rfl := hw2.symm)
    | (go_at_call 22; refine (upI _ H b g (L.length + 1) cap1 (L ++ [x]) L.length _ (by omega) Q1.out (by simp) (by omega) (by omega) (up_start x HQ.out.heap)).mono ?_; rintro e w3 ⟨rfl, L', G3, hp⟩))
  go_end0
  refine ⟨rfl, _, L', ⟨⟨G3.q, hp⟩, K1.out.on G3.keep (fun i hi e => ?_), G1.out⟩, G3.perm.trans (List.perm_append_singleton x L)⟩
  subst e
  rcases G1.out with e | ⟨g', e, hg'⟩
  · exact .inr e.symm
  · have : i = g' := Option.some.inj e
    omega
set_option maxHeartbeats 4000000 in
theorem hpopQ (w : World) (H b : Nat) (v : Value) (L : List Thing) (h : QH w H b v L) (n : Nat) (hL : L.length = n + 1) :
    Calls Try.prog 20 #[.iface 46 (.pointer (some ⟨b, 0, none⟩))] w fun e w' => e = .returned (.iface 48 (.agg #[.int .i64 (at_ L 0).1, .int .i64 (at_ L 0).2])) ∧ ∃ v' L', QTo w w' H b v v' L' ∧ (at_ L 0 :: L').Perm L ∧ L'.length = n := by
  have eP := enters_of Try.func46 (by kernel_rfl) rfl
  have eL := enters_of Try.func40 (by kernel_rfl) rfl
  have eS := enters_of Try.func42 (by kernel_rfl) rfl
  have mP := fun w => finds_Pop w (.pointer (some ⟨b, 0, none⟩))
  have hf := h.q.few
  obtain ⟨g, cap, hv, hcp, hg0, hg1, hgb⟩ := h.q.form (by omega)
  rw [hL] at hv hcp hf
  subst hv
  have HQ := hideT h
  have mL := finds_Len w ⟨b, 0, none⟩ _ (h.q.box.cell 0)
  have mS := finds_Swap w ⟨b, 0, none⟩ _ (h.q.box.cell 0)
  have HG : Hid (QGo w w H b g (n + 1) cap L L) := ⟨h.q, Keep.refl _ _, hL, List.Perm.refl _⟩
  have HD := hideT (down_start (n := n) (by rw [← hL]; exact h.heap) hL)
  have HL := hideT hL
  clear h hL
  go_enter Try.func20, Try.ntmps20
  go_wp2_with (first
    | (go_at_call 40; refine (lenQ _ _ _ _).mono ?_; rintro e w2 ⟨rfl, hw2⟩; obtain rfl := hw2.symm)
    | (go_at_call 42; refine (HG.out.swapI 0 n _ _ (by omega) (by omega) (by omega) (by omega) (by omega)).mono ?_; rintro e w3 ⟨rfl, G3⟩)
    | (go_at_call 23; refine (downI _ H b g (n + 1) cap L (Qp.swp L 0 n) n _ (by omega) w G3 (by omega) (by omega) HD.out).mono ?_; rintro e w4 ⟨⟨v4, rfl⟩, L4, G4, hp4, ha4⟩; have HA := hideT ha4; clear ha4)
    | (go_at_call 46; refine (tpopQ _ H b g n cap L4 G4.q G4.len).mono ?_; rintro e w5 ⟨rfl, q5, k5⟩))
  have e0 : at_ L4 n = at_ L 0 := by
    rw [HA.out (by omega), at_swp (by rw [HL.out]; omega) (by rw [HL.out]; omega), if_pos rfl]
  go_ret
  have hlen : (L4.take n).length = n := by rw [List.length_take, G4.len]; omega
  refine ⟨by rw [← e0]; rfl, _, L4.take n, ⟨⟨q5, ?_⟩, ?_, .inl rfl⟩, ?_, hlen⟩
  · exact heap_take hp4 (by rw [G4.len]; omega)
  · exact (G4.keep.wide (fun k _ e => .inr (congrArg some e.symm))).trans (k5.wide (fun k _ e => .inl e))
  · rw [← e0]
    exact (perm_last G4.len).trans G4.perm
end Go.Proofs.Ytjibkhljihnhiaa
