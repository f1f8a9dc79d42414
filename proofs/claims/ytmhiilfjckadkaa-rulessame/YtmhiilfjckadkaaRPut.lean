/-
  A stratum among rising ones, once: the document's put. (Written with RApp's law.)
-/
import Derived.Test.YtmhiilfjckadkaaRApp
import Derived.Test.YtmhiilfjckadkaaRInts
set_option linter.unusedSimpArgs false
set_option linter.unusedVariables false
namespace Go.Proofs.Ytmhiilfjckadkaa
open Go.RowKit
set_option maxRecDepth 100000
abbrev zE (x : Int) : List Value := [.int .i64 x]
theorem zE_flat (L : List Int) : (L.map zE).flatten = L.map zV := by
  induction L with
  | nil => rfl
  | cons a L ih => rw [List.map_cons, List.map_cons, List.flatten_cons, ih]; rfl
theorem zE_one (x : Int) : ∀ u ∈ zE x, u.oneCell' = true := fun u hu => by simp at hu; subst hu; rfl
theorem one_newZ (W : World) (x : Int) (B : Nat) (hB : W.heap.size = B) : (W.alloc (.cells #[.int .i64 x] 3)).cell? ⟨B, 0, none⟩ = some (.int .i64 x) := by
  subst hB
  exact cell_new W #[.int .i64 x] 3 0
theorem one_srcZ {W : World} {B : Nat} {x : Int} (h : W.cell? ⟨B, 0, none⟩ = some (.int .i64 x)) : 0 < 1 → ∃ ad, (some ⟨B, 0, none⟩ : Option Addr) = some ad ∧ ∀ (j : Nat) u, ([x].map zE).flatten[j]? = some u → W.cell? (ad.add j) = some u := fun _ => ⟨_, rfl, fun j u hj => by
  match j, hj with
  | 0, hj => cases hj; exact h
  | j + 1, hj => simp at hj⟩
abbrev ZE (W0 W : World) (v : Value) (L : List Int) : Prop := TE 3 1 zE W0 W v L
/-- What put answers: a row that rises, with one number besides. -/
def PutPost (W0 : World) (L : List Int) (x : Int) (w : World) (e : Ending) (w' : World) : Prop := ∃ v' L', e = .returned v' ∧ ZE W0 w' v' L' ∧ L'.Pairwise (· < ·) ∧ (∀ y, y ∈ L' ↔ y ∈ L ∨ y = x) ∧ L'.length ≤ L.length + 1 ∧ Below w.heap.size w w'
theorem ins_rises {L : List Int} {x : Int} {k : Nat} (hr : L.Pairwise (· < ·)) (hlo : ∀ (q : Nat) y, q < k → L[q]? = some y → y < x) (hhi : ∀ y, L[k]? = some y → x < y) :
    (L.take k ++ x :: L.drop k).Pairwise (· < ·) ∧ ∀ y, y ∈ L.take k ++ x :: L.drop k ↔ y ∈ L ∨ y = x := by
  have h1 : ∀ y ∈ L.take k, y < x := fun y hy => by
    obtain ⟨q, hq, h⟩ := Mp.mem_take.1 hy
    exact hlo q y hq h
  have h2 : ∀ y ∈ L.drop k, x < y := fun y hy => by
    obtain ⟨q, hq⟩ := List.getElem?_of_mem hy
    rw [List.getElem?_drop] at hq
    have hk : k < L.length := by have := (List.getElem?_eq_some_iff.1 hq).1; omega
    have hz := hhi L[k] (List.getElem?_eq_getElem hk)
    by_cases e : q = 0
    · subst e
      rw [Nat.add_zero, List.getElem?_eq_getElem hk] at hq
      cases hq
      exact hz
    · obtain ⟨hl, rfl⟩ := List.getElem?_eq_some_iff.1 hq
      have := List.pairwise_iff_getElem.1 hr k (k + q) hk hl (by omega)
      omega
  refine ⟨?_, fun y => ?_⟩
  · rw [List.pairwise_append, List.pairwise_cons]
    refine ⟨hr.sublist (List.take_sublist k L), ⟨h2, hr.sublist (List.drop_sublist k L)⟩, fun a ha b hb => ?_⟩
    rcases List.mem_cons.1 hb with rfl | hb
    · exact h1 a ha
    · have := h1 a ha
      have := h2 b hb
      omega
  · rw [List.mem_append, List.mem_cons]
    constructor
    · rintro (h | h | h)
      · exact .inl (List.mem_of_mem_take h)
      · exact .inr h
      · exact .inl (List.mem_of_mem_drop h)
    · rintro (h | h)
      · rw [← List.take_append_drop k L, List.mem_append] at h
        rcases h with h | h
        · exact .inl h
        · exact .inr (.inr h)
      · exact .inr (.inl h)
set_option maxHeartbeats 16000000 in
theorem putD (w W0 : World) (v : Value) (L : List Int) (x : Int) (hT : ZE W0 w v L) (hr : L.Pairwise (· < ·)) (hlen : L.length ≤ 100000) :
    Calls Try.prog 36 #[v, .int .i64 x] w (PutPost W0 L x w) := by
  obtain ⟨ob, oc, rfl, hoc, g, hg1, hg0, hgc⟩ := te_form hT
  obtain ⟨n, hn⟩ : ∃ n, L.length = n := ⟨_, rfl⟩
  rw [hn] at hoc hg1 hg0 hT hlen ⊢
  have HLN := hideT hn
  have HG1 := hideT hg1
  have HG0 := hideT hg0
  have HGC := hideT hgc
  have HT := hideT hT
  have HRI := hideT hr
  clear hg1 hg0 hgc hT hr
  go_enter Try.func36, Try.ntmps36
  go_wp2_with fail
  go_loop [5] (fun i => ∃ k : Nat, k ≤ n ∧ i = .int .i64 k ∧ Hid (∀ (q : Nat) y, q < k → L[q]? = some y → y < x)) (fun i => n - (intOf i).toNat)
  case atStart => exact ⟨0, by omega, rfl, fun q y h => absurd h (by omega)⟩
  case round =>
    obtain ⟨k, hk, rfl, HB⟩ := hrel
    have t0 : (0 : Int) ≤ (k : Int) := by omega
    have hko : (k : Int) ≤ (oc : Int) := by omega
    have hkn : (k : Int) ≤ (n : Int) := by omega
    by_cases hlt : k < n
    · obtain ⟨y, hy⟩ := Mp.at_lt (l := L) (k := k) (by omega)
      obtain rfl := HG1.out (by omega)
      have c0 : w.cell? ⟨g, k, none⟩ = some (.int .i64 y) := HGC.out k _ (by rw [zE_flat, List.getElem?_map, hy]; rfl)
      have t1 : (k : Int) < (n : Int) := by omega
      have HY := hideT hy
      clear hy
      by_cases hyx : y < x
      · have HR : Hid (∀ (q : Nat) y, q < k + 1 → L[q]? = some y → y < x) := fun q z hq hz => by
          by_cases e : q < k
          · exact HB.out q z e hz
          · obtain rfl : q = k := by omega
            rw [HY.out] at hz
            cases hz
            exact hyx
        go_wp2_with fail
        go_round
        case rel => exact ⟨k + 1, by omega, by go_num, HR⟩
        case measure => simp [intOf]; omega
      by_cases he : y = x
      · have HF : Hid (PutPost W0 L x w (.returned (.slice (some ⟨g, 0, none⟩) n oc)) w) := ⟨_, L, rfl, HT.out, HRI.out, fun z => ⟨fun h => .inl h, fun h => h.elim id (fun h => by rw [h, ← he]; exact List.mem_of_getElem? HY.out)⟩, by omega, Below.refl _ _⟩
        have t2 : (y == x) = true := by simp [he]
        have t3 : ¬ y < x := hyx
        have t4 : decide (y < x) = false := decide_eq_false hyx
        clear he
        go_wp2_with fail
        go_ret
        exact HF.out
      have t2 : (y == x) = false := beq_eq_false_iff_ne.2 he
      have t4 : decide (y < x) = false := decide_eq_false hyx
      have HPP : Hid (∀ v3 W3, ZE w W3 v3 (L.take k ++ x :: L.drop k) → PutPost W0 L x w (.returned v3) W3) := fun v3 W3 h => by
        obtain ⟨p1, p2⟩ := ins_rises HRI.out HB.out (fun z hz => by rw [HY.out] at hz; cases hz; omega)
        exact ⟨v3, _, rfl, h.low HT.out.below, p1, p2, by simp; omega, h.below⟩
      clear he
      have HTL : Hid ((L.take k).length = k) := by
        show _ = _
        rw [List.length_take]
        omega
      have HS1 : Hid (∀ (q : Nat) u, ((L.take k).map zE).flatten[q]? = some u → w.cell? ((⟨g, 0, none⟩ : Addr).add q) = some u) := fun q u hu => by
        rw [zE_flat, List.getElem?_map, List.getElem?_take] at hu
        split at hu
        · rw [show ((⟨g, 0, none⟩ : Addr).add q) = ⟨g, q, none⟩ by unfold Addr.add; split <;> simp_all]
          exact HGC.out q u (by rw [zE_flat, List.getElem?_map]; exact hu)
        · cases hu
      have HTD : Hid ((L.drop k).length = n - k) := by
        show _ = _
        rw [List.length_drop, HLN.out]
      have HS3 : Hid (∀ (q : Nat) u, ((L.drop k).map zE).flatten[q]? = some u → w.cell? ((⟨g, k, none⟩ : Addr).add q) = some u) := fun q u hu => by
        rw [zE_flat, List.getElem?_map, List.getElem?_drop] at hu
        rw [show ((⟨g, k, none⟩ : Addr).add q) = ⟨g, k + q, none⟩ by unfold Addr.add; split <;> simp_all]
        exact HGC.out (k + q) u (by rw [zE_flat, List.getElem?_map]; exact hu)
      have hoj : ¬ oc = k := by omega
      go_wp2_with fail
      go_region_law (first
        | (refine step_appE (t := 22) (e := 3) (z := 1) (E := zE) Try.underlying22 infoZ rfl (by omega) (by omega) (fun _ => rfl) zE_one (by rfl) (.tmp 33) (.tmp 36) (by rfl) (W0 := w) (v := .slice (some ⟨w.heap.size, 0, none⟩) 0 0) (by rfl) (by rfl) (by exact TE.empty (below_drewN (Below.refl _ w) _) _ (by simp)) (L.take k) HTL.out (fun _ => ⟨_, rfl, fun q u hu => by first | exact below_cell ((below_drewN (Below.refl _ w) _).alloc (by simp) _) _ _ (HS1.out q u hu) | exact below_cell (((below_drewN (Below.refl _ w) _).alloc (by simp) _).alloc (by simp) _) _ _ (HS1.out q u hu)⟩) (by simp; try omega) ?_; intro v1 W1 T1 G1; rw [List.nil_append] at T1; skip)
        | (refine step_appE (t := 22) (e := 3) (z := 1) (E := zE) Try.underlying22 infoZ rfl (by omega) (by omega) (fun _ => rfl) zE_one (by rfl) (.tmp 33) (.tmp 36) (by rfl) (W0 := w) (v := .slice (some ⟨w.heap.size, 0, none⟩) 0 0) (by rfl) (by rfl) (by exact (TE.empty (below_drewN (Below.refl _ w) _) _ (by simp)).alloc _) (L.take k) HTL.out (fun _ => ⟨_, rfl, fun q u hu => by first | exact below_cell ((below_drewN (Below.refl _ w) _).alloc (by simp) _) _ _ (HS1.out q u hu) | exact below_cell (((below_drewN (Below.refl _ w) _).alloc (by simp) _).alloc (by simp) _) _ _ (HS1.out q u hu)⟩) (by simp; try omega) ?_; intro v1 W1 T1 G1; rw [List.nil_append] at T1; have X1 := G1 (w.heap.size + 1) 0 (.int .i64 x) (by simp [Value.ownBlock]) (one_newZ _ x _ (by simp)))
        | (refine step_appE (t := 22) (e := 3) (z := 1) (E := zE) Try.underlying22 infoZ rfl (by omega) (by omega) (fun _ => rfl) zE_one (by rfl) (.tmp 33) (.tmp 36) (by rfl) (W0 := w) (v := .slice (some ⟨w.heap.size + 1, 0, none⟩) 0 0) (by rfl) (by rfl) (by exact TE.empty ((below_drewN (Below.refl _ w) _).alloc (by simp) _) _ (by simp)) (L.take k) HTL.out (fun _ => ⟨_, rfl, fun q u hu => by first | exact below_cell ((below_drewN (Below.refl _ w) _).alloc (by simp) _) _ _ (HS1.out q u hu) | exact below_cell (((below_drewN (Below.refl _ w) _).alloc (by simp) _).alloc (by simp) _) _ _ (HS1.out q u hu)⟩) (by simp; try omega) ?_; intro v1 W1 T1 G1; rw [List.nil_append] at T1; have X1 := G1 w.heap.size 0 (.int .i64 x) (by simp [Value.ownBlock]) (below_cell ((Below.refl _ _).alloc (Nat.le_refl _) _) _ _ (one_newZ _ x _ (by simp))))
        | (refine step_appE (t := 22) (e := 3) (z := 1) (E := zE) Try.underlying22 infoZ rfl (by omega) (by omega) (fun _ => rfl) zE_one (by rfl) (.tmp 37) (.tmp 39) (by rfl) (W0 := w) (v := v1) (by rfl) (by rfl) (by first | exact T1.alloc _ | exact T1) [x] (by rfl) (one_srcZ (by first | exact one_newZ _ _ _ (by rfl) | exact X1)) (by rw [HTL.out]; omega) ?_; intro v2 W2 T2 G2)
        | (refine step_appE (t := 22) (e := 3) (z := 1) (E := zE) Try.underlying22 infoZ rfl (by omega) (by omega) (fun _ => rfl) zE_one (by rfl) (.tmp 40) (.tmp 43) (by rfl) (W0 := w) (v := v2) (by rfl) (by rfl) (by exact T2) (L.drop k) HTD.out (fun _ => ⟨_, rfl, fun q u hu => T2.cell (HS3.out q u hu)⟩) (by rw [List.length_append, HTL.out]; simp; try omega) ?_; intro v3 W3 T3 G3))
      all_goals
        have ST : Hid (PutPost W0 L x w (.returned v3) W3) := HPP.out v3 W3 (by simpa using T3)
        clear T1 T2 T3 G1 G2 G3
        try clear X1
        go_wp2_with fail
        go_ret
        exact ST.out
    · obtain rfl : k = n := by omega
      have hkk : ¬ (k : Int) < (k : Int) := by omega
      have HPP : Hid (∀ v3 W3, ZE w W3 v3 (L.take k ++ x :: L.drop k) → PutPost W0 L x w (.returned v3) W3) := fun v3 W3 h => by
        obtain ⟨p1, p2⟩ := ins_rises HRI.out HB.out (fun z hz => by have := (List.getElem?_eq_some_iff.1 hz).1; have := HLN.out; omega)
        exact ⟨v3, _, rfl, h.low HT.out.below, p1, p2, by simp; omega, h.below⟩
      have hcase : ob = some ⟨g, 0, none⟩ ∨ (k = 0 ∧ ob = none) := by
        by_cases h0 : k = 0
        · rcases HG0.out h0 with h | h
          · exact .inr ⟨h0, h⟩
          · exact .inl h
        · exact .inl (HG1.out (by omega))
      rcases hcase with rfl | ⟨rfl, rfl⟩
      · have HTD : Hid ((L.drop k).length = 0) := by
          show _ = _
          rw [List.length_drop, HLN.out]
          omega
        have HTL : Hid ((L.take k).length = k) := by
          show _ = _
          rw [List.length_take]
          omega
        have HS1 : Hid (∀ (q : Nat) u, ((L.take k).map zE).flatten[q]? = some u → w.cell? ((⟨g, 0, none⟩ : Addr).add q) = some u) := fun q u hu => by
          rw [zE_flat, List.getElem?_map, List.getElem?_take] at hu
          split at hu
          · rw [show ((⟨g, 0, none⟩ : Addr).add q) = ⟨g, q, none⟩ by unfold Addr.add; split <;> simp_all]
            exact HGC.out q u (by rw [zE_flat, List.getElem?_map]; exact hu)
          · cases hu
        by_cases hoj : oc = k
        · have hoj' := hoj.symm
          subst hoj'
          go_wp2_with fail
          go_region_law (first
            | (refine step_appE (t := 22) (e := 3) (z := 1) (E := zE) Try.underlying22 infoZ rfl (by omega) (by omega) (fun _ => rfl) zE_one (by rfl) (.tmp 33) (.tmp 36) (by rfl) (W0 := w) (v := .slice (some ⟨w.heap.size, 0, none⟩) 0 0) (by rfl) (by rfl) (by exact TE.empty (below_drewN (Below.refl _ w) _) _ (by simp)) (L.take k) HTL.out (fun _ => ⟨_, rfl, fun q u hu => by first | exact below_cell ((below_drewN (Below.refl _ w) _).alloc (by simp) _) _ _ (HS1.out q u hu) | exact below_cell (((below_drewN (Below.refl _ w) _).alloc (by simp) _).alloc (by simp) _) _ _ (HS1.out q u hu)⟩) (by simp; try omega) ?_; intro v1 W1 T1 G1; rw [List.nil_append] at T1; skip)
            | (refine step_appE (t := 22) (e := 3) (z := 1) (E := zE) Try.underlying22 infoZ rfl (by omega) (by omega) (fun _ => rfl) zE_one (by rfl) (.tmp 33) (.tmp 36) (by rfl) (W0 := w) (v := .slice (some ⟨w.heap.size, 0, none⟩) 0 0) (by rfl) (by rfl) (by exact (TE.empty (below_drewN (Below.refl _ w) _) _ (by simp)).alloc _) (L.take k) HTL.out (fun _ => ⟨_, rfl, fun q u hu => by first | exact below_cell ((below_drewN (Below.refl _ w) _).alloc (by simp) _) _ _ (HS1.out q u hu) | exact below_cell (((below_drewN (Below.refl _ w) _).alloc (by simp) _).alloc (by simp) _) _ _ (HS1.out q u hu)⟩) (by simp; try omega) ?_; intro v1 W1 T1 G1; rw [List.nil_append] at T1; have X1 := G1 (w.heap.size + 1) 0 (.int .i64 x) (by simp [Value.ownBlock]) (one_newZ _ x _ (by simp)))
            | (refine step_appE (t := 22) (e := 3) (z := 1) (E := zE) Try.underlying22 infoZ rfl (by omega) (by omega) (fun _ => rfl) zE_one (by rfl) (.tmp 33) (.tmp 36) (by rfl) (W0 := w) (v := .slice (some ⟨w.heap.size + 1, 0, none⟩) 0 0) (by rfl) (by rfl) (by exact TE.empty ((below_drewN (Below.refl _ w) _).alloc (by simp) _) _ (by simp)) (L.take k) HTL.out (fun _ => ⟨_, rfl, fun q u hu => by first | exact below_cell ((below_drewN (Below.refl _ w) _).alloc (by simp) _) _ _ (HS1.out q u hu) | exact below_cell (((below_drewN (Below.refl _ w) _).alloc (by simp) _).alloc (by simp) _) _ _ (HS1.out q u hu)⟩) (by simp; try omega) ?_; intro v1 W1 T1 G1; rw [List.nil_append] at T1; have X1 := G1 w.heap.size 0 (.int .i64 x) (by simp [Value.ownBlock]) (below_cell ((Below.refl _ _).alloc (Nat.le_refl _) _) _ _ (one_newZ _ x _ (by simp))))
            | (refine step_appE (t := 22) (e := 3) (z := 1) (E := zE) Try.underlying22 infoZ rfl (by omega) (by omega) (fun _ => rfl) zE_one (by rfl) (.tmp 37) (.tmp 39) (by rfl) (W0 := w) (v := v1) (by rfl) (by rfl) (by first | exact T1.alloc _ | exact T1) [x] (by rfl) (one_srcZ (by first | exact one_newZ _ _ _ (by rfl) | exact X1)) (by rw [HTL.out]; omega) ?_; intro v2 W2 T2 G2)
            | (refine step_appE (t := 22) (e := 3) (z := 1) (E := zE) Try.underlying22 infoZ rfl (by omega) (by omega) (fun _ => rfl) zE_one (by rfl) (.tmp 40) (.tmp 43) (by rfl) (W0 := w) (v := v2) (by rfl) (by rfl) (by exact T2) (L.drop k) (by first | exact HTD.out | (rw [HTD.out]; omega)) (fun h => absurd h (by omega)) (by rw [List.length_append, HTL.out]; simp; try omega) ?_; intro v3 W3 T3 G3))
          all_goals
            have ST : Hid (PutPost W0 L x w (.returned v3) W3) := HPP.out v3 W3 (by simpa using T3)
            clear T1 T2 T3 G1 G2 G3
            try clear X1
            go_wp2_with fail
            go_ret
            exact ST.out
        · have hoj2 : ¬ oc - k = 0 := by omega
          go_wp2_with fail
          go_region_law (first
            | (refine step_appE (t := 22) (e := 3) (z := 1) (E := zE) Try.underlying22 infoZ rfl (by omega) (by omega) (fun _ => rfl) zE_one (by rfl) (.tmp 33) (.tmp 36) (by rfl) (W0 := w) (v := .slice (some ⟨w.heap.size, 0, none⟩) 0 0) (by rfl) (by rfl) (by exact TE.empty (below_drewN (Below.refl _ w) _) _ (by simp)) (L.take k) HTL.out (fun _ => ⟨_, rfl, fun q u hu => by first | exact below_cell ((below_drewN (Below.refl _ w) _).alloc (by simp) _) _ _ (HS1.out q u hu) | exact below_cell (((below_drewN (Below.refl _ w) _).alloc (by simp) _).alloc (by simp) _) _ _ (HS1.out q u hu)⟩) (by simp; try omega) ?_; intro v1 W1 T1 G1; rw [List.nil_append] at T1; skip)
            | (refine step_appE (t := 22) (e := 3) (z := 1) (E := zE) Try.underlying22 infoZ rfl (by omega) (by omega) (fun _ => rfl) zE_one (by rfl) (.tmp 33) (.tmp 36) (by rfl) (W0 := w) (v := .slice (some ⟨w.heap.size, 0, none⟩) 0 0) (by rfl) (by rfl) (by exact (TE.empty (below_drewN (Below.refl _ w) _) _ (by simp)).alloc _) (L.take k) HTL.out (fun _ => ⟨_, rfl, fun q u hu => by first | exact below_cell ((below_drewN (Below.refl _ w) _).alloc (by simp) _) _ _ (HS1.out q u hu) | exact below_cell (((below_drewN (Below.refl _ w) _).alloc (by simp) _).alloc (by simp) _) _ _ (HS1.out q u hu)⟩) (by simp; try omega) ?_; intro v1 W1 T1 G1; rw [List.nil_append] at T1; have X1 := G1 (w.heap.size + 1) 0 (.int .i64 x) (by simp [Value.ownBlock]) (one_newZ _ x _ (by simp)))
            | (refine step_appE (t := 22) (e := 3) (z := 1) (E := zE) Try.underlying22 infoZ rfl (by omega) (by omega) (fun _ => rfl) zE_one (by rfl) (.tmp 33) (.tmp 36) (by rfl) (W0 := w) (v := .slice (some ⟨w.heap.size + 1, 0, none⟩) 0 0) (by rfl) (by rfl) (by exact TE.empty ((below_drewN (Below.refl _ w) _).alloc (by simp) _) _ (by simp)) (L.take k) HTL.out (fun _ => ⟨_, rfl, fun q u hu => by first | exact below_cell ((below_drewN (Below.refl _ w) _).alloc (by simp) _) _ _ (HS1.out q u hu) | exact below_cell (((below_drewN (Below.refl _ w) _).alloc (by simp) _).alloc (by simp) _) _ _ (HS1.out q u hu)⟩) (by simp; try omega) ?_; intro v1 W1 T1 G1; rw [List.nil_append] at T1; have X1 := G1 w.heap.size 0 (.int .i64 x) (by simp [Value.ownBlock]) (below_cell ((Below.refl _ _).alloc (Nat.le_refl _) _) _ _ (one_newZ _ x _ (by simp))))
            | (refine step_appE (t := 22) (e := 3) (z := 1) (E := zE) Try.underlying22 infoZ rfl (by omega) (by omega) (fun _ => rfl) zE_one (by rfl) (.tmp 37) (.tmp 39) (by rfl) (W0 := w) (v := v1) (by rfl) (by rfl) (by first | exact T1.alloc _ | exact T1) [x] (by rfl) (one_srcZ (by first | exact one_newZ _ _ _ (by rfl) | exact X1)) (by rw [HTL.out]; omega) ?_; intro v2 W2 T2 G2)
            | (refine step_appE (t := 22) (e := 3) (z := 1) (E := zE) Try.underlying22 infoZ rfl (by omega) (by omega) (fun _ => rfl) zE_one (by rfl) (.tmp 40) (.tmp 43) (by rfl) (W0 := w) (v := v2) (by rfl) (by rfl) (by exact T2) (L.drop k) (by first | exact HTD.out | (rw [HTD.out]; omega)) (fun h => absurd h (by omega)) (by rw [List.length_append, HTL.out]; simp; try omega) ?_; intro v3 W3 T3 G3))
          all_goals
            have ST : Hid (PutPost W0 L x w (.returned v3) W3) := HPP.out v3 W3 (by simpa using T3)
            clear T1 T2 T3 G1 G2 G3
            try clear X1
            go_wp2_with fail
            go_ret
            exact ST.out
      · have HTD : Hid ((L.drop 0).length = 0) := by
          show _ = _
          rw [List.length_drop, HLN.out]
        have HTL : Hid ((L.take 0).length = 0) := by
          show _ = _
          rw [List.length_take]
          omega
        go_wp2_with fail
        go_region_law (first
          | (refine step_appE (t := 22) (e := 3) (z := 1) (E := zE) Try.underlying22 infoZ rfl (by omega) (by omega) (fun _ => rfl) zE_one (by rfl) (.tmp 33) (.tmp 36) (by rfl) (W0 := w) (v := .slice (some ⟨w.heap.size, 0, none⟩) 0 0) (by rfl) (by rfl) (by exact TE.empty (below_drewN (Below.refl _ w) _) _ (by simp)) (L.take 0) HTL.out (fun h => absurd h (by omega)) (by simp; try omega) ?_; intro v1 W1 T1 G1; rw [List.nil_append] at T1; skip)
          | (refine step_appE (t := 22) (e := 3) (z := 1) (E := zE) Try.underlying22 infoZ rfl (by omega) (by omega) (fun _ => rfl) zE_one (by rfl) (.tmp 33) (.tmp 36) (by rfl) (W0 := w) (v := .slice (some ⟨w.heap.size, 0, none⟩) 0 0) (by rfl) (by rfl) (by exact (TE.empty (below_drewN (Below.refl _ w) _) _ (by simp)).alloc _) (L.take 0) HTL.out (fun h => absurd h (by omega)) (by simp; try omega) ?_; intro v1 W1 T1 G1; rw [List.nil_append] at T1; have X1 := G1 (w.heap.size + 1) 0 (.int .i64 x) (by simp [Value.ownBlock]) (one_newZ _ x _ (by simp)))
          | (refine step_appE (t := 22) (e := 3) (z := 1) (E := zE) Try.underlying22 infoZ rfl (by omega) (by omega) (fun _ => rfl) zE_one (by rfl) (.tmp 33) (.tmp 36) (by rfl) (W0 := w) (v := .slice (some ⟨w.heap.size + 1, 0, none⟩) 0 0) (by rfl) (by rfl) (by exact TE.empty ((below_drewN (Below.refl _ w) _).alloc (by simp) _) _ (by simp)) (L.take 0) HTL.out (fun h => absurd h (by omega)) (by simp; try omega) ?_; intro v1 W1 T1 G1; rw [List.nil_append] at T1; have X1 := G1 w.heap.size 0 (.int .i64 x) (by simp [Value.ownBlock]) (below_cell ((Below.refl _ _).alloc (Nat.le_refl _) _) _ _ (one_newZ _ x _ (by simp))))
          | (refine step_appE (t := 22) (e := 3) (z := 1) (E := zE) Try.underlying22 infoZ rfl (by omega) (by omega) (fun _ => rfl) zE_one (by rfl) (.tmp 37) (.tmp 39) (by rfl) (W0 := w) (v := v1) (by rfl) (by rfl) (by first | exact T1.alloc _ | exact T1) [x] (by rfl) (one_srcZ (by first | exact one_newZ _ _ _ (by rfl) | exact X1)) (by rw [HTL.out]; omega) ?_; intro v2 W2 T2 G2)
          | (refine step_appE (t := 22) (e := 3) (z := 1) (E := zE) Try.underlying22 infoZ rfl (by omega) (by omega) (fun _ => rfl) zE_one (by rfl) (.tmp 40) (.tmp 43) (by rfl) (W0 := w) (v := v2) (by rfl) (by rfl) (by exact T2) (L.drop 0) HTD.out (fun h => absurd h (by omega)) (by rw [List.length_append, HTL.out]; simp; try omega) ?_; intro v3 W3 T3 G3))
        all_goals
          have ST : Hid (PutPost W0 L x w (.returned v3) W3) := HPP.out v3 W3 (by simpa using T3)
          clear T1 T2 T3 G1 G2 G3
          try clear X1
          go_wp2_with fail
          go_ret
          exact ST.out
end Go.Proofs.Ytmhiilfjckadkaa
