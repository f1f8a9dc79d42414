/-
  slices.CompactFunc over a row of one's own.
-/
import Derived.Test.YtdcahnaempabcabGreatNCptP
set_option linter.unusedSimpArgs false
set_option linter.unusedVariables false
namespace Go.Proofs.YtdcahnaempabcabGreat
open Go.RowKit
set_option maxRecDepth 100000
theorem zero_len (zc : Array Value) (n : Nat) : (Builtin.zeroCells zc n).toList.length = n * zc.size := by simp [Builtin.zeroCells]
theorem zero_one (zc : Array Value) (n : Nat) (h0 : 0 < zc.size) (h : ∀ v ∈ zc.toList, v.oneCell' = true) : ∀ v ∈ (Builtin.zeroCells zc n).toList, v.oneCell' = true := by
  intro v hv
  simp only [Builtin.zeroCells, Array.toList_map, Array.toList_range, List.mem_map, List.mem_range] at hv
  obtain ⟨i, _, rfl⟩ := hv
  have hi : i % zc.size < zc.size := Nat.mod_lt _ h0
  rw [getElem!_pos zc _ hi]
  exact h _ (Array.getElem_mem_toList _)
set_option maxHeartbeats 8000000 in
theorem compactC {α : Type} (e0 e1 e2 : α → Value) (c : α → α → Int) (w : World) (H g n cap : Nat) (L : List α) (fv : Nat) (pb : Nat) (h : w.ownsRow H 89 3 (.slice (some ⟨g, 0, none⟩) n cap) n (L.map fun x => [e0 x, e1 x, e2 x]).flatten) (hn : n = L.length) (hl : n ≤ 1000)
    (eg : Enters Tryz.prog fv) (hO : ∀ x v, v ∈ ([e0 x, e1 x, e2 x] : List Value) → v.oneCell' = true)
    (heq : ∀ W, w.grownBy W (some g) → ∀ x y : α, Calls Tryz.prog fv #[.agg #[e0 x, e1 x, e2 x], .agg #[e0 y, e1 y, e2 y], .pointer (some ⟨pb, 0, none⟩)] W fun e w' => e = .returned (.bool (decide (c x y = 0))) ∧ Gr W w') :
    Calls Tryz.prog 127 #[.slice (some ⟨g, 0, none⟩) n cap, .func (.func fv) #[] #[.pointer (some ⟨pb, 0, none⟩)]] w fun e w' => (∃ k, e = .returned (.slice (some ⟨g, 0, none⟩) k cap) ∧ k = (Np.cpt c L).length ∧ w'.ownsRow H 89 3 (.slice (some ⟨g, 0, none⟩) k cap) k ((Np.cpt c L).map fun x => [e0 x, e1 x, e2 x]).flatten) ∧ w.grownBy w' (some g) := by
  have hk : ∀ x : α, ([e0 x, e1 x, e2 x] : List Value).length = 3 := fun _ => rfl
  have hcap : n ≤ cap := (own_cap h).2
  have HN := hideT hn
  have HQ := hideT heq
  have HK := hideT hk
  clear heq hk hn
  by_cases h2 : n < 2
  · have HC : Hid (Np.cpt c L = L) := by
      show _ = _
      match L, HN.out with
      | [], _ => rfl
      | [x], _ => rfl
      | x :: y :: r, e => simp at e; omega
    have HO := hideT h
    clear h
    go_enter Tryz.func127, Tryz.ntmps127
    go_wp2_with fail
    go_ret
    rw [HC.out]
    exact ⟨⟨n, rfl, HN.out, HO.out⟩, gb_refl _ _⟩
  have HA0 : Hid (CpA c L 1) := CpA.start (by have := HN.out; omega)
  have HO0 := hideT h
  clear h
  go_enter Tryz.func127, Tryz.ntmps127
  go_wp2_with fail
  go_loopw [5] (fun i wr => ∃ k : Nat, 1 ≤ k ∧ k ≤ n ∧ i = .int .i64 k ∧ Hid (CpA c L k) ∧ Hid (wr.ownsRow H 89 3 (.slice (some ⟨g, 0, none⟩) n cap) n (L.map fun x => [e0 x, e1 x, e2 x]).flatten) ∧ Hid (w.grownBy wr (some g))) (fun i _ => n - (intOf i).toNat)
  case atStart => exact ⟨1, Nat.le_refl _, by omega, rfl, HA0, HO0, gb_refl _ _⟩
  case round =>
    obtain ⟨k, hk1, hkn, rfl, HA, HR, HG⟩ := hrel
    by_cases hlt : k < n
    rotate_left
    · have HC := hideT (HA.out.all (by have := HN.out; omega))
      go_wp2_with fail
      go_ret
      rw [HC.out]
      exact ⟨⟨n, rfl, HN.out, HR.out⟩, HG.out⟩
    obtain ⟨j, hj⟩ : ∃ j, k = j + 1 := ⟨k - 1, by omega⟩
    obtain ⟨x, hx⟩ := Mp.at_lt (l := L) (k := k) (by have := HN.out; omega)
    obtain ⟨y, hy⟩ := Mp.at_lt (l := L) (k := j) (by have := HN.out; omega)
    have xc0 : wr.cell? ⟨g, k * 3, none⟩ = some (e0 x) := by have := own_cell HR.out (flat_at HK.out hx (j := 0) rfl); simpa using this
    have xc1 : wr.cell? ⟨g, k * 3 + 1, none⟩ = some (e1 x) := by have := own_cell HR.out (flat_at HK.out hx (j := 1) rfl); simpa using this
    have xc2 : wr.cell? ⟨g, k * 3 + 2, none⟩ = some (e2 x) := by have := own_cell HR.out (flat_at HK.out hx (j := 2) rfl); simpa using this
    have yc0 : wr.cell? ⟨g, j * 3, none⟩ = some (e0 y) := by have := own_cell HR.out (flat_at HK.out hy (j := 0) rfl); simpa using this
    have yc1 : wr.cell? ⟨g, j * 3 + 1, none⟩ = some (e1 y) := by have := own_cell HR.out (flat_at HK.out hy (j := 1) rfl); simpa using this
    have yc2 : wr.cell? ⟨g, j * 3 + 2, none⟩ = some (e2 y) := by have := own_cell HR.out (flat_at HK.out hy (j := 2) rfl); simpa using this
    have HX := hideT hx
    have HY := hideT hy
    clear hx hy
    have t1 : (k : Int) < (n : Int) := by omega
    have t2 : (0 : Int) ≤ (k : Int) := by omega
    have t3 : (0 : Int) ≤ (j : Int) := by omega
    have t4 : (j : Int) < (n : Int) := by omega
    have t5 : IntKind.i64.wrap ((k : Int) - 1) = (j : Int) := by rw [show (k : Int) - 1 = (j : Int) by omega]; rw [IntKind.wrap_i64]; omega
    have HJ := hideT hj
    clear hj
    unfold Enters at eg
    go_wp2_with fail
    go_region_held3 (fun w' => w'.cell? ⟨g, k * 3, none⟩ = some (e0 x) ∧ w'.cell? ⟨g, k * 3 + 1, none⟩ = some (e1 x) ∧ w'.cell? ⟨g, k * 3 + 2, none⟩ = some (e2 x) ∧ w'.cell? ⟨g, j * 3, none⟩ = some (e0 y) ∧ w'.cell? ⟨g, j * 3 + 1, none⟩ = some (e1 y) ∧ w'.cell? ⟨g, j * 3 + 2, none⟩ = some (e2 y)) (go_keep) (first
      | (refine (HQ.out _ (gb_below HG.out (below_drewN (Below.refl _ wr) 1)) x y).mono ?_; rintro e w1 ⟨rfl, b1⟩; have bV1 : Gr wr w1 := ((Gr.refl wr).drewN 1).trans b1; have z_x0 := below_cell bV1.1 _ _ xc0; have z_x1 := below_cell bV1.1 _ _ xc1; have z_x2 := below_cell bV1.1 _ _ xc2; have z_y0 := below_cell bV1.1 _ _ yc0; have z_y1 := below_cell bV1.1 _ _ yc1; have z_y2 := below_cell bV1.1 _ _ yc2))
    have HG1 := hideT (gb_below HG.out bV1.1)
    have HR1 := hideT (own_below HR.out bV1.1)
    clear xc0 z_x0 xc1 z_x1 xc2 z_x2 yc0 z_y0 yc1 z_y1 yc2 z_y2
    cases hb : decide (c x y = 0)
    · have HA1 := hideT (HA.out.keep hk1 HX.out (by rw [HJ.out, Nat.add_sub_cancel]; exact HY.out) (of_decide_eq_false hb))
      clear hb
      go_wp2_with fail
      refine ⟨⟨k + 1, by omega, by omega, by go_num, HA1, HR1, HG1⟩, ?_⟩
      first | omega | (simp [intOf]; omega)
    have HB0 := hideT (HA.out.dup hk1 HX.out (by rw [HJ.out, Nat.add_sub_cancel]; exact HY.out) (of_decide_eq_true hb))
    have t6 : (k : Int) ≤ (n : Int) := by omega
    have t7 : (n : Int) ≤ (cap : Int) := by omega
    have t8 : ¬ cap = k := by omega
    have t9 : ¬ cap - k = 0 := by omega
    clear hb
    go_wp2_with fail
    clear t5 t3 t4
    go_loopw [5, 7] (fun a b wi => ∃ (kk k2 : Nat) (D : List α), a = .int .i64 kk ∧ b = .int .i64 k2 ∧ 1 ≤ k2 ∧ k + k2 ≤ n ∧ Hid (CpB c L D (k + k2) kk) ∧ Hid (wi.ownsRow H 89 3 (.slice (some ⟨g, 0, none⟩) n cap) n (D.map fun x => [e0 x, e1 x, e2 x]).flatten) ∧ Hid (w.grownBy wi (some g))) (fun _ b _ => n - k - (intOf b).toNat)
    case atStart => exact ⟨k, 1, L, rfl, rfl, Nat.le_refl _, by omega, HB0, HR1, HG1⟩
    case round =>
      obtain ⟨kk, k2, D, rfl, rfl, hk2, hkn2, HB, HRi, HGi⟩ := hrel
      have hkkn : kk < n := by have := HB.out.lt (by have := HN.out; omega); have := HN.out; omega
      have hDn : Hid (n = D.length) := by show n = _; rw [HB.out.1]; exact HN.out
      by_cases hlt2 : k + k2 < n
      rotate_left
      · have HC := hideT (HB.out.done (by have := HN.out; omega))
        have hcl : ∀ ty, (Builtin.clear_ #[58] ty #[.slice (some ⟨g, kk * 3, none⟩) (n - kk) (cap - kk)]).run Tryz.prog wr = .ok (.tuple #[]) (wr.setCells g (kk * 3) (Builtin.zeroCells #[.string ⟨#[]⟩, .string ⟨#[]⟩, .int .i64 0] (n - kk)).toList) := fun ty =>
          run_clearK wr _ _ ty (.agg #[.string ⟨#[]⟩, .string ⟨#[]⟩, .int .i64 0]) Tryz.underlying58 Tryz.zeroValue89 g (kk * 3) (n - kk) (cap - kk) (by omega) (zero_one _ _ (by decide) (by decide))
            (fun j hj => by
              rw [zero_len] at hj
              have hl2 : kk * 3 + j < (D.map fun x => [e0 x, e1 x, e2 x]).flatten.length := by rw [flat_length HK.out, ← hDn.out]; have h3 : (n - kk) * 3 = n * 3 - kk * 3 := Nat.mul_sub_right_distrib n kk 3; have : j < (n - kk) * 3 := hj; omega
              rw [own_cell HRi.out (List.getElem?_eq_getElem hl2)]
              rfl) (fun j _ => own_free HRi.out _)
        have HF := hideT (own_cleared HK.out HRi.out (Nat.le_of_lt hkkn) (Builtin.zeroCells #[.string ⟨#[]⟩, .string ⟨#[]⟩, .int .i64 0] (n - kk)).toList)
        have HGf := hideT (gb_setAll (Builtin.zeroCells #[.string ⟨#[]⟩, .string ⟨#[]⟩, .int .i64 0] (n - kk)).toList wr (kk * 3) HGi.out)
        rw [setCells_all] at hcl
        generalize (Builtin.zeroCells #[.string ⟨#[]⟩, .string ⟨#[]⟩, .int .i64 0] (n - kk)).toList = zs at hcl HF HGf
        generalize setAll wr g (kk * 3) zs = wf at hcl HF HGf
        have q1 : (kk : Int) ≤ (n : Int) := by omega
        have q2 : ¬ cap = kk := by omega
        have q3 : ¬ cap - kk = 0 := by omega
        have q4 : ¬ (k2 : Int) < ((n - k : Nat) : Int) := by omega
        have q5 : (kk : Int) ≤ (cap : Int) := by omega
        go_wp2_with fail
        go_ret
        rw [HC.out]
        exact ⟨⟨kk, rfl, by rw [List.length_take]; have := hDn.out; omega, HF.out⟩, HGf.out⟩
      · obtain ⟨j2, hj2⟩ : ∃ j2, k2 = j2 + 1 := ⟨k2 - 1, by omega⟩
        obtain ⟨x, hx⟩ := Mp.at_lt (l := L) (k := k + k2) (by have := HN.out; omega)
        obtain ⟨y, hy⟩ := Mp.at_lt (l := L) (k := k + j2) (by have := HN.out; omega)
        have hxD : D[k + k2]? = some x := (HB.out.at _ (by omega)).trans hx
        have hyD : D[k + j2]? = some y := (HB.out.at _ (by omega)).trans hy
        have xc0 : wr.cell? ⟨g, k * 3 + k2 * 3, none⟩ = some (e0 x) := by have := own_cell HRi.out (flat_at HK.out hxD (j := 0) rfl); rw [Nat.add_mul] at this; simpa using this
        have xc1 : wr.cell? ⟨g, k * 3 + k2 * 3 + 1, none⟩ = some (e1 x) := by have := own_cell HRi.out (flat_at HK.out hxD (j := 1) rfl); rw [Nat.add_mul] at this; simpa using this
        have xc2 : wr.cell? ⟨g, k * 3 + k2 * 3 + 2, none⟩ = some (e2 x) := by have := own_cell HRi.out (flat_at HK.out hxD (j := 2) rfl); rw [Nat.add_mul] at this; simpa using this
        have yc0 : wr.cell? ⟨g, k * 3 + j2 * 3, none⟩ = some (e0 y) := by have := own_cell HRi.out (flat_at HK.out hyD (j := 0) rfl); rw [Nat.add_mul] at this; simpa using this
        have yc1 : wr.cell? ⟨g, k * 3 + j2 * 3 + 1, none⟩ = some (e1 y) := by have := own_cell HRi.out (flat_at HK.out hyD (j := 1) rfl); rw [Nat.add_mul] at this; simpa using this
        have yc2 : wr.cell? ⟨g, k * 3 + j2 * 3 + 2, none⟩ = some (e2 y) := by have := own_cell HRi.out (flat_at HK.out hyD (j := 2) rfl); rw [Nat.add_mul] at this; simpa using this
        have HX := hideT hx
        have HY := hideT hy
        have HJ2 := hideT hj2
        have q1 : (k2 : Int) < ((n - k : Nat) : Int) := by omega
        have q2 : (0 : Int) ≤ (k2 : Int) := by omega
        have q3 : (0 : Int) ≤ (j2 : Int) := by omega
        have q4 : (j2 : Int) < ((n - k : Nat) : Int) := by omega
        have q5 : IntKind.i64.wrap ((k2 : Int) - 1) = (j2 : Int) := by rw [show (k2 : Int) - 1 = (j2 : Int) by omega]; rw [IntKind.wrap_i64]; omega
        clear hx hy hxD hyD hj2
        go_wp2_with fail
        go_region_held3 (fun w' => w'.cell? ⟨g, k * 3 + k2 * 3, none⟩ = some (e0 x) ∧ w'.cell? ⟨g, k * 3 + k2 * 3 + 1, none⟩ = some (e1 x) ∧ w'.cell? ⟨g, k * 3 + k2 * 3 + 2, none⟩ = some (e2 x) ∧ w'.cell? ⟨g, k * 3 + j2 * 3, none⟩ = some (e0 y) ∧ w'.cell? ⟨g, k * 3 + j2 * 3 + 1, none⟩ = some (e1 y) ∧ w'.cell? ⟨g, k * 3 + j2 * 3 + 2, none⟩ = some (e2 y)) (go_keep) (first
          | (refine (HQ.out _ (gb_below HGi.out (below_drewN (Below.refl _ wr) 1)) x y).mono ?_; rintro e w1 ⟨rfl, b1⟩; have bV1 : Gr wr w1 := ((Gr.refl wr).drewN 1).trans b1; have z_x0 := below_cell bV1.1 _ _ xc0; have z_x1 := below_cell bV1.1 _ _ xc1; have z_x2 := below_cell bV1.1 _ _ xc2; have z_y0 := below_cell bV1.1 _ _ yc0; have z_y1 := below_cell bV1.1 _ _ yc1; have z_y2 := below_cell bV1.1 _ _ yc2))
        have HG1 := hideT (gb_below HGi.out bV1.1)
        have HR1 := hideT (own_below HRi.out bV1.1)
        clear xc0 xc1 xc2 yc0 z_y0 yc1 z_y1 yc2 z_y2
        cases hb : decide (c x y = 0)
        rotate_left
        · have HB1 := hideT (HB.out.skip HX.out (by rw [HJ2.out, show k + (j2 + 1) - 1 = k + j2 by omega]; exact HY.out) (of_decide_eq_true hb))
          clear hb
          go_wp2_with fail
          go_round
          case rel => exact ⟨kk, k2 + 1, D, rfl, by go_num, by omega, by omega, HB1, HR1, HG1⟩
          case measure => simp [intOf]; omega
        · have HB1 := hideT (HB.out.put HX.out (by rw [HJ2.out, show k + (j2 + 1) - 1 = k + j2 by omega]; exact HY.out) (of_decide_eq_false hb))
          clear hb
          have HP := hideT (own_put HK.out HR1.out (by have := hDn.out; omega : kk < D.length) x)
          have HGp := hideT (gb_setAll [e0 x, e1 x, e2 x] w1 (kk * 3) HG1.out)
          obtain ⟨u0, o0⟩ : ∃ u, w1.cell? ⟨g, kk * 3, none⟩ = some u := ⟨_, by have := own_cell HR1.out (flat_at HK.out (List.getElem?_eq_getElem (by have := hDn.out; omega : kk < D.length)) (j := 0) rfl); simpa using this⟩
          have fr0 : w1.frozen? ⟨g, kk * 3, none⟩ = false := own_free HR1.out _
          obtain ⟨u1, o1⟩ : ∃ u, w1.cell? ⟨g, kk * 3 + 1, none⟩ = some u := ⟨_, by have := own_cell HR1.out (flat_at HK.out (List.getElem?_eq_getElem (by have := hDn.out; omega : kk < D.length)) (j := 1) rfl); simpa using this⟩
          have fr1 : w1.frozen? ⟨g, kk * 3 + 1, none⟩ = false := own_free HR1.out _
          obtain ⟨u2, o2⟩ : ∃ u, w1.cell? ⟨g, kk * 3 + 2, none⟩ = some u := ⟨_, by have := own_cell HR1.out (flat_at HK.out (List.getElem?_eq_getElem (by have := hDn.out; omega : kk < D.length)) (j := 2) rfl); simpa using this⟩
          have fr2 : w1.frozen? ⟨g, kk * 3 + 2, none⟩ = false := own_free HR1.out _
          have st0 : ∀ (a : Addr) (w : World) m, (store a (e0 x) m).run Tryz.prog w = stored Tryz.prog w a (e0 x) m := fun a w m => run_store _ _ _ _ m (hO x _ (by simp))
          have st1 : ∀ (a : Addr) (w : World) m, (store a (e1 x) m).run Tryz.prog w = stored Tryz.prog w a (e1 x) m := fun a w m => run_store _ _ _ _ m (hO x _ (by simp))
          have st2 : ∀ (a : Addr) (w : World) m, (store a (e2 x) m).run Tryz.prog w = stored Tryz.prog w a (e2 x) m := fun a w m => run_store _ _ _ _ m (hO x _ (by simp))
          have q6 : (0 : Int) ≤ (kk : Int) := by omega
          have q7 : (kk : Int) < (n : Int) := by omega
          go_wp2_with fail
          go_round
          case rel => exact ⟨kk + 1, k2 + 1, D.set kk x, by go_num, by go_num, by omega, by omega, HB1, HP, HGp⟩
          case measure => simp [intOf]; omega
set_option maxHeartbeats 8000000 in
theorem compactS {α : Type} (e0 e1 : α → Value) (c : α → α → Int) (w : World) (H g n cap : Nat) (L : List α) (fv : Nat) (pb : Nat) (h : w.ownsRow H 60 2 (.slice (some ⟨g, 0, none⟩) n cap) n (L.map fun x => [e0 x, e1 x]).flatten) (hn : n = L.length) (hl : n ≤ 1000)
    (eg : Enters Tryz.prog fv) (hO : ∀ x v, v ∈ ([e0 x, e1 x] : List Value) → v.oneCell' = true)
    (heq : ∀ W, w.grownBy W (some g) → ∀ x y : α, Calls Tryz.prog fv #[.agg #[e0 x, e1 x], .agg #[e0 y, e1 y], .pointer (some ⟨pb, 0, none⟩)] W fun e w' => e = .returned (.bool (decide (c x y = 0))) ∧ Gr W w') :
    Calls Tryz.prog 130 #[.slice (some ⟨g, 0, none⟩) n cap, .func (.func fv) #[] #[.pointer (some ⟨pb, 0, none⟩)]] w fun e w' => (∃ k, e = .returned (.slice (some ⟨g, 0, none⟩) k cap) ∧ k = (Np.cpt c L).length ∧ w'.ownsRow H 60 2 (.slice (some ⟨g, 0, none⟩) k cap) k ((Np.cpt c L).map fun x => [e0 x, e1 x]).flatten) ∧ w.grownBy w' (some g) := by
  have hk : ∀ x : α, ([e0 x, e1 x] : List Value).length = 2 := fun _ => rfl
  have hcap : n ≤ cap := (own_cap h).2
  have HN := hideT hn
  have HQ := hideT heq
  have HK := hideT hk
  clear heq hk hn
  by_cases h2 : n < 2
  · have HC : Hid (Np.cpt c L = L) := by
      show _ = _
      match L, HN.out with
      | [], _ => rfl
      | [x], _ => rfl
      | x :: y :: r, e => simp at e; omega
    have HO := hideT h
    clear h
    go_enter Tryz.func130, Tryz.ntmps130
    go_wp2_with fail
    go_ret
    rw [HC.out]
    exact ⟨⟨n, rfl, HN.out, HO.out⟩, gb_refl _ _⟩
  have HA0 : Hid (CpA c L 1) := CpA.start (by have := HN.out; omega)
  have HO0 := hideT h
  clear h
  go_enter Tryz.func130, Tryz.ntmps130
  go_wp2_with fail
  go_loopw [5] (fun i wr => ∃ k : Nat, 1 ≤ k ∧ k ≤ n ∧ i = .int .i64 k ∧ Hid (CpA c L k) ∧ Hid (wr.ownsRow H 60 2 (.slice (some ⟨g, 0, none⟩) n cap) n (L.map fun x => [e0 x, e1 x]).flatten) ∧ Hid (w.grownBy wr (some g))) (fun i _ => n - (intOf i).toNat)
  case atStart => exact ⟨1, Nat.le_refl _, by omega, rfl, HA0, HO0, gb_refl _ _⟩
  case round =>
    obtain ⟨k, hk1, hkn, rfl, HA, HR, HG⟩ := hrel
    by_cases hlt : k < n
    rotate_left
    · have HC := hideT (HA.out.all (by have := HN.out; omega))
      go_wp2_with fail
      go_ret
      rw [HC.out]
      exact ⟨⟨n, rfl, HN.out, HR.out⟩, HG.out⟩
    obtain ⟨j, hj⟩ : ∃ j, k = j + 1 := ⟨k - 1, by omega⟩
    obtain ⟨x, hx⟩ := Mp.at_lt (l := L) (k := k) (by have := HN.out; omega)
    obtain ⟨y, hy⟩ := Mp.at_lt (l := L) (k := j) (by have := HN.out; omega)
    have xc0 : wr.cell? ⟨g, k * 2, none⟩ = some (e0 x) := by have := own_cell HR.out (flat_at HK.out hx (j := 0) rfl); simpa using this
    have xc1 : wr.cell? ⟨g, k * 2 + 1, none⟩ = some (e1 x) := by have := own_cell HR.out (flat_at HK.out hx (j := 1) rfl); simpa using this
    have yc0 : wr.cell? ⟨g, j * 2, none⟩ = some (e0 y) := by have := own_cell HR.out (flat_at HK.out hy (j := 0) rfl); simpa using this
    have yc1 : wr.cell? ⟨g, j * 2 + 1, none⟩ = some (e1 y) := by have := own_cell HR.out (flat_at HK.out hy (j := 1) rfl); simpa using this
    have HX := hideT hx
    have HY := hideT hy
    clear hx hy
    have t1 : (k : Int) < (n : Int) := by omega
    have t2 : (0 : Int) ≤ (k : Int) := by omega
    have t3 : (0 : Int) ≤ (j : Int) := by omega
    have t4 : (j : Int) < (n : Int) := by omega
    have t5 : IntKind.i64.wrap ((k : Int) - 1) = (j : Int) := by rw [show (k : Int) - 1 = (j : Int) by omega]; rw [IntKind.wrap_i64]; omega
    have HJ := hideT hj
    clear hj
    unfold Enters at eg
    go_wp2_with fail
    go_region_held3 (fun w' => w'.cell? ⟨g, k * 2, none⟩ = some (e0 x) ∧ w'.cell? ⟨g, k * 2 + 1, none⟩ = some (e1 x) ∧ w'.cell? ⟨g, j * 2, none⟩ = some (e0 y) ∧ w'.cell? ⟨g, j * 2 + 1, none⟩ = some (e1 y)) (go_keep) (first
      | (refine (HQ.out _ (gb_below HG.out (below_drewN (Below.refl _ wr) 1)) x y).mono ?_; rintro e w1 ⟨rfl, b1⟩; have bV1 : Gr wr w1 := ((Gr.refl wr).drewN 1).trans b1; have z_x0 := below_cell bV1.1 _ _ xc0; have z_x1 := below_cell bV1.1 _ _ xc1; have z_y0 := below_cell bV1.1 _ _ yc0; have z_y1 := below_cell bV1.1 _ _ yc1))
    have HG1 := hideT (gb_below HG.out bV1.1)
    have HR1 := hideT (own_below HR.out bV1.1)
    clear xc0 z_x0 xc1 z_x1 yc0 z_y0 yc1 z_y1
    cases hb : decide (c x y = 0)
    · have HA1 := hideT (HA.out.keep hk1 HX.out (by rw [HJ.out, Nat.add_sub_cancel]; exact HY.out) (of_decide_eq_false hb))
      clear hb
      go_wp2_with fail
      refine ⟨⟨k + 1, by omega, by omega, by go_num, HA1, HR1, HG1⟩, ?_⟩
      first | omega | (simp [intOf]; omega)
    have HB0 := hideT (HA.out.dup hk1 HX.out (by rw [HJ.out, Nat.add_sub_cancel]; exact HY.out) (of_decide_eq_true hb))
    have t6 : (k : Int) ≤ (n : Int) := by omega
    have t7 : (n : Int) ≤ (cap : Int) := by omega
    have t8 : ¬ cap = k := by omega
    have t9 : ¬ cap - k = 0 := by omega
    clear hb
    go_wp2_with fail
    clear t5 t3 t4
    go_loopw [5, 7] (fun a b wi => ∃ (kk k2 : Nat) (D : List α), a = .int .i64 kk ∧ b = .int .i64 k2 ∧ 1 ≤ k2 ∧ k + k2 ≤ n ∧ Hid (CpB c L D (k + k2) kk) ∧ Hid (wi.ownsRow H 60 2 (.slice (some ⟨g, 0, none⟩) n cap) n (D.map fun x => [e0 x, e1 x]).flatten) ∧ Hid (w.grownBy wi (some g))) (fun _ b _ => n - k - (intOf b).toNat)
    case atStart => exact ⟨k, 1, L, rfl, rfl, Nat.le_refl _, by omega, HB0, HR1, HG1⟩
    case round =>
      obtain ⟨kk, k2, D, rfl, rfl, hk2, hkn2, HB, HRi, HGi⟩ := hrel
      have hkkn : kk < n := by have := HB.out.lt (by have := HN.out; omega); have := HN.out; omega
      have hDn : Hid (n = D.length) := by show n = _; rw [HB.out.1]; exact HN.out
      by_cases hlt2 : k + k2 < n
      rotate_left
      · have HC := hideT (HB.out.done (by have := HN.out; omega))
        have hcl : ∀ ty, (Builtin.clear_ #[127] ty #[.slice (some ⟨g, kk * 2, none⟩) (n - kk) (cap - kk)]).run Tryz.prog wr = .ok (.tuple #[]) (wr.setCells g (kk * 2) (Builtin.zeroCells #[.slice none 0 0, .slice none 0 0] (n - kk)).toList) := fun ty =>
          run_clearK wr _ _ ty (.agg #[.slice none 0 0, .slice none 0 0]) Tryz.underlying127 Tryz.zeroValue60 g (kk * 2) (n - kk) (cap - kk) (by omega) (zero_one _ _ (by decide) (by decide))
            (fun j hj => by
              rw [zero_len] at hj
              have hl2 : kk * 2 + j < (D.map fun x => [e0 x, e1 x]).flatten.length := by rw [flat_length HK.out, ← hDn.out]; have h3 : (n - kk) * 2 = n * 2 - kk * 2 := Nat.mul_sub_right_distrib n kk 2; have : j < (n - kk) * 2 := hj; omega
              rw [own_cell HRi.out (List.getElem?_eq_getElem hl2)]
              rfl) (fun j _ => own_free HRi.out _)
        have HF := hideT (own_cleared HK.out HRi.out (Nat.le_of_lt hkkn) (Builtin.zeroCells #[.slice none 0 0, .slice none 0 0] (n - kk)).toList)
        have HGf := hideT (gb_setAll (Builtin.zeroCells #[.slice none 0 0, .slice none 0 0] (n - kk)).toList wr (kk * 2) HGi.out)
        rw [setCells_all] at hcl
        generalize (Builtin.zeroCells #[.slice none 0 0, .slice none 0 0] (n - kk)).toList = zs at hcl HF HGf
        generalize setAll wr g (kk * 2) zs = wf at hcl HF HGf
        have q1 : (kk : Int) ≤ (n : Int) := by omega
        have q2 : ¬ cap = kk := by omega
        have q3 : ¬ cap - kk = 0 := by omega
        have q4 : ¬ (k2 : Int) < ((n - k : Nat) : Int) := by omega
        have q5 : (kk : Int) ≤ (cap : Int) := by omega
        go_wp2_with fail
        go_ret
        rw [HC.out]
        exact ⟨⟨kk, rfl, by rw [List.length_take]; have := hDn.out; omega, HF.out⟩, HGf.out⟩
      · obtain ⟨j2, hj2⟩ : ∃ j2, k2 = j2 + 1 := ⟨k2 - 1, by omega⟩
        obtain ⟨x, hx⟩ := Mp.at_lt (l := L) (k := k + k2) (by have := HN.out; omega)
        obtain ⟨y, hy⟩ := Mp.at_lt (l := L) (k := k + j2) (by have := HN.out; omega)
        have hxD : D[k + k2]? = some x := (HB.out.at _ (by omega)).trans hx
        have hyD : D[k + j2]? = some y := (HB.out.at _ (by omega)).trans hy
        have xc0 : wr.cell? ⟨g, k * 2 + k2 * 2, none⟩ = some (e0 x) := by have := own_cell HRi.out (flat_at HK.out hxD (j := 0) rfl); rw [Nat.add_mul] at this; simpa using this
        have xc1 : wr.cell? ⟨g, k * 2 + k2 * 2 + 1, none⟩ = some (e1 x) := by have := own_cell HRi.out (flat_at HK.out hxD (j := 1) rfl); rw [Nat.add_mul] at this; simpa using this
        have yc0 : wr.cell? ⟨g, k * 2 + j2 * 2, none⟩ = some (e0 y) := by have := own_cell HRi.out (flat_at HK.out hyD (j := 0) rfl); rw [Nat.add_mul] at this; simpa using this
        have yc1 : wr.cell? ⟨g, k * 2 + j2 * 2 + 1, none⟩ = some (e1 y) := by have := own_cell HRi.out (flat_at HK.out hyD (j := 1) rfl); rw [Nat.add_mul] at this; simpa using this
        have HX := hideT hx
        have HY := hideT hy
        have HJ2 := hideT hj2
        have q1 : (k2 : Int) < ((n - k : Nat) : Int) := by omega
        have q2 : (0 : Int) ≤ (k2 : Int) := by omega
        have q3 : (0 : Int) ≤ (j2 : Int) := by omega
        have q4 : (j2 : Int) < ((n - k : Nat) : Int) := by omega
        have q5 : IntKind.i64.wrap ((k2 : Int) - 1) = (j2 : Int) := by rw [show (k2 : Int) - 1 = (j2 : Int) by omega]; rw [IntKind.wrap_i64]; omega
        clear hx hy hxD hyD hj2
        go_wp2_with fail
        go_region_held3 (fun w' => w'.cell? ⟨g, k * 2 + k2 * 2, none⟩ = some (e0 x) ∧ w'.cell? ⟨g, k * 2 + k2 * 2 + 1, none⟩ = some (e1 x) ∧ w'.cell? ⟨g, k * 2 + j2 * 2, none⟩ = some (e0 y) ∧ w'.cell? ⟨g, k * 2 + j2 * 2 + 1, none⟩ = some (e1 y)) (go_keep) (first
          | (refine (HQ.out _ (gb_below HGi.out (below_drewN (Below.refl _ wr) 1)) x y).mono ?_; rintro e w1 ⟨rfl, b1⟩; have bV1 : Gr wr w1 := ((Gr.refl wr).drewN 1).trans b1; have z_x0 := below_cell bV1.1 _ _ xc0; have z_x1 := below_cell bV1.1 _ _ xc1; have z_y0 := below_cell bV1.1 _ _ yc0; have z_y1 := below_cell bV1.1 _ _ yc1))
        have HG1 := hideT (gb_below HGi.out bV1.1)
        have HR1 := hideT (own_below HRi.out bV1.1)
        clear xc0 xc1 yc0 z_y0 yc1 z_y1
        cases hb : decide (c x y = 0)
        rotate_left
        · have HB1 := hideT (HB.out.skip HX.out (by rw [HJ2.out, show k + (j2 + 1) - 1 = k + j2 by omega]; exact HY.out) (of_decide_eq_true hb))
          clear hb
          go_wp2_with fail
          go_round
          case rel => exact ⟨kk, k2 + 1, D, rfl, by go_num, by omega, by omega, HB1, HR1, HG1⟩
          case measure => simp [intOf]; omega
        · have HB1 := hideT (HB.out.put HX.out (by rw [HJ2.out, show k + (j2 + 1) - 1 = k + j2 by omega]; exact HY.out) (of_decide_eq_false hb))
          clear hb
          have HP := hideT (own_put HK.out HR1.out (by have := hDn.out; omega : kk < D.length) x)
          have HGp := hideT (gb_setAll [e0 x, e1 x] w1 (kk * 2) HG1.out)
          obtain ⟨u0, o0⟩ : ∃ u, w1.cell? ⟨g, kk * 2, none⟩ = some u := ⟨_, by have := own_cell HR1.out (flat_at HK.out (List.getElem?_eq_getElem (by have := hDn.out; omega : kk < D.length)) (j := 0) rfl); simpa using this⟩
          have fr0 : w1.frozen? ⟨g, kk * 2, none⟩ = false := own_free HR1.out _
          obtain ⟨u1, o1⟩ : ∃ u, w1.cell? ⟨g, kk * 2 + 1, none⟩ = some u := ⟨_, by have := own_cell HR1.out (flat_at HK.out (List.getElem?_eq_getElem (by have := hDn.out; omega : kk < D.length)) (j := 1) rfl); simpa using this⟩
          have fr1 : w1.frozen? ⟨g, kk * 2 + 1, none⟩ = false := own_free HR1.out _
          have st0 : ∀ (a : Addr) (w : World) m, (store a (e0 x) m).run Tryz.prog w = stored Tryz.prog w a (e0 x) m := fun a w m => run_store _ _ _ _ m (hO x _ (by simp))
          have st1 : ∀ (a : Addr) (w : World) m, (store a (e1 x) m).run Tryz.prog w = stored Tryz.prog w a (e1 x) m := fun a w m => run_store _ _ _ _ m (hO x _ (by simp))
          have q6 : (0 : Int) ≤ (kk : Int) := by omega
          have q7 : (kk : Int) < (n : Int) := by omega
          go_wp2_with fail
          go_round
          case rel => exact ⟨kk + 1, k2 + 1, D.set kk x, by go_num, by go_num, by omega, by omega, HB1, HP, HGp⟩
          case measure => simp [intOf]; omega
end Go.Proofs.YtdcahnaempabcabGreat
