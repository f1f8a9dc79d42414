/-
  File; whether an event is to come, a condition is not so; whether a sentry holds.
-/
import Derived.Test.YtpipjkbgbhefcaaGreatCSmall
set_option linter.unusedSimpArgs false
set_option linter.unusedVariables false
namespace Go.Proofs.YtpipjkbgbhefcaaGreat
open Go.RowKit
open Qp
set_option maxRecDepth 100000
section
variable {w : World} {H : Nat} {K : Kc} {m : Mp.Model} {v : Value} {L : List Thing} {N : Nat} {st : Cp.St}
theorem idx_cases (l : List ByteArray) (s : ByteArray) : (Mp.idx l s = none ∧ idxZ l s = -1) ∨ ∃ k, Mp.idx l s = some k ∧ idxZ l s = (k : Int) ∧ k < l.length := by
  unfold idxZ
  cases h : Mp.idx l s with
  | none => exact .inl ⟨rfl, rfl⟩
  | some k =>
    obtain ⟨x, hx, hp, _⟩ := Mp.find_some_inv h
    exact .inr ⟨k, rfl, rfl, (List.getElem?_eq_some_iff.1 hx).1⟩
set_option maxHeartbeats 1000000 in
theorem fileD (h : CIn w H K m v L N st) (s : ByteArray) :
    Calls Tryz.prog 29 #[cP K, .string s] w fun e w' => e = .returned (.int .i64 (Cp.fileN m st s)) ∧ w' = w := by
  have c0 := h.c0
  have c3 := h.c3
  have HP := hideT (indexS w K.af _ K.cf m.files s h.at.files)
  rcases idx_cases m.files s with ⟨e1, e2⟩ | ⟨k, e1, e2, hk⟩
  · have HS : Hid (Cp.fileN m st s = 0) := by show _ = _; unfold Cp.fileN; rw [e1]
    clear h e1
    go_enter Tryz.func29, Tryz.ntmps29
    go_wp2_with fail
    refine HP.out.mono ?_
    rintro e w1 ⟨rfl, hw⟩
    obtain rfl := hw.symm
    rw [e2]
    clear e2
    go_wp2_with fail
    go_ret
    exact ⟨by rw [HS.out]; rfl, rfl⟩
  · have HS : Hid (Cp.fileN m st s = Cp.at0 st.f k) := by show _ = _; unfold Cp.fileN; rw [e1]
    have ds := h.cn hk
    have t1 : (0 : Int) ≤ (k : Int) := by omega
    have t2 : (k : Int) < (m.files.length : Int) := by omega
    clear h e1
    go_enter Tryz.func29, Tryz.ntmps29
    go_wp2_with fail
    refine HP.out.mono ?_
    rintro e w1 ⟨rfl, hw⟩
    obtain rfl := hw.symm
    rw [e2]
    clear e2 hk
    go_wp2_with fail
    go_ret
    exact ⟨by rw [HS.out]; rfl, rfl⟩
set_option maxHeartbeats 4000000 in
theorem isToComeD (h : CIn w H K m v L N st) (o : Mp.On) (ho : OnOk o) :
    Calls Tryz.prog 75 #[cP K, .agg #[.string o.1, .int .i64 o.2]] w (AnyPost (Cp.toCome st o) w) := by
  obtain ⟨o1, o2⟩ := o
  have HS : Hid (Cp.toCome st (o1, o2) = !st.hap (o1, o2)) := rfl
  obtain ⟨W, hW⟩ : ∃ W, w.alloc (.cells #[.string o1, .int .i64 o2] 101) = W := ⟨_, rfl⟩
  obtain ⟨B1, L1, z1⟩ := of_alloc hW
  have hc := h.below B1
  have d4 := hc.c4
  have x0 : W.cell? ⟨w.heap.size, 0, none⟩ = some (.string o1) := L1.cell 0
  have x1 : W.cell? ⟨w.heap.size, 1, none⟩ = some (.int .i64 o2) := L1.cell 1
  have hl := hc.map.look (o1, o2) ho
  have BD : Below W.heap.size W W.drew := below_drewN (Below.refl _ W) 1
  have BA : Below W.heap.size W (W.alloc (.cells #[] 122)).drew := below_drewN ((Below.refl _ W).alloc (Nat.le_refl _) _) 1
  have hl1 := (hc.below BD).map.look (o1, o2) ho
  have hl2 := (hc.below BA).map.look (o1, o2) ho
  have d41 := (hc.below BD).c4
  have d42 := (hc.below BA).c4
  have x01 := below_cell BD _ _ x0
  have x11 := below_cell BD _ _ x1
  have x02 := below_cell BA _ _ x0
  have x12 := below_cell BA _ _ x1
  obtain ⟨b, hb⟩ : ∃ b, st.hap (o1, o2) = b := ⟨_, rfl⟩
  have HBb := hideT hb
  have HB1 := hideT B1
  dsimp only at hl
  dsimp only at hl1
  dsimp only at hl2
  rw [hb] at hl hl1 hl2
  clear h hc hb B1 L1 BD BA
  go_enter Tryz.func75, Tryz.ntmps75
  go_wp2_with fail
  have HR : Hid (Below w.heap.size w (W.alloc (.cells #[] 122)).drew) := HB1.out.trans ((below_drewN ((Below.refl W.heap.size W).alloc (Nat.le_refl _) _) 1).mono HB1.out.size)
  go_region
  all_goals go_wp2_with fail
  all_goals go_ret
  all_goals exact ⟨ret_b (by rw [HS.out, HBb.out]), HR.out⟩
set_option maxHeartbeats 4000000 in
theorem isNotSoD (h : CIn w H K m v L N st) (c : Mp.Cond) :
    Calls Tryz.prog 77 #[cP K, .agg #[.string c.1, .string c.2.1, .int .i64 c.2.2]] w (AnyPost (Cp.notSo m st c) w) := by
  obtain ⟨c1, c2, c3⟩ := c
  have HS : Hid (Cp.notSo m st (c1, c2, c3) = !Cp.cmpB (Cp.fileN m st c1) c2 c3) := rfl
  obtain ⟨W, hW⟩ : ∃ W, w.alloc (.cells #[.string c1, .string c2, .int .i64 c3] 105) = W := ⟨_, rfl⟩
  obtain ⟨B1, L1, z1⟩ := of_alloc hW
  have HC := hideT (h.below B1)
  have x0 : W.cell? ⟨w.heap.size, 0, none⟩ = some (.string c1) := L1.cell 0
  have x1 : W.cell? ⟨w.heap.size, 1, none⟩ = some (.string c2) := L1.cell 1
  have x2 : W.cell? ⟨w.heap.size, 2, none⟩ = some (.int .i64 c3) := L1.cell 2
  have HB1 := hideT B1
  clear h B1 L1
  go_enter Tryz.func77, Tryz.ntmps77
  go_wp2_with fail
  have BD := hideT (below_drewN HB1.out 1)
  go_region_held3 (fun w' => w'.cell? ⟨w.heap.size, 0, none⟩ = some (.string c1) ∧ w'.cell? ⟨w.heap.size, 1, none⟩ = some (.string c2) ∧ w'.cell? ⟨w.heap.size, 2, none⟩ = some (.int .i64 c3)) (go_keep) (first
    | (go_at_call 29; refine (fileD (HC.out.below (below_drewN (Below.refl _ W) 1)) c1).mono ?_; rintro e w1 ⟨rfl, hw⟩; have z0 : w1.cell? ⟨w.heap.size, 0, none⟩ = some (.string c1) := (by rw [hw]; exact x0); have z1' : w1.cell? ⟨w.heap.size, 1, none⟩ = some (.string c2) := (by rw [hw]; exact x1); have z2 : w1.cell? ⟨w.heap.size, 2, none⟩ = some (.int .i64 c3) := (by rw [hw]; exact x2); have HW1 : Hid (Below w.heap.size w w1) := (by rw [hw]; exact BD.out); clear hw)
    | (go_at_call 102; refine (comparesD _ c2 c3 _).mono ?_; rintro e w2 ⟨rfl, hw2⟩; obtain rfl := hw2.symm))
  all_goals go_wp2_with fail
  all_goals go_ret
  all_goals exact ⟨ret_b (by rw [HS.out]), HW1.out⟩
set_option maxHeartbeats 4000000 in
theorem holdsD (h : CIn w H K m v L N st) (hl : Mp.isB m = true) (x : Mp.Sent) (a1 a2 : Option Addr) (k1 k2 : Nat) (r1 : ORow w (.slice a1 x.1.length k1) x.1) (r2 : CRow w (.slice a2 x.2.length k2) x.2) (ho : ∀ o ∈ x.1, OnOk o) :
    Calls Tryz.prog 43 #[cP K, .agg #[.slice a1 x.1.length k1, .slice a2 x.2.length k2]] w (AnyPost (Cp.hold m st x) w) := by
  obtain ⟨W, hW⟩ : ∃ W, w.alloc (.cells #[.slice a1 x.1.length k1, .slice a2 x.2.length k2] 54) = W := ⟨_, rfl⟩
  obtain ⟨B1, L1, z1⟩ := of_alloc hW
  have HB1 := hideT B1
  have HC := hideT (h.below B1)
  have R1 := hideT (orow_below r1 B1)
  have R2 := hideT (crow_below r2 B1)
  have x0 : W.cell? ⟨w.heap.size, 0, none⟩ = some (.slice a1 x.1.length k1) := L1.cell 0
  have x1 : W.cell? ⟨w.heap.size, 1, none⟩ = some (.slice a2 x.2.length k2) := L1.cell 1
  obtain ⟨b1, hb1⟩ : ∃ b, x.1.any (Cp.toCome st) = b := ⟨_, rfl⟩
  obtain ⟨b2, hb2⟩ : ∃ b, x.2.any (Cp.notSo m st) = b := ⟨_, rfl⟩
  have HO := hideT (containsCO W a1 _ k1 x.1 75 (cP K) (Cp.toCome st) R1.out (enters_of Tryz.func75 (by kernel_rfl) rfl) (fun y hy w' hw' _ => isToComeD (HC.out.below hw') y (ho y hy)) b1 hb1)
  have HS : Hid (Cp.hold m st x = (!b1 && !b2)) := by show _ = _; unfold Cp.hold; rw [hb1, hb2]
  have HN : Hid (∀ w', Below W.heap.size W w' → Calls Tryz.prog 76 #[.slice a2 x.2.length k2, methC 77 (cP K)] w' (AnyPost b2 w')) := fun w' hw' => containsCC w' a2 _ k2 x.2 77 (cP K) (Cp.notSo m st) (crow_below R2.out hw') (enters_of Tryz.func77 (by kernel_rfl) rfl) (fun y hy w2 hw2 _ => isNotSoD ((HC.out.below hw').below hw2) y) b2 hb2
  clear h r1 r2 B1 L1 hb1 hb2
  cases b1 with
  | true =>
    go_enter Tryz.func43, Tryz.ntmps43
    go_wp2_with fail
    refine HO.out.mono ?_
    rintro e w1 ⟨rfl, b1⟩
    have HR := hideT (HB1.out.trans (b1.mono HB1.out.size))
    clear b1
    go_wp2_with fail
    go_ret
    exact ⟨ret_b (by rw [HS.out]; rfl), HR.out⟩
  | false =>
    go_enter Tryz.func43, Tryz.ntmps43
    go_wp2_with fail
    refine HO.out.mono ?_
    rintro e w1 ⟨rfl, b1⟩
    have HR := hideT (HB1.out.trans (b1.mono HB1.out.size))
    have HN1 := hideT (HN.out w1 b1)
    have x1 := below_cell b1 _ _ x1
    clear b1 x0
    go_wp2_with fail
    refine HN1.out.mono ?_
    rintro e w2 ⟨rfl, b3⟩
    have HR2 := hideT (HR.out.trans (b3.mono HR.out.size))
    clear b3
    go_wp2_with fail
    go_ret
    exact ⟨ret_b (by rw [HS.out]; cases b2 <;> rfl), HR2.out⟩
end
end Go.Proofs.YtpipjkbgbhefcaaGreat
