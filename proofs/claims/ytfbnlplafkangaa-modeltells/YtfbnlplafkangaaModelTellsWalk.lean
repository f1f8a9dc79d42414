/-
  ModelTells: of any model whether it may be, where each item and all within a stage stand.
-/
import Derived.Test.YtfbnlplafkangaaMKids
import Derived.Test.YtfbnlplafkangaaMHeavy
import Derived.Test.YtfbnlplafkangaaMLaw
set_option linter.unusedSimpArgs false
set_option linter.unusedVariables false
namespace Go.Proofs.Ytfbnlplafkangaa
open Go.RowKit
set_option maxHeartbeats 8000000 in
set_option maxRecDepth 100000 in
theorem modelTells_walk (af : Option Addr) (cf : Nat) (ai : Option Addr) (ci : Nat) (m : Mp.Model) {w : World} (hm : ModelAt w af cf ai ci m) (id : ByteArray) (_ : id.size ≤ maxLen) :
    Calls Try.prog 3 #[.agg #[.slice af m.files.length cf, .slice ai m.items.length ci], .string id] w fun e w' => e = .returned (.bool true) ∧ Below w.heap.size w w' := by
  obtain ⟨_, hil, hicap, b, o, ha, hc⟩ := irow_at hm.items
  have HC := hideT hc
  have HA := hideT ha
  have HM := hideT hm
  have M0 := hideT (MR.new w m af ai cf ci)
  clear hc ha hm
  go_enter Try.func3, Try.ntmps3
  go_wp2_with fail
  refine (heavyD _ m af ai cf ci (HM.out.below M0.out.1)).mono ?_
  rintro e w1 ⟨bh, rfl, hlight, p1⟩
  have M1 := hideT (M0.out.below p1)
  clear p1
  cases bh
  rotate_left
  · go_wp2_with fail
    go_ret
    exact ⟨rfl, M1.out.1⟩
  clear hlight
  go_wp2_with fail
  go_loopw [5] (fun i wr => ∃ k : Nat, k ≤ m.items.length ∧ i = .int .i64 k ∧ Hid (MR w m af ai cf ci wr)) (fun i _ => m.items.length - (intOf i).toNat)
  case atStart => exact ⟨0, by omega, rfl, M1⟩
  case round =>
    obtain ⟨k, hk, rfl, HW⟩ := hrel
    have x0 : wr.cell? ⟨w.heap.size, 0, none⟩ = some (.slice af m.files.length cf) := HW.out.2.cell 0
    have x1 : wr.cell? ⟨w.heap.size, 1, none⟩ = some (.slice ai m.items.length ci) := HW.out.2.cell 1
    by_cases hlt : k < m.items.length
    · obtain ⟨x, hx⟩ := Mp.at_lt (l := m.items) (k := k) hlt
      obtain ⟨a5, c5, a6, c6, I0⟩ := HC.out k _ hx
      have HD0 := hideT I0.c0
      have d0 := below_cell HW.out.1 _ _ I0.c0
      obtain rfl := HA.out (by omega)
      clear hx I0
      have t0 : (0 : Int) ≤ (k : Int) := by omega
      have t1 : (k : Int) < (m.items.length : Int) := by omega
      obtain ⟨z, HP⟩ : ∃ z, Hid (Mp.placeZ m.items x.id = z) := ⟨_, rfl⟩
      go_wp2_with fail
      go_region_held3 (fun w' => w'.cell? ⟨w.heap.size, 0, none⟩ = some (.slice af m.files.length cf) ∧ w'.cell? ⟨w.heap.size, 1, none⟩ = some (.slice (some ⟨b, o, none⟩) m.items.length ci) ∧ w'.cell? ⟨b, o + k * 7, none⟩ = some (.string x.id)) (go_keep) (first
        | (go_at_call 10; refine (placeV _ _ _ m.items.length ci m.items x.id (irow_below HM.out.items (below_drewN HW.out.1 1)) z HP).mono ?_; rintro e w2 ⟨rfl, q1⟩; have M2 : MR w m af (some ⟨b, o, none⟩) cf ci w2 := HW.out.below ((below_drewN (Below.refl _ wr) 1).trans q1); have z0 := M2.2.cell 0; have z1 := M2.2.cell 1; have z2 := below_cell M2.1 _ _ HD0.out; simp only [List.getElem?_toArray, List.getElem?_cons_zero, List.getElem?_cons_succ] at z0 z1)
        | (go_at_call 11; refine (placeRV _ _ _ m.items.length ci m.items x.id (irow_below HM.out.items M2.1) z HP).mono ?_; rintro e w3 ⟨rfl, q2⟩; have M3 : MR w m af (some ⟨b, o, none⟩) cf ci w3 := M2.below q2; have y0 := M3.2.cell 0; have y1 := M3.2.cell 1; have y2 := below_cell M3.1 _ _ HD0.out; simp only [List.getElem?_toArray, List.getElem?_cons_zero, List.getElem?_cons_succ] at y0 y1)
        | (go_at_call 13; refine (kidsD _ _ _ m.items.length ci m.items x.id (irow_below HM.out.items M3.1)).mono ?_; rintro e w4 ⟨ka, kc, rfl, NR4, q3⟩; have M4 : MR w m af (some ⟨b, o, none⟩) cf ci w4 := M3.below q3; have u0 := M4.2.cell 0; have u1 := M4.2.cell 1; have u2 := below_cell M4.1 _ _ HD0.out; simp only [List.getElem?_toArray, List.getElem?_cons_zero, List.getElem?_cons_succ] at u0 u1)
        | (go_at_call 14; refine (kidsRef _ _ _ m.items.length ci m.items x.id (irow_below HM.out.items M4.1)).mono ?_; rintro e w5 ⟨ka2, kc2, rfl, NR5, q4⟩; have M5 : MR w m af (some ⟨b, o, none⟩) cf ci w5 := M4.below q4; have v0 := M5.2.cell 0; have v1 := M5.2.cell 1; have v2 := below_cell M5.1 _ _ HD0.out; simp only [List.getElem?_toArray, List.getElem?_cons_zero, List.getElem?_cons_succ] at v0 v1)
        | (go_at_call 12; refine (sameIntsD _ _ _ _ _ _ _ _ (nrow_below NR4 q4) NR5).mono ?_; rintro e w6 ⟨rfl, q5⟩; have M6 : MR w m af (some ⟨b, o, none⟩) cf ci w6 := M5.below q5; have s0 := M6.2.cell 0; have s1 := M6.2.cell 1; have s2 := below_cell M6.1 _ _ HD0.out; simp only [List.getElem?_toArray, List.getElem?_cons_zero, List.getElem?_cons_succ] at s0 s1))
      have HW6 := hideT M6
      clear M2 M3 M4 M5 M6 q1 q2 q3 q4 q5 z0 z1 z2 y0 y1 y2 u0 u1 u2 v0 v1 v2 s0 s1 s2 NR4 NR5 x0 x1 d0
      go_wp2_with fail
      refine ⟨⟨k + 1, by omega, by go_num, HW6⟩, ?_⟩
      first | omega | (simp [intOf]; omega)
    · obtain ⟨z, HP⟩ : ∃ z, Hid (Mp.placeZ m.items id = z) := ⟨_, rfl⟩
      obtain ⟨bb, HI⟩ : ∃ y, Hid (Mp.isB m = y) := ⟨_, rfl⟩
      go_wp2_with fail
      go_region_held3 (fun w' => w'.cell? ⟨w.heap.size, 0, none⟩ = some (.slice af m.files.length cf) ∧ w'.cell? ⟨w.heap.size, 1, none⟩ = some (.slice ai m.items.length ci)) (go_keep) (first
        | (go_at_call 15; refine (isProgV _ m af ai cf ci (HM.out.below (below_drewN HW.out.1 1)) bb HI).mono ?_; rintro e wA ⟨rfl, qA⟩; have MA : MR w m af ai cf ci wA := HW.out.below ((below_drewN (Below.refl _ wr) 1).trans qA); have zA0 := MA.2.cell 0; have zA1 := MA.2.cell 1; simp only [List.getElem?_toArray, List.getElem?_cons_zero, List.getElem?_cons_succ] at zA0 zA1)
        | (go_at_call 16; refine (isRefV _ m af ai cf ci (HM.out.below MA.1) bb HI).mono ?_; rintro e wB ⟨rfl, qB⟩; have MB' : MR w m af ai cf ci wB := MA.below qB; have zB0 := MB'.2.cell 0; have zB1 := MB'.2.cell 1; simp only [List.getElem?_toArray, List.getElem?_cons_zero, List.getElem?_cons_succ] at zB0 zB1)
        | (go_at_call 10; refine (placeV _ _ _ m.items.length ci m.items id (irow_below HM.out.items MB'.1) z HP).mono ?_; rintro e w2 ⟨rfl, q1⟩; have M2 : MR w m af ai cf ci w2 := MB'.below q1; have z0 := M2.2.cell 0; have z1 := M2.2.cell 1; simp only [List.getElem?_toArray, List.getElem?_cons_zero, List.getElem?_cons_succ] at z0 z1)
        | (go_at_call 11; refine (placeRV _ _ _ m.items.length ci m.items id (irow_below HM.out.items M2.1) z HP).mono ?_; rintro e w3 ⟨rfl, q2⟩; have M3 : MR w m af ai cf ci w3 := M2.below q2; have y0 := M3.2.cell 0; have y1 := M3.2.cell 1; simp only [List.getElem?_toArray, List.getElem?_cons_zero, List.getElem?_cons_succ] at y0 y1)
        | (go_at_call 13; refine (kidsD _ _ _ m.items.length ci m.items id (irow_below HM.out.items M3.1)).mono ?_; rintro e w4 ⟨ka, kc, rfl, NR4, q3⟩; have M4 : MR w m af ai cf ci w4 := M3.below q3; have u0 := M4.2.cell 0; have u1 := M4.2.cell 1; simp only [List.getElem?_toArray, List.getElem?_cons_zero, List.getElem?_cons_succ] at u0 u1)
        | (go_at_call 14; refine (kidsRef _ _ _ m.items.length ci m.items id (irow_below HM.out.items M4.1)).mono ?_; rintro e w5 ⟨ka2, kc2, rfl, NR5, q4⟩; have M5 : MR w m af ai cf ci w5 := M4.below q4; have v0 := M5.2.cell 0; have v1 := M5.2.cell 1; simp only [List.getElem?_toArray, List.getElem?_cons_zero, List.getElem?_cons_succ] at v0 v1)
        | (go_at_call 12; refine (sameIntsD _ _ _ _ _ _ _ _ (nrow_below NR4 q4) NR5).mono ?_; rintro e w6 ⟨rfl, q5⟩; have M6 : MR w m af ai cf ci w6 := M5.below q5; have s0 := M6.2.cell 0; have s1 := M6.2.cell 1; simp only [List.getElem?_toArray, List.getElem?_cons_zero, List.getElem?_cons_succ] at s0 s1)
        | (go_at_call 17; refine (knownD _).mono ?_; rintro e w7 ⟨rfl, q6⟩; have M7 : MR w m af ai cf ci w7 := M6.below q6; have r0 := M7.2.cell 0; have r1 := M7.2.cell 1; simp only [List.getElem?_toArray, List.getElem?_cons_zero, List.getElem?_cons_succ] at r0 r1))
      have HW7 := hideT M7.1
      clear MA MB' M2 M3 M4 M5 M6 M7 qA qB q1 q2 q3 q4 q5 q6 zA0 zA1 zB0 zB1 z0 z1 y0 y1 u0 u1 v0 v1 s0 s1 r0 r1 NR4 NR5 x0 x1
      go_wp2_with fail
      go_ret
      exact ⟨rfl, HW7.out⟩
end Go.Proofs.Ytfbnlplafkangaa
