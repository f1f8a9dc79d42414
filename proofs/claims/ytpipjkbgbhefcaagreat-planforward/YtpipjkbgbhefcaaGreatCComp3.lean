/-
  Whether a stage completes: by its kids. (Written by CComp.py.)
-/
import Derived.Test.YtpipjkbgbhefcaaGreatCComp
set_option linter.unusedSimpArgs false
set_option linter.unusedVariables false
namespace Go.Proofs.YtpipjkbgbhefcaaGreat
open Go.RowKit
open Qp
set_option maxRecDepth 100000
section
variable {w : World} {H : Nat} {K : Kc} {m : Mp.Model} {v : Value} {L : List Thing} {N : Nat} {st : Cp.St}
set_option maxHeartbeats 8000000 in
theorem completesE (h : CIn w H K m v L N st) (hl : OkM m) (i : Nat) (hi : i < m.items.length) (x : Int) (hx : Hid (Cp.completesI m st i = x)) (hA : (Cp.itm m i).kind = 1) (hB : Cp.at0 st.s i = 2) (hC : Cp.exitsI m st i = 0) :
    Calls Tryz.prog 91 #[cP K, iP i] w (IntPost x w) := by
  obtain ⟨a5, k5, a6, k6, I⟩ := h.item hi
  obtain ⟨W, hW⟩ : ∃ W, w.alloc (.cells #[.string (Cp.itm m i).id, .int .i64 (Cp.itm m i).kind, .string (Cp.itm m i).parent, .bool (Cp.itm m i).req, .int .i64 (Cp.itm m i).ticks, .slice a5 (Cp.itm m i).entry.length k5, .slice a6 (Cp.itm m i).exit.length k6] 48) = W := ⟨_, rfl⟩
  obtain ⟨B1, L1, z1⟩ := of_alloc hW
  have HB1 := hideT B1
  have HC := hideT (h.below B1)
  have c1 := h.c1
  have d0 := I.c0
  have d1 := I.c1
  have d2 := I.c2
  have d3 := I.c3
  have d4 := I.c4
  have d5 := I.c5
  have d6 := I.c6
  have y0 : W.cell? ⟨w.heap.size, 0, none⟩ = some (.string (Cp.itm m i).id) := L1.cell 0
  have y1 : W.cell? ⟨w.heap.size, 1, none⟩ = some (.int .i64 (Cp.itm m i).kind) := L1.cell 1
  have g0 := HC.out.c0
  have g1 := HC.out.c1
  have g2 := HC.out.c2
  have gs := HC.out.cs hi
  have t1 : (0 : Int) ≤ (i : Int) := by omega
  have t2 : (i : Int) < (m.items.length : Int) := by omega
  obtain ⟨s, hs⟩ : ∃ s, Cp.at0 st.s i = s := ⟨_, rfl⟩
  obtain ⟨ex, hex⟩ : ∃ z, Cp.exitsI m st i = z := ⟨_, rfl⟩
  obtain ⟨k, hk⟩ : ∃ k, (Cp.itm m i).kind = k := ⟨_, rfl⟩
  obtain ⟨id, hid⟩ : ∃ k, (Cp.itm m i).id = k := ⟨_, rfl⟩
  obtain ⟨b, hb⟩ : ∃ b, (Mp.kidsN m.items id m.items.length).any (Cp.holdsUp m st) = b := ⟨_, rfl⟩
  have HX : Hid (x = if k = 1 ∧ s = 2 ∧ ex = 0 ∧ b = false then 3 else 0) := by show _ = _; rw [← hx.out]; unfold Cp.completesI; rw [hs, hex, hk, hid, hb]
  have HE := hideT hex
  have HBb := hideT hb
  have HL := hideT hl
  have HI := hideT hi
  rw [hs] at gs
  rw [hk] at y1 d1 hW
  rw [hid] at y0 d0 hW
  have h1 : k = 1 := hk.symm.trans hA
  have h2 : s = 2 := hs.symm.trans hB
  have h3 : ex = 0 := hex.symm.trans hC
  clear hA hB hC h I hx hs hex hb hl B1 L1 hk hid hi
  subst h1
  subst h2
  subst h3
  have HB2 := hideT (below_drewN HB1.out 1)
  have HCd := hideT (HC.out.below (below_drewN (Below.refl _ W) 1))
  have HX2 : Hid (x = if b = false then 3 else 0) := by show _ = _; rw [HX.out]; simp
  clear HX
  go_enter Tryz.func91, Tryz.ntmps91
  go_wp2_with fail
  clear c1 d0 d1 d2 d3 d4 d5 d6 hW
  go_region_held3 (fun w' => w'.cell? ⟨w.heap.size, 0, none⟩ = some (.string id) ∧ w'.cell? ⟨w.heap.size, 1, none⟩ = some (.int .i64 1) ∧ w'.cell? ⟨K.cb, 0, none⟩ = some (.slice K.af m.files.length K.cf) ∧ w'.cell? ⟨K.cb, 1, none⟩ = some (.slice (some ⟨K.ib, K.io, none⟩) m.items.length K.ci) ∧ w'.cell? ⟨K.cb, 2, none⟩ = some (.slice (some ⟨K.sb, 0, none⟩) m.items.length m.items.length) ∧ w'.cell? ⟨K.sb, i, none⟩ = some (.int .i64 2)) (go_keep) (first
    | (go_at_call 88; refine (exitsD HCd.out HL.out i HI.out 0 HE).mono ?_; rintro e w1 ⟨rfl, b1⟩; have HR1 := hideT (HB2.out.trans (b1.mono HB2.out.size)); have HC1 := hideT (HCd.out.below b1); have z0 : w1.cell? ⟨w.heap.size, 0, none⟩ = some (.string id) := below_cell b1 _ _ y0; have z1 : w1.cell? ⟨w.heap.size, 1, none⟩ = some (.int .i64 1) := below_cell b1 _ _ y1; have z2 := HC1.out.c0; have z3 := HC1.out.c1; have z4 := HC1.out.c2; have z5 : w1.cell? ⟨K.sb, i, none⟩ = some (.int .i64 2) := below_cell b1 _ _ gs; clear b1)
    | (go_at_call 115; refine (kidsD w1 (.slice K.af m.files.length K.cf) (some ⟨K.ib, K.io, none⟩) _ K.ci m.items id HC1.out.at.items).mono ?_; rintro e w2 ⟨ao, cap, rfl, nr, b2⟩; have HR2 := hideT (HR1.out.trans (b2.mono HR1.out.size)); have HC2 := hideT (HC1.out.below b2); have NR := hideT nr; have v0 := below_cell b2 _ _ z0; have v1 := below_cell b2 _ _ z1; have v2 := HC2.out.c0; have v3 := HC2.out.c1; have v4 := HC2.out.c2; have v5 := below_cell b2 _ _ z5; clear b2 nr)
    | (go_at_call 114; refine (containsCN w2 ao _ cap _ 116 (cP K) (Cp.holdsUp m st) NR.out (enters_of Tryz.func116 (by kernel_rfl) rfl) (fun y hy w' hw' => holdsUpD (HC2.out.below hw') HL.out y (Cp.kids_lt hy)) b HBb).mono ?_; rintro e w3 ⟨rfl, b3⟩; have HR3 := hideT (HR2.out.trans (b3.mono HR2.out.size)); have u0 := below_cell b3 _ _ v0; have u1 := below_cell b3 _ _ v1; have HC3 := hideT (HC2.out.below b3); have u2 := HC3.out.c0; have u3 := HC3.out.c1; have u4 := HC3.out.c2; have u5 := below_cell b3 _ _ v5; clear b3))
  all_goals cases b
  all_goals go_wp2_with fail
  all_goals go_ret
  all_goals exact ⟨ret_i HX2.out.symm, HR3.out⟩
end
end Go.Proofs.YtpipjkbgbhefcaaGreat
