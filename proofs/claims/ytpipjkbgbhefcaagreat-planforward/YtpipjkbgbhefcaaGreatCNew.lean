/-
  New. (Written by CNew.py.)
-/
import Derived.Test.YtpipjkbgbhefcaaGreatCNewO
import Derived.Test.YtpipjkbgbhefcaaGreatCOk
set_option linter.unusedSimpArgs false
set_option linter.unusedVariables false
namespace Go.Proofs.YtpipjkbgbhefcaaGreat
open Go.RowKit
open Qp
set_option maxRecDepth 100000
/-- What New answers, of a model that may be. -/
def NewPost (w : World) (m : Mp.Model) (e : Ending) (w' : World) : Prop := ∃ (K : Kc) (v : Value) (L : List Thing) (N : Nat), e = .returned (.tuple #[cP K, .int .i64 0]) ∧ CAll w' w.heap.size K m v L N (Cp.newP m) noP ∧ Below w.heap.size w w'
theorem call0 {w : World} {H : Nat} {K : Kc} {m : Mp.Model} (hb : Mp.isB m = true) (h : CIn w H K m nilS [] 0 (stW m)) : CAll (w.setCell ⟨K.sb, 0, none⟩ (.int .i64 2)) H K m nilS [] 0 (Cp.st0 m) noP := by
  have h16 := items16 hb
  refine ⟨(h.putS 0 2).1, Cp.good_st0 h16.1, Nat.zero_le _, ⟨List.nodup_nil, fun x hx => (by cases hx), fun k hk _ hs _ => ?_⟩, ⟨Int.le_refl _, (by show (0 : Int) ≤ 1000000000000; decide)⟩, okM_of hb⟩
  exfalso
  have : Cp.at0 ((List.replicate m.items.length 0).set 0 2) k = 1 := hs
  rw [Cp.at0_set (by simp; omega), Cp.at0_rep] at this
  split at this <;> omega
set_option maxHeartbeats 8000000 in
theorem newD (w : World) (m : Mp.Model) (af ai : Option Addr) (cf ci : Nat) (hm : ModelAt w af cf ai ci m) (hl : light m) (hb : Mp.isB m = true) :
    Calls Tryz.prog 10 #[.agg #[.slice af m.files.length cf, .slice ai m.items.length ci]] w (NewPost w m) := by
  obtain ⟨W, hW⟩ : ∃ W, w.alloc (.cells #[.slice af m.files.length cf, .slice ai m.items.length ci] 25) = W := ⟨_, rfl⟩
  obtain ⟨B1, L1, z1⟩ := of_alloc hW
  have x0 : W.cell? ⟨w.heap.size, 0, none⟩ = some (.slice af m.files.length cf) := L1.cell 0
  have x1 : W.cell? ⟨w.heap.size, 1, none⟩ = some (.slice ai m.items.length ci) := L1.cell 1
  have HM := hideT (hm.below B1)
  have HB := hideT B1
  have HI := hideT (isD W m af ai cf ci HM.out)
  have HBB := hideT hb
  have HL := hideT hl
  have h16 := hideT (items16 hb).1
  obtain ⟨mkS, hS⟩ := makers m.items.length (by have := items16 hb; omega)
  obtain ⟨mkN, hN⟩ := makers m.files.length (Nat.le_of_lt (Nat.lt_trans hl.1 (by decide)))
  obtain ⟨mkM, hM⟩ := makerM
  have HS := hideT (fun w => And.intro (hS w).1 (And.intro (hS w).2.1 (hS w).2.2.1))
  have HN := hideT (fun w => And.intro (hN w).1 (And.intro (hN w).2.1 (hN w).2.2.1))
  have HMM := hideT (fun w => And.intro (hM w).1 (And.intro (hM w).2.1 (hM w).2.2.1))
  clear hm B1 L1 hb hl hS hN hM z1
  go_enter Tryz.func10, Tryz.ntmps10
  go_wp2_with fail
  refine HI.out.mono ?_
  rintro e w1 ⟨rfl, b1⟩
  have HB1 := hideT (HB.out.trans (b1.mono HB.out.size))
  have HM1 := hideT (HM.out.below b1)
  have x0 := below_cell b1 _ _ x0
  have x1 := below_cell b1 _ _ x1
  rw [HBB.out]
  clear b1 HI hW
  go_wp2_with fail
  have hx : w1.drew.cell? ⟨w.heap.size, 0, none⟩ = some (.slice af m.files.length cf) ∧ w1.drew.cell? ⟨w.heap.size, 1, none⟩ = some (.slice ai m.items.length ci) ∧ Below w1.heap.size w1 w1.drew := ⟨x0, x1, below_drewN (Below.refl _ w1) 1⟩
  refine wp_region_held_drew (S := (fun w' => w'.cell? ⟨w.heap.size, 0, none⟩ = some (.slice af m.files.length cf) ∧ w'.cell? ⟨w.heap.size, 1, none⟩ = some (.slice ai m.items.length ci) ∧ Below w1.heap.size w1 w')) (by kernel_rfl) hx (fun hHeld => ?_)
  clear hx
  refine wpAnyH_take (i := 0) (oi := { dst := some 8, op := Go.Op.load 25 (Go.Operand.tmp 1), type := 25, pos := "plan.go:28", after := #[], guard := none }) (v := ?v0) rfl (by kernel_rfl) (by kernel_rfl) (by kernel_rfl) (fun _ _ _ h => h) (Or.inl ⟨by rfl, ?hy0⟩) hHeld ?rest0
  case hy0 => first | (intro w hSw; (try dsimp only at hSw); go_simp; done) | (intro w hSw; (try dsimp only at hSw); go_simp; with_reducible rfl)
  try simp only [Act.put, List.setIfInBounds_toArray, List.set_cons_zero, List.set_cons_succ]
  refine wpAnyH_take (i := 2) (oi := { dst := some 10, op := Go.Op.fieldAddr 25 (Go.Operand.tmp 1) 1, type := 0, pos := "plan.go:28", after := #[], guard := none }) (v := ?v2) rfl (by kernel_rfl) (by kernel_rfl) (by kernel_rfl) (fun _ _ _ h => h) (Or.inl ⟨by rfl, ?hy2⟩) hHeld ?rest2
  case hy2 => first | (intro w hSw; (try dsimp only at hSw); go_simp; done) | (intro w hSw; (try dsimp only at hSw); go_simp; with_reducible rfl)
  try simp only [Act.put, List.setIfInBounds_toArray, List.set_cons_zero, List.set_cons_succ]
  refine wpAnyH_take (i := 3) (oi := { dst := some 11, op := Go.Op.load 23 (Go.Operand.tmp 10), type := 23, pos := "plan.go:28", after := #[{ on := 2, ground := Go.Ground.data }], guard := none }) (v := ?v3) rfl (by kernel_rfl) (by kernel_rfl) (by kernel_rfl) (fun _ _ _ h => h) (Or.inl ⟨by rfl, ?hy3⟩) hHeld ?rest3
  case hy3 => first | (intro w hSw; (try dsimp only at hSw); go_simp; done) | (intro w hSw; (try dsimp only at hSw); go_simp; with_reducible rfl)
  try simp only [Act.put, List.setIfInBounds_toArray, List.set_cons_zero, List.set_cons_succ]
  refine wpAnyH_take (i := 4) (oi := { dst := some 12, op := Go.Op.call { callee := Go.Callee.builtin Go.Builtin.len, args := #[Go.Operand.tmp 11], argTypes := #[23] }, type := 3, pos := "plan.go:28", after := #[{ on := 3, ground := Go.Ground.data }], guard := none }) (v := ?v4) rfl (by kernel_rfl) (by kernel_rfl) (by kernel_rfl) (fun _ _ _ h => h) (Or.inl ⟨by rfl, ?hy4⟩) hHeld ?rest4
  case hy4 => first | (intro w hSw; (try dsimp only at hSw); go_simp; done) | (intro w hSw; (try dsimp only at hSw); go_simp; with_reducible rfl)
  try simp only [Act.put, List.setIfInBounds_toArray, List.set_cons_zero, List.set_cons_succ]
  refine wpAnyH_take (i := 6) (oi := { dst := some 14, op := Go.Op.fieldAddr 25 (Go.Operand.tmp 1) 0, type := 0, pos := "plan.go:28", after := #[], guard := none }) (v := ?v6) rfl (by kernel_rfl) (by kernel_rfl) (by kernel_rfl) (fun _ _ _ h => h) (Or.inl ⟨by rfl, ?hy6⟩) hHeld ?rest6
  case hy6 => first | (intro w hSw; (try dsimp only at hSw); go_simp; done) | (intro w hSw; (try dsimp only at hSw); go_simp; with_reducible rfl)
  try simp only [Act.put, List.setIfInBounds_toArray, List.set_cons_zero, List.set_cons_succ]
  refine wpAnyH_take (i := 7) (oi := { dst := some 15, op := Go.Op.load 22 (Go.Operand.tmp 14), type := 22, pos := "plan.go:28", after := #[{ on := 6, ground := Go.Ground.data }], guard := none }) (v := ?v7) rfl (by kernel_rfl) (by kernel_rfl) (by kernel_rfl) (fun _ _ _ h => h) (Or.inl ⟨by rfl, ?hy7⟩) hHeld ?rest7
  case hy7 => first | (intro w hSw; (try dsimp only at hSw); go_simp; done) | (intro w hSw; (try dsimp only at hSw); go_simp; with_reducible rfl)
  try simp only [Act.put, List.setIfInBounds_toArray, List.set_cons_zero, List.set_cons_succ]
  refine wpAnyH_take (i := 8) (oi := { dst := some 16, op := Go.Op.call { callee := Go.Callee.builtin Go.Builtin.len, args := #[Go.Operand.tmp 15], argTypes := #[22] }, type := 3, pos := "plan.go:28", after := #[{ on := 7, ground := Go.Ground.data }], guard := none }) (v := ?v8) rfl (by kernel_rfl) (by kernel_rfl) (by kernel_rfl) (fun _ _ _ h => h) (Or.inl ⟨by rfl, ?hy8⟩) hHeld ?rest8
  case hy8 => first | (intro w hSw; (try dsimp only at hSw); go_simp; done) | (intro w hSw; (try dsimp only at hSw); go_simp; with_reducible rfl)
  try simp only [Act.put, List.setIfInBounds_toArray, List.set_cons_zero, List.set_cons_succ]
  refine nw_00000 w w1 m af ai cf ci mkS mkN mkM _ _ _ _ _ _ _ _ _ _ _ _ _ _ HB1.out HM1 HL h16 HS HN HMM ?_ undef undef undef undef undef none 0 0 0 0 0 0 0 0 0 0 _ ⟨fun e => (by cases e), fun e => (by cases e), fun e => (by cases e), fun e => (by cases e), fun e => (by cases e), fun e => (by cases e), fun e => (by cases e), fun e => (by cases e), fun e => (by cases e), fun e => (by cases e)⟩ hHeld _ (by kernel_rfl)
  rintro X x u9 u13 u17 u18 u19 u20 ⟨K, rfl, hc, hbX⟩
  have HC := hideT hc
  have HX := hideT hbX
  have c2 := hc.c2
  have cs := hc.cs (i := 0) (by have := h16.out; omega)
  have cf := hc.ss.free 0
  have t1 : (0 : Int) < (m.items.length : Int) := by have := h16.out; omega
  have hca := call0 HBB.out hc
  obtain ⟨Y, hY⟩ : ∃ Y, X.setCell ⟨K.sb, 0, none⟩ (.int .i64 2) = Y := ⟨_, rfl⟩
  rw [hY] at hca
  have HK : Hid (Keep (CS K nilS) X Y) := by rw [← hY]; exact (hc.putS 0 2).2
  have HA := hideT hca
  clear hc hbX hca x0 x1 hHeld
  go_wp2_with fail
  refine (goOnD HA.out (Nat.le_trans HX.out.size HK.out.size)).mono ?_
  rintro e w5 ⟨rfl, v5, L5, N5, T5⟩
  have HT := hideT T5.a
  have HBF : Hid (Below w.heap.size w w5) := by
    have k := HK.out.trans T5.keep
    exact ⟨k.os.trans HX.out.os, k.tape.trans HX.out.tape, k.output.trans HX.out.output, Nat.le_trans HX.out.size k.size, fun i hi => by
      rw [k.block i (Nat.lt_of_lt_of_le hi HX.out.size) (fun e => by have := (HC.out.lt e).2; omega)]
      exact HX.out.block i hi⟩
  clear T5 c2 cs cf
  go_wp2_with fail
  exact bodyPost_ret (v := .tuple #[cP K, .int .i64 0]) (by simp [results, Tryz.results10, go_sem]) rfl ⟨K, v5, L5, N5, rfl, HT.out, HBF.out⟩
end Go.Proofs.YtpipjkbgbhefcaaGreat
