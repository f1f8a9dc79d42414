/-
  Whether a stage completes: where it is none, or not Open. (Written by CComp.py.)
-/
import Derived.Test.YtpipjkbgbhefcaaGreatCComp
set_option linter.unusedSimpArgs false
set_option linter.unusedVariables false
namespace Go.Proofs.YtpipjkbgbhefcaaGreat
open Go.RowKit
open Qp
set_option maxRecDepth 100000
section
variable {w : World} {H : Nat} {K : Kc} {m : Mp.Model} {v : Value} {L : List Thing} {N : Nat} {st : Cp.St}
set_option maxHeartbeats 8000000 in
theorem completesA (h : CIn w H K m v L N st) (hl : OkM m) (i : Nat) (hi : i < m.items.length) (x : Int) (hx : Hid (Cp.completesI m st i = x)) (hA : ¬ (Cp.itm m i).kind = 1) :
    Calls Tryz.prog 91 #[cP K, iP i] w (IntPost x w) := by
  obtain ⟨a5, k5, a6, k6, I⟩ := h.item hi
  obtain ⟨W, hW⟩ : ∃ W, w.alloc (.cells #[.string (Cp.itm m i).id, .int .i64 (Cp.itm m i).kind, .string (Cp.itm m i).parent, .bool (Cp.itm m i).req, .int .i64 (Cp.itm m i).ticks, .slice a5 (Cp.itm m i).entry.length k5, .slice a6 (Cp.itm m i).exit.length k6] 48) = W := ⟨_, rfl⟩
  obtain ⟨B1, L1, z1⟩ := of_alloc hW
  have HB1 := hideT B1
  have HC := hideT (h.below B1)
  have c1 := h.c1
  have d0 := I.c0
  have d1 := I.c1
  have d2 := I.c2
  have d3 := I.c3
  have d4 := I.c4
  have d5 := I.c5
  have d6 := I.c6
  have y0 : W.cell? ⟨w.heap.size, 0, none⟩ = some (.string (Cp.itm m i).id) := L1.cell 0
  have y1 : W.cell? ⟨w.heap.size, 1, none⟩ = some (.int .i64 (Cp.itm m i).kind) := L1.cell 1
  have g0 := HC.out.c0
  have g1 := HC.out.c1
  have g2 := HC.out.c2
  have gs := HC.out.cs hi
  have t1 : (0 : Int) ≤ (i : Int) := by omega
  have t2 : (i : Int) < (m.items.length : Int) := by omega
  obtain ⟨s, hs⟩ : ∃ s, Cp.at0 st.s i = s := ⟨_, rfl⟩
  obtain ⟨ex, hex⟩ : ∃ z, Cp.exitsI m st i = z := ⟨_, rfl⟩
  obtain ⟨k, hk⟩ : ∃ k, (Cp.itm m i).kind = k := ⟨_, rfl⟩
  obtain ⟨id, hid⟩ : ∃ k, (Cp.itm m i).id = k := ⟨_, rfl⟩
  obtain ⟨b, hb⟩ : ∃ b, (Mp.kidsN m.items id m.items.length).any (Cp.holdsUp m st) = b := ⟨_, rfl⟩
  have HX : Hid (x = if k = 1 ∧ s = 2 ∧ ex = 0 ∧ b = false then 3 else 0) := by show _ = _; rw [← hx.out]; unfold Cp.completesI; rw [hs, hex, hk, hid, hb]
  have HE := hideT hex
  have HBb := hideT hb
  have HL := hideT hl
  have HI := hideT hi
  rw [hs] at gs
  rw [hk] at y1 d1 hW
  rw [hid] at y0 d0 hW
  have h1 : ¬ k = 1 := by rw [← hk]; exact hA
  clear hA h I hx hs hex hb hl B1 L1 hk hid hi
  have t3 : (k != (1 : Int)) = true := bne_iff_ne.2 h1
  have HX2 : Hid (x = 0) := by show _ = _; rw [HX.out, if_neg (fun e => h1 e.1)]
  clear h1 HX
  go_enter Tryz.func91, Tryz.ntmps91
  go_wp2_with fail
  go_quiet (fail)
  go_wp2_with fail
  go_ret
  exact ⟨ret_i HX2.out.symm, below_drewN HB1.out _⟩
set_option maxHeartbeats 8000000 in
theorem completesB (h : CIn w H K m v L N st) (hl : OkM m) (i : Nat) (hi : i < m.items.length) (x : Int) (hx : Hid (Cp.completesI m st i = x)) (hA : (Cp.itm m i).kind = 1) (hB : ¬ Cp.at0 st.s i = 2) :
    Calls Tryz.prog 91 #[cP K, iP i] w (IntPost x w) := by
  obtain ⟨a5, k5, a6, k6, I⟩ := h.item hi
  obtain ⟨W, hW⟩ : ∃ W, w.alloc (.cells #[.string (Cp.itm m i).id, .int .i64 (Cp.itm m i).kind, .string (Cp.itm m i).parent, .bool (Cp.itm m i).req, .int .i64 (Cp.itm m i).ticks, .slice a5 (Cp.itm m i).entry.length k5, .slice a6 (Cp.itm m i).exit.length k6] 48) = W := ⟨_, rfl⟩
  obtain ⟨B1, L1, z1⟩ := of_alloc hW
  have HB1 := hideT B1
  have HC := hideT (h.below B1)
  have c1 := h.c1
  have d0 := I.c0
  have d1 := I.c1
  have d2 := I.c2
  have d3 := I.c3
  have d4 := I.c4
  have d5 := I.c5
  have d6 := I.c6
  have y0 : W.cell? ⟨w.heap.size, 0, none⟩ = some (.string (Cp.itm m i).id) := L1.cell 0
  have y1 : W.cell? ⟨w.heap.size, 1, none⟩ = some (.int .i64 (Cp.itm m i).kind) := L1.cell 1
  have g0 := HC.out.c0
  have g1 := HC.out.c1
  have g2 := HC.out.c2
  have gs := HC.out.cs hi
  have t1 : (0 : Int) ≤ (i : Int) := by omega
  have t2 : (i : Int) < (m.items.length : Int) := by omega
  obtain ⟨s, hs⟩ : ∃ s, Cp.at0 st.s i = s := ⟨_, rfl⟩
  obtain ⟨ex, hex⟩ : ∃ z, Cp.exitsI m st i = z := ⟨_, rfl⟩
  obtain ⟨k, hk⟩ : ∃ k, (Cp.itm m i).kind = k := ⟨_, rfl⟩
  obtain ⟨id, hid⟩ : ∃ k, (Cp.itm m i).id = k := ⟨_, rfl⟩
  obtain ⟨b, hb⟩ : ∃ b, (Mp.kidsN m.items id m.items.length).any (Cp.holdsUp m st) = b := ⟨_, rfl⟩
  have HX : Hid (x = if k = 1 ∧ s = 2 ∧ ex = 0 ∧ b = false then 3 else 0) := by show _ = _; rw [← hx.out]; unfold Cp.completesI; rw [hs, hex, hk, hid, hb]
  have HE := hideT hex
  have HBb := hideT hb
  have HL := hideT hl
  have HI := hideT hi
  rw [hs] at gs
  rw [hk] at y1 d1 hW
  rw [hid] at y0 d0 hW
  have h1 : k = 1 := hk.symm.trans hA
  have h2 : ¬ s = 2 := by rw [← hs]; exact hB
  clear hA hB h I hx hs hex hb hl B1 L1 hk hid hi
  subst h1
  have t3 : (s != (2 : Int)) = true := bne_iff_ne.2 h2
  have HX2 : Hid (x = 0) := by show _ = _; rw [HX.out, if_neg (fun e => h2 e.2.1)]
  clear h2 HX
  go_enter Tryz.func91, Tryz.ntmps91
  go_wp2_with fail
  go_quiet (fail)
  go_wp2_with fail
  go_ret
  exact ⟨ret_i HX2.out.symm, below_drewN HB1.out _⟩
end
end Go.Proofs.YtpipjkbgbhefcaaGreat
