/-
  The program's kindWord, element, attr.
-/
import Derived.Test.YtjfonpbnohbpfaaGreatDoorBToP
import Derived.Test.YtjfonpbnohbpfaaGreatDoorBFrom3
import Derived.Test.YtjfonpbnohbpfaaGreatDoorPartN
set_option linter.unusedSimpArgs false
set_option linter.unusedVariables false
namespace Go.Proofs.YtjfonpbnohbpfaaGreatDoor
open Go.RowKit
set_option maxRecDepth 100000
def kindCells : List Value := [.string Bp.stageW, .int .i64 1, .string Bp.taskW, .int .i64 2, .string Bp.mileW, .int .i64 3, .string Bp.listW, .int .i64 4, .string Bp.timeW, .int .i64 5]
/-- The table of kinds lies there. -/
def KindOk (w : World) : Prop := ∀ (j : Nat) c, kindCells[j]? = some c → w.cell? ⟨0, j, none⟩ = some c
theorem KindOk.below {w w' : World} (h : KindOk w) (hb : Below w.heap.size w w') : KindOk w' := fun j c hc => below_cell hb _ _ (h j c hc)
set_option maxHeartbeats 4000000 in
theorem kindWordD (k : Int) (h1 : 1 ≤ k) (h5 : k ≤ 5) (w : World) (hk : KindOk w) :
    Calls Tryz.prog 59 #[.int .i64 k] w fun e w' => e = .returned (.string (Bp.wordI Bp.kindTbl k)) ∧ Below w.heap.size w w' := by
  have c0 : w.cell? ⟨0, 0, none⟩ = some (.string Bp.stageW) := hk 0 _ rfl
  have c1 : w.cell? ⟨0, 1, none⟩ = some (.int .i64 1) := hk 1 _ rfl
  have c2 : w.cell? ⟨0, 2, none⟩ = some (.string Bp.taskW) := hk 2 _ rfl
  have c3 : w.cell? ⟨0, 3, none⟩ = some (.int .i64 2) := hk 3 _ rfl
  have c4 : w.cell? ⟨0, 4, none⟩ = some (.string Bp.mileW) := hk 4 _ rfl
  have c5 : w.cell? ⟨0, 5, none⟩ = some (.int .i64 3) := hk 5 _ rfl
  have c6 : w.cell? ⟨0, 6, none⟩ = some (.string Bp.listW) := hk 6 _ rfl
  have c7 : w.cell? ⟨0, 7, none⟩ = some (.int .i64 4) := hk 7 _ rfl
  have c8 : w.cell? ⟨0, 8, none⟩ = some (.string Bp.timeW) := hk 8 _ rfl
  have c9 : w.cell? ⟨0, 9, none⟩ = some (.int .i64 5) := hk 9 _ rfl
  have x0 : ∀ (w : World), (Instr.index 143 (.agg #[.string Bp.stageW, .int .i64 1, .string Bp.taskW, .int .i64 2, .string Bp.mileW, .int .i64 3, .string Bp.listW, .int .i64 4, .string Bp.timeW, .int .i64 5]) (.int .i64 0)).run Tryz.prog w = .ok (.agg #[.string Bp.stageW, .int .i64 1]) w := fun _ => rfl
  have x1 : ∀ (w : World), (Instr.index 143 (.agg #[.string Bp.stageW, .int .i64 1, .string Bp.taskW, .int .i64 2, .string Bp.mileW, .int .i64 3, .string Bp.listW, .int .i64 4, .string Bp.timeW, .int .i64 5]) (.int .i64 1)).run Tryz.prog w = .ok (.agg #[.string Bp.taskW, .int .i64 2]) w := fun _ => rfl
  have x2 : ∀ (w : World), (Instr.index 143 (.agg #[.string Bp.stageW, .int .i64 1, .string Bp.taskW, .int .i64 2, .string Bp.mileW, .int .i64 3, .string Bp.listW, .int .i64 4, .string Bp.timeW, .int .i64 5]) (.int .i64 2)).run Tryz.prog w = .ok (.agg #[.string Bp.mileW, .int .i64 3]) w := fun _ => rfl
  have x3 : ∀ (w : World), (Instr.index 143 (.agg #[.string Bp.stageW, .int .i64 1, .string Bp.taskW, .int .i64 2, .string Bp.mileW, .int .i64 3, .string Bp.listW, .int .i64 4, .string Bp.timeW, .int .i64 5]) (.int .i64 3)).run Tryz.prog w = .ok (.agg #[.string Bp.listW, .int .i64 4]) w := fun _ => rfl
  have x4 : ∀ (w : World), (Instr.index 143 (.agg #[.string Bp.stageW, .int .i64 1, .string Bp.taskW, .int .i64 2, .string Bp.mileW, .int .i64 3, .string Bp.listW, .int .i64 4, .string Bp.timeW, .int .i64 5]) (.int .i64 4)).run Tryz.prog w = .ok (.agg #[.string Bp.timeW, .int .i64 5]) w := fun _ => rfl
  clear hk
  go_enter Tryz.func59, Tryz.ntmps59
  go_wp2_with fail
  go_loopw [6] (fun i wr => ∃ j : Nat, (j : Int) < k ∧ i = .int .i64 j ∧ Hid (Below w.heap.size w wr)) (fun i _ => 10 - (intOf i).toNat)
  case atStart => exact ⟨0, by omega, rfl, Below.refl _ _⟩
  case round =>
    obtain ⟨j, hj, rfl, HW⟩ := hrel
    rcases (show j = 0 ∨ j = 1 ∨ j = 2 ∨ j = 3 ∨ j = 4 by omega) with rfl | rfl | rfl | rfl | rfl
    · by_cases e : k = 1
      · subst e
        go_wp2_with fail
        generalize hU : wr.alloc _ = U
        obtain ⟨BU, _, _⟩ := of_alloc hU
        go_ret
        exact ⟨rfl, HW.out.trans (BU.mono HW.out.size)⟩
      · have e1 : ((1 : Int) == k) = false := beq_eq_false_iff_ne.2 (fun h => e h.symm)
        have e2 : ¬ (1 : Int) = k := fun h => e h.symm
        go_wp2_with fail
        generalize hU : wr.alloc _ = U
        obtain ⟨BU, _, _⟩ := of_alloc hU
        refine ⟨⟨1, by omega, rfl, HW.out.trans (BU.mono HW.out.size)⟩, ?_⟩
        first | decide | omega | (simp [intOf]; done) | (simp [intOf]; omega)
    · by_cases e : k = 2
      · subst e
        go_wp2_with fail
        generalize hU : wr.alloc _ = U
        obtain ⟨BU, _, _⟩ := of_alloc hU
        go_ret
        exact ⟨rfl, HW.out.trans (BU.mono HW.out.size)⟩
      · have e1 : ((2 : Int) == k) = false := beq_eq_false_iff_ne.2 (fun h => e h.symm)
        have e2 : ¬ (2 : Int) = k := fun h => e h.symm
        go_wp2_with fail
        generalize hU : wr.alloc _ = U
        obtain ⟨BU, _, _⟩ := of_alloc hU
        refine ⟨⟨2, by omega, rfl, HW.out.trans (BU.mono HW.out.size)⟩, ?_⟩
        first | decide | omega | (simp [intOf]; done) | (simp [intOf]; omega)
    · by_cases e : k = 3
      · subst e
        go_wp2_with fail
        generalize hU : wr.alloc _ = U
        obtain ⟨BU, _, _⟩ := of_alloc hU
        go_ret
        exact ⟨rfl, HW.out.trans (BU.mono HW.out.size)⟩
      · have e1 : ((3 : Int) == k) = false := beq_eq_false_iff_ne.2 (fun h => e h.symm)
        have e2 : ¬ (3 : Int) = k := fun h => e h.symm
        go_wp2_with fail
        generalize hU : wr.alloc _ = U
        obtain ⟨BU, _, _⟩ := of_alloc hU
        refine ⟨⟨3, by omega, rfl, HW.out.trans (BU.mono HW.out.size)⟩, ?_⟩
        first | decide | omega | (simp [intOf]; done) | (simp [intOf]; omega)
    · by_cases e : k = 4
      · subst e
        go_wp2_with fail
        generalize hU : wr.alloc _ = U
        obtain ⟨BU, _, _⟩ := of_alloc hU
        go_ret
        exact ⟨rfl, HW.out.trans (BU.mono HW.out.size)⟩
      · have e1 : ((4 : Int) == k) = false := beq_eq_false_iff_ne.2 (fun h => e h.symm)
        have e2 : ¬ (4 : Int) = k := fun h => e h.symm
        go_wp2_with fail
        generalize hU : wr.alloc _ = U
        obtain ⟨BU, _, _⟩ := of_alloc hU
        refine ⟨⟨4, by omega, rfl, HW.out.trans (BU.mono HW.out.size)⟩, ?_⟩
        first | decide | omega | (simp [intOf]; done) | (simp [intOf]; omega)
    · by_cases e : k = 5
      · subst e
        go_wp2_with fail
        generalize hU : wr.alloc _ = U
        obtain ⟨BU, _, _⟩ := of_alloc hU
        go_ret
        exact ⟨rfl, HW.out.trans (BU.mono HW.out.size)⟩
      · exact absurd (show k = 5 by omega) e
theorem elementD (lo : ByteArray) (ka aa : Option Addr) (kn kc an ac : Nat) (w : World) :
    Calls Tryz.prog 21 #[.string lo, .slice ka kn kc, .slice aa an ac] w fun e w' => e = .returned (.agg #[.string Bp.spaceB, .string lo, .slice aa an ac, .slice ka kn kc, .int .i64 0]) ∧ Below w.heap.size w w' := by
  go_enter Tryz.func21, Tryz.ntmps21
  go_wp2_with fail
  generalize hU : w.alloc _ = U
  obtain ⟨BU, LU, zU⟩ := of_alloc hU
  have r0 := LU.cell 0
  have r1 := LU.cell 1
  have r2 := LU.cell 2
  have r3 := LU.cell 3
  have r4 := LU.cell 4
  simp only [List.getElem?_toArray, List.getElem?_cons_zero, List.getElem?_cons_succ] at r0 r1 r2 r3 r4
  refine bodyPost_ret (v := .agg #[.string Bp.spaceB, .string lo, .slice aa an ac, .slice ka kn kc, .int .i64 0]) (by simp [results, Tryz.results21, go_sem, r0, r1, r2, r3, r4]) rfl ⟨rfl, BU⟩
set_option maxHeartbeats 1000000 in
theorem attrD (a b : ByteArray) (w : World) (hb : b.size ≤ 140000000000000) :
    Calls Tryz.prog 22 #[.string a, .string b] w fun e w' => e = .returned (.agg #[.string a, .string b]) ∧ Below w.heap.size w w' := by
  go_enter Tryz.func22, Tryz.ntmps22
  go_wp2_with fail
  generalize hU : w.alloc _ = U
  obtain ⟨BU, LU, zU⟩ := of_alloc hU
  refine (cloneS b U hb).mono ?_
  rintro e w1 ⟨rfl, b1⟩
  have L1 := LU.below b1
  have m0 : w1.cell? ⟨w.heap.size, 0, none⟩ = some (.string ⟨#[]⟩) := L1.cell 0
  have m1 : w1.cell? ⟨w.heap.size, 1, none⟩ = some (.string ⟨#[]⟩) := L1.cell 1
  have f0 : w1.frozen? ⟨w.heap.size, 0, none⟩ = false := L1.free 0
  have f1 : w1.frozen? ⟨w.heap.size, 1, none⟩ = false := L1.free 1
  have BB := hideT (BU.trans (b1.mono BU.size))
  have HL := hideT L1
  clear BU LU zU hU b1 L1
  go_wp2_with fail
  obtain ⟨X, hX, bX, lX⟩ : ∃ X, (w1.setCell ⟨w.heap.size, 0, none⟩ (.string a)).setCell ⟨w.heap.size, 1, none⟩ (.string b) = X ∧ Below w.heap.size w X ∧ Lies X w.heap.size 66 #[.string a, .string b] := ⟨_, rfl, (BB.out.setCell (Nat.le_refl _) _).setCell (Nat.le_refl _) _, (HL.out.set 0 _).set 1 _⟩
  rw [hX]
  have r0 : X.cell? ⟨w.heap.size, 0, none⟩ = some (.string a) := lX.cell 0
  have r1 : X.cell? ⟨w.heap.size, 1, none⟩ = some (.string b) := lX.cell 1
  refine bodyPost_ret (v := .agg #[.string a, .string b]) (by simp [results, Tryz.results22, go_sem, r0, r1]) rfl ⟨rfl, bX⟩
end Go.Proofs.YtjfonpbnohbpfaaGreatDoor
