/-
  The walk of the law: a nil case is nothing.
-/
import Derived.Test.YtpipjkbgbhefcabCNil
set_option linter.unusedSimpArgs false
set_option linter.unusedVariables false
namespace Go.Proofs.Ytpipjkbgbhefcab
open Go.RowKit
set_option maxRecDepth 100000
set_option maxHeartbeats 8000000 in
theorem planOfNothing_walk (a : Cp.ActP) (h1 : a.item.size ≤ 140737488355328) (h2 : a.file.size ≤ 140737488355328) (s : ByteArray) (hs : s.size ≤ maxLen) {w : World} :
    Calls Try.prog 4 #[actV a, .string s] w fun e w' => e = .returned (.bool true) ∧ Below w.heap.size w w' := by
  obtain ⟨W, hW⟩ : ∃ W, w.alloc (.cells #[.int .i64 a.kind, .string a.item, .int .i64 a.ev, .string a.file, .int .i64 a.n] 41) = W := ⟨_, rfl⟩
  obtain ⟨B1, L1, z1⟩ := of_alloc hW
  obtain ⟨X, hX⟩ : ∃ X, W.alloc (.cells #[.int .i64 a.kind, .string a.item, .int .i64 a.ev, .string a.file, .int .i64 a.n] 41) = X := ⟨_, rfl⟩
  obtain ⟨B2, L2, z2⟩ := of_alloc hX
  have HB := hideT (B1.trans (B2.mono B1.size))
  have HT := hideT (textsD X _ 1 1 [a] (actone L2 h1 h2))
  rw [z1] at HT
  have y0 : W.cell? ⟨w.heap.size, 0, none⟩ = some (.int .i64 a.kind) := L1.cell 0
  have y1 : W.cell? ⟨w.heap.size, 1, none⟩ = some (.string a.item) := L1.cell 1
  have y2 : W.cell? ⟨w.heap.size, 2, none⟩ = some (.int .i64 a.ev) := L1.cell 2
  have y3 : W.cell? ⟨w.heap.size, 3, none⟩ = some (.string a.file) := L1.cell 3
  have y4 : W.cell? ⟨w.heap.size, 4, none⟩ = some (.int .i64 a.n) := L1.cell 4
  have HL1 := hideT (L1.below B2)
  clear B1 L1 B2 L2
  go_enter Try.func4, Try.ntmps4
  go_wp2_with fail
  refine HT.out.mono ?_
  rintro e w1 ⟨b, rfl, _, b1⟩
  have HB1 := hideT (HB.out.trans (b1.mono HB.out.size))
  have HL2 := hideT (HL1.out.below b1)
  clear b1 y0 y1 y2 y3 y4
  cases b with
  | false =>
    go_wp2_with fail
    go_ret
    exact ⟨rfl, HB1.out⟩
  | true =>
    by_cases hz : (100 : Int) < (s.size : Int)
    · go_wp2_with fail
      go_ret
      exact ⟨rfl, HB1.out⟩
    · have hz' : (s.size : Int) ≤ 100 := by omega
      have y0 : w1.cell? ⟨w.heap.size, 0, none⟩ = some (.int .i64 a.kind) := HL2.out.cell 0
      have y1 : w1.cell? ⟨w.heap.size, 1, none⟩ = some (.string a.item) := HL2.out.cell 1
      have y2 : w1.cell? ⟨w.heap.size, 2, none⟩ = some (.int .i64 a.ev) := HL2.out.cell 2
      have y3 : w1.cell? ⟨w.heap.size, 3, none⟩ = some (.string a.file) := HL2.out.cell 3
      have y4 : w1.cell? ⟨w.heap.size, 4, none⟩ = some (.int .i64 a.n) := HL2.out.cell 4
      clear hz
      go_wp2_with fail
      refine (doNil w1 a).mono ?_
      rintro e w2 ⟨rfl, b2⟩
      have HB2 := hideT (HB1.out.trans (b2.mono HB1.out.size))
      clear b2 y0 y1 y2 y3 y4
      go_wp2_with (first
        | (go_at_call 10; refine (stateNil _ s).mono ?_; rintro e w3 ⟨rfl, hw⟩; obtain rfl := hw.symm)
        | (go_at_call 13; refine (fileNil _ s).mono ?_; rintro e w3 ⟨rfl, hw⟩; obtain rfl := hw.symm)
        | (go_at_call 14; refine (nowNil _).mono ?_; rintro e w3 ⟨rfl, hw⟩; obtain rfl := hw.symm)
        | (go_at_call 15; refine (roundsNil _).mono ?_; rintro e w3 ⟨rfl, hw⟩; obtain rfl := hw.symm)
        | (go_at_call 16; refine (statesNil _).mono ?_; rintro e w3 ⟨rfl, hw⟩; obtain rfl := hw.symm)
        | (go_at_call 17; refine (metNil _ s true 0).mono ?_; rintro e w3 ⟨rfl, hw⟩; obtain rfl := hw.symm)
        | (go_at_call 11; refine (known9 _).mono ?_; rintro e w9 ⟨rfl, b9⟩; have HB9 := hideT (HB2.out.trans (b9.mono HB2.out.size)); clear b9))
      go_ret
      exact ⟨rfl, HB9.out⟩
end Go.Proofs.Ytpipjkbgbhefcab
