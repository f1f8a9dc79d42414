/-
  GsmOfNothing's walk.
-/
import Derived.Test.YtkjekohncfhbiabGKnown
import Derived.Test.YtkjekohncfhbiabGActs
set_option linter.unusedSimpArgs false
set_option linter.unusedVariables false
namespace Go.Proofs.Ytkjekohncfhbiab
open Go.RowKit
set_option maxRecDepth 100000
theorem actoneG {w : World} {b : Nat} {a : Gp.Act} (h : Lies w b 23 #[.int .i64 a.kind, .string a.item, .int .i64 a.event, .string a.file, .int .i64 a.n]) (h1 : a.item.size ≤ 140737488355328) (h2 : a.file.size ≤ 140737488355328) : ActRow w (.slice (some ⟨b, 0, none⟩) 1 1) [a] := by
  refine rowR_of_own (H := 0) (CS := [[.int .i64 a.kind, .string a.item, .int .i64 a.event, .string a.file, .int .i64 a.n]]) (own_of_liesG (z := 5) (n := 1) h (Nat.zero_le _) rfl (by decide)) (by show 1 ≤ _; decide) rfl (fun x hx => by rw [List.mem_singleton.1 hx]; rfl) (fun i x cs hx hcs => ?_)
  have hi : i = 0 := by
    have := (List.getElem?_eq_some_iff.1 hx).1
    simpa using this
  subst hi
  simp only [List.getElem?_cons_zero, Option.some.injEq] at hx hcs
  subst hx
  subst hcs
  exact ⟨rfl, h1, h2⟩
set_option maxHeartbeats 8000000 in
theorem gsmOfNothing_walk (a : Gp.Act) (h1 : a.item.size ≤ 140737488355328) (h2 : a.file.size ≤ 140737488355328) (f : Int) {w : World} :
    Calls Try.prog 3 #[actG a, .int .i64 f] w fun e w' => e = .returned (.bool true) ∧ Below w.heap.size w w' := by
  obtain ⟨X, hX, hB, L1, L2, sz⟩ := boxes2 w 23 23 #[.int .i64 a.kind, .string a.item, .int .i64 a.event, .string a.file, .int .i64 a.n] #[.int .i64 a.kind, .string a.item, .int .i64 a.event, .string a.file, .int .i64 a.n]
  have HB := hideT hB
  have HT := hideT (textsD X _ 1 1 [a] (actoneG L2 h1 h2))
  have HL1 := hideT L1
  have HX := hideT hX
  clear hB L1 L2 sz hX
  go_enter Try.func3, Try.ntmps3
  go_wp2_with fail
  rw [HX.out]
  refine HT.out.mono ?_
  rintro e w1 ⟨b, rfl, _, b1⟩
  have HB1 := hideT (HB.out.trans (b1.mono HB.out.size))
  have HL2 := hideT (HL1.out.below b1)
  clear b1
  cases b with
  | false =>
    go_wp2_with fail
    go_ret
    exact ⟨rfl, HB1.out⟩
  | true =>
    have y0 : w1.cell? ⟨w.heap.size, 0, none⟩ = some (.int .i64 a.kind) := HL2.out.cell 0
    have y1 : w1.cell? ⟨w.heap.size, 1, none⟩ = some (.string a.item) := HL2.out.cell 1
    have y2 : w1.cell? ⟨w.heap.size, 2, none⟩ = some (.int .i64 a.event) := HL2.out.cell 2
    have y3 : w1.cell? ⟨w.heap.size, 3, none⟩ = some (.string a.file) := HL2.out.cell 3
    have y4 : w1.cell? ⟨w.heap.size, 4, none⟩ = some (.int .i64 a.n) := HL2.out.cell 4
    go_wp2_with fail
    refine (doNil a w1).mono ?_
    rintro e w2 ⟨rfl, b2⟩
    have HB2 := hideT (HB1.out.trans (b2.mono HB1.out.size))
    clear b2 y0 y1 y2 y3 y4
    go_wp2_with fail
    refine (upNil f w2).mono ?_
    rintro e w3 ⟨rfl, hw⟩
    obtain rfl := hw.symm
    clear hw
    go_wp2_with fail
    refine (fileNil ⟨#[102]⟩ w2).mono ?_
    rintro e w3 ⟨rfl, hw⟩
    obtain rfl := hw.symm
    clear hw
    go_wp2_with fail
    refine (flagsNil w2).mono ?_
    rintro e w3 ⟨rfl, hw⟩
    obtain rfl := hw.symm
    clear hw
    go_wp2_with fail
    refine (known11 w2).mono ?_
    rintro e w3 ⟨rfl, b3⟩
    have HB3 := hideT (HB2.out.trans (b3.mono HB2.out.size))
    clear b3
    go_wp2_with fail
    go_ret
    exact ⟨rfl, HB3.out⟩
end Go.Proofs.Ytkjekohncfhbiab
