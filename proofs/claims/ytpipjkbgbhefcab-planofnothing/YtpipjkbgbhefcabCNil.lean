/-
  A nil case.
-/
import Derived.Test.YtpipjkbgbhefcabCActs
set_option linter.unusedSimpArgs false
set_option linter.unusedVariables false
namespace Go.Proofs.Ytpipjkbgbhefcab
open Go.RowKit
set_option maxRecDepth 100000
theorem doNil (w : World) (a : Cp.ActP) : Calls Try.prog 9 #[.pointer none, actV a] w fun e w' => e = .returned (.int .i64 1) ∧ Below w.heap.size w w' := by
  go_enter Try.func9, Try.ntmps9
  go_wp2_with fail
  go_ret
  exact ⟨rfl, (Below.refl _ w).alloc (Nat.le_refl _) _⟩
theorem stateNil (w : World) (s : ByteArray) : Calls Try.prog 10 #[.pointer none, .string s] w fun e w' => e = .returned (.int .i64 0) ∧ w' = w := by
  go_enter Try.func10, Try.ntmps10
  go_wp2_with fail
  go_ret
  exact ⟨rfl, rfl⟩
theorem fileNil (w : World) (s : ByteArray) : Calls Try.prog 13 #[.pointer none, .string s] w fun e w' => e = .returned (.int .i64 0) ∧ w' = w := by
  go_enter Try.func13, Try.ntmps13
  go_wp2_with fail
  go_ret
  exact ⟨rfl, rfl⟩
theorem nowNil (w : World) : Calls Try.prog 14 #[.pointer none] w fun e w' => e = .returned (.int .i64 0) ∧ w' = w := by
  go_enter Try.func14, Try.ntmps14
  go_wp2_with fail
  go_ret
  exact ⟨rfl, rfl⟩
theorem roundsNil (w : World) : Calls Try.prog 15 #[.pointer none] w fun e w' => e = .returned (.int .i64 0) ∧ w' = w := by
  go_enter Try.func15, Try.ntmps15
  go_wp2_with fail
  go_ret
  exact ⟨rfl, rfl⟩
theorem statesNil (w : World) : Calls Try.prog 16 #[.pointer none] w fun e w' => e = .returned (.slice none 0 0) ∧ w' = w := by
  go_enter Try.func16, Try.ntmps16
  go_wp2_with fail
  go_ret
  exact ⟨rfl, rfl⟩
theorem metNil (w : World) (s : ByteArray) (b : Bool) (i : Int) : Calls Try.prog 17 #[.pointer none, .string s, .bool b, .int .i64 i] w fun e w' => e = .returned (.bool false) ∧ w' = w := by
  go_enter Try.func17, Try.ntmps17
  go_wp2_with fail
  go_ret
  exact ⟨rfl, rfl⟩
theorem actone {w : World} {b : Nat} {a : Cp.ActP} (h : Lies w b 41 #[.int .i64 a.kind, .string a.item, .int .i64 a.ev, .string a.file, .int .i64 a.n]) (h1 : a.item.size ≤ 140737488355328) (h2 : a.file.size ≤ 140737488355328) : ActRow w (.slice (some ⟨b, 0, none⟩) 1 1) [a] := by
  refine rowR_of_own (H := 0) (CS := [[.int .i64 a.kind, .string a.item, .int .i64 a.ev, .string a.file, .int .i64 a.n]]) (own_of_lies (z := 5) (n := 1) h (Nat.zero_le _) rfl (by decide)) (by show 1 ≤ _; decide) rfl (fun x hx => by rw [List.mem_singleton.1 hx]; rfl) (fun i x cs hx hcs => ?_)
  have hi : i = 0 := by
    have := (List.getElem?_eq_some_iff.1 hx).1
    simpa using this
  subst hi
  simp only [List.getElem?_cons_zero, Option.some.injEq] at hx hcs
  subst hx
  subst hcs
  exact ⟨rfl, h1, h2⟩
end Go.Proofs.Ytpipjkbgbhefcab
