/-
  Small parts of package model: kinds, ticks, events, operators, the plan.
-/
import Derived.Test.YtpipjkbgbhefcaaGreatMData
set_option linter.unusedSimpArgs false
set_option linter.unusedVariables false
namespace Go.Proofs.YtpipjkbgbhefcaaGreat
open Go.RowKit
theorem ret_b {a v : Bool} (h : a = v) : Ending.returned (.bool a) = .returned (.bool v) := by rw [h]
theorem toList_inj {a b : ByteArray} (h : a.toList = b.toList) : a = b := by
  rw [ByteArray.toList_eq, ByteArray.toList_eq] at h
  obtain ⟨⟨x⟩⟩ := a
  obtain ⟨⟨y⟩⟩ := b
  have : x = y := h
  rw [this]
theorem tl_ne {a : ByteArray} (b : ByteArray) (l : List UInt8) (h : a ≠ b) (hb : b.toList = l) : ¬ a.toList = l := fun e => h (toList_inj (e.trans hb.symm))
theorem tl_beq {a : ByteArray} (b : ByteArray) (l : List UInt8) (h : a ≠ b) (hb : b.toList = l) : (a.toList == l) = false := beq_eq_false_iff_ne.2 (tl_ne b l h hb)
theorem ba_eq (s : ByteArray) (a : Array UInt8) : (s = ⟨a⟩) = (s.toList = a.toList) := propext ⟨fun h => by rw [h, ByteArray.toList_eq], fun h => toList_inj (by rw [h, ByteArray.toList_eq])⟩
theorem len_beq {α : Type} (l : List α) : (((l.length : Nat) : Int) == 0) = decide (l = []) := by
  cases l with
  | nil => rfl
  | cons a l => rw [decide_eq_false (by simp)]; exact beq_eq_false_iff_ne.2 (by simp only [List.length_cons]; omega)
theorem int_beq (a b : Int) : (a == b) = decide (a = b) := by
  by_cases h : a = b
  · rw [decide_eq_true h]; exact beq_iff_eq.2 h
  · rw [decide_eq_false h]; exact beq_eq_false_iff_ne.2 h
theorem isKindD (k : Int) (w : World) :
    Calls Tryz.prog 79 #[.int .i64 k] w fun e w' => e = .returned (.bool (Mp.kindB k)) ∧ w' = w := by
  go_enter Tryz.func79, Tryz.ntmps79
  go_wp2
  all_goals go_ret
  all_goals refine ⟨ret_b ?_, rfl⟩
  all_goals rw [Bool.eq_iff_iff]
  all_goals simp only [Mp.kindB, Bool.and_eq_true, decide_eq_true_eq]
  all_goals first | omega | (simp; done) | (simp; omega)
theorem legalD (k e : Int) (w : World) :
    Calls Tryz.prog 120 #[.int .i64 k, .int .i64 e] w fun r w' => r = .returned (.bool (Mp.legalB k e)) ∧ w' = w := by
  go_enter Tryz.func120, Tryz.ntmps120
  go_wp2_with (go_at_call 79; refine (isKindD _ _).mono ?_; rintro e w' ⟨rfl, rfl⟩)
  all_goals go_ret
  all_goals refine ⟨ret_b ?_, rfl⟩
  all_goals (try simp only [beq_iff_eq, beq_eq_false_iff_ne] at *)
  all_goals first | (simp_all [Mp.legalB]; done) | (simp_all [Mp.legalB]; rw [Bool.eq_iff_iff]; simp; omega) | (simp_all [Mp.legalB]; omega)
theorem ticksD (x : Mp.Item) (v5 v6 : Value) (w : World) :
    Calls Tryz.prog 80 #[.agg #[.string x.id, .int .i64 x.kind, .string x.parent, .bool x.req, .int .i64 x.ticks, v5, v6]] w fun e w' => e = .returned (.bool (Mp.ticksB x)) ∧ Below w.heap.size w w' := by
  go_enter Tryz.func80, Tryz.ntmps80
  go_wp2
  all_goals go_ret
  all_goals refine ⟨ret_b ?_, (Below.refl _ _).alloc (Nat.le_refl _) _⟩
  all_goals (try simp only [beq_iff_eq, beq_eq_false_iff_ne] at *)
  all_goals (try simp_all [Mp.ticksB, ba_eq, len_beq, int_beq])
  all_goals (try omega)
theorem waitD (x : Mp.Item) (a5 : Option Addr) (c5 : Nat) (v6 : Value) (w : World) :
    Calls Tryz.prog 81 #[.agg #[.string x.id, .int .i64 x.kind, .string x.parent, .bool x.req, .int .i64 x.ticks, .slice a5 x.entry.length c5, v6]] w fun e w' => e = .returned (.bool (Mp.waitB x)) ∧ Below w.heap.size w w' := by
  go_enter Tryz.func81, Tryz.ntmps81
  go_wp2
  all_goals go_ret
  all_goals refine ⟨ret_b ?_, (Below.refl _ _).alloc (Nat.le_refl _) _⟩
  all_goals (try simp only [beq_iff_eq, beq_eq_false_iff_ne] at *)
  all_goals (try simp_all [Mp.waitB, ba_eq, len_beq, int_beq])
  all_goals (try omega)
theorem isPlanD (x : Mp.Item) (a5 : Option Addr) (c5 : Nat) (a6 : Option Addr) (c6 : Nat) (w : World) :
    Calls Tryz.prog 46 #[.agg #[.string x.id, .int .i64 x.kind, .string x.parent, .bool x.req, .int .i64 x.ticks, .slice a5 x.entry.length c5, .slice a6 x.exit.length c6]] w fun e w' => e = .returned (.bool (Mp.planB x)) ∧ Below w.heap.size w w' := by
  go_enter Tryz.func46, Tryz.ntmps46
  go_wp2
  all_goals go_ret
  all_goals refine ⟨ret_b ?_, (Below.refl _ _).alloc (Nat.le_refl _) _⟩
  all_goals (try simp only [beq_iff_eq, beq_eq_false_iff_ne] at *)
  all_goals (try simp_all [Mp.planB, ba_eq, len_beq, int_beq])
  all_goals (try omega)
theorem isOpD (s : ByteArray) (w : World) :
    Calls Tryz.prog 122 #[.string s] w fun e w' => e = .returned (.bool (Mp.opB s)) ∧ w' = w := by
  go_enter Tryz.func122, Tryz.ntmps122
  go_wp2
  all_goals go_ret
  all_goals refine ⟨ret_b ?_, rfl⟩
  all_goals (try simp only [beq_iff_eq, beq_eq_false_iff_ne] at *)
  all_goals (try simp_all [Mp.opB, ba_eq, len_beq, int_beq])
  all_goals (try omega)
end Go.Proofs.YtpipjkbgbhefcaaGreat
