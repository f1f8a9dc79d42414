/-
  A number over and over: slices.Repeat of a row of one.
-/
import Derived.Test.YtkjekohncfhbiaaRFlags
import Derived.Test.YtkjekohncfhbiaaShelfM
import Derived.Laws.CopyRow
set_option linter.unusedSimpArgs false
set_option linter.unusedVariables false
namespace Go.Proofs.Ytkjekohncfhbiaa
open Go.RowKit
set_option maxRecDepth 100000
abbrev zV (x : Int) : Value := .int .i64 x
/-- A block of numbers. -/
def ZB (w : World) (b : Nat) (l : List Int) : Prop := Lies w b 3 (l.map zV).toArray
theorem ZB.cell {w : World} {b : Nat} {l : List Int} (h : ZB w b l) {i : Nat} {x : Int} (hi : l[i]? = some x) : w.cell? ⟨b, i, none⟩ = some (.int .i64 x) := by
  rw [Lies.cell h i, List.getElem?_toArray, List.getElem?_map, hi]
  rfl
theorem ZB.free {w : World} {b : Nat} {l : List Int} (h : ZB w b l) (i : Nat) : w.frozen? ⟨b, i, none⟩ = false := Lies.free h i
theorem ZB.set {w : World} {b : Nat} {l : List Int} (h : ZB w b l) (i : Nat) (v : Int) : ZB (w.setCell ⟨b, i, none⟩ (.int .i64 v)) b (l.set i v) := by
  have := Lies.set h i (.int .i64 v)
  unfold ZB
  rw [List.map_set]
  rwa [List.setIfInBounds_toArray] at this
theorem infoZ : (Try.prog.info? 3).map (fun i => (i.zero, i.size, i.bytes)) = some (some (.int .i64 0), 1, 8) := by kernel_rfl
theorem rep_madeZ (n : Nat) : madeCells (Value.int .i64 0).cells n = ((List.replicate n (0 : Int)).map zV).toArray := by
  apply Array.ext'
  rw [show (Value.int .i64 0).cells = #[.int .i64 0] from rfl, toList_madeCells_one, List.map_replicate]
theorem madeZ (w : World) (n : Nat) (hn : n ≤ 1000) : ∃ W, (Instr.makeSlice 22 (.int .i64 (n : Int)) (.int .i64 (n : Int))).run Try.prog w = .ok (.slice (some ⟨w.heap.size, 0, none⟩) n n) W ∧ ZB W w.heap.size (List.replicate n 0) ∧ Below w.heap.size w W ∧ W.heap.size = w.heap.size + 1 := by
  obtain ⟨i0, hi0, hz0, hz1, hz2⟩ := info_parts infoZ
  have hr := run_make (P := Try.prog) w 22 3 i0 _ Try.underlying22 hi0 hz0 .i64 .i64 n n (by omega) (Int.le_refl _) (by rw [hz2]; omega) (by omega)
  simp only [Int.toNat_natCast, hz1, Nat.mul_one] at hr
  refine ⟨_, hr, ?_, (Below.refl _ w).alloc (Nat.le_refl _) _, by simp⟩
  unfold ZB
  rw [← rep_madeZ]
  exact Lies.new w _ _
/-- Copied into the midst of a block of numbers. -/
theorem copyZ (w : World) (g o n : Nat) (cur cs : List Int) (b p m c1 c2 : Nat) (hg : ZB w g cur) (hc : cs.length = min m n) (hsrc : ∀ (j : Nat) x, cs[j]? = some x → w.cell? ⟨b, p + j, none⟩ = some (.int .i64 x)) (hfit : o + cs.length ≤ cur.length) :
    ∃ W, (Builtin.copy_ #[22, 22] 3 #[.slice (some ⟨g, o, none⟩) n c1, .slice (some ⟨b, p, none⟩) m c2]).run Try.prog w = .ok (.int .i64 (cs.length : Int)) W ∧ ZB W g (cur.take o ++ cs ++ cur.drop (o + cs.length)) ∧ Keep (fun k => k = g) w W := by
  have hsz : (Try.prog.info? 3).map (·.size) = some 1 := by kernel_rfl
  have hrun := run_copy_row (P := Try.prog) w 22 22 3 3 g o n c1 ⟨b, p, none⟩ m c2 (cur.map zV).toArray 3 (cs.map zV) Try.underlying22 hsz hg (by rw [List.length_map]; exact hc) (fun j v hj => by
    rw [List.getElem?_map] at hj
    cases hx : cs[j]? with
    | none => rw [hx] at hj; cases hj
    | some x =>
      rw [hx] at hj
      obtain rfl := Option.some.inj hj
      have := hsrc j x hx
      rwa [show (⟨b, p, none⟩ : Addr).add j = ⟨b, p + j, none⟩ by unfold Addr.add; split <;> simp_all]) (by simpa using hfit) (fun v hv => by obtain ⟨y, _, rfl⟩ := List.mem_map.1 hv; rfl)
  rw [List.length_map] at hrun
  have e : ((cur.map zV).toArray.toList.take o ++ cs.map zV ++ (cur.map zV).toArray.toList.drop (o + cs.length)) = (cur.take o ++ cs ++ cur.drop (o + cs.length)).map zV := by
    simp [List.map_append, List.map_take, List.map_drop]
  rw [e] at hrun
  refine ⟨_, hrun, setRow_heap _ _ _ _ _ _ hg, ?_⟩
  refine ⟨rfl, rfl, rfl, by simp [World.setRow], fun k hk hs => ?_⟩
  simp [World.setRow, Array.getElem?_modify, Ne.symm hs]
end Go.Proofs.Ytkjekohncfhbiaa
