/-
  What is due, in memory: the queue's box, its row; how the interface's methods are found; the row's order.
-/
import Derived.Test.YtjibkhljihnhiaaSRow
import Derived.Test.YtjibkhljihnhiaaQPlain
import Derived.Deep.QuietTactic
import Derived.BigQuiet
import Derived.RegionTactic
set_option linter.unusedSimpArgs false
set_option linter.unusedVariables false
namespace Go.Proofs.Ytjibkhljihnhiaa
open Go.RowKit
open Qp
def flatQ (L : List Thing) : List Value := L.flatMap fun x => [.int .i64 x.1, .int .i64 x.2]
theorem flatQ_cons (x : Thing) (L : List Thing) : flatQ (x :: L) = .int .i64 x.1 :: .int .i64 x.2 :: flatQ L := rfl
theorem flatQ_app (L M : List Thing) : flatQ (L ++ M) = flatQ L ++ flatQ M := by unfold flatQ; exact List.flatMap_append
theorem flatQ_len (L : List Thing) : (flatQ L).length = L.length * 2 := by
  induction L with
  | nil => rfl
  | cons q L ih => rw [flatQ_cons]; simp only [List.length_cons, ih]; omega
theorem flatQ_get : ∀ {L : List Thing} {i : Nat} {q : Thing}, L[i]? = some q → (flatQ L)[i * 2]? = some (.int .i64 q.1) ∧ (flatQ L)[i * 2 + 1]? = some (.int .i64 q.2)
  | [], i, q, h => by simp at h
  | a :: L, 0, q, h => by
    simp only [List.getElem?_cons_zero, Option.some.injEq] at h
    subst h
    exact ⟨rfl, rfl⟩
  | a :: L, i + 1, q, h => by
    rw [List.getElem?_cons_succ] at h
    obtain ⟨h0, h1⟩ := flatQ_get h
    rw [flatQ_cons, show (i + 1) * 2 = i * 2 + 2 by omega]
    exact ⟨h0, h1⟩
theorem flatQ_set : ∀ (L : List Thing) (i : Nat) (x : Thing), ((flatQ L).set (i * 2) (.int .i64 x.1)).set (i * 2 + 1) (.int .i64 x.2) = flatQ (L.set i x)
  | [], i, x => rfl
  | a :: L, 0, x => rfl
  | a :: L, i + 1, x => by
    rw [List.set_cons_succ, flatQ_cons, flatQ_cons, show (i + 1) * 2 = i * 2 + 1 + 1 by omega, ← flatQ_set L i x]
    rfl
theorem flatQ_take : ∀ (L : List Thing) (n : Nat), (flatQ L).take (n * 2) = flatQ (L.take n)
  | [], n => by simp [flatQ]
  | a :: L, 0 => rfl
  | a :: L, n + 1 => by
    rw [List.take_succ_cons, flatQ_cons, flatQ_cons, show (n + 1) * 2 = n * 2 + 1 + 1 by omega, List.take_succ_cons, List.take_succ_cons, flatQ_take L n]
/-- A queue: its box, and the row that it owns. -/
structure QAt (w : World) (H b : Nat) (v : Value) (L : List Thing) : Prop where
  box : Lies w b 44 #[v]
  row : w.ownsRow H 48 2 v L.length (flatQ L)
  few : L.length ≤ 1000
  low : H ≤ b
/-- The blocks that are a queue's own. -/
def QS (b : Nat) (v : Value) (k : Nat) : Prop := k = b ∨ v.ownBlock = some k
theorem QAt.keep {w w' : World} {H b : Nat} {v : Value} {L : List Thing} (h : QAt w H b v L) {S : Nat → Prop} (k : Keep S w w') (hs : ∀ i, QS b v i → ¬ S i) : QAt w' H b v L :=
  ⟨h.box.keep k (hs _ (.inl rfl)), own_keep h.row (fun g hg => k.block g (own_lt h.row hg).1 (hs g (.inr hg))), h.few, h.low⟩
theorem QAt.below {w w' : World} {H b : Nat} {v : Value} {L : List Thing} (h : QAt w H b v L) (k : Below w.heap.size w w') : QAt w' H b v L := h.keep (S := fun _ => False) (Keep.of_below k) (fun _ _ e => e)
theorem QAt.lt {w : World} {H b : Nat} {v : Value} {L : List Thing} (h : QAt w H b v L) {i : Nat} (hi : QS b v i) : i < w.heap.size ∧ H ≤ i := by
  rcases hi with rfl | hi
  · exact ⟨h.box.lt, h.low⟩
  · exact own_lt h.row hi
theorem q_form {w : World} {H : Nat} {e : TypeId} {z : Nat} {v : Value} {n : Nat} {xs : List Value} (h : w.ownsRow H e z v n xs) : ∃ ad cap, v = .slice ad n cap ∧ n ≤ cap := by
  rcases h.2 with ⟨rfl, h0⟩ | ⟨g, cap, cur, rfl, _, _, h1, _⟩
  · exact ⟨none, 0, by rw [h0], by omega⟩
  · exact ⟨_, _, rfl, h1⟩
/-- What a queue with something in it looks like. -/
theorem QAt.form {w : World} {H b : Nat} {v : Value} {L : List Thing} (h : QAt w H b v L) (h0 : 0 < L.length) : ∃ g cap, v = .slice (some ⟨g, 0, none⟩) L.length cap ∧ L.length ≤ cap ∧ H ≤ g ∧ g < w.heap.size ∧ g ≠ b := by
  obtain ⟨g, cap, rfl, h1, h2⟩ := h.row.form h0
  obtain ⟨_, _, e, hc⟩ := q_form h.row
  cases e
  refine ⟨g, cap, rfl, hc, h1, h2, fun e => ?_⟩
  subst e
  exact own_ne h.row h.box (by decide) rfl
theorem QAt.cells {w : World} {H b g n cap : Nat} {L : List Thing} (h : QAt w H b (.slice (some ⟨g, 0, none⟩) n cap) L) {k : Nat} (hk : k < L.length) : w.cell? ⟨g, k * 2, none⟩ = some (.int .i64 (at_ L k).1) ∧ w.cell? ⟨g, k * 2 + 1, none⟩ = some (.int .i64 (at_ L k).2) := by
  obtain ⟨_, _, e, hc⟩ := q_form h.row
  cases e
  obtain ⟨h1, h2⟩ := flatQ_get (at_get hk)
  exact ⟨own_cell h.row h1, own_cell h.row h2⟩
/-- How a method of the interface is found: the receiver is the row itself, out of its box; or the box. -/
theorem finds_val (fu : Nat) {T E : TypeId} {f : Nat} {name : String} (hT : Try.prog.underlying T = some (.pointer E)) (hE : (Try.prog.underlying E).map (fun d => match d with | .struct _ | .array _ _ => true | _ => false) = some false)
    (hm : ((Try.prog.info? T).bind fun i => i.methods.find? (·.name == name)).map (fun m => (m.path.toList, m.path.isEmpty, m.func)) = some ([], true, some (f, false)))
    (w : World) (a : Addr) (v : Value) (h : w.cell? a = some v) : (method (fu + 1) T (.pointer (some a)) name).run Try.prog w = .ok (f, v) w := by
  cases hi : Try.prog.info? T with
  | none => rw [hi] at hm; cases hm
  | some i =>
    rw [hi, Option.bind_some] at hm
    cases hf : i.methods.find? (·.name == name) with
    | none => rw [hf] at hm; cases hm
    | some m =>
      rw [hf, Option.map_some, Option.some.injEq, Prod.mk.injEq, Prod.mk.injEq] at hm
      obtain ⟨h1, h2, h3⟩ := hm
      cases hd : Try.prog.underlying E with
      | none => rw [hd] at hE; cases hE
      | some d =>
        rw [hd, Option.map_some, Option.some.injEq] at hE
        have hagg : (isAgg E).run Try.prog w = .ok false w := by
          unfold isAgg
          rw [Sem.run_bind, run_underlying hd w]
          cases d <;> simp_all
        have hl : (load a).run Try.prog w = .ok v w := by
          rw [run_load, h]
        have hn : ∀ n : String, (Builtin.ssaWrapNilChk_ #[T] T #[.pointer (some a), strVal "", strVal n]).run Try.prog w = .ok (.pointer (some a)) w := fun _ => rfl
        unfold method
        simp only [typeInfo, run_program, Sem.run_bind, Sem.run_pure, Result.andThen_ok, hi, hf, h1, h2, h3, follow, receiverAt, run_underlying hT, Place.get, hn, asAddr, loadVar, hagg, hl, if_true]
        simp [hl]
theorem finds_ptr (fu : Nat) {T E : TypeId} {f : Nat} {name : String} (hT : Try.prog.underlying T = some (.pointer E))
    (hm : ((Try.prog.info? T).bind fun i => i.methods.find? (·.name == name)).map (fun m => (m.path.toList, m.func)) = some ([], some (f, true)))
    (w : World) (v : Value) : (method (fu + 1) T v name).run Try.prog w = .ok (f, v) w := by
  cases hi : Try.prog.info? T with
  | none => rw [hi] at hm; cases hm
  | some i =>
    rw [hi, Option.bind_some] at hm
    cases hf : i.methods.find? (·.name == name) with
    | none => rw [hf] at hm; cases hm
    | some m =>
      rw [hf, Option.map_some, Option.some.injEq, Prod.mk.injEq] at hm
      obtain ⟨h1, h3⟩ := hm
      unfold method
      simp only [typeInfo, run_program, Sem.run_bind, Sem.run_pure, Result.andThen_ok, hi, hf, h1, h3, follow, receiverAt, run_underlying hT, Place.get]
theorem finds_Len (w : World) (a : Addr) (v : Value) (h : w.cell? a = some v) : (method 177 46 (.pointer (some a)) "Len").run Try.prog w = .ok (40, v) w := finds_val _ Try.underlying46 (by kernel_rfl) (by kernel_rfl) w a v h
theorem finds_Less (w : World) (a : Addr) (v : Value) (h : w.cell? a = some v) : (method 177 46 (.pointer (some a)) "Less").run Try.prog w = .ok (41, v) w := finds_val _ Try.underlying46 (by kernel_rfl) (by kernel_rfl) w a v h
theorem finds_Swap (w : World) (a : Addr) (v : Value) (h : w.cell? a = some v) : (method 177 46 (.pointer (some a)) "Swap").run Try.prog w = .ok (42, v) w := finds_val _ Try.underlying46 (by kernel_rfl) (by kernel_rfl) w a v h
theorem finds_Push (w : World) (v : Value) : (method 177 46 v "Push").run Try.prog w = .ok (47, v) w := finds_ptr _ Try.underlying46 (by kernel_rfl) w v
theorem finds_Pop (w : World) (v : Value) : (method 177 46 v "Pop").run Try.prog w = .ok (46, v) w := finds_ptr _ Try.underlying46 (by kernel_rfl) w v
end Go.Proofs.Ytjibkhljihnhiaa
