/-
  Several texts in one: each opens with its own word.
-/
import Derived.Test.YtpipjkbgbhefcaaGreatPartY
import Derived.Test.YtpipjkbgbhefcaaGreatQPlain
import Derived.Deep.QuietTactic
import Derived.BigQuiet
import Derived.RegionTactic
import Derived.Deep.RegionHeld3
import Derived.Deep.AppendLies
import Derived.Deep.RegionLaw
import Derived.Shelf.Abstract
/-
  What is due, in memory: the queue's box, its row; how the interface's methods are found; the row's order.
-/
set_option linter.unusedSimpArgs false
set_option linter.unusedVariables false
namespace Go.Proofs.YtpipjkbgbhefcaaGreat
open Go.RowKit
set_option maxRecDepth 100000
open Qp
def flatQ (L : List Thing) : List Value := L.flatMap fun x => [.int .i64 x.1, .int .i64 x.2]
theorem flatQ_cons (x : Thing) (L : List Thing) : flatQ (x :: L) = .int .i64 x.1 :: .int .i64 x.2 :: flatQ L := rfl
theorem flatQ_app (L M : List Thing) : flatQ (L ++ M) = flatQ L ++ flatQ M := by unfold flatQ; exact List.flatMap_append
theorem flatQ_len (L : List Thing) : (flatQ L).length = L.length * 2 := by
  induction L with
  | nil => rfl
  | cons q L ih => rw [flatQ_cons]; simp only [List.length_cons, ih]; omega
theorem flatQ_get : ∀ {L : List Thing} {i : Nat} {q : Thing}, L[i]? = some q → (flatQ L)[i * 2]? = some (.int .i64 q.1) ∧ (flatQ L)[i * 2 + 1]? = some (.int .i64 q.2)
  | [], i, q, h => by simp at h
  | a :: L, 0, q, h => by
    simp only [List.getElem?_cons_zero, Option.some.injEq] at h
    subst h
    exact ⟨rfl, rfl⟩
  | a :: L, i + 1, q, h => by
    rw [List.getElem?_cons_succ] at h
    obtain ⟨h0, h1⟩ := flatQ_get h
    rw [flatQ_cons, show (i + 1) * 2 = i * 2 + 2 by omega]
    exact ⟨h0, h1⟩
theorem flatQ_set : ∀ (L : List Thing) (i : Nat) (x : Thing), ((flatQ L).set (i * 2) (.int .i64 x.1)).set (i * 2 + 1) (.int .i64 x.2) = flatQ (L.set i x)
  | [], i, x => rfl
  | a :: L, 0, x => rfl
  | a :: L, i + 1, x => by
    rw [List.set_cons_succ, flatQ_cons, flatQ_cons, show (i + 1) * 2 = i * 2 + 1 + 1 by omega, ← flatQ_set L i x]
    rfl
theorem flatQ_take : ∀ (L : List Thing) (n : Nat), (flatQ L).take (n * 2) = flatQ (L.take n)
  | [], n => by simp [flatQ]
  | a :: L, 0 => rfl
  | a :: L, n + 1 => by
    rw [List.take_succ_cons, flatQ_cons, flatQ_cons, show (n + 1) * 2 = n * 2 + 1 + 1 by omega, List.take_succ_cons, List.take_succ_cons, flatQ_take L n]
/-- A queue: its box, and the row that it owns. -/
structure QAt (w : World) (H b : Nat) (v : Value) (L : List Thing) : Prop where
  box : Lies w b 85 #[v]
  row : w.ownsRow H 118 2 v L.length (flatQ L)
  few : L.length ≤ 1000
  low : H ≤ b
/-- The blocks that are a queue's own. -/
def QS (b : Nat) (v : Value) (k : Nat) : Prop := k = b ∨ v.ownBlock = some k
theorem QAt.keep {w w' : World} {H b : Nat} {v : Value} {L : List Thing} (h : QAt w H b v L) {S : Nat → Prop} (k : Keep S w w') (hs : ∀ i, QS b v i → ¬ S i) : QAt w' H b v L :=
  ⟨h.box.keep k (hs _ (.inl rfl)), own_keep h.row (fun g hg => k.block g (own_lt h.row hg).1 (hs g (.inr hg))), h.few, h.low⟩
theorem QAt.below {w w' : World} {H b : Nat} {v : Value} {L : List Thing} (h : QAt w H b v L) (k : Below w.heap.size w w') : QAt w' H b v L := h.keep (S := fun _ => False) (Keep.of_below k) (fun _ _ e => e)
theorem QAt.lt {w : World} {H b : Nat} {v : Value} {L : List Thing} (h : QAt w H b v L) {i : Nat} (hi : QS b v i) : i < w.heap.size ∧ H ≤ i := by
  rcases hi with rfl | hi
  · exact ⟨h.box.lt, h.low⟩
  · exact own_lt h.row hi
theorem q_form {w : World} {H : Nat} {e : TypeId} {z : Nat} {v : Value} {n : Nat} {xs : List Value} (h : w.ownsRow H e z v n xs) : ∃ ad cap, v = .slice ad n cap ∧ n ≤ cap := by
  rcases h.2 with ⟨rfl, h0⟩ | ⟨g, cap, cur, rfl, _, _, h1, _⟩
  · exact ⟨none, 0, by rw [h0], by omega⟩
  · exact ⟨_, _, rfl, h1⟩
/-- What a queue with something in it looks like. -/
theorem QAt.form {w : World} {H b : Nat} {v : Value} {L : List Thing} (h : QAt w H b v L) (h0 : 0 < L.length) : ∃ g cap, v = .slice (some ⟨g, 0, none⟩) L.length cap ∧ L.length ≤ cap ∧ H ≤ g ∧ g < w.heap.size ∧ g ≠ b := by
  obtain ⟨g, cap, rfl, h1, h2⟩ := h.row.form h0
  obtain ⟨_, _, e, hc⟩ := q_form h.row
  cases e
  refine ⟨g, cap, rfl, hc, h1, h2, fun e => ?_⟩
  subst e
  exact own_ne h.row h.box (by decide) rfl
theorem QAt.cells {w : World} {H b g n cap : Nat} {L : List Thing} (h : QAt w H b (.slice (some ⟨g, 0, none⟩) n cap) L) {k : Nat} (hk : k < L.length) : w.cell? ⟨g, k * 2, none⟩ = some (.int .i64 (at_ L k).1) ∧ w.cell? ⟨g, k * 2 + 1, none⟩ = some (.int .i64 (at_ L k).2) := by
  obtain ⟨_, _, e, hc⟩ := q_form h.row
  cases e
  obtain ⟨h1, h2⟩ := flatQ_get (at_get hk)
  exact ⟨own_cell h.row h1, own_cell h.row h2⟩
/-- How a method of the interface is found: the receiver is the row itself, out of its box; or the box. -/
theorem finds_val (fu : Nat) {T E : TypeId} {f : Nat} {name : String} (hT : Tryz.prog.underlying T = some (.pointer E)) (hE : (Tryz.prog.underlying E).map (fun d => match d with | .struct _ | .array _ _ => true | _ => false) = some false)
    (hm : ((Tryz.prog.info? T).bind fun i => i.methods.find? (·.name == name)).map (fun m => (m.path.toList, m.path.isEmpty, m.func)) = some ([], true, some (f, false)))
    (w : World) (a : Addr) (v : Value) (h : w.cell? a = some v) : (method (fu + 1) T (.pointer (some a)) name).run Tryz.prog w = .ok (f, v) w := by
  cases hi : Tryz.prog.info? T with
  | none => rw [hi] at hm; cases hm
  | some i =>
    rw [hi, Option.bind_some] at hm
    cases hf : i.methods.find? (·.name == name) with
    | none => rw [hf] at hm; cases hm
    | some m =>
      rw [hf, Option.map_some, Option.some.injEq, Prod.mk.injEq, Prod.mk.injEq] at hm
      obtain ⟨h1, h2, h3⟩ := hm
      cases hd : Tryz.prog.underlying E with
      | none => rw [hd] at hE; cases hE
      | some d =>
        rw [hd, Option.map_some, Option.some.injEq] at hE
        have hagg : (isAgg E).run Tryz.prog w = .ok false w := by
          unfold isAgg
          rw [Sem.run_bind, run_underlying hd w]
          cases d <;> simp_all
        have hl : (load a).run Tryz.prog w = .ok v w := by
          rw [run_load, h]
        have hn : ∀ n : String, (Builtin.ssaWrapNilChk_ #[T] T #[.pointer (some a), strVal "", strVal n]).run Tryz.prog w = .ok (.pointer (some a)) w := fun _ => rfl
        unfold method
        simp only [typeInfo, run_program, Sem.run_bind, Sem.run_pure, Result.andThen_ok, hi, hf, h1, h2, h3, follow, receiverAt, run_underlying hT, Place.get, hn, asAddr, loadVar, hagg, hl, if_true]
        simp [hl]
theorem finds_ptr (fu : Nat) {T E : TypeId} {f : Nat} {name : String} (hT : Tryz.prog.underlying T = some (.pointer E))
    (hm : ((Tryz.prog.info? T).bind fun i => i.methods.find? (·.name == name)).map (fun m => (m.path.toList, m.func)) = some ([], some (f, true)))
    (w : World) (v : Value) : (method (fu + 1) T v name).run Tryz.prog w = .ok (f, v) w := by
  cases hi : Tryz.prog.info? T with
  | none => rw [hi] at hm; cases hm
  | some i =>
    rw [hi, Option.bind_some] at hm
    cases hf : i.methods.find? (·.name == name) with
    | none => rw [hf] at hm; cases hm
    | some m =>
      rw [hf, Option.map_some, Option.some.injEq, Prod.mk.injEq] at hm
      obtain ⟨h1, h3⟩ := hm
      unfold method
      simp only [typeInfo, run_program, Sem.run_bind, Sem.run_pure, Result.andThen_ok, hi, hf, h1, h3, follow, receiverAt, run_underlying hT, Place.get]
theorem finds_Len (w : World) (a : Addr) (v : Value) (h : w.cell? a = some v) : (method 264 120 (.pointer (some a)) "Len").run Tryz.prog w = .ok (146, v) w := finds_val _ Tryz.underlying120 (by kernel_rfl) (by kernel_rfl) w a v h
theorem finds_Less (w : World) (a : Addr) (v : Value) (h : w.cell? a = some v) : (method 264 120 (.pointer (some a)) "Less").run Tryz.prog w = .ok (147, v) w := finds_val _ Tryz.underlying120 (by kernel_rfl) (by kernel_rfl) w a v h
theorem finds_Swap (w : World) (a : Addr) (v : Value) (h : w.cell? a = some v) : (method 264 120 (.pointer (some a)) "Swap").run Tryz.prog w = .ok (148, v) w := finds_val _ Tryz.underlying120 (by kernel_rfl) (by kernel_rfl) w a v h
theorem finds_Push (w : World) (v : Value) : (method 264 120 v "Push").run Tryz.prog w = .ok (153, v) w := finds_ptr _ Tryz.underlying120 (by kernel_rfl) w v
theorem finds_Pop (w : World) (v : Value) : (method 264 120 v "Pop").run Tryz.prog w = .ok (152, v) w := finds_ptr _ Tryz.underlying120 (by kernel_rfl) w v
end Go.Proofs.YtpipjkbgbhefcaaGreat
/-
  The row's own order, length, and two that change places.
-/
set_option linter.unusedSimpArgs false
set_option linter.unusedVariables false
namespace Go.Proofs.YtpipjkbgbhefcaaGreat
open Go.RowKit
set_option maxRecDepth 100000
open Qp
theorem qret_i {k : IntKind} {a v : Int} (h : a = v) : Ending.returned (.int k a) = .returned (.int k v) := by rw [h]
theorem qret_b {a v : Bool} (h : a = v) : Ending.returned (.bool a) = .returned (.bool v) := by rw [h]
theorem qcell {w w' : World} (hb : Below w.heap.size w w') (a : Addr) (c : Value) (h : w.cell? a = some c) : w'.cell? a = some c := by
  rw [hb.cell (cell_lt h)]
  exact h
theorem qdrewN {B : Nat} {a w : World} (h : Below B a w) (n : Nat) : Below B a (w.drewN n) := h.trans ⟨rfl, rfl, rfl, Nat.le_refl _, fun _ _ => rfl⟩
theorem qfrom {w v w' : World} (h : Below w.heap.size w v) (k : Below v.heap.size v w') : Below w.heap.size w w' := h.trans (k.mono h.size)
theorem isNaNQ (x : Int) (w : World) :
    Calls Tryz.prog 151 #[.int .i64 x] w fun e w' => e = .returned (.bool false) ∧ w' = w := by
  go_enter Tryz.func151, Tryz.ntmps151
  go_wp2_with fail
  go_ret
  exact ⟨qret_b (by simp), rfl⟩
theorem cmpQ (x y : Int) (w : World) :
    Calls Tryz.prog 150 #[.int .i64 x, .int .i64 y] w fun e w' => e = .returned (.int .i64 (cz x y)) ∧ w' = w := by
  go_enter Tryz.func150, Tryz.ntmps150
  go_wp2_with (go_at_call 151; refine (isNaNQ _ _).mono ?_; rintro e w' ⟨rfl, rfl⟩)
  all_goals go_ret
  all_goals refine ⟨qret_i ?_, rfl⟩
  all_goals unfold cz
  · rw [if_pos (by assumption)]
  · rw [if_neg (by omega), if_pos (by omega)]
  · rw [if_neg (by omega), if_neg (by omega)]
theorem cmpQB (x y : Int) (w : World) :
    Calls Tryz.prog 150 #[.int .i64 x, .int .i64 y] w fun e w' => e = .returned (.int .i64 (cz x y)) ∧ Below w.heap.size w w' := (cmpQ x y w).mono fun _ _ ⟨h1, h2⟩ => ⟨h1, by rw [h2]; exact Below.refl _ _⟩
def or2q (x y : Int) : Int := if x ≠ 0 then x else y
theorem orQ (x y : Int) (b : Nat) (w : World) (h0 : w.cell? ⟨b, 0, none⟩ = some (.int .i64 x)) (h1 : w.cell? ⟨b, 1, none⟩ = some (.int .i64 y)) :
    Calls Tryz.prog 149 #[.slice (some ⟨b, 0, none⟩) 2 2] w fun e w' => e = .returned (.int .i64 (or2q x y)) ∧ w' = w := by
  go_enter Tryz.func149, Tryz.ntmps149
  go_wp2_with fail
  go_loop [8] (fun i => ∃ k : Nat, k ≤ 2 ∧ i = .int .i64 k ∧ (k = 1 → x = 0) ∧ (k = 2 → x = 0 ∧ y = 0)) (fun i => 2 - (intOf i).toNat)
  case atStart => exact ⟨0, by omega, rfl, by omega, by omega⟩
  case round =>
    obtain ⟨k, hk, rfl, hx, hy⟩ := hrel
    rcases (show k = 0 ∨ k = 1 ∨ k = 2 by omega) with rfl | rfl | rfl
    · by_cases e : x = 0
      · subst e
        go_wp2_with fail
        go_round
        case rel => exact ⟨1, by omega, by go_num, by simp, by simp⟩
        case measure => simp [intOf]
      · have e1 : (x != 0) = true := bne_iff_ne.2 e
        go_wp2_with fail
        go_ret
        exact ⟨qret_i (by unfold or2q; rw [if_pos e]), rfl⟩
    · obtain rfl := hx rfl
      by_cases e : y = 0
      · subst e
        go_wp2_with fail
        go_round
        case rel => exact ⟨2, by omega, by go_num, by simp, by simp⟩
        case measure => simp [intOf]
      · have e1 : (y != 0) = true := bne_iff_ne.2 e
        go_wp2_with fail
        go_ret
        exact ⟨qret_i (by unfold or2q; rw [if_neg (by omega)]), rfl⟩
    · obtain ⟨rfl, rfl⟩ := hy rfl
      go_wp2_with fail
      go_ret
      exact ⟨qret_i (by unfold or2q; rw [if_neg (by omega)]), rfl⟩
theorem orQB (x y : Int) (w : World) :
    Calls Tryz.prog 149 #[.slice (some ⟨w.heap.size, 0, none⟩) 2 2] (w.alloc (.cells #[.int .i64 x, .int .i64 y] 3)) fun e w' => e = .returned (.int .i64 (or2q x y)) ∧ Below w.heap.size w w' := by
  have LN := Lies.new w 3 #[.int .i64 x, .int .i64 y]
  exact (orQ x y w.heap.size _ (LN.cell 0) (LN.cell 1)).mono fun e w' ⟨h1, h2⟩ => ⟨h1, by rw [h2]; exact (Below.refl _ w).alloc (Nat.le_refl _) _⟩
theorem lenQ (ad : Option Addr) (n cap : Nat) (w : World) :
    Calls Tryz.prog 146 #[.slice ad n cap] w fun e w' => e = .returned (.int .i64 n) ∧ w' = w := by
  go_enter Tryz.func146, Tryz.ntmps146
  go_wp2_with fail
  go_ret
  exact ⟨rfl, rfl⟩
set_option maxHeartbeats 4000000 in
theorem lessQ (w : World) (g n cap : Nat) (a b : Thing) (i j : Nat) (hi : i < n) (hj : j < n) (hn : n ≤ 1000)
    (a0 : w.cell? ⟨g, i * 2, none⟩ = some (.int .i64 a.1)) (a1 : w.cell? ⟨g, i * 2 + 1, none⟩ = some (.int .i64 a.2)) (b0 : w.cell? ⟨g, j * 2, none⟩ = some (.int .i64 b.1)) (b1 : w.cell? ⟨g, j * 2 + 1, none⟩ = some (.int .i64 b.2)) :
    Calls Tryz.prog 147 #[.slice (some ⟨g, 0, none⟩) n cap, .int .i64 i, .int .i64 j] w fun e w' => e = .returned (.bool (lt a b)) ∧ Below w.heap.size w w' := by
  obtain ⟨x1, x2⟩ := a
  obtain ⟨y1, y2⟩ := b
  simp only at a0 a1 b0 b1
  go_enter Tryz.func147, Tryz.ntmps147
  go_wp2_with fail
  go_region_held3 (fun w' => w'.cell? ⟨g, i * 2, none⟩ = some (.int .i64 x1) ∧ w'.cell? ⟨g, i * 2 + 1, none⟩ = some (.int .i64 x2) ∧ w'.cell? ⟨g, j * 2, none⟩ = some (.int .i64 y1) ∧ w'.cell? ⟨g, j * 2 + 1, none⟩ = some (.int .i64 y2)) (go_keep) (first
    | (go_at_call_of 150 (Value.int .i64 x1); refine (cmpQB x1 y1 _).mono ?_; rintro e w1 ⟨rfl, c1⟩; have bV1 : Below w.heap.size w w1 := qfrom (qdrewN (Below.refl _ w) 1) c1; have z1_0 := qcell bV1 _ _ a0; have z1_1 := qcell bV1 _ _ a1; have z1_2 := qcell bV1 _ _ b0; have z1_3 := qcell bV1 _ _ b1)
    | (go_at_call_of 150 (Value.int .i64 x2); refine (cmpQB x2 y2 _).mono ?_; rintro e w2 ⟨rfl, c2⟩; have bV2 : Below w.heap.size w w2 := qfrom bV1 c2; have z2_0 := qcell bV2 _ _ a0; have z2_1 := qcell bV2 _ _ a1; have z2_2 := qcell bV2 _ _ b0; have z2_3 := qcell bV2 _ _ b1)
    | (go_at_call 149; refine (orQB _ _ _).mono ?_; rintro e w3 ⟨rfl, c3⟩; have bV3 : Below w.heap.size w w3 := qfrom bV2 c3; have z3_0 := qcell bV3 _ _ a0; have z3_1 := qcell bV3 _ _ a1; have z3_2 := qcell bV3 _ _ b0; have z3_3 := qcell bV3 _ _ b1))
  go_wp2_with fail
  go_ret
  exact ⟨qret_b (by rw [lt_cz]; rfl), bV3⟩
end Go.Proofs.YtpipjkbgbhefcaaGreat
/-
  Two of a row change places.
-/
set_option linter.unusedSimpArgs false
set_option linter.unusedVariables false
namespace Go.Proofs.YtpipjkbgbhefcaaGreat
open Go.RowKit
set_option maxRecDepth 100000
open Qp
theorem keepg (w : World) (g a : Nat) (x : Value) : Keep (fun k => k = g) w (w.setCell ⟨g, a, none⟩ x) := Keep.set w ⟨g, a, none⟩ x rfl
theorem keepd (S : Nat → Prop) (w : World) : Keep S w w.drew := ⟨rfl, rfl, rfl, Nat.le_refl _, fun _ _ _ => rfl⟩
theorem keep4 (w : World) (g a b c d : Nat) (x y z u : Value) : Keep (fun k => k = g) w ((((w.setCell ⟨g, a, none⟩ x).setCell ⟨g, b, none⟩ y).setCell ⟨g, c, none⟩ z).setCell ⟨g, d, none⟩ u).drew :=
  ((((keepg w g a x).trans (keepg _ g b y)).trans (keepg _ g c z)).trans (keepg _ g d u)).trans (keepd _ _)
set_option maxHeartbeats 4000000 in
theorem swapQ (w : World) (H g n cap : Nat) (L : List Thing) (h : w.ownsRow H 118 2 (.slice (some ⟨g, 0, none⟩) n cap) n (flatQ L)) (hL : n = L.length) (i j : Nat) (hi : i < n) (hj : j < n) (hn : n ≤ 1000) :
    Calls Tryz.prog 148 #[.slice (some ⟨g, 0, none⟩) n cap, .int .i64 i, .int .i64 j] w fun e w' => e = .returned (.tuple #[]) ∧ Keep (fun k => k = g) w w' ∧ w'.ownsRow H 118 2 (.slice (some ⟨g, 0, none⟩) n cap) n (flatQ (swp L i j)) := by
  obtain ⟨p0, p1⟩ := flatQ_get (at_get (L := L) (k := i) (by omega))
  obtain ⟨q0, q1⟩ := flatQ_get (at_get (L := L) (k := j) (by omega))
  have a0 := own_cell h p0
  have a1 := own_cell h p1
  have b0 := own_cell h q0
  have b1 := own_cell h q1
  have f := fun k => own_free h k
  have h1 := own_set (own_set (own_set (own_set h (i * 2) (.int .i64 (at_ L j).1)) (i * 2 + 1) (.int .i64 (at_ L j).2)) (j * 2) (.int .i64 (at_ L i).1)) (j * 2 + 1) (.int .i64 (at_ L i).2)
  rw [flatQ_set, flatQ_set, ← swp] at h1
  have HH := hideT h1
  have KK := hideT (keep4 w g (i * 2) (i * 2 + 1) (j * 2) (j * 2 + 1) (.int .i64 (at_ L j).1) (.int .i64 (at_ L j).2) (.int .i64 (at_ L i).1) (.int .i64 (at_ L i).2))
  clear h1 p0 p1 q0 q1 hL h
  generalize at_ L i = a at *
  generalize at_ L j = b at *
  obtain ⟨x1, x2⟩ := a
  obtain ⟨y1, y2⟩ := b
  simp only at a0 a1 b0 b1
  obtain ⟨v1, k1⟩ := cell?_setCell_some (w := w) (p := ⟨g, i * 2, none⟩) (x := .int .i64 y1) (q := ⟨g, j * 2, none⟩) b0
  obtain ⟨v2, k2⟩ := cell?_setCell_some (w := w) (p := ⟨g, i * 2 + 1, none⟩) (x := .int .i64 y2) (q := ⟨g, j * 2 + 1, none⟩) b1
  obtain ⟨v3, k3⟩ := cell?_setCell_some (w := w.setCell ⟨g, i * 2, none⟩ (.int .i64 y1)) (p := ⟨g, i * 2 + 1, none⟩) (x := .int .i64 y2) (q := ⟨g, j * 2, none⟩) k1
  obtain ⟨v5, k5⟩ := cell?_setCell_some (w := w) (p := ⟨g, i * 2, none⟩) (x := .int .i64 y1) (q := ⟨g, j * 2 + 1, none⟩) b1
  obtain ⟨v4, k4⟩ := cell?_setCell_some (w := w.setCell ⟨g, i * 2, none⟩ (.int .i64 y1)) (p := ⟨g, i * 2 + 1, none⟩) (x := .int .i64 y2) (q := ⟨g, j * 2 + 1, none⟩) k5
  obtain ⟨v6, k6⟩ := cell?_setCell_some (w := (w.setCell ⟨g, i * 2, none⟩ (.int .i64 y1)).setCell ⟨g, i * 2 + 1, none⟩ (.int .i64 y2)) (p := ⟨g, j * 2, none⟩) (x := .int .i64 x1) (q := ⟨g, j * 2 + 1, none⟩) k4
  go_enter Tryz.func148, Tryz.ntmps148
  go_wp2
  go_region
  all_goals (try go_wp2)
  all_goals go_end0
  all_goals exact ⟨rfl, KK.out, HH.out.drew⟩
end Go.Proofs.YtpipjkbgbhefcaaGreat
/-
  The row's own Push: one more behind the others.
-/
set_option linter.unusedSimpArgs false
set_option linter.unusedVariables false
namespace Go.Proofs.YtpipjkbgbhefcaaGreat
open Go.RowKit
set_option maxRecDepth 100000
open Qp
theorem infoQ : (Tryz.prog.info? 118).map (fun i => (i.zero, i.size, i.bytes)) = some (some (.agg #[.int .i64 0, .int .i64 0]), 2, 16) := by kernel_rfl
theorem QAt.pushed {w W w3 : World} {H b g cap2 : Nat} {v : Value} {L : List Thing} (h : QAt w H b v L) (hb : Below w.heap.size w W) (hg : W.grownBy w3 v.ownBlock) (hat : v.ownBlock = some g ∨ w.heap.size ≤ g) (x : Thing)
    (hown : w3.ownsRow H 118 2 (.slice (some ⟨g, 0, none⟩) (L.length + 1) cap2) (L.length + 1) (flatQ L ++ [.int .i64 x.1, .int .i64 x.2])) (hl : L.length < 1000) :
    (w3.cell? ⟨b, 0, none⟩ = some v ∧ w3.frozen? ⟨b, 0, none⟩ = false) ∧ QAt (w3.setCell ⟨b, 0, none⟩ (.slice (some ⟨g, 0, none⟩) (L.length + 1) cap2)) H b (.slice (some ⟨g, 0, none⟩) (L.length + 1) cap2) (L ++ [x]) ∧
      Keep (QS b v) w (w3.setCell ⟨b, 0, none⟩ (.slice (some ⟨g, 0, none⟩) (L.length + 1) cap2)) ∧ Grew w v (.slice (some ⟨g, 0, none⟩) (L.length + 1) cap2) := by
  have K1 : Keep (QS b v) w w3 := (Keep.of_below hb).on (Keep.grown hg) (fun i _ e => .inr e)
  have B3 : Lies w3 b 85 #[v] := by
    have hbW := h.box.below hb
    exact hbW.keep (Keep.grown hg) (own_ne h.row h.box (by decide))
  have hgb : g ≠ b := fun e => by
    subst e
    exact own_ne hown B3 (by decide) rfl
  refine ⟨⟨B3.cell 0, B3.free 0⟩, ⟨B3.set 0 _, ?_, by rw [List.length_append, List.length_singleton]; omega, h.low⟩, K1.trans (Keep.set _ _ _ (.inl rfl)), ?_⟩
  · rw [List.length_append, List.length_singleton, flatQ_app]
    exact own_keep hown (fun k hk => Below.heap_setCell _ _ _ _ (fun e => hgb (by
      have : g = k := Option.some.inj hk
      rw [this]; exact e)))
  · rcases hat with e | e
    · exact .inl e.symm
    · exact .inr ⟨g, rfl, e⟩
theorem assertQ (x1 x2 : Int) (w : World) : (Instr.typeAssert (.iface 118 (.agg #[.int .i64 x1, .int .i64 x2])) 20 118 false).run Tryz.prog w = .ok (.agg #[.int .i64 x1, .int .i64 x2]) w := by kernel_rfl
set_option maxHeartbeats 4000000 in
theorem tpushQ (w : World) (H b : Nat) (ad : Option Addr) (cap : Nat) (L : List Thing) (x : Thing) (h : QAt w H b (.slice ad L.length cap) L) (hH : H ≤ w.heap.size) (hl : L.length < 1000) :
    Calls Tryz.prog 153 #[.pointer (some ⟨b, 0, none⟩), .iface 118 (.agg #[.int .i64 x.1, .int .i64 x.2])] w fun e w' => e = .returned (.tuple #[]) ∧ ∃ v', QAt w' H b v' (L ++ [x]) ∧ Keep (QS b (.slice ad L.length cap)) w w' ∧ Grew w (.slice ad L.length cap) v' := by
  obtain ⟨i0, hi0, hz0, hz1, hz2⟩ := info_parts infoQ
  have HQ := hideT h
  have q0 : w.cell? ⟨b, 0, none⟩ = some (.slice ad L.length cap) := h.box.cell 0
  have hbl := h.box.lt
  clear h
  obtain ⟨x1, x2⟩ := x
  have hT := assertQ x1 x2
  go_enter Tryz.func153, Tryz.ntmps153
  go_wp2_with fail
  go_region_law ((refine step_append_lies _ (by rfl) _ _ _ (by rfl) H 118 i0 _ 2 16 Tryz.underlying83 hi0 hz0 hz1 hz2 rfl (by omega) (.slice ad L.length cap) L.length (flatQ L) (by rfl) ((HQ.out.row.alloc _).drew) ⟨w.heap.size, 0, none⟩ 1 1 [.int .i64 x1, .int .i64 x2] (by rfl) (by rfl) (World.news_of_block (cs := #[.int .i64 x1, .int .i64 x2]) (t := 118) (fr := (0, 0)) (heap_alloc_new w _)) (by simp [Value.oneCell']) (by omega) (by unfold maxLen; omega) (by omega) (by first | (simp; done) | (simp; omega)) (w.heap.size + 1) (by simp) ?_; intro g cap2 w3 hown hgrow hat hlt; obtain ⟨⟨g1, g2⟩, PM⟩ := HQ.out.pushed (((Below.refl _ w).alloc (Nat.le_refl _) _).drew) hgrow (hat.imp id (fun e => (by omega))) (x1, x2) hown hl))
  all_goals (try go_wp2)
  all_goals go_end0
  all_goals exact ⟨rfl, _, PM⟩
end Go.Proofs.YtpipjkbgbhefcaaGreat
/-
  The row's own Pop: the last one is taken off.
-/
set_option linter.unusedSimpArgs false
set_option linter.unusedVariables false
namespace Go.Proofs.YtpipjkbgbhefcaaGreat
open Go.RowKit
set_option maxRecDepth 100000
open Qp
theorem qshrink {w : World} {H g n cap : Nat} {L : List Thing} (h : w.ownsRow H 118 2 (.slice (some ⟨g, 0, none⟩) (n + 1) cap) (n + 1) (flatQ L)) : w.ownsRow H 118 2 (.slice (some ⟨g, 0, none⟩) n cap) n (flatQ (L.take n)) := by
  obtain ⟨cap', cur, hv, h1, h2, h3, h5, h6, h4⟩ := own_heap h rfl
  cases hv
  have hlen : L.length = n + 1 := by
    have := congrArg List.length h4
    rw [flatQ_len, List.length_take, Array.length_toList] at this
    have h8 : (n + 1) * 2 ≤ cap * 2 := by omega
    omega
  refine ⟨by rw [flatQ_len, List.length_take]; omega, .inr ⟨g, cap, cur, rfl, h1, h2, by omega, h5, h6, ?_⟩⟩
  rw [← flatQ_take, ← h4, List.take_take, Nat.min_eq_left (by omega)]
set_option maxHeartbeats 4000000 in
theorem tpopQ (w : World) (H b g n cap : Nat) (L : List Thing) (h : QAt w H b (.slice (some ⟨g, 0, none⟩) (n + 1) cap) L) (hL : L.length = n + 1) :
    Calls Tryz.prog 152 #[.pointer (some ⟨b, 0, none⟩)] w fun e w' => e = .returned (.iface 118 (.agg #[.int .i64 (at_ L n).1, .int .i64 (at_ L n).2])) ∧ QAt w' H b (.slice (some ⟨g, 0, none⟩) n cap) (L.take n) ∧ Keep (fun k => k = b) w w' := by
  have hf := h.few
  have hc : n + 1 ≤ cap := by
    obtain ⟨_, _, e, hc⟩ := q_form h.row
    injection e with e1 e2 e3
    omega
  have q0 : w.cell? ⟨b, 0, none⟩ = some (.slice (some ⟨g, 0, none⟩) (n + 1) cap) := h.box.cell 0
  have f0 : w.frozen? ⟨b, 0, none⟩ = false := h.box.free 0
  have hbl := h.box.lt
  obtain ⟨c0, c1⟩ := h.cells (k := n) (by omega)
  have hgl := (own_lt h.row rfl).1
  have hgb : g ≠ b := fun e => by
    subst e
    exact own_ne h.row h.box (by decide) rfl
  have hr : w.ownsRow H 118 2 (.slice (some ⟨g, 0, none⟩) (n + 1) cap) (n + 1) (flatQ L) := by
    have := h.row
    rw [hL] at this
    exact this
  have hq := qshrink hr
  have Q1 : QAt (w.setCell ⟨b, 0, none⟩ (.slice (some ⟨g, 0, none⟩) n cap)) H b (.slice (some ⟨g, 0, none⟩) n cap) (L.take n) :=
    ⟨h.box.set 0 _, by
      rw [show (L.take n).length = n by rw [List.length_take]; omega]
      exact own_keep hq (fun k hk => Below.heap_setCell _ _ _ _ (fun e => hgb (by
        have : g = k := Option.some.inj hk
        rw [this]; exact e))), by rw [List.length_take]; omega, h.low⟩
  have HQ := hideT Q1
  rw [hL] at hf
  clear hr hq Q1
  clear h hL
  go_enter Tryz.func152, Tryz.ntmps152
  go_wp2_with fail
  go_ret
  exact ⟨rfl, HQ.out.below ((Below.refl _ _).alloc (Nat.le_refl _) _), (keepg w b 0 _).trans (Keep.of_below ((Below.refl _ _).alloc (Nat.le_refl _) _))⟩
end Go.Proofs.YtpipjkbgbhefcaaGreat
/-
  heap.up, heap.down: the library's own text, over the queue's row.
-/
set_option linter.unusedSimpArgs false
set_option linter.unusedVariables false
namespace Go.Proofs.YtpipjkbgbhefcaaGreat
open Go.RowKit
set_option maxRecDepth 100000
open Qp
/-- The world while the heap is put right: the same row, the things in another order; nothing else has turned. -/
structure QGo (w0 w : World) (H b g n cap : Nat) (L0 L : List Thing) : Prop where
  q : QAt w H b (.slice (some ⟨g, 0, none⟩) n cap) L
  keep : Keep (fun k => k = g) w0 w
  len : L.length = n
  perm : L.Perm L0
theorem QGo.row {w0 w : World} {H b g n cap : Nat} {L0 L : List Thing} (h : QGo w0 w H b g n cap L0 L) : w.ownsRow H 118 2 (.slice (some ⟨g, 0, none⟩) n cap) n (flatQ L) := by
  have := h.q.row
  rw [h.len] at this
  exact this
theorem QGo.ne {w0 w : World} {H b g n cap : Nat} {L0 L : List Thing} (h : QGo w0 w H b g n cap L0 L) : g ≠ b := fun e => by
  subst e
  exact own_ne h.q.row h.q.box (by decide) rfl
theorem QGo.swp {w0 w w' : World} {H b g n cap : Nat} {L0 L : List Thing} (h : QGo w0 w H b g n cap L0 L) {i j : Nat} (hi : i < n) (hj : j < n) (k : Keep (fun k => k = g) w w') (hr : w'.ownsRow H 118 2 (.slice (some ⟨g, 0, none⟩) n cap) n (flatQ (swp L i j))) : QGo w0 w' H b g n cap L0 (Qp.swp L i j) :=
  ⟨⟨h.q.box.keep k (fun e => h.ne e.symm), by rw [swp_len, h.len]; exact hr, by rw [swp_len]; exact h.q.few, h.q.low⟩, h.keep.trans k, by rw [swp_len]; exact h.len, (swp_perm (by rw [h.len]; exact hi) (by rw [h.len]; exact hj)).trans h.perm⟩
theorem QGo.below {w0 w w' : World} {H b g n cap : Nat} {L0 L : List Thing} (h : QGo w0 w H b g n cap L0 L) (hb : Below w.heap.size w w') : QGo w0 w' H b g n cap L0 L := ⟨h.q.below hb, h.keep.trans (Keep.of_below hb), h.len, h.perm⟩
theorem QGo.less {w0 w : World} {H b g n cap : Nat} {L0 L : List Thing} (h : QGo w0 w H b g n cap L0 L) (i j : Nat) (hi : i < n) (hj : j < n) (hn : n ≤ 1000) :
    Calls Tryz.prog 147 #[.slice (some ⟨g, 0, none⟩) n cap, .int .i64 i, .int .i64 j] w fun e w' => e = .returned (.bool (lt (at_ L i) (at_ L j))) ∧ QGo w0 w' H b g n cap L0 L := by
  obtain ⟨a0, a1⟩ := h.q.cells (k := i) (by rw [h.len]; exact hi)
  obtain ⟨b0, b1⟩ := h.q.cells (k := j) (by rw [h.len]; exact hj)
  exact (lessQ w g n cap (at_ L i) (at_ L j) i j hi hj hn a0 a1 b0 b1).mono fun e w' ⟨h1, h2⟩ => ⟨h1, h.below h2⟩
theorem QGo.swap {w0 w : World} {H b g n cap : Nat} {L0 L : List Thing} (h : QGo w0 w H b g n cap L0 L) (i j : Nat) (hi : i < n) (hj : j < n) (hn : n ≤ 1000) :
    Calls Tryz.prog 148 #[.slice (some ⟨g, 0, none⟩) n cap, .int .i64 i, .int .i64 j] w fun e w' => e = .returned (.tuple #[]) ∧ QGo w0 w' H b g n cap L0 (Qp.swp L i j) :=
  (swapQ w H g n cap L h.row h.len.symm i j hi hj hn).mono fun e w' ⟨h1, h2, h3⟩ => ⟨h1, h.swp hi hj h2 h3⟩
theorem QGo.box {w0 w : World} {H b g n cap : Nat} {L0 L : List Thing} (h : QGo w0 w H b g n cap L0 L) : w.cell? ⟨b, 0, none⟩ = some (.slice (some ⟨g, 0, none⟩) n cap) := h.q.box.cell 0
set_option maxHeartbeats 4000000 in
theorem upQ (w : World) (H b g n cap : Nat) (L : List Thing) (j : Nat) (h : QAt w H b (.slice (some ⟨g, 0, none⟩) n cap) L) (hL : L.length = n) (hj : j < n) (hn : n ≤ 1000) (hu : Up L j) :
    Calls Tryz.prog 127 #[.iface 120 (.pointer (some ⟨b, 0, none⟩)), .int .i64 j] w fun e w' => e = .returned (.tuple #[]) ∧ ∃ L', QGo w w' H b g n cap L L' ∧ HeapN L' L'.length := by
  have eL := enters_of Tryz.func147 (by kernel_rfl) rfl
  have eS := enters_of Tryz.func148 (by kernel_rfl) rfl
  have HG : Hid (QGo w w H b g n cap L L) := ⟨h, Keep.refl _ _, hL, List.Perm.refl _⟩
  have HU := hideT hu
  clear h hL hu
  go_enter Tryz.func127, Tryz.ntmps127
  go_wp2_with fail
  go_loopw [1] (fun s wr => ∃ (k : Nat) (M : List Thing), s = .int .i64 k ∧ k < n ∧ Hid (QGo w wr H b g n cap L M) ∧ Hid (Up M k)) (fun s _ => (intOf s).toNat)
  case atStart => exact ⟨j, L, rfl, hj, HG, HU⟩
  case round =>
    obtain ⟨k, M, rfl, hk, HM, HV⟩ := hrel
    rcases Nat.eq_zero_or_pos k with h0 | h0
    · subst h0
      go_wp2_with fail
      go_end0
      exact ⟨rfl, M, HM.out, up_top HV.out⟩
    · obtain ⟨i, hi⟩ : ∃ i, (k - 1) / 2 = i := ⟨_, rfl⟩
      have hik : i < n := by omega
      have ht : ((k : Int) - 1) / 2 = (i : Int) := by omega
      have hne : (((k : Int) - 1) / 2 == (k : Int)) = false := by simp; omega
      have hlk : 0 < (k : Int) := by omega
      have hl := HM.out.less k i hk hik hn
      have mL := finds_Less wr ⟨b, 0, none⟩ _ HM.out.box
      have HI := hideT hi
      have hs : ∀ w1, QGo w w1 H b g n cap L M → Calls Tryz.prog 148 #[.slice (some ⟨g, 0, none⟩) n cap, .int .i64 (((k : Int) - 1) / 2), .int .i64 k] w1 fun e w' => e = .returned (.tuple #[]) ∧ QGo w w' H b g n cap L (Qp.swp M i k) := fun w1 G => by
        rw [ht]
        exact G.swap i k hik hk hn
      rw [← ht] at hl
      have HT2 := hideT ht
      have HS := hideT hs
      clear hi ht hs
      cases hv : lt (at_ M k) (at_ M i) with
      | true =>
        rw [hv] at hl
        have HT := hideT hv
        clear hv
        go_wp2_with (first | (go_at_call 147; refine hl.mono ?_; rintro e w1 ⟨rfl, G1⟩; have mS := finds_Swap w1 ⟨b, 0, none⟩ _ G1.box) | (go_at_call 148; refine (HS.out _ G1).mono ?_; rintro e w2 ⟨rfl, G2⟩))
        go_roundw
        case rel => exact ⟨i, Qp.swp M i k, by rw [HT2.out], hik, G2, by
          have h1 := HT.out
          rw [← HI.out] at h1 ⊢
          exact up_step HV.out h0 (by have := HM.out.len; omega) h1⟩
        case measure =>
          have := HI.out
          simp [intOf]
          omega
      | false =>
        rw [hv] at hl
        have HT := hideT hv
        clear hv
        go_wp2_with (first | (go_at_call 147; refine hl.mono ?_; rintro e w1 ⟨rfl, G1⟩))
        go_end0
        exact ⟨rfl, M, G1, up_stop HV.out (by rw [HI.out]; exact HT.out)⟩
end Go.Proofs.YtpipjkbgbhefcaaGreat
/-
  heap.down: the library's own text, over the queue's row.
-/
set_option linter.unusedSimpArgs false
set_option linter.unusedVariables false
namespace Go.Proofs.YtpipjkbgbhefcaaGreat
open Go.RowKit
set_option maxRecDepth 100000
open Qp
theorem QGo.lessI {w0 w : World} {H b g n cap : Nat} {L0 L : List Thing} (h : QGo w0 w H b g n cap L0 L) (i j : Nat) (x y : Int) (v : Bool) (hv : lt (at_ L i) (at_ L j) = v) (hx : x = i) (hy : y = j) (hi : i < n) (hj : j < n) (hn : n ≤ 1000) :
    Calls Tryz.prog 147 #[.slice (some ⟨g, 0, none⟩) n cap, .int .i64 x, .int .i64 y] w fun e w' => e = .returned (.bool v) ∧ QGo w0 w' H b g n cap L0 L := by
  subst hx hy hv
  exact h.less i j hi hj hn
theorem QGo.swapI {w0 w : World} {H b g n cap : Nat} {L0 L : List Thing} (h : QGo w0 w H b g n cap L0 L) (i j : Nat) (x y : Int) (hx : x = i) (hy : y = j) (hi : i < n) (hj : j < n) (hn : n ≤ 1000) :
    Calls Tryz.prog 148 #[.slice (some ⟨g, 0, none⟩) n cap, .int .i64 x, .int .i64 y] w fun e w' => e = .returned (.tuple #[]) ∧ QGo w0 w' H b g n cap L0 (Qp.swp L i j) := by
  subst hx hy
  exact h.swap i j hi hj hn
set_option maxHeartbeats 4000000 in
theorem downQ (w : World) (H b g n cap : Nat) (L0 L : List Thing) (m : Nat) (w0 : World) (h : QGo w0 w H b g n cap L0 L) (hm : m ≤ n) (hn : n ≤ 1000) (hu : Down L m 0) :
    Calls Tryz.prog 117 #[.iface 120 (.pointer (some ⟨b, 0, none⟩)), .int .i64 0, .int .i64 m] w fun e w' => (∃ v, e = .returned (.bool v)) ∧ ∃ L', QGo w0 w' H b g n cap L0 L' ∧ HeapN L' m ∧ (m < n → at_ L' m = at_ L m) := by
  have eL := enters_of Tryz.func147 (by kernel_rfl) rfl
  have eS := enters_of Tryz.func148 (by kernel_rfl) rfl
  have HG : Hid (QGo w0 w H b g n cap L0 L) := h
  have HU := hideT hu
  clear h hu
  go_enter Tryz.func117, Tryz.ntmps117
  go_wp2_with fail
  go_loopw [7] (fun s wr => ∃ (k : Nat) (M : List Thing), s = .int .i64 k ∧ k ≤ n ∧ Hid (QGo w0 wr H b g n cap L0 M) ∧ Hid (Down M m k) ∧ Hid (m < n → at_ M m = at_ L m)) (fun s _ => n - (intOf s).toNat)
  case atStart => exact ⟨0, L, rfl, by omega, HG, HU, fun _ => rfl⟩
  case round =>
    obtain ⟨k, M, rfl, hk, HM, HV, HE⟩ := hrel
    have fin : (∀ q, 0 < q → q < m → (q - 1) / 2 = k → lt (at_ M q) (at_ M k) = false) → ∀ w1, QGo w0 w1 H b g n cap L0 M → ∃ L', QGo w0 w1 H b g n cap L0 L' ∧ HeapN L' m ∧ (m < n → at_ L' m = at_ L m) := fun hq w1 G => ⟨M, G, down_stop HV.out hq, HE.out⟩
    have FIN := hideT fin
    have mL := finds_Less wr ⟨b, 0, none⟩ _ HM.out.box
    clear fin
    by_cases h1 : m ≤ 2 * k + 1
    · have h1z : (m : Int) ≤ 2 * (k : Int) + 1 := by omega
      go_wp2_with fail
      go_ret
      exact ⟨⟨_, rfl⟩, FIN.out (fun q q0 q1 q2 => by omega) _ HM.out⟩
    · have h1z : ¬ ((m : Int) ≤ 2 * (k : Int) + 1) := by omega
      have nxt : ∀ j, (j - 1) / 2 = k → 0 < j → j < m → (∀ q, 0 < q → q < m → (q - 1) / 2 = k → lt (at_ M q) (at_ M j) = false) → lt (at_ M j) (at_ M k) = true → ∀ w1, QGo w0 w1 H b g n cap L0 (Qp.swp M k j) →
          Hid (QGo w0 w1 H b g n cap L0 (Qp.swp M k j)) ∧ Hid (Down (Qp.swp M k j) m j) ∧ Hid (m < n → at_ (Qp.swp M k j) m = at_ L m) := fun j hj j0 jm hl hlt w1 G =>
        ⟨G, down_step HV.out (by have := HM.out.len; omega) jm j0 hj hl hlt, fun hmn => by
          have := HM.out.len
          rw [at_swp (by omega) (by omega), if_neg (by omega), if_neg (by omega)]
          exact HE.out hmn⟩
      have NXT := hideT nxt
      clear nxt
      by_cases h2 : 2 * k + 2 < m
      · have h2z : 2 * (k : Int) + 1 + 1 < (m : Int) := by omega
        cases hv : lt (at_ M (2 * k + 2)) (at_ M (2 * k + 1)) with
        | true =>
          cases hg : lt (at_ M (2 * k + 2)) (at_ M k) with
          | true =>
            have T1 := hideT hv
            have T2 := hideT hg
            clear hv hg
            go_wp2_with (first
              | (go_at_call 147; refine (HM.out.lessI (2 * k + 2) (2 * k + 1) _ _ true T1.out (by omega) (by omega) (by omega) (by omega) hn).mono ?_; rintro e w1 ⟨rfl, G1⟩; have mL1 := finds_Less w1 ⟨b, 0, none⟩ _ G1.box)
              | (go_at_call 147; refine (G1.lessI (2 * k + 2) k _ _ true T2.out (by omega) (by omega) (by omega) (by omega) hn).mono ?_; rintro e w2 ⟨rfl, G2⟩; have mS := finds_Swap w2 ⟨b, 0, none⟩ _ G2.box)
              | (go_at_call 148; refine (G2.swapI k (2 * k + 2) _ _ (by omega) (by omega) (by omega) (by omega) hn).mono ?_; rintro e w3 ⟨rfl, G3⟩))
            go_roundw
            case rel => exact ⟨2 * k + 2, _, by go_num, by omega, NXT.out (2 * k + 2) (by omega) (by omega) (by omega) (fun q q0 q1 q2 => by
              have := T1.out
              rcases (show q = 2 * k + 1 ∨ q = 2 * k + 2 by omega) with e | e
              · subst e; rw [lt_iff] at this; rw [lt_no]; omega
              · subst e; rw [lt_no]; omega) T2.out _ G3⟩
            case measure => simp [intOf]; omega
          | false =>
            have T1 := hideT hv
            have T2 := hideT hg
            clear hv hg
            go_wp2_with (first
              | (go_at_call 147; refine (HM.out.lessI (2 * k + 2) (2 * k + 1) _ _ true T1.out (by omega) (by omega) (by omega) (by omega) hn).mono ?_; rintro e w1 ⟨rfl, G1⟩; have mL1 := finds_Less w1 ⟨b, 0, none⟩ _ G1.box)
              | (go_at_call 147; refine (G1.lessI (2 * k + 2) k _ _ false T2.out (by omega) (by omega) (by omega) (by omega) hn).mono ?_; rintro e w2 ⟨rfl, G2⟩))
            go_ret
            exact ⟨⟨_, rfl⟩, FIN.out (fun q q0 q1 q2 => by
              have t1 := T1.out
              have t2 := T2.out
              rcases (show q = 2 * k + 1 ∨ q = 2 * k + 2 by omega) with e | e
              · subst e; rw [lt_iff] at t1; rw [lt_no] at t2 ⊢; omega
              · subst e; exact t2) _ G2⟩
        | false =>
          cases hg : lt (at_ M (2 * k + 1)) (at_ M k) with
          | true =>
            have T1 := hideT hv
            have T2 := hideT hg
            clear hv hg
            go_wp2_with (first
              | (go_at_call 147; refine (HM.out.lessI (2 * k + 2) (2 * k + 1) _ _ false T1.out (by omega) (by omega) (by omega) (by omega) hn).mono ?_; rintro e w1 ⟨rfl, G1⟩; have mL1 := finds_Less w1 ⟨b, 0, none⟩ _ G1.box)
              | (go_at_call 147; refine (G1.lessI (2 * k + 1) k _ _ true T2.out (by omega) (by omega) (by omega) (by omega) hn).mono ?_; rintro e w2 ⟨rfl, G2⟩; have mS := finds_Swap w2 ⟨b, 0, none⟩ _ G2.box)
              | (go_at_call 148; refine (G2.swapI k (2 * k + 1) _ _ (by omega) (by omega) (by omega) (by omega) hn).mono ?_; rintro e w3 ⟨rfl, G3⟩))
            go_roundw
            case rel => exact ⟨2 * k + 1, _, by go_num, by omega, NXT.out (2 * k + 1) (by omega) (by omega) (by omega) (fun q q0 q1 q2 => by
              have := T1.out
              rcases (show q = 2 * k + 1 ∨ q = 2 * k + 2 by omega) with e | e
              · subst e; rw [lt_no]; omega
              · subst e; exact this) T2.out _ G3⟩
            case measure => simp [intOf]; omega
          | false =>
            have T1 := hideT hv
            have T2 := hideT hg
            clear hv hg
            go_wp2_with (first
              | (go_at_call 147; refine (HM.out.lessI (2 * k + 2) (2 * k + 1) _ _ false T1.out (by omega) (by omega) (by omega) (by omega) hn).mono ?_; rintro e w1 ⟨rfl, G1⟩; have mL1 := finds_Less w1 ⟨b, 0, none⟩ _ G1.box)
              | (go_at_call 147; refine (G1.lessI (2 * k + 1) k _ _ false T2.out (by omega) (by omega) (by omega) (by omega) hn).mono ?_; rintro e w2 ⟨rfl, G2⟩))
            go_ret
            exact ⟨⟨_, rfl⟩, FIN.out (fun q q0 q1 q2 => by
              have t1 := T1.out
              have t2 := T2.out
              rcases (show q = 2 * k + 1 ∨ q = 2 * k + 2 by omega) with e | e
              · subst e; exact t2
              · subst e; rw [lt_no] at t1 t2 ⊢; omega) _ G2⟩
      · have h2z : ¬ (2 * (k : Int) + 1 + 1 < (m : Int)) := by omega
        cases hg : lt (at_ M (2 * k + 1)) (at_ M k) with
        | true =>
          have T2 := hideT hg
          clear hg
          go_wp2_with (first
            | (go_at_call 147; refine (HM.out.lessI (2 * k + 1) k _ _ true T2.out (by omega) (by omega) (by omega) (by omega) hn).mono ?_; rintro e w2 ⟨rfl, G2⟩; have mS := finds_Swap w2 ⟨b, 0, none⟩ _ G2.box)
            | (go_at_call 148; refine (G2.swapI k (2 * k + 1) _ _ (by omega) (by omega) (by omega) (by omega) hn).mono ?_; rintro e w3 ⟨rfl, G3⟩))
          go_roundw
          case rel => exact ⟨2 * k + 1, _, by go_num, by omega, NXT.out (2 * k + 1) (by omega) (by omega) (by omega) (fun q q0 q1 q2 => by
            have e : q = 2 * k + 1 := by omega
            subst e; rw [lt_no]; omega) T2.out _ G3⟩
          case measure => simp [intOf]; omega
        | false =>
          have T2 := hideT hg
          clear hg
          go_wp2_with (first
            | (go_at_call 147; refine (HM.out.lessI (2 * k + 1) k _ _ false T2.out (by omega) (by omega) (by omega) (by omega) hn).mono ?_; rintro e w2 ⟨rfl, G2⟩))
          go_ret
          exact ⟨⟨_, rfl⟩, FIN.out (fun q q0 q1 q2 => by
            have e : q = 2 * k + 1 := by omega
            subst e; exact T2.out) _ G2⟩
end Go.Proofs.YtpipjkbgbhefcaaGreat
/-
  heap.Push, heap.Pop: the library's own text, over the queue's row.
-/
set_option linter.unusedSimpArgs false
set_option linter.unusedVariables false
namespace Go.Proofs.YtpipjkbgbhefcaaGreat
open Go.RowKit
set_option maxRecDepth 100000
open Qp
/-- A queue whose row is a heap. -/
structure QH (w : World) (H b : Nat) (v : Value) (L : List Thing) : Prop where
  q : QAt w H b v L
  heap : HeapN L L.length
theorem QH.keep {w w' : World} {H b : Nat} {v : Value} {L : List Thing} (h : QH w H b v L) {S : Nat → Prop} (k : Keep S w w') (hs : ∀ i, QS b v i → ¬ S i) : QH w' H b v L := ⟨h.q.keep k hs, h.heap⟩
theorem QH.below {w w' : World} {H b : Nat} {v : Value} {L : List Thing} (h : QH w H b v L) (k : Below w.heap.size w w') : QH w' H b v L := ⟨h.q.below k, h.heap⟩
/-- What a call leaves that has turned the queue alone. -/
structure QTo (w w' : World) (H b : Nat) (v v' : Value) (L' : List Thing) : Prop where
  h : QH w' H b v' L'
  keep : Keep (QS b v) w w'
  grew : Grew w v v'
theorem QTo.refl {w : World} {H b : Nat} {v : Value} {L : List Thing} (h : QH w H b v L) : QTo w w H b v v L := ⟨h, Keep.refl _ _, Grew.refl _ _⟩
theorem QTo.trans {w w1 w2 : World} {H b : Nat} {v v1 v2 : Value} {L1 L2 : List Thing} (h : QTo w w1 H b v v1 L1) (k : QTo w1 w2 H b v1 v2 L2) : QTo w w2 H b v v2 L2 :=
  ⟨k.h, h.keep.on k.keep (fun i hi e => by
    rcases e with e | e
    · exact .inl e
    · rcases h.grew with g | ⟨g, g1, g2⟩
      · exact .inr (g ▸ e)
      · rw [g1] at e
        have := Option.some.inj e
        omega), h.grew.trans h.keep.size k.grew⟩
theorem upI (w : World) (H b g n cap : Nat) (L : List Thing) (j : Nat) (x : Int) (hx : x = j) (h : QAt w H b (.slice (some ⟨g, 0, none⟩) n cap) L) (hL : L.length = n) (hj : j < n) (hn : n ≤ 1000) (hu : Up L j) :
    Calls Tryz.prog 127 #[.iface 120 (.pointer (some ⟨b, 0, none⟩)), .int .i64 x] w fun e w' => e = .returned (.tuple #[]) ∧ ∃ L', QGo w w' H b g n cap L L' ∧ HeapN L' L'.length := by
  subst hx
  exact upQ w H b g n cap L j h hL hj hn hu
theorem downI (w : World) (H b g n cap : Nat) (L0 L : List Thing) (m : Nat) (x : Int) (hx : x = m) (w0 : World) (h : QGo w0 w H b g n cap L0 L) (hm : m ≤ n) (hn : n ≤ 1000) (hu : Down L m 0) :
    Calls Tryz.prog 117 #[.iface 120 (.pointer (some ⟨b, 0, none⟩)), .int .i64 0, .int .i64 x] w fun e w' => (∃ v, e = .returned (.bool v)) ∧ ∃ L', QGo w0 w' H b g n cap L0 L' ∧ HeapN L' m ∧ (m < n → at_ L' m = at_ L m) := by
  subst hx
  exact downQ w H b g n cap L0 L m w0 h hm hn hu
set_option maxHeartbeats 4000000 in
theorem hpushQ (w : World) (H b : Nat) (v : Value) (L : List Thing) (x : Thing) (h : QH w H b v L) (hH : H ≤ w.heap.size) (hl : L.length < 1000) :
    Calls Tryz.prog 123 #[.iface 120 (.pointer (some ⟨b, 0, none⟩)), .iface 118 (.agg #[.int .i64 x.1, .int .i64 x.2])] w fun e w' => e = .returned (.tuple #[]) ∧ ∃ v' L', QTo w w' H b v v' L' ∧ L'.Perm (x :: L) := by
  have eP := enters_of Tryz.func153 (by kernel_rfl) rfl
  have eL := enters_of Tryz.func146 (by kernel_rfl) rfl
  have mP := fun w => finds_Push w (.pointer (some ⟨b, 0, none⟩))
  obtain ⟨ad, cap, rfl, hcp⟩ := q_form h.q.row
  have HQ := hideT h
  clear h
  go_enter Tryz.func123, Tryz.ntmps123
  go_wp2_with (first
    | (go_at_call 153; refine (tpushQ w H b ad cap L x HQ.out.q hH hl).mono ?_; rintro e w1 ⟨rfl, v1, q1, k1, g1⟩; obtain ⟨g, cap1, hv1, hc1, hg0, hg1, hgb⟩ := q1.form (by simp); have hlen : (L ++ [x]).length = L.length + 1 := (by simp); rw [hlen] at hv1; subst hv1; have mL := finds_Len w1 ⟨b, 0, none⟩ _ (q1.box.cell 0); have Q1 := hideT q1; have K1 := hideT k1; have G1 := hideT g1; clear q1 k1 g1 hlen)
    | (go_at_call 146; refine (lenQ _ _ _ _).mono ?_; rintro e w2 ⟨rfl, hw2⟩; obtain rfl := hw2.symm)
    | (go_at_call 127; refine (upI _ H b g (L.length + 1) cap1 (L ++ [x]) L.length _ (by omega) Q1.out (by simp) (by omega) (by omega) (up_start x HQ.out.heap)).mono ?_; rintro e w3 ⟨rfl, L', G3, hp⟩))
  go_end0
  refine ⟨rfl, _, L', ⟨⟨G3.q, hp⟩, K1.out.on G3.keep (fun i hi e => ?_), G1.out⟩, G3.perm.trans (List.perm_append_singleton x L)⟩
  subst e
  rcases G1.out with e | ⟨g', e, hg'⟩
  · exact .inr e.symm
  · have : i = g' := Option.some.inj e
    omega
set_option maxHeartbeats 4000000 in
theorem hpopQ (w : World) (H b : Nat) (v : Value) (L : List Thing) (h : QH w H b v L) (n : Nat) (hL : L.length = n + 1) :
    Calls Tryz.prog 97 #[.iface 120 (.pointer (some ⟨b, 0, none⟩))] w fun e w' => e = .returned (.iface 118 (.agg #[.int .i64 (at_ L 0).1, .int .i64 (at_ L 0).2])) ∧ ∃ v' L', QTo w w' H b v v' L' ∧ (at_ L 0 :: L').Perm L ∧ L'.length = n := by
  have eP := enters_of Tryz.func152 (by kernel_rfl) rfl
  have eL := enters_of Tryz.func146 (by kernel_rfl) rfl
  have eS := enters_of Tryz.func148 (by kernel_rfl) rfl
  have mP := fun w => finds_Pop w (.pointer (some ⟨b, 0, none⟩))
  have hf := h.q.few
  obtain ⟨g, cap, hv, hcp, hg0, hg1, hgb⟩ := h.q.form (by omega)
  rw [hL] at hv hcp hf
  subst hv
  have HQ := hideT h
  have mL := finds_Len w ⟨b, 0, none⟩ _ (h.q.box.cell 0)
  have mS := finds_Swap w ⟨b, 0, none⟩ _ (h.q.box.cell 0)
  have HG : Hid (QGo w w H b g (n + 1) cap L L) := ⟨h.q, Keep.refl _ _, hL, List.Perm.refl _⟩
  have HD := hideT (down_start (n := n) (by rw [← hL]; exact h.heap) hL)
  have HL := hideT hL
  clear h hL
  go_enter Tryz.func97, Tryz.ntmps97
  go_wp2_with (first
    | (go_at_call 146; refine (lenQ _ _ _ _).mono ?_; rintro e w2 ⟨rfl, hw2⟩; obtain rfl := hw2.symm)
    | (go_at_call 148; refine (HG.out.swapI 0 n _ _ (by omega) (by omega) (by omega) (by omega) (by omega)).mono ?_; rintro e w3 ⟨rfl, G3⟩)
    | (go_at_call 117; refine (downI _ H b g (n + 1) cap L (Qp.swp L 0 n) n _ (by omega) w G3 (by omega) (by omega) HD.out).mono ?_; rintro e w4 ⟨⟨v4, rfl⟩, L4, G4, hp4, ha4⟩; have HA := hideT ha4; clear ha4)
    | (go_at_call 152; refine (tpopQ _ H b g n cap L4 G4.q G4.len).mono ?_; rintro e w5 ⟨rfl, q5, k5⟩))
  have e0 : at_ L4 n = at_ L 0 := by
    rw [HA.out (by omega), at_swp (by rw [HL.out]; omega) (by rw [HL.out]; omega), if_pos rfl]
  go_ret
  have hlen : (L4.take n).length = n := by rw [List.length_take, G4.len]; omega
  refine ⟨by rw [← e0]; rfl, _, L4.take n, ⟨⟨q5, ?_⟩, ?_, .inl rfl⟩, ?_, hlen⟩
  · exact heap_take hp4 (by rw [G4.len]; omega)
  · exact (G4.keep.wide (fun k _ e => .inr (congrArg some e.symm))).trans (k5.wide (fun k _ e => .inl e))
  · rw [← e0]
    exact (perm_last G4.len).trans G4.perm
end Go.Proofs.YtpipjkbgbhefcaaGreat
/-
  The queue's own functions: New, Push, Peek, Pop, Len.
-/
set_option linter.unusedSimpArgs false
set_option linter.unusedVariables false
namespace Go.Proofs.YtpipjkbgbhefcaaGreat
open Go.RowKit
set_option maxRecDepth 100000
open Qp
theorem newQ (H : Nat) (w : World) (hH : H ≤ w.heap.size) :
    Calls Tryz.prog 22 #[] w fun e w' => ∃ b, e = .returned (.pointer (some ⟨b, 0, none⟩)) ∧ b = w.heap.size ∧ QH w' H b nilS [] ∧ Below w.heap.size w w' := by
  go_enter Tryz.func22, Tryz.ntmps22
  go_wp2_with fail
  go_ret
  exact ⟨_, rfl, rfl, ⟨⟨Lies.new w _ _, World.ownsRow_nil _ _ _ _, by simp, hH⟩, fun k h0 hk => by simp at hk⟩, (Below.refl _ _).alloc (Nat.le_refl _) _⟩
theorem lenQQ (w : World) (H b : Nat) (v : Value) (L : List Thing) (h : QH w H b v L) :
    Calls Tryz.prog 145 #[.pointer (some ⟨b, 0, none⟩)] w fun e w' => e = .returned (.int .i64 L.length) ∧ w' = w := by
  obtain ⟨ad, cap, rfl, hcp⟩ := q_form h.q.row
  have q0 : w.cell? ⟨b, 0, none⟩ = some (.slice ad L.length cap) := h.q.box.cell 0
  clear h
  go_enter Tryz.func145, Tryz.ntmps145
  go_wp2_with fail
  go_ret
  exact ⟨rfl, rfl⟩
set_option maxHeartbeats 4000000 in
theorem pushQ (w : World) (H b : Nat) (v : Value) (L : List Thing) (d x : Int) (h : QH w H b v L) (hH : H ≤ w.heap.size) (hl : L.length < 100) :
    Calls Tryz.prog 112 #[.pointer (some ⟨b, 0, none⟩), .int .i64 d, .int .i64 x] w fun e w' => e = .returned (.bool true) ∧ ∃ v' L', QTo w w' H b v v' L' ∧ L'.Perm ((d, x) :: L) := by
  obtain ⟨ad, cap, rfl, hcp⟩ := q_form h.q.row
  have q0 : w.cell? ⟨b, 0, none⟩ = some (.slice ad L.length cap) := h.q.box.cell 0
  have HQ := hideT h
  have t1 : ((100 : Int) ≤ (L.length : Int)) = False := by simp; omega
  clear h
  go_enter Tryz.func112, Tryz.ntmps112
  go_wp2_with (go_at_call 123; refine (hpushQ w H b _ L (d, x) HQ.out hH (by omega)).mono ?_; rintro e w1 ⟨rfl, v', L', T1, P1⟩)
  go_ret
  exact ⟨rfl, v', L', T1, P1⟩
set_option maxHeartbeats 4000000 in
theorem pushFull (w : World) (H b : Nat) (v : Value) (L : List Thing) (d x : Int) (h : QH w H b v L) (hl : 100 ≤ L.length) :
    Calls Tryz.prog 112 #[.pointer (some ⟨b, 0, none⟩), .int .i64 d, .int .i64 x] w fun e w' => e = .returned (.bool false) ∧ w' = w := by
  obtain ⟨ad, cap, rfl, hcp⟩ := q_form h.q.row
  have q0 : w.cell? ⟨b, 0, none⟩ = some (.slice ad L.length cap) := h.q.box.cell 0
  have t1 : ((100 : Int) ≤ (L.length : Int)) = True := by simp; omega
  clear h
  go_enter Tryz.func112, Tryz.ntmps112
  go_wp2_with fail
  go_ret
  exact ⟨rfl, rfl⟩
set_option maxHeartbeats 4000000 in
theorem peekQ (w : World) (H b : Nat) (v : Value) (L : List Thing) (h : QH w H b v L) (h0 : 0 < L.length) :
    Calls Tryz.prog 64 #[.pointer (some ⟨b, 0, none⟩)] w fun e w' => e = .returned (.tuple #[.int .i64 (at_ L 0).1, .int .i64 (at_ L 0).2, .bool true]) ∧ Below w.heap.size w w' := by
  obtain ⟨g, cap, rfl, hcp, hg0, hg1, hgb⟩ := h.q.form h0
  have q0 : w.cell? ⟨b, 0, none⟩ = some (.slice (some ⟨g, 0, none⟩) L.length cap) := h.q.box.cell 0
  obtain ⟨c0, c1⟩ := h.q.cells (k := 0) h0
  rw [Nat.zero_mul] at c0 c1
  rw [Nat.zero_add] at c1
  have hf := h.q.few
  have hL0 : ((L.length : Int) == 0) = false := beq_eq_false_iff_ne.2 (by omega)
  have hL1 : (0 : Int) < (L.length : Int) := by omega
  generalize at_ L 0 = a at *
  obtain ⟨a1, a2⟩ := a
  simp only at c0 c1
  clear h
  go_enter Tryz.func64, Tryz.ntmps64
  go_wp2_with fail
  go_quiet (fail)
  go_wp2_with fail
  exact bodyPost_ret (v := .tuple #[.int .i64 a1, .int .i64 a2, .bool true]) (by simp [results, Tryz.results64, go_sem]) rfl ⟨rfl, qdrewN (Below.refl _ _) _⟩
theorem peekNone (w : World) (H b : Nat) (v : Value) (h : QH w H b v []) :
    Calls Tryz.prog 64 #[.pointer (some ⟨b, 0, none⟩)] w fun e w' => e = .returned (.tuple #[.int .i64 0, .int .i64 0, .bool false]) ∧ w' = w := by
  obtain ⟨ad, cap, hv, hcp⟩ := q_form h.q.row
  have hv' : v = .slice ad 0 cap := hv
  clear hv
  subst hv'
  have q0 : w.cell? ⟨b, 0, none⟩ = some (.slice ad 0 cap) := h.q.box.cell 0
  clear h
  go_enter Tryz.func64, Tryz.ntmps64
  go_wp2_with fail
  exact bodyPost_ret (v := .tuple #[.int .i64 0, .int .i64 0, .bool false]) (by simp [results, Tryz.results64, go_sem]) rfl ⟨rfl, rfl⟩
theorem popNone (w : World) (H b : Nat) (v : Value) (h : QH w H b v []) :
    Calls Tryz.prog 65 #[.pointer (some ⟨b, 0, none⟩)] w fun e w' => e = .returned (.tuple #[.int .i64 0, .int .i64 0, .bool false]) ∧ w' = w := by
  go_enter Tryz.func65, Tryz.ntmps65
  go_wp2_with (go_at_call 64; refine (peekNone w H b v h).mono ?_; rintro e w1 ⟨rfl, hw⟩; obtain rfl := hw.symm)
  exact bodyPost_ret (v := .tuple #[.int .i64 0, .int .i64 0, .bool false]) (by simp [results, Tryz.results65, go_sem]) rfl ⟨rfl, rfl⟩
set_option maxHeartbeats 4000000 in
theorem popQ (w : World) (H b : Nat) (v : Value) (L : List Thing) (h : QH w H b v L) (n : Nat) (hL : L.length = n + 1) :
    Calls Tryz.prog 65 #[.pointer (some ⟨b, 0, none⟩)] w fun e w' => e = .returned (.tuple #[.int .i64 (at_ L 0).1, .int .i64 (at_ L 0).2, .bool true]) ∧ ∃ v' L', QTo w w' H b v v' L' ∧ (at_ L 0 :: L').Perm L ∧ L'.length = n := by
  have HQ := hideT h
  have HL := hideT hL
  clear h hL
  go_enter Tryz.func65, Tryz.ntmps65
  go_wp2_with (first
    | (go_at_call 64; refine (peekQ w H b v L HQ.out (by have := HL.out; omega)).mono ?_; rintro e w1 ⟨rfl, B1⟩)
    | (go_at_call 97; refine (hpopQ w1 H b v L (HQ.out.below B1) n HL.out).mono ?_; rintro e w2 ⟨rfl, v', L', T2, P2, N2⟩))
  exact bodyPost_ret (v := .tuple #[.int .i64 (at_ L 0).1, .int .i64 (at_ L 0).2, .bool true]) (by simp [results, Tryz.results65, go_sem]) rfl ⟨rfl, v', L', ⟨T2.h, (Keep.of_below B1).trans T2.keep, (Grew.refl w v).trans B1.size T2.grew⟩, P2, N2⟩
end Go.Proofs.YtpipjkbgbhefcaaGreat
