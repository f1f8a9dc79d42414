/-
  A queue that a law itself has made.
-/
import Derived.Test.YtjibkhljihnhiaaQCopy
import Derived.Test.YtjibkhljihnhiaaQOpen
set_option linter.unusedSimpArgs false
set_option linter.unusedVariables false
namespace Go.Proofs.Ytjibkhljihnhiaa
open Go.RowKit
open Qp
structure LQ (w0 w : World) (b : Nat) (v : Value) (L : List Thing) : Prop where
  q : QH w w0.heap.size b v L
  below : Below w0.heap.size w0 w
theorem LQ.to {w0 w w' : World} {b : Nat} {v v' : Value} {L L' : List Thing} (h : LQ w0 w b v L) (t : QTo w w' w0.heap.size b v v' L') : LQ w0 w' b v' L' := ⟨t.h, h.below.trans (QTo.below h.q t (Nat.le_refl _) h.below.size)⟩
theorem LQ.on {w0 w w' : World} {b : Nat} {v : Value} {L : List Thing} (h : LQ w0 w b v L) (t : Below w.heap.size w w') : LQ w0 w' b v L := ⟨h.q.below t, h.below.trans (t.mono h.below.size)⟩
theorem newL (w : World) : Calls Try.prog 9 #[] w fun e w' => ∃ b, e = .returned (.pointer (some ⟨b, 0, none⟩)) ∧ LQ w w' b nilS [] :=
  (newQ w.heap.size w (Nat.le_refl _)).mono fun e w' ⟨b, h1, _, h2, h3⟩ => ⟨b, h1, h2, h3⟩
theorem LQ.push {w0 w : World} {b : Nat} {v : Value} {L : List Thing} (h : LQ w0 w b v L) (d x : Int) (hl : L.length < 100) :
    Calls Try.prog 10 #[.pointer (some ⟨b, 0, none⟩), .int .i64 d, .int .i64 x] w fun e w' => e = .returned (.bool true) ∧ ∃ v' L', LQ w0 w' b v' L' ∧ L'.Perm ((d, x) :: L) :=
  (pushQ w w0.heap.size b v L d x h.q h.below.size hl).mono fun e w' ⟨h1, v', L', h2, h3⟩ => ⟨h1, v', L', h.to h2, h3⟩
theorem LQ.full {w0 w : World} {b : Nat} {v : Value} {L : List Thing} (h : LQ w0 w b v L) (d x : Int) (hl : 100 ≤ L.length) :
    Calls Try.prog 10 #[.pointer (some ⟨b, 0, none⟩), .int .i64 d, .int .i64 x] w fun e w' => e = .returned (.bool false) ∧ ∃ v' L', LQ w0 w' b v' L' ∧ L'.Perm L :=
  (pushFull w w0.heap.size b v L d x h.q hl).mono fun e w' ⟨h1, h2⟩ => ⟨h1, v, L, by rw [h2]; exact h, List.Perm.refl _⟩
theorem LQ.pop {w0 w : World} {b : Nat} {v : Value} {L : List Thing} (h : LQ w0 w b v L) (n : Nat) (hL : L.length = n + 1) :
    Calls Try.prog 12 #[.pointer (some ⟨b, 0, none⟩)] w fun e w' => ∃ m : Thing, e = .returned (.tuple #[.int .i64 m.1, .int .i64 m.2, .bool true]) ∧ (m ∈ L ∧ ∀ x ∈ L, lt x m = false) ∧ ∃ v' L', LQ w0 w' b v' L' ∧ (m :: L').Perm L ∧ L'.length = n :=
  (popQ w w0.heap.size b v L h.q n hL).mono fun e w' ⟨h1, v', L', h2, h3, h4⟩ => ⟨_, h1, ⟨at_mem (by omega), fun x hx => least_mem h.q.heap hx⟩, v', L', h.to h2, h3, h4⟩
theorem LQ.popN {w0 w : World} {b : Nat} {v : Value} (h : LQ w0 w b v []) :
    Calls Try.prog 12 #[.pointer (some ⟨b, 0, none⟩)] w fun e w' => e = .returned (.tuple #[.int .i64 0, .int .i64 0, .bool false]) ∧ LQ w0 w' b v [] :=
  (popNone w w0.heap.size b v h.q).mono fun e w' ⟨h1, h2⟩ => ⟨h1, by rw [h2]; exact h⟩
theorem LQ.peek {w0 w : World} {b : Nat} {v : Value} {L : List Thing} (h : LQ w0 w b v L) (h0 : 0 < L.length) :
    Calls Try.prog 14 #[.pointer (some ⟨b, 0, none⟩)] w fun e w' => ∃ m : Thing, e = .returned (.tuple #[.int .i64 m.1, .int .i64 m.2, .bool true]) ∧ (m ∈ L ∧ ∀ x ∈ L, lt x m = false) ∧ LQ w0 w' b v L :=
  (peekQ w w0.heap.size b v L h.q h0).mono fun e w' ⟨h1, h2⟩ => ⟨_, h1, ⟨at_mem h0, fun x hx => least_mem h.q.heap hx⟩, h.on h2⟩
theorem LQ.peekN {w0 w : World} {b : Nat} {v : Value} (h : LQ w0 w b v []) :
    Calls Try.prog 14 #[.pointer (some ⟨b, 0, none⟩)] w fun e w' => e = .returned (.tuple #[.int .i64 0, .int .i64 0, .bool false]) ∧ LQ w0 w' b v [] :=
  (peekNone w w0.heap.size b v h.q).mono fun e w' ⟨h1, h2⟩ => ⟨h1, by rw [h2]; exact h⟩
theorem LQ.len {w0 w : World} {b : Nat} {v : Value} {L : List Thing} (h : LQ w0 w b v L) (k : Int) (hk : (L.length : Int) = k) :
    Calls Try.prog 17 #[.pointer (some ⟨b, 0, none⟩)] w fun e w' => e = .returned (.int .i64 k) ∧ LQ w0 w' b v L := by
  subst hk
  exact (lenQQ w w0.heap.size b v L h.q).mono fun e w' ⟨h1, h2⟩ => ⟨h1, by rw [h2]; exact h⟩
theorem LQ.known {w0 w : World} {b : Nat} {v : Value} {L : List Thing} (h : LQ w0 w b v L) :
    Calls Try.prog 18 #[] w fun e w' => e = .returned (.bool true) ∧ Below w0.heap.size w0 w' := (knownQ w).mono fun e w' ⟨h1, h2⟩ => ⟨h1, h.below.trans (h2.mono h.below.size)⟩
theorem lt_uniq {m m' : Thing} {L : List Thing} (h : m ∈ L ∧ ∀ x ∈ L, lt x m = false) (h' : m' ∈ L ∧ ∀ x ∈ L, lt x m' = false) : m = m' := lt_total (h'.2 m h.1) (h.2 m' h'.1)
end Go.Proofs.Ytjibkhljihnhiaa
