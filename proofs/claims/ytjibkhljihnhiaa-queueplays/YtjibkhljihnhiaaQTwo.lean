/-
  Two queues that a law itself has made: a queue and its copy.
-/
import Derived.Test.YtjibkhljihnhiaaQLaw
set_option linter.unusedSimpArgs false
set_option linter.unusedVariables false
namespace Go.Proofs.Ytjibkhljihnhiaa
open Go.RowKit
open Qp
theorem QH.mono {w : World} {H H' b : Nat} {v : Value} {L : List Thing} (h : QH w H b v L) (hh : H' ≤ H) : QH w H' b v L :=
  ⟨⟨h.q.box, ⟨h.q.row.1, h.q.row.2.imp id fun ⟨g, cap, cur, h1, h2, h3⟩ => ⟨g, cap, cur, h1, Nat.le_trans hh h2, h3⟩⟩, h.q.few, Nat.le_trans hh h.q.low⟩, h.heap⟩
structure Two (w0 w : World) (b : Nat) (v : Value) (L : List Thing) (b2 : Nat) (v2 : Value) (L2 : List Thing) : Prop where
  one : LQ w0 w b v L
  two : LQ w0 w b2 v2 L2
  apart : ∀ i, QS b v i → ¬ QS b2 v2 i
theorem Two.flip {w0 w : World} {b b2 : Nat} {v v2 : Value} {L L2 : List Thing} (h : Two w0 w b v L b2 v2 L2) : Two w0 w b2 v2 L2 b v L := ⟨h.two, h.one, fun i h1 h2 => h.apart i h2 h1⟩
theorem Two.to {w0 w w' : World} {b b2 : Nat} {v v' v2 : Value} {L L' L2 : List Thing} (h : Two w0 w b v L b2 v2 L2) (t : QTo w w' w0.heap.size b v v' L') : Two w0 w' b v' L' b2 v2 L2 := by
  have hn := h.one.to t
  refine ⟨hn, ⟨h.two.q.keep t.keep (fun i h1 h2 => h.apart i h2 h1), hn.below⟩, fun i h1 h2 => ?_⟩
  rcases h1 with rfl | h1
  · exact h.apart i (.inl rfl) h2
  · rcases t.grew with e | ⟨g, e, hg⟩
    · exact h.apart i (.inr (e ▸ h1)) h2
    · have h3 := (h.two.q.q.lt h2).1
      rw [e] at h1
      have : g = i := Option.some.inj h1
      omega
theorem Two.on {w0 w w' : World} {b b2 : Nat} {v v2 : Value} {L L2 : List Thing} (h : Two w0 w b v L b2 v2 L2) (t : Below w.heap.size w w') : Two w0 w' b v L b2 v2 L2 := ⟨h.one.on t, h.two.on t, h.apart⟩
theorem LQ.copy {w0 w : World} {b : Nat} {v : Value} {L : List Thing} (h : LQ w0 w b v L) :
    Calls Try.prog 16 #[.pointer (some ⟨b, 0, none⟩)] w fun e w' => ∃ b2 v2, e = .returned (.pointer (some ⟨b2, 0, none⟩)) ∧ Two w0 w' b v L b2 v2 L :=
  (copyQ w w0.heap.size b v L h.q).mono fun e w' ⟨b2, v2, h1, h2, h3⟩ => ⟨b2, v2, h1, h.on h3, ⟨h2.mono h.below.size, h.below.trans (h3.mono h.below.size)⟩, fun i k1 k2 => by
    have a1 := (h.q.q.lt k1).1
    have a2 := (h2.q.lt k2).2
    omega⟩
theorem Two.push {w0 w : World} {b b2 : Nat} {v v2 : Value} {L L2 : List Thing} (h : Two w0 w b v L b2 v2 L2) (d x : Int) (hl : L.length < 100) :
    Calls Try.prog 10 #[.pointer (some ⟨b, 0, none⟩), .int .i64 d, .int .i64 x] w fun e w' => e = .returned (.bool true) ∧ ∃ v' L', Two w0 w' b v' L' b2 v2 L2 ∧ L'.Perm ((d, x) :: L) :=
  (pushQ w w0.heap.size b v L d x h.one.q h.one.below.size hl).mono fun e w' ⟨h1, v', L', h2, h3⟩ => ⟨h1, v', L', h.to h2, h3⟩
theorem Two.full {w0 w : World} {b b2 : Nat} {v v2 : Value} {L L2 : List Thing} (h : Two w0 w b v L b2 v2 L2) (d x : Int) (hl : 100 ≤ L.length) :
    Calls Try.prog 10 #[.pointer (some ⟨b, 0, none⟩), .int .i64 d, .int .i64 x] w fun e w' => e = .returned (.bool false) ∧ Two w0 w' b v L b2 v2 L2 :=
  (pushFull w w0.heap.size b v L d x h.one.q hl).mono fun e w' ⟨h1, h2⟩ => ⟨h1, by rw [h2]; exact h⟩
theorem Two.pushAny {w0 w : World} {b b2 : Nat} {v v2 : Value} {L L2 : List Thing} (h : Two w0 w b v L b2 v2 L2) (d x : Int) :
    Calls Try.prog 10 #[.pointer (some ⟨b, 0, none⟩), .int .i64 d, .int .i64 x] w fun e w' => (∃ t, e = .returned (.bool t)) ∧ LQ w0 w' b2 v2 L2 := by
  by_cases hl : L.length < 100
  · exact (h.push d x hl).mono fun e w' ⟨h1, v', L', h2, _⟩ => ⟨⟨_, h1⟩, h2.two⟩
  · exact (h.full d x (by omega)).mono fun e w' ⟨h1, h2⟩ => ⟨⟨_, h1⟩, h2.two⟩
theorem Two.pop {w0 w : World} {b b2 : Nat} {v v2 : Value} {L L2 : List Thing} (h : Two w0 w b v L b2 v2 L2) (n : Nat) (hL : L.length = n + 1) :
    Calls Try.prog 12 #[.pointer (some ⟨b, 0, none⟩)] w fun e w' => ∃ m : Thing, e = .returned (.tuple #[.int .i64 m.1, .int .i64 m.2, .bool true]) ∧ ∃ v' L', Two w0 w' b v' L' b2 v2 L2 ∧ L'.length = n :=
  (popQ w w0.heap.size b v L h.one.q n hL).mono fun e w' ⟨h1, v', L', h2, h3, h4⟩ => ⟨_, h1, v', L', h.to h2, h4⟩
theorem Two.len {w0 w : World} {b b2 : Nat} {v v2 : Value} {L L2 : List Thing} (h : Two w0 w b v L b2 v2 L2) (k : Int) (hk : (L.length : Int) = k) :
    Calls Try.prog 17 #[.pointer (some ⟨b, 0, none⟩)] w fun e w' => e = .returned (.int .i64 k) ∧ Two w0 w' b v L b2 v2 L2 := by
  subst hk
  exact (lenQQ w w0.heap.size b v L h.one.q).mono fun e w' ⟨h1, h2⟩ => ⟨h1, by rw [h2]; exact h⟩
end Go.Proofs.Ytjibkhljihnhiaa
