/-
  What the laws with a model begin with.
-/
import Derived.Test.YtcfalhgcdffjoaaPartR
import Derived.Test.YtcfalhgcdffjoaaPackSumsWalk
import Derived.Test.YtcfalhgcdffjoaaMHeavy
import Derived.Test.YtcfalhgcdffjoaaPartW
set_option linter.unusedSimpArgs false
set_option linter.unusedVariables false
namespace Go.Proofs.Ytcfalhgcdffjoaa
open Go.RowKit
set_option maxRecDepth 100000
/-- A box that a call keeps. -/
structure One (w : World) (a : List Value) (wr : World) : Prop where
  below : Below w.heap.size w wr
  one : Lies wr w.heap.size 25 a.toArray
theorem One.on {w wr w' : World} {a : List Value} (h : One w a wr) (hb : Below wr.heap.size wr w') : One w a w' := ⟨h.below.trans (hb.mono h.below.size), h.one.below hb⟩
theorem One.new {w X : World} {a : List Value} (h : w.alloc (.cells a.toArray 25) = X) : One w a X := by
  obtain ⟨B, L, _⟩ := of_alloc h
  exact ⟨B, L⟩
theorem pack_small {m : Mp.Model} (h : Mp.isB m = true) : 0 < (Kp.pack m).length ∧ (Kp.pack m).length ≤ 40000 := by
  have := body_len (Kp.good_of h)
  rw [Kp.pack_len]
  omega
theorem unpack_no {l : List UInt8} (hn : Kp.unpack l = none) {w w' : World} {e : Ending} (h : UPost l w e w') : e = .returned (.tuple #[.agg #[.slice none 0 0, .slice none 0 0], .int .i64 2]) ∧ Below w.heap.size w w' := by
  obtain ⟨h1, h2⟩ := h
  rw [hn] at h2
  exact ⟨h2, h1⟩
theorem unpack_ok {l : List UInt8} {m : Mp.Model} (hn : Kp.unpack l = some m) {w w' : World} {e : Ending} (h : UPost l w e w') : (∃ af cf ai ci, e = .returned (.tuple #[.agg #[.slice af m.files.length cf, .slice ai m.items.length ci], .int .i64 0]) ∧ NewR w.heap.size (fun w => ModelAt w af cf ai ci m) w') ∧ Below w.heap.size w w' := by
  obtain ⟨h1, h2⟩ := h
  rw [hn] at h2
  exact ⟨h2, h1⟩
theorem unpackV (w : World) (ao : Option Addr) (n cap : Nat) (l : List UInt8) (hv : BRow w (.slice ao n cap) l) (hcap : cap ≤ maxLen) : Calls Try.prog 12 #[.slice ao n cap] w (UPost l w) := by
  obtain ⟨_, _, _, _, e, _⟩ := id hv
  simp only [Value.slice.injEq] at e
  obtain ⟨_, rfl, _⟩ := e
  exact unpackD w ao cap l hv hcap
theorem eqM_self (m : Mp.Model) : Mp.eqM m m = true := (Mp.eqM_iff m m).2 rfl
end Go.Proofs.Ytcfalhgcdffjoaa
