/-
  Rows of numbers, of acts, among a law's arguments, opened.
-/
import Derived.Test.YtjibkhljihnhiaaQSmall
import Derived.Deep.Slices
import Derived.Lib.SmallJoins
import Derived.SizedLaws
set_option linter.unusedSimpArgs false
set_option linter.unusedVariables false
namespace Go.Proofs.Ytjibkhljihnhiaa
open Go.RowKit
theorem qplain_of_cell {w : World} {a : Addr} {v : Value} (h : w.cell? a = some v) : a = ⟨a.block, a.off, none⟩ := by
  obtain ⟨b, o, sp⟩ := a
  cases sp with
  | none => rfl
  | some k =>
    unfold World.cell? at h
    simp at h
    split at h <;> cases h
theorem qadd_plain (b o k : Nat) : (⟨b, o, none⟩ : Addr).add k = ⟨b, o + k, none⟩ := by
  unfold Addr.add
  split
  · rename_i h
    rw [h]
    rfl
  · rfl
/-- What was read is no greater than the form lets it be. -/
def WtQ {H : Type} (t : TypeId) (d : DataW H) : Prop := ∀ n ∈ d.weights Try.prog t, n ≤ reachBytes
/-- A row of elements, each of z cells. -/
def RowQ {α : Type} (z : Nat) (E : α → List Value) (w : World) (v : Value) (l : List α) : Prop :=
  ∃ b o, (∃ ao cap, v = .slice ao l.length cap ∧ l.length ≤ cap ∧ (0 < l.length → ao = some ⟨b, o, none⟩)) ∧ ∀ (i : Nat) x, l[i]? = some x → ∀ (j : Nat) c, (E x)[j]? = some c → w.cell? ⟨b, o + i * z + j, none⟩ = some c
theorem RowQ.turn {α : Type} {z : Nat} {E : α → List Value} {w w' : World} {v : Value} {l : List α} (h : RowQ z E w v l) (hc : ∀ a c, w.cell? a = some c → w'.cell? a = some c) : RowQ z E w' v l := by
  obtain ⟨b, o, h1, h2⟩ := h
  exact ⟨b, o, h1, fun i x hx j c hj => hc _ _ (h2 i x hx j c hj)⟩
theorem RowQ.below {α : Type} {z : Nat} {E : α → List Value} {w w' : World} {v : Value} {l : List α} (h : RowQ z E w v l) (hb : Below w.heap.size w w') : RowQ z E w' v l := h.turn (qcell hb)
section Opened
variable {H : Type} {enc : TypeId × Value → H} {w : World} {base : Nat} {spare : Nat → Bool} {held : Bool}
theorem qrow_open {α : Type} (dflt : α) {z : Nat} {E : α → List Value} {P : α → Prop} {t e : TypeId} (ht : Try.prog.underlying t = some (.slice e)) (hz : Try.prog.cellsOf e = z) (hz0 : 0 < z)
    (each : ∀ (n : Nat) (cs : List Value) (x : DataW H × List MemPlace), DataW.trod enc Try.prog w base spare held n e cs = some x → ∃ y, cs = E y ∧ (E y).length = z ∧ P y)
    {fuel : Nat} {cs : List Value} {x : DataW H × List MemPlace} (h : DataW.trod enc Try.prog w base spare held fuel t cs = some x) : ∃ v l, cs = [v] ∧ RowQ z E w v l ∧ ∀ y ∈ l, P y := by
  rcases Go.Deep.open_slice ht h with ⟨rfl, rfl⟩ | ⟨a, len, cap, m, n, D, Pl, rfl, _, hlc, _, hm, rfl, hx⟩
  · exact ⟨_, [], rfl, ⟨0, 0, ⟨none, 0, rfl, Nat.le_refl _, fun h => absurd h (Nat.lt_irrefl 0)⟩, fun i x hx => by simp at hx⟩, fun y hy => by cases hy⟩
  · have hlm : len ≤ m := by rw [hm]; split <;> omega
    rw [hz] at hx
    have each' : ∀ i, i < len → ∃ y : α, (E y).length = z ∧ P y ∧ w.cells? base (a.add (i * z)) z = some (E y) := by
      intro i hi
      obtain ⟨cs', hc, htr⟩ := hx i (by omega)
      obtain ⟨y, rfl, hl, hy⟩ := each n cs' (D i, Pl i) htr
      exact ⟨y, hl, hy, hc⟩
    have : Inhabited α := ⟨dflt⟩
    obtain ⟨f, hf⟩ := Go.Deep.choose_lt each'
    have plain : 0 < len → a = ⟨a.block, a.off, none⟩ := by
      intro h0
      obtain ⟨hl, _, hc⟩ := hf 0 h0
      obtain ⟨_, _, hcell⟩ := World.cells?_some hc
      have h00 := hcell 0 hz0
      rw [Nat.zero_mul] at h00
      obtain ⟨c, hcc⟩ : ∃ c, (E (f 0))[0]? = some c := ⟨(E (f 0))[0]'(by omega), List.getElem?_eq_getElem _⟩
      rw [hcc] at h00
      have e : (a.add 0).add 0 = a := by
        obtain ⟨b, o, sp⟩ := a
        cases sp <;> simp [Addr.add]
      rw [e] at h00
      exact qplain_of_cell h00
    refine ⟨_, (List.range len).map f, rfl, ⟨a.block, a.off, ⟨some a, cap, by rw [List.length_map, List.length_range], by rw [List.length_map, List.length_range]; exact hlc, fun h0 => ?_⟩, fun i y hy j c hj => ?_⟩, fun y hy => ?_⟩
    · rw [List.length_map, List.length_range] at h0
      exact congrArg some (plain h0)
    · rw [List.getElem?_map] at hy
      cases hr : (List.range len)[i]? with
      | none => rw [hr] at hy; cases hy
      | some k =>
        rw [hr] at hy
        obtain ⟨hi, hk⟩ := List.getElem?_eq_some_iff.1 hr
        rw [List.length_range] at hi
        rw [List.getElem_range] at hk
        subst hk
        obtain rfl := Option.some.inj hy
        obtain ⟨hl, hR, hc⟩ := hf i hi
        obtain ⟨_, _, hcell⟩ := World.cells?_some hc
        have hjz : j < z := by have := (List.getElem?_eq_some_iff.1 hj).1; omega
        have := hcell j hjz
        rw [plain (by omega), qadd_plain, qadd_plain, hj] at this
        exact this
    · obtain ⟨i, hi, rfl⟩ := List.mem_map.1 hy
      exact (hf i (List.mem_range.1 hi)).2.1
def intE (x : Int) : List Value := [.int .i64 x]
def actE (x : Int × Int × Int) : List Value := [.int .i64 x.1, .int .i64 x.2.1, .int .i64 x.2.2]
/-- A number that an int holds. -/
def I64 (x : Int) : Prop := -9223372036854775808 ≤ x ∧ x ≤ 9223372036854775807
theorem qint_open (n : Nat) (cs : List Value) (x : DataW H × List MemPlace) (h : DataW.trod enc Try.prog w base spare held n 3 cs = some x) : ∃ y, cs = intE y ∧ (intE y).length = 1 ∧ I64 y := by
  obtain ⟨k, e, h1, h2⟩ := DataW.trod_int Try.underlying3 h
  refine ⟨k, e, rfl, ?_⟩
  simp [Lit.wf] at h2
  have a : IntKind.i64.min = -9223372036854775808 := by decide
  have b : IntKind.i64.max = 9223372036854775807 := by decide
  unfold I64
  omega
theorem three_listQ {α : Type} {l : List α} (h : l.length = 3) : ∃ a b c, l = [a, b, c] := by
  match l, h with
  | [a, b, c], _ => exact ⟨a, b, c, rfl⟩
theorem c1iQ : Try.prog.cellsOf 3 = 1 := by kernel_rfl
theorem qact_open (n : Nat) (cs : List Value) (x : DataW H × List MemPlace) (h : DataW.trod enc Try.prog w base spare held n 30 cs = some x) : ∃ y, cs = actE y ∧ (actE y).length = 3 ∧ (I64 y.1 ∧ I64 y.2.1 ∧ I64 y.2.2) := by
  obtain ⟨xs, n', _, rfl, hl, hlen, hf⟩ := DataW.trod_struct Try.underlying30 h
  obtain ⟨c0, c1, c2, rfl⟩ := three_listQ (hl.trans (show Try.prog.cellsOf 30 = 3 by kernel_rfl))
  obtain ⟨y0, y1, y2, rfl⟩ := three_listQ (l := xs) (hlen.trans rfl)
  have f0 : DataW.trod enc Try.prog w base spare held n' 3 (([c0, c1, c2].drop 0).take (Try.prog.cellsOf 3)) = some y0 := hf 0 _ rfl
  rw [c1iQ] at f0
  have f1 : DataW.trod enc Try.prog w base spare held n' 3 (([c0, c1, c2].drop 1).take (Try.prog.cellsOf 3)) = some y1 := hf 1 _ rfl
  rw [c1iQ] at f1
  have f2 : DataW.trod enc Try.prog w base spare held n' 3 (([c0, c1, c2].drop 2).take (Try.prog.cellsOf 3)) = some y2 := hf 2 _ rfl
  rw [c1iQ] at f2
  obtain ⟨k0, e0, _, h0⟩ := qint_open _ _ _ f0
  obtain ⟨k1, e1, _, h1⟩ := qint_open _ _ _ f1
  obtain ⟨k2, e2, _, h2⟩ := qint_open _ _ _ f2
  obtain rfl := (List.cons.inj e0).1
  obtain rfl := (List.cons.inj e1).1
  obtain rfl := (List.cons.inj e2).1
  exact ⟨(k0, k1, k2), rfl, rfl, h0, h1, h2⟩
theorem ints_open {r : Reach} {b0 : Nat} {v : Value} {d : DataW H} {p : List MemPlace} (hv : Value.okWide Try.prog w r b0 37 v) (h : DataW.Trod enc Try.prog w base spare held 37 v d p) : ∃ l, RowQ 1 intE w v l ∧ ∀ x ∈ l, I64 x := by
  obtain ⟨a0, len, cap, rfl⟩ := Go.WideShapes.okWide_slice Try.underlying37 hv
  obtain ⟨fuel, hf⟩ := h
  have hf' : DataW.trod enc Try.prog w base spare held fuel 37 [.slice a0 len cap] = some (d, p) := hf
  obtain ⟨v, l, e, h1, h2⟩ := qrow_open (0 : Int) Try.underlying37 c1iQ (by omega) qint_open hf'
  rw [(List.cons.inj e).1]
  exact ⟨l, h1, h2⟩
theorem acts_open {r : Reach} {b0 : Nat} {v : Value} {d : DataW H} {p : List MemPlace} (hv : Value.okWide Try.prog w r b0 22 v) (h : DataW.Trod enc Try.prog w base spare held 22 v d p) : ∃ l, RowQ 3 actE w v l ∧ ∀ x ∈ l, I64 x.1 ∧ I64 x.2.1 ∧ I64 x.2.2 := by
  obtain ⟨a0, len, cap, rfl⟩ := Go.WideShapes.okWide_slice Try.underlying22 hv
  obtain ⟨fuel, hf⟩ := h
  have hf' : DataW.trod enc Try.prog w base spare held fuel 22 [.slice a0 len cap] = some (d, p) := hf
  obtain ⟨v, l, e, h1, h2⟩ := qrow_open ((0 : Int), (0 : Int), (0 : Int)) Try.underlying22 (show Try.prog.cellsOf 30 = 3 by kernel_rfl) (by omega) qact_open hf'
  rw [(List.cons.inj e).1]
  exact ⟨l, h1, h2⟩
end Opened
end Go.Proofs.Ytjibkhljihnhiaa
