/-
  The frame that all rows of this seat share: what their lists of variables give.
-/
import Derived.Test.YtjfonpbnohbpfaaGreatDoorPartA
import Derived.Test.YtjfonpbnohbpfaaGreatDoorBWord
import Derived.Test.YtjfonpbnohbpfaaGreatDoorRows
import Derived.Deep.DeepHandedRow
import Derived.Lib.LaidU8
import Derived.Shelf.Vars
import Derived.ProofKit
set_option linter.unusedSimpArgs false
set_option linter.unusedVariables false
namespace Go.Proofs.YtjfonpbnohbpfaaGreatDoor
open Go.RowKit
theorem own : ownKnob Tryz.prog.godebug = none := by kernel_rfl
set_option maxRecDepth 100000
theorem accept_eq : Rows.laid_unicode_utf8_acceptRanges = Lib.acceptData := by kernel_rfl
theorem first_eq : Rows.laid_unicode_utf8_first = Lib.firstData := by kernel_rfl
theorem pair_of {w : World} {fuel : Nat} {cs : List Value} {l : List UInt8} {z : Int} {p : List MemPlace} (h : DataW.trod (fun _ => ()) Tryz.prog w 0 (fun _ => true) false fuel 142 cs = some (.agg [.lit (.string l), .lit (.int .i64 z)], p)) : cs[0]? = some (.string ⟨l.toArray⟩) ∧ cs[1]? = some (.int .i64 z) := by
  obtain ⟨xs, n, rfl, hx, hl, hxl, hall⟩ := DataW.trod_struct Tryz.underlying142 h
  have hxs : xs.map (·.1) = [.lit (.string l), .lit (.int .i64 z)] := by
    have := congrArg Prod.fst hx
    simpa using this.symm
  match xs, hxs with
  | [x0, x1], hxs =>
    simp only [List.map_cons, List.map_nil, List.cons.injEq, and_true] at hxs
    obtain ⟨e0, e1⟩ := hxs
    have h0 := hall 0 _ rfl
    have h1 := hall 1 _ rfl
    obtain ⟨s, hs, hx0, _⟩ := DataW.trod_string Tryz.underlying9 h0
    obtain ⟨m, hm, hx1, _⟩ := DataW.trod_int Tryz.underlying3 h1
    rw [hx0] at e0
    rw [hx1] at e1
    simp only [DataW.lit.injEq, Lit.string.injEq] at e0
    simp only [DataW.lit.injEq, Lit.int.injEq, true_and] at e1
    have c0 := congrArg (·[0]?) hs
    have c1 := congrArg (·[0]?) hm
    have w1 : Tryz.prog.cellsOf 9 = 1 := by kernel_rfl
    have w2 : Tryz.prog.cellsOf 3 = 1 := by kernel_rfl
    simp only [w1, w2, List.getElem?_take, List.getElem?_drop] at c0 c1
    constructor
    · have : s = ⟨l.toArray⟩ := by rw [← e0]
      rw [← this]
      simp at c0
      exact c0.2
    · rw [← e1]
      simp at c1
      exact c1.2
theorem kind_of_reads {w : World} (h : Lib.VarReads Tryz.prog w "sentry/bind.kindWords" Rows.laid_sentry_bind_kindWords) : KindOk w := by
  obtain ⟨g, t, cs, fuel, p, hg, hty, hvar, hd⟩ := h
  obtain rfl := Option.some.inj ((show Tryz.prog.globalNamed "sentry/bind.kindWords" = some 0 by kernel_rfl).symm.trans hg)
  obtain rfl := Option.some.inj ((show (Tryz.prog.globals[0]?).map (·.type) = some 143 by kernel_rfl).symm.trans hty)
  have key : ∀ (i : Nat) (l : List UInt8) (z : Int), i < 5 → (match (Rows.laid_sentry_bind_kindWords : DataW Unit) with | .agg ds => ds[i]? | _ => none) = some (.agg [.lit (.string l), .lit (.int .i64 z)]) → w.cell? ⟨0, 2 * i, none⟩ = some (.string ⟨l.toArray⟩) ∧ w.cell? ⟨0, 2 * i + 1, none⟩ = some (.int .i64 z) := by
    intro i l z hi hl
    obtain ⟨fuel', d, q, hdi, he⟩ := Lib.array_elem Tryz.underlying143 hd i hi
    have hdd : d = .agg [.lit (.string l), .lit (.int .i64 z)] := Option.some.inj (hdi.symm.trans hl)
    subst hdd
    have hw : Tryz.prog.cellsOf 142 = 2 := by kernel_rfl
    rw [hw] at he
    obtain ⟨c0, c1⟩ := pair_of he
    simp only [List.getElem?_take, List.getElem?_drop] at c0 c1
    constructor
    · rw [World.var?_cell hg hvar (2 * i), ← Array.getElem?_toList]
      simpa [Nat.mul_comm] using c0
    · rw [World.var?_cell hg hvar (2 * i + 1), ← Array.getElem?_toList]
      simpa [Nat.mul_comm] using c1
  have k0 := key 0 _ _ (by decide) rfl
  have k1 := key 1 _ _ (by decide) rfl
  have k2 := key 2 _ _ (by decide) rfl
  have k3 := key 3 _ _ (by decide) rfl
  have k4 := key 4 _ _ (by decide) rfl
  intro j c hc
  match j with
  | 0 => cases hc; exact k0.1
  | 1 => cases hc; exact k0.2
  | 2 => cases hc; exact k1.1
  | 3 => cases hc; exact k1.2
  | 4 => cases hc; exact k2.1
  | 5 => cases hc; exact k2.2
  | 6 => cases hc; exact k3.1
  | 7 => cases hc; exact k3.2
  | 8 => cases hc; exact k4.1
  | 9 => cases hc; exact k4.2
  | j + 10 => cases hc
abbrev laid5 : List (String × DataW Unit) := [("math/bits.deBruijn32tab", Rows.laid_math_bits_deBruijn32tab), ("math/bits.deBruijn64tab", Rows.laid_math_bits_deBruijn64tab), ("internal/strconv.uint64pow10", Rows.laid_internal_strconv_uint64pow10), ("unicode/utf8.acceptRanges", Rows.laid_unicode_utf8_acceptRanges), ("sentry/bind.kindWords", Rows.laid_sentry_bind_kindWords), ("sentry/bind.eventWords", Rows.laid_sentry_bind_eventWords), ("sentry/bind.opWords", Rows.laid_sentry_bind_opWords), ("unicode/utf8.first", Rows.laid_unicode_utf8_first)]
theorem ok_of {W : World} (h : laidMetH Tryz.prog laid5 W) (hs : W.ShapedOpen Tryz.prog) : Ok W ∧ KindOk W := by
  have hL : laidMet Tryz.prog laid5 W := h
  have h3 : Lib.VarReads Tryz.prog W "unicode/utf8.first" Lib.firstData := by rw [← first_eq]; exact Lib.laidMet.reads hL (by simp [laid5])
  have h4 : Lib.VarReads Tryz.prog W "unicode/utf8.acceptRanges" Lib.acceptData := by rw [← accept_eq]; exact Lib.laidMet.reads hL (by simp [laid5])
  refine ⟨⟨utf8Tabs_of_reads (ρ := Tryz.lays197_ren) { Tryz.lays197 with } ⟨by kernel_rfl, by kernel_rfl, by kernel_rfl, by kernel_rfl, by kernel_rfl, by kernel_rfl, by kernel_rfl⟩ h3 h4, ?_⟩, kind_of_reads (Lib.laidMet.reads hL (by simp [laid5]))⟩
  exact cell_of_shapedOpen_int (zero := #[.int .i64 0]) (t := 3) hs (of_decide_eq_true (by kernel_rfl)) (by kernel_rfl) rfl (by kernel_rfl) (by kernel_rfl) Tryz.underlying3
/-- A block of cells with these cells in it. -/
def putCells (cs : Array Value) : Obj → Obj
  | .cells _ t frozen => .cells cs t frozen
  | o => o
def firstCells : Array Value := (Lib.firstTab.map fun z => Value.int .u8 z).toArray
def acceptCells : Array Value := ((List.range 16).flatMap fun i => [Value.int .u8 (Lib.accLo i), Value.int .u8 (Lib.accHi i)]).toArray
/-- A datum's cells. -/
def litCell : DataW Unit → List Value
  | .lit (.int k z) => [.int k z]
  | .lit (.string l) => [.string ⟨l.toArray⟩]
  | _ => []
def dataCells : DataW Unit → Array Value
  | .agg ds => (ds.flatMap fun d => match d with
    | .agg es => es.flatMap litCell
    | d => litCell d).toArray
  | _ => #[]
end Go.Proofs.YtjfonpbnohbpfaaGreatDoor
