/-
  A case in memory: its box, its rows of numbers, what has happened, what is due.
-/
import Derived.Test.YtpipjkbgbhefcaaGreatPartV
import Derived.Test.YtpipjkbgbhefcaaGreatPartQ
import Derived.Test.YtpipjkbgbhefcaaGreatCPlain
import Derived.Maps.OwnSet
import Derived.Maps.Views
import Derived.DeepKeys4
set_option linter.unusedSimpArgs false
set_option linter.unusedVariables false
namespace Go.Proofs.YtpipjkbgbhefcaaGreat
open Go.RowKit Go.Maps
open Qp
set_option maxRecDepth 100000
abbrev intV (x : Int) : Value := .int .i64 x
/-! ### Rows of numbers -/
def IR (w : World) (b : Nat) (l : List Int) : Prop := Lies w b 3 (l.map intV).toArray
theorem IR.cell {w : World} {b : Nat} {l : List Int} (h : IR w b l) {i : Nat} (hi : i < l.length) : w.cell? ⟨b, i, none⟩ = some (.int .i64 (Cp.at0 l i)) := by
  rw [Lies.cell h i, List.getElem?_toArray, List.getElem?_map, Cp.at0_get hi]
  rfl
theorem IR.free {w : World} {b : Nat} {l : List Int} (h : IR w b l) (i : Nat) : w.frozen? ⟨b, i, none⟩ = false := Lies.free h i
theorem IR.set {w : World} {b : Nat} {l : List Int} (h : IR w b l) (i : Nat) (v : Int) : IR (w.setCell ⟨b, i, none⟩ (.int .i64 v)) b (l.set i v) := by
  have := Lies.set h i (.int .i64 v)
  unfold IR
  rw [List.map_set]
  rwa [List.setIfInBounds_toArray] at this
theorem infoC : (Tryz.prog.info? 3).map (fun i => (i.zero, i.size, i.bytes)) = some (some (.int .i64 0), 1, 8) := by kernel_rfl
theorem rep_made (n : Nat) : madeCells (Value.int .i64 0).cells n = ((List.replicate n (0 : Int)).map intV).toArray := by
  apply Array.ext'
  rw [show (Value.int .i64 0).cells = #[.int .i64 0] from rfl, toList_madeCells_one, List.map_replicate]
theorem madeI (w : World) (n : Nat) (hn : n ≤ 1000) : ∃ W, (Instr.makeSlice 44 (.int .i64 (n : Int)) (.int .i64 (n : Int))).run Tryz.prog w = .ok (.slice (some ⟨w.heap.size, 0, none⟩) n n) W ∧ IR W w.heap.size (List.replicate n 0) ∧ Below w.heap.size w W ∧ W.heap.size = w.heap.size + 1 := by
  obtain ⟨i0, hi0, hz0, hz1, hz2⟩ := info_parts infoC
  have hr := run_make (P := Tryz.prog) w 44 3 i0 _ Tryz.underlying44 hi0 hz0 .i64 .i64 n n (by omega) (Int.le_refl _) (by rw [hz2]; omega) (by omega)
  simp only [Int.toNat_natCast, hz1, Nat.mul_one] at hr
  refine ⟨_, hr, ?_, (Below.refl _ w).alloc (Nat.le_refl _) _, by simp⟩
  unfold IR
  rw [← rep_made]
  exact Lies.new w _ _
/-! ### What has happened -/
def unitR : Value → Option (Tr × List MemPlace)
  | .agg ⟨[]⟩ => some (.agg [], [])
  | _ => none
theorem unitR_inv {v : Value} {d : Tr} {ps : List MemPlace} (h : unitR v = some (d, ps)) : v = .agg #[] := by
  unfold unitR at h
  split at h
  · rfl
  · cases h
def OnOk (o : Mp.On) : Prop := o.1.size ≤ 140737488355328 ∧ -9223372036854775808 ≤ o.2 ∧ o.2 ≤ 9223372036854775807
abbrev onV (o : Mp.On) : Value := .agg #[.string o.1, .int .i64 o.2]
def klOn (o : Mp.On) : Lit := .string (keyBytes [.string o.1.data.toList, .int .i64 o.2])
theorem onFields : ∃ f1 f2 : Field, Tryz.prog.underlying 101 = some (.struct #[f1, f2]) ∧ f1.name ≠ "_" ∧ f2.name ≠ "_" ∧ f1.type = 9 ∧ f2.type = 3 ∧ f1.offset = 0 ∧ f2.offset = 1 := ⟨_, _, Tryz.underlying101, by decide, by decide, rfl, rfl, rfl, rfl⟩
theorem cS : Tryz.prog.cellsOf 9 = 1 := by kernel_rfl
theorem cI : Tryz.prog.cellsOf 3 = 1 := by kernel_rfl
theorem cOn : Tryz.prog.cellsOf 101 = 2 := by kernel_rfl
theorem kOn : Tryz.prog.keyType 101 = true := by kernel_rfl
theorem litsOn (d : Nat) (a : ByteArray) (k : Int) (ha : a.size ≤ maxLen) (hk : (Lit.int .i64 k).wf = true) : Tryz.prog.keyLits (d + 2) 101 [.string a, .int .i64 k] = some [.string a.data.toList, .int .i64 k] := by
  obtain ⟨f1, f2, hu, n1, n2, t1, t2, o1, o2⟩ := onFields
  unfold Program.keyLits
  simp only [hu, cOn]
  rw [if_pos ⟨rfl, by simp [n1, n2]⟩]
  have h1 : Tryz.prog.keyLits (d + 1) 9 [.string a] = some [.string a.data.toList] := by
    unfold Program.keyLits
    simp only [Tryz.underlying9]
    rw [if_pos ha]
  have h2 : Tryz.prog.keyLits (d + 1) 3 [.int .i64 k] = some [.int .i64 k] := by
    unfold Program.keyLits
    simp only [Tryz.underlying3]
    rw [if_pos ⟨trivial, hk⟩]
  simp [t1, t2, o1, o2, cS, cI, h1, h2]
theorem keyOn (o : Mp.On) (h : OnOk o) : keyOf Tryz.prog 101 (onV o) = some (klOn o) := by
  obtain ⟨f1, f2, hu, n1, n2, t1, t2, o1, o2⟩ := onFields
  have hl := litsOn (Tryz.prog.types.size - 1) o.1 o.2 (by unfold maxLen; have := h.1; omega) (WalkArith.wf_i64 (by have := h.2; omega))
  rw [show Tryz.prog.types.size - 1 + 2 = Tryz.prog.types.size + 1 by have : 1 ≤ Tryz.prog.types.size := of_decide_eq_true (by kernel_rfl); omega] at hl
  have hf : (onV o).formed Tryz.prog 101 = true := by simp [Value.formed, hu, cOn]
  unfold keyOf
  simp only [hu, kOn, hf, Bool.and_self, if_true]
  show Option.map _ (Tryz.prog.keyLits (Tryz.prog.types.size + 1) 101 [.string o.1, .int .i64 o.2]) = _
  rw [hl]
  rfl
theorem laidOutC : laidOutB Tryz.prog = true := by kernel_rfl
theorem wideOn : (match Tryz.prog.underlying 101 with | some (.array _ _) | some (.struct _) => true | _ => false) = true := by kernel_rfl
theorem keyedOn : Keyed Tryz.prog 101 := Keyed.of_law (deep_law_laid laidOutC (m := 2) (by omega) (of_decide_eq_true (by kernel_rfl)) (by kernel_rfl) wideOn)
theorem klOn_inj {o q : Mp.On} (ho : OnOk o) (hq : OnOk q) (h : klOn o = klOn q) : o = q := by
  have h1 := keyOn o ho
  have h2 := keyOn q hq
  rw [← h] at h2
  have := keyedOn.inj h1 h2
  obtain ⟨a, b⟩ := o
  obtain ⟨c, d⟩ := q
  simp only [onV, Value.agg.injEq, Array.mk.injEq, List.cons.injEq, Value.string.injEq, Value.int.injEq, true_and, and_true] at this
  rw [this.1, this.2]
theorem zeroU (w : World) : (zeroValue 122).run Tryz.prog w = .ok (.agg #[]) w := by kernel_rfl
/-- Block b tells which events have happened; at most n were put in. -/
def HIn (w : World) (b n : Nat) (hap : Mp.On → Bool) : Prop := ∃ D : Tr, w.ownsMap Tryz.prog 101 unitR b n D ∧ ∀ o, OnOk o → Maps.has D (klOn o) = hap o
theorem HIn.lt {w : World} {b n : Nat} {hap : Mp.On → Bool} (h : HIn w b n hap) : b < w.heap.size := by
  obtain ⟨D, h, _⟩ := h
  exact h.lt
theorem HIn.keep {w w' : World} {b n : Nat} {hap : Mp.On → Bool} (h : HIn w b n hap) (hk : w'.heap[b]? = w.heap[b]?) : HIn w' b n hap := by
  obtain ⟨D, ⟨es, clock, hb, F, hs, hD⟩, hG⟩ := h
  exact ⟨D, ⟨es, clock, hk.trans hb, F, hs, hD⟩, hG⟩
theorem HIn.ne {w : World} {b n : Nat} {hap : Mp.On → Bool} {k : Nat} {t : TypeId} {C : Array Value} (h : HIn w b n hap) (hl : Lies w k t C) : k ≠ b := by
  rintro rfl
  obtain ⟨D, ⟨es, clock, hb, _⟩, _⟩ := h
  unfold Lies at hl
  rw [hl] at hb
  cases hb
theorem HIn.ne_own {w : World} {b n : Nat} {hap : Mp.On → Bool} {H : Nat} {e : TypeId} {z : Nat} {v : Value} {m : Nat} {xs : List Value} (h : HIn w b n hap) (ho : w.ownsRow H e z v m xs) : v.ownBlock ≠ some b := by
  intro hv
  obtain ⟨_, cur, _, _, h2, _⟩ := own_heap ho hv
  exact h.ne (k := b) (C := cur) (t := e) h2 rfl
theorem HIn.mono {w : World} {b n n' : Nat} {hap : Mp.On → Bool} (h : HIn w b n hap) (hn : n ≤ n') : HIn w b n' hap := by
  obtain ⟨D, h, h2⟩ := h
  exact ⟨D, h.mono hn, h2⟩
theorem HIn.made (w : World) : HIn (w.alloc (.map #[] 0)) w.heap.size 0 (fun _ => false) := ⟨.map [], World.ownsMap_made w _ _ _, fun _ _ => rfl⟩
theorem HIn.look {w : World} {b n : Nat} {hap : Mp.On → Bool} (h : HIn w b n hap) (o : Mp.On) (ho : OnOk o) :
    (Instr.lookup 56 (.map (some b)) (.agg #[.string o.1, .int .i64 o.2]) true).run Tryz.prog w = .ok (.tuple #[.agg #[], .bool (hap o)]) w := by
  obtain ⟨D, hown, hG⟩ := h
  obtain ⟨v, ps, hr, hv⟩ := hown.look_ok (t := 56) keyedOn Tryz.underlying56 (zeroU w) (zd := .agg []) (zp := []) rfl (keyOn o ho)
  rw [hG o ho] at hr
  rw [hr, unitR_inv hv]
theorem own_isMap' {w : World} {P : Program} {k : TypeId} {R : Value → Option (Tr × List MemPlace)} {b n : Nat} {D : Tr} (h : w.ownsMap P k R b n D) : IsMap D := by
  obtain ⟨es, clock, _, _, _, hD⟩ := h
  exact ⟨_, hD⟩
def updH (hap : Mp.On → Bool) (o : Mp.On) : Mp.On → Bool := fun q => if q = o then true else hap q
theorem HIn.store {w : World} {b n : Nat} {hap : Mp.On → Bool} (h : HIn w b n hap) (hn : n ≤ 1000000000) (o : Mp.On) (ho : OnOk o) :
    ∃ w', (Instr.mapUpdate 56 (.map (some b)) (.agg #[.string o.1, .int .i64 o.2]) (.agg #[])).run Tryz.prog w = .ok () w' ∧ HIn w' b (n + 1) (updH hap o) ∧ w.grownBy w' (some b) := by
  obtain ⟨D, hown, hG⟩ := h
  obtain ⟨w', hr, h1, h2⟩ := hown.update (t := 56) (n := n) keyedOn Tryz.underlying56 (by unfold maxLen; omega) (keyOn o ho) (show unitR (.agg #[]) = some (.agg [], []) from rfl)
  refine ⟨w', hr, ⟨_, h1, fun q hq => ?_⟩, h2⟩
  by_cases e : q = o
  · subst e
    rw [has_put_same (own_isMap' hown) (by trivial)]
    exact (if_pos rfl).symm
  · rw [has_put_other (fun h => e (klOn_inj hq ho h)), hG q hq]
    exact (if_neg e).symm
end Go.Proofs.YtpipjkbgbhefcaaGreat
