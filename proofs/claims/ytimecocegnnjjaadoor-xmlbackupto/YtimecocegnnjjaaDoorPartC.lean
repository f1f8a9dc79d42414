/-
  Several texts in one: each opens with its own word.
-/
import Derived.Test.YtimecocegnnjjaaDoorPartA
import Derived.Lib.Builder
import Derived.Lib.IndexMore
import Derived.Lib.IndexLaws
import Derived.Shelf.GgClosure.StringsIndexFunc
/-
  Elements in memory: trees, and what it means that a row of attributes, an element lies there.
-/
namespace Go.Proofs.YtimecocegnnjjaaDoor
open Go.RowKit
/-- A slice value of n elements; where there is one, the first lies at block b from place o on. -/
def Row (v : Value) (n b o : Nat) : Prop := ∃ ao cap, v = .slice ao n cap ∧ (0 < n → ao = some ⟨b, o, none⟩)
/-- A row of attributes. -/
def ARow (w : World) (v : Value) (l : List (ByteArray × ByteArray)) : Prop :=
  ∃ b o, Row v l.length b o ∧ (l.length ≤ 1000000000000 ∧ ∀ p ∈ l, p.1.size ≤ 140737488355328 ∧ p.2.size ≤ 140737488355328) ∧ ∀ i p, l[i]? = some p → w.cell? ⟨b, o + 2 * i, none⟩ = some (.string p.1) ∧ w.cell? ⟨b, o + 2 * i + 1, none⟩ = some (.string p.2)
theorem ARow.below {w w' : World} {v : Value} {l : List (ByteArray × ByteArray)} (h : ARow w v l) (hb : Below w.heap.size w w') : ARow w' v l := by
  obtain ⟨b, o, hr, hl, hc⟩ := h
  refine ⟨b, o, hr, hl, fun i p hp => ?_⟩
  obtain ⟨h1, h2⟩ := hc i p hp
  have hlt : b < w.heap.size := by
    rcases Nat.lt_or_ge b w.heap.size with h' | h'
    · exact h'
    · unfold World.cell? at h1
      rw [Array.getElem?_eq_none h'] at h1
      cases h1
  rw [hb.cell (p := ⟨b, o + 2 * i, none⟩) hlt, hb.cell (p := ⟨b, o + 2 * i + 1, none⟩) hlt]
  exact ⟨h1, h2⟩
end Go.Proofs.YtimecocegnnjjaaDoor
/-
  Elements in memory, as trees.
-/
set_option linter.unusedVariables false
namespace Go.Proofs.YtimecocegnnjjaaDoor
open Go.RowKit
abbrev Tr := DataW Unit
namespace Xp
def pairD (p : ByteArray × ByteArray) : Tr := .agg [.lit (.string p.1.data.toList), .lit (.string p.2.data.toList)]
def mkT (nm : ByteArray) (l : List (ByteArray × ByteArray)) (ks : List Tr) (p : Int) : Tr := .agg [.lit (.string nm.data.toList), .slice (l.map pairD) [], .slice ks [], .lit (.int .i64 p)]
def nmT : Tr → List UInt8
  | .agg [.lit (.string x), _, _, _] => x
  | _ => []
def asT : Tr → List Tr
  | .agg [_, .slice x _, _, _] => x
  | _ => []
def ksT : Tr → List Tr
  | .agg [_, _, .slice x _, _] => x
  | _ => []
def atT : Tr → Int
  | .agg [_, _, _, .lit (.int _ p)] => p
  | _ => 0
theorem nm_mk (nm : ByteArray) (l : List (ByteArray × ByteArray)) (ks : List Tr) (p : Int) : nmT (mkT nm l ks p) = nm.data.toList := rfl
theorem as_mk (nm : ByteArray) (l : List (ByteArray × ByteArray)) (ks : List Tr) (p : Int) : asT (mkT nm l ks p) = l.map pairD := rfl
theorem ks_mk (nm : ByteArray) (l : List (ByteArray × ByteArray)) (ks : List Tr) (p : Int) : ksT (mkT nm l ks p) = ks := rfl
theorem at_mk (nm : ByteArray) (l : List (ByteArray × ByteArray)) (ks : List Tr) (p : Int) : atT (mkT nm l ks p) = p := rfl
theorem ba_inj {a b : ByteArray} (h : a.data.toList = b.data.toList) : a = b := by
  obtain ⟨⟨x⟩⟩ := a
  obtain ⟨⟨y⟩⟩ := b
  have : x = y := h
  rw [this]
theorem pairD_inj {p q : ByteArray × ByteArray} (h : pairD p = pairD q) : p = q := by
  simp only [pairD, DataW.agg.injEq, List.cons.injEq, DataW.lit.injEq, Lit.string.injEq, and_true] at h
  exact Prod.ext (ba_inj h.1) (ba_inj h.2)
theorem pairs_inj : ∀ {l m : List (ByteArray × ByteArray)}, l.map pairD = m.map pairD → l = m
  | [], [], _ => rfl
  | [], _ :: _, h => by cases h
  | _ :: _, [], h => by cases h
  | a :: l, b :: m, h => by
    simp only [List.map_cons, List.cons.injEq] at h
    rw [pairD_inj h.1, pairs_inj h.2]
/-- 'b' at every place, up to the shorter end; the lengths are asked apart. -/
def all2 (f : Tr → Tr → Bool) : List Tr → List Tr → Bool
  | a :: l, b :: m => f a b && all2 f l m
  | _, _ => true
/-- Are two trees one, but for the places? -/
def sameT : Nat → Tr → Tr → Prop
  | 0, _, _ => True
  | n + 1, a, b => nmT a = nmT b ∧ asT a = asT b ∧ (ksT a).length = (ksT b).length ∧ ∀ (i : Nat) (x y : Tr), (ksT a)[i]? = some x → (ksT b)[i]? = some y → sameT n x y
theorem sameT_succ (n : Nat) (a b : Tr) : sameT (n + 1) a b = (nmT a = nmT b ∧ asT a = asT b ∧ (ksT a).length = (ksT b).length ∧ ∀ (i : Nat) (x y : Tr), (ksT a)[i]? = some x → (ksT b)[i]? = some y → sameT n x y) := rfl
end Xp
/-- Four cells of an element, at block b from place o on. -/
def Four (w : World) (b o : Nat) (c0 c1 c2 c3 : Value) : Prop :=
  w.cell? ⟨b, o, none⟩ = some c0 ∧ w.cell? ⟨b, o + 1, none⟩ = some c1 ∧ w.cell? ⟨b, o + 2, none⟩ = some c2 ∧ w.cell? ⟨b, o + 3, none⟩ = some c3
theorem Four.below {w w' : World} {b o : Nat} {c0 c1 c2 c3 : Value} (h : Four w b o c0 c1 c2 c3) (hb : Below w.heap.size w w') : Four w' b o c0 c1 c2 c3 := by
  obtain ⟨h0, h1, h2, h3⟩ := h
  refine ⟨?_, ?_, ?_, ?_⟩
  · rw [hb.cell (cell_lt h0)]; exact h0
  · rw [hb.cell (cell_lt h1)]; exact h1
  · rw [hb.cell (cell_lt h2)]; exact h2
  · rw [hb.cell (cell_lt h3)]; exact h3
/-- These four values are an element's, of at most so many storeys: T. -/
def EIn (w : World) : Nat → Value → Value → Value → Value → Tr → Prop
  | 0, _, _, _, _, _ => False
  | n + 1, c0, c1, c2, c3, T => ∃ (nm : ByteArray) (p : Int) (l : List (ByteArray × ByteArray)) (ks : List Tr), c0 = .string nm ∧ c3 = .int .i64 p ∧ T = Xp.mkT nm l ks p ∧ nm.size ≤ 140737488355328 ∧ ARow w c1 l ∧
      ∃ b o, Row c2 ks.length b o ∧ ks.length ≤ 1000000000000 ∧ ∀ i K, ks[i]? = some K → ∃ d0 d1 d2 d3, Four w b (o + 4 * i) d0 d1 d2 d3 ∧ EIn w n d0 d1 d2 d3 K
theorem EIn.below {w w' : World} (hb : Below w.heap.size w w') : ∀ {n : Nat} {c0 c1 c2 c3 : Value} {T : Tr}, EIn w n c0 c1 c2 c3 T → EIn w' n c0 c1 c2 c3 T
  | 0, _, _, _, _, _, h => h
  | n + 1, _, _, _, _, _, ⟨nm, p, l, ks, h0, h3, hT, hs, ha, b, o, hr, hl, hk⟩ => by
    refine ⟨nm, p, l, ks, h0, h3, hT, hs, ha.below hb, b, o, hr, hl, fun i K hK => ?_⟩
    obtain ⟨d0, d1, d2, d3, hf, he⟩ := hk i K hK
    exact ⟨d0, d1, d2, d3, hf.below hb, EIn.below hb he⟩
theorem EIn.succ {w : World} : ∀ {n : Nat} {c0 c1 c2 c3 : Value} {T : Tr}, EIn w n c0 c1 c2 c3 T → EIn w (n + 1) c0 c1 c2 c3 T
  | 0, _, _, _, _, _, h => h.elim
  | n + 1, _, _, _, _, _, ⟨nm, p, l, ks, h0, h3, hT, hs, ha, b, o, hr, hl, hk⟩ => by
    refine ⟨nm, p, l, ks, h0, h3, hT, hs, ha, b, o, hr, hl, fun i K hK => ?_⟩
    obtain ⟨d0, d1, d2, d3, hf, he⟩ := hk i K hK
    exact ⟨d0, d1, d2, d3, hf, EIn.succ he⟩
end Go.Proofs.YtimecocegnnjjaaDoor
/-
  Plain functions over bytes: what stands where in a text. They say nothing of any program.
-/
set_option linter.unusedSimpArgs false
set_option linter.unusedVariables false
namespace Go.Proofs.YtimecocegnnjjaaDoor
open Go.RowKit
/-- Does a text go on so from place p on? -/
def Xp.hasL (s : List UInt8) (p : Nat) (x : List UInt8) : Bool := x.isPrefixOf (s.drop p)
theorem Xp.hasL_far {s x : List UInt8} {p : Nat} (h : s.length < p + x.length) (h0 : 0 < x.length) : Xp.hasL s p x = false := by
  unfold Xp.hasL
  cases hh : x.isPrefixOf (s.drop p) with
  | false => rfl
  | true =>
    have := (List.isPrefixOf_iff_prefix.1 hh).length_le
    rw [List.length_drop] at this
    omega
theorem Xp.hasL_cut (s x : List UInt8) (p : Nat) : ((s.drop p).take x.length == x) = Xp.hasL s p x := by
  rw [Bool.eq_iff_iff, beq_iff_eq]
  unfold Xp.hasL
  rw [List.isPrefixOf_iff_prefix, List.prefix_iff_eq_take]
  exact ⟨fun h => h.symm, fun h => h.symm⟩
/-- Where the blanks from place p on end. -/
def Xp.blankB (c : UInt8) : Bool := c == 32 || c == 9 || c == 10 || c == 13
def Xp.skipL : List UInt8 → Nat
  | c :: l => if Xp.blankB c then Xp.skipL l + 1 else 0
  | [] => 0
/-- Where the blanks from place p on end. -/
def Xp.skip (s : List UInt8) (p : Nat) : Nat := p + Xp.skipL (s.drop p)

theorem Xp.has1 (s : List UInt8) (p : Nat) (c : UInt8) : Xp.hasL s p [c] = (s[p]? == some c) := by
  unfold Xp.hasL
  cases h : s.drop p with
  | nil =>
    rw [List.drop_eq_nil_iff] at h
    rw [List.getElem?_eq_none h]
    rfl
  | cons d l =>
    have : s[p]? = some d := by
      have := congrArg (·[0]?) h
      simpa using this
    rw [this]
    simp [List.isPrefixOf, Bool.beq_comm]

theorem Xp.skip_more {s : List UInt8} {k : Nat} {c : UInt8} (h : s[k]? = some c) (hc : Xp.blankB c = true) : Xp.skip s k = Xp.skip s (k + 1) := by
  unfold Xp.skip
  have hk : k < s.length := (List.getElem?_eq_some_iff.1 h).1
  rw [List.drop_eq_getElem_cons hk]
  have : s[k] = c := by rw [List.getElem?_eq_getElem hk] at h; exact Option.some.inj h
  rw [this]
  simp only [Xp.skipL, hc, if_true]
  omega
theorem Xp.skip_stop {s : List UInt8} {k : Nat} (h : ∀ c, s[k]? = some c → Xp.blankB c = false) : Xp.skip s k = k := by
  unfold Xp.skip
  by_cases hk : k < s.length
  · rw [List.drop_eq_getElem_cons hk]
    have := h s[k] (List.getElem?_eq_getElem hk)
    simp only [Xp.skipL, this]
    simp
  · rw [List.drop_eq_nil_iff.2 (by omega)]
    simp [Xp.skipL]

namespace Xp
/-- How far it is to the first two dashes, or to where no two can stand. -/
def dashL : List UInt8 → Nat
  | a :: b :: l => if a = 45 ∧ b = 45 then 0 else dashL (b :: l) + 1
  | _ => 0
def dash (s : List UInt8) (k : Nat) : Nat := k + dashL (s.drop k)
theorem drop_two {s : List UInt8} {k : Nat} {a b : UInt8} (ha : s[k]? = some a) (hb : s[k + 1]? = some b) : s.drop k = a :: b :: s.drop (k + 2) := by
  obtain ⟨h1, e1⟩ := List.getElem?_eq_some_iff.1 ha
  obtain ⟨h2, e2⟩ := List.getElem?_eq_some_iff.1 hb
  rw [List.drop_eq_getElem_cons h1, List.drop_eq_getElem_cons h2, e1, e2]
theorem drop_one {s : List UInt8} {k : Nat} {a : UInt8} (ha : s[k]? = some a) : s.drop k = a :: s.drop (k + 1) := by
  obtain ⟨h1, e1⟩ := List.getElem?_eq_some_iff.1 ha
  rw [List.drop_eq_getElem_cons h1, e1]
theorem dash_on {s : List UInt8} {k : Nat} {a b : UInt8} (ha : s[k]? = some a) (hb : s[k + 1]? = some b) (h : ¬ (a = 45 ∧ b = 45)) : dash s k = dash s (k + 1) := by
  unfold dash
  rw [drop_two ha hb, dashL, if_neg h, drop_one hb]
  rw [show k + 1 + 1 = k + 2 from rfl]
  omega
theorem dash_at {s : List UInt8} {k : Nat} {a b : UInt8} (ha : s[k]? = some a) (hb : s[k + 1]? = some b) (h : a = 45 ∧ b = 45) : dash s k = k := by
  unfold dash
  rw [drop_two ha hb, dashL, if_pos h]
  rfl
theorem dash_end {s : List UInt8} {k : Nat} (h : s.length ≤ k + 1) : dash s k = k := by
  unfold dash
  cases e : s.drop k with
  | nil => rfl
  | cons a l =>
    cases l with
    | nil => rfl
    | cons b l =>
      have := congrArg List.length e
      rw [List.length_drop] at this
      simp only [List.length_cons] at this
      omega
theorem dash_ge (s : List UInt8) (k : Nat) : k ≤ dash s k := Nat.le_add_right _ _
/-- Where the remark at p ends. -/
def remark (s : List UInt8) (p : Nat) : Option Nat :=
  if s[dash s (p + 4) + 2]? = some 62 ∧ Sp.signsB ((s.drop (p + 4)).take (dash s (p + 4) - (p + 4))) = true then some (dash s (p + 4) + 3) else none
end Xp
theorem Xp.at_byte (s : ByteArray) (k : Nat) (h : k < s.size) : s.data.toList[k]? = some s[k] := by
  rw [List.getElem?_eq_getElem (by simpa using h)]
  rfl
namespace Xp
def remB : List UInt8 := [60, 33, 45, 45]
def miscF : Nat → List UInt8 → Nat → Except Nat Nat
  | 0, _, p => .ok p
  | f + 1, s, p => if hasL s (skip s p) remB = true then (match remark s (skip s p) with | none => .error (skip s p) | some k => miscF f s k) else .ok (skip s p)
theorem skip_far {s : List UInt8} {p : Nat} (h : s.length ≤ p) : skip s p = p := skip_stop fun c hc => by
  rw [List.getElem?_eq_none h] at hc
  cases hc
theorem skip_ge (s : List UInt8) (p : Nat) : p ≤ skip s p := Nat.le_add_right _ _
theorem skipL_le (l : List UInt8) : skipL l ≤ l.length := by
  induction l with
  | nil => exact Nat.le_refl _
  | cons c l ih =>
    unfold skipL
    split
    · exact Nat.succ_le_succ ih
    · exact Nat.zero_le _
theorem skip_le {s : List UInt8} {p : Nat} (h : p ≤ s.length) : skip s p ≤ s.length := by
  have := skipL_le (s.drop p)
  rw [List.length_drop] at this
  unfold skip
  omega
theorem skipL_drop (l : List UInt8) : skipL (l.drop (skipL l)) = 0 := by
  induction l with
  | nil => rfl
  | cons c l ih =>
    by_cases h : blankB c = true
    · rw [skipL, if_pos h]
      exact ih
    · rw [skipL, if_neg h, List.drop_zero, skipL, if_neg h]
theorem skip_skip (s : List UInt8) (p : Nat) : skip s (skip s p) = skip s p := by
  unfold skip
  rw [← List.drop_drop, skipL_drop]
  rfl
theorem remark_gt {s : List UInt8} {p k : Nat} (h : remark s p = some k) : p + 7 ≤ k ∧ k ≤ s.length := by
  unfold remark at h
  split at h
  · rename_i hh
    have := dash_ge s (p + 4)
    have := (List.getElem?_eq_some_iff.1 hh.1).1
    have := Option.some.inj h
    omega
  · cases h
theorem miscF_far {s : List UInt8} {p : Nat} (h : s.length ≤ p) (f : Nat) : miscF f s p = .ok p := by
  cases f with
  | zero => rfl
  | succ f =>
    unfold miscF
    rw [skip_far h, hasL_far (by simp [remB]; omega) (by simp [remB]), if_neg (by simp)]
theorem miscF_any (s : List UInt8) : ∀ (f g p : Nat), s.length - p ≤ f → s.length - p ≤ g → miscF f s p = miscF g s p := by
  intro f
  induction f with
  | zero => intro g p h1 h2; rw [miscF_far (by omega), miscF_far (by omega)]
  | succ f ih =>
    intro g p h1 h2
    cases g with
    | zero => rw [miscF_far (by omega), miscF_far (by omega)]
    | succ g =>
      unfold miscF
      split
      · split
        · rfl
        · rename_i k hk
          have := remark_gt hk
          have := skip_ge s p
          exact ih g k (by omega) (by omega)
      · rfl
/-- Blanks and remarks from p on: where they end; or where a wrong remark stands. -/
def misc (s : List UInt8) (p : Nat) : Except Nat Nat := miscF (s.length + 1) s p
theorem misc_step (s : List UInt8) (p : Nat) : misc s p = if hasL s (skip s p) remB = true then (match remark s (skip s p) with | none => .error (skip s p) | some k => misc s k) else .ok (skip s p) := by
  show miscF (s.length + 1) s p = _
  rw [miscF]
  split
  · split
    · rfl
    · rename_i k hk
      exact miscF_any s _ _ k (by omega) (by omega)
  · rfl
theorem misc_skip (s : List UInt8) (p : Nat) : misc s p = misc s (skip s p) := by
  rw [misc_step s p, misc_step s (skip s p), skip_skip]
theorem misc_ok_of (s : List UInt8) : ∀ (f p k : Nat), p ≤ s.length → miscF f s p = .ok k → p ≤ k ∧ k ≤ s.length := by
  intro f
  induction f with
  | zero => intro p k hp h; cases h; exact ⟨Nat.le_refl _, hp⟩
  | succ f ih =>
    intro p k hp h
    have h1 := skip_ge s p
    have h2 := skip_le hp
    unfold miscF at h
    split at h
    · split at h
      · cases h
      · rename_i j hj
        have := remark_gt hj
        have := ih j k (by omega) h
        omega
    · cases h
      exact ⟨h1, h2⟩
theorem misc_le {s : List UInt8} {p k : Nat} (hp : p ≤ s.length) (h : misc s p = .ok k) : p ≤ k ∧ k ≤ s.length := misc_ok_of s _ p k hp h
end Xp
namespace Xp
def nameB (c : UInt8) : Bool := Sp.goZ (c.toNat : Int) || c == 58
def runL : List UInt8 → Nat
  | c :: l => if nameB c then runL l + 1 else 0
  | [] => 0
/-- Where the signs of a name, begun at p, end. -/
def run (s : List UInt8) (p : Nat) : Nat := p + runL (s.drop p)
theorem run_on {s : List UInt8} {k : Nat} {c : UInt8} (h : s[k]? = some c) (hc : nameB c = true) : run s k = run s (k + 1) := by
  unfold run
  rw [drop_one h, runL, if_pos hc]
  omega
theorem run_stop {s : List UInt8} {k : Nat} {c : UInt8} (h : s[k]? = some c) (hc : nameB c = false) : run s k = k := by
  unfold run
  rw [drop_one h, runL, if_neg (by rw [hc]; simp)]
  rfl
theorem run_end {s : List UInt8} {k : Nat} (h : s.length ≤ k) : run s k = k := by
  unfold run
  rw [List.drop_eq_nil_iff.2 h]
  rfl
/-- Where the name that stands at p ends. -/
def qual (s : List UInt8) (p : Nat) : Option Nat := if Sp.qualB ((s.drop p).take (run s p - p)) = true then some (run s p) else none
end Xp
namespace Xp
def stopL (d : UInt8) : List UInt8 → Nat
  | c :: l => if c = d ∨ c = 60 then 0 else stopL d l + 1
  | [] => 0
/-- The first d or '<' from k on, or the end. -/
def stop (d : UInt8) (s : List UInt8) (k : Nat) : Nat := k + stopL d (s.drop k)
theorem stop_on {d : UInt8} {s : List UInt8} {k : Nat} {c : UInt8} (h : s[k]? = some c) (hc : ¬ (c = d ∨ c = 60)) : stop d s k = stop d s (k + 1) := by
  unfold stop
  rw [drop_one h, stopL, if_neg hc]
  omega
theorem stop_at {d : UInt8} {s : List UInt8} {k : Nat} {c : UInt8} (h : s[k]? = some c) (hc : c = d ∨ c = 60) : stop d s k = k := by
  unfold stop
  rw [drop_one h, stopL, if_pos hc]
  rfl
theorem stop_end {d : UInt8} {s : List UInt8} {k : Nat} (h : s.length ≤ k) : stop d s k = k := by
  unfold stop
  rw [List.drop_eq_nil_iff.2 h]
  rfl
/-- Between quotes d: what stands for what, and where it ends. -/
def valueIn (d : UInt8) (s : List UInt8) (p : Nat) : Option (List UInt8 × Nat) :=
  if s[stop d s (p + 1)]? = some d then
    (match Sp.unesc ((s.drop (p + 1)).take (stop d s (p + 1) - (p + 1))) with
    | some t => if t.length ≤ 60 then some (t, stop d s (p + 1) + 1) else none
    | none => none)
  else none
/-- The value that stands at p. -/
def value (s : List UInt8) (p : Nat) : Option (List UInt8 × Nat) :=
  if s[p]? = some 34 then valueIn 34 s p else if s[p]? = some 39 then valueIn 39 s p else none
end Xp
/-- An end tag at p: where it ends, or where it is wrong. -/
def Xp.endTag (s : List UInt8) (p : Nat) (name : List UInt8) : Except Nat Nat :=
  match Xp.qual s (p + 2) with
  | none => .error (p + 2)
  | some k => if (s.drop (p + 2)).take (k - (p + 2)) = name then (if Xp.hasL s (Xp.skip s k) [62] = true then .ok (Xp.skip s k + 1) else .error (Xp.skip s k)) else .error p
end Go.Proofs.YtimecocegnnjjaaDoor
/-
  Plain functions over bytes: an element as the document reads it. They say nothing of any program.
-/
set_option linter.unusedSimpArgs false
set_option linter.unusedVariables false
namespace Go.Proofs.YtimecocegnnjjaaDoor
open Go.RowKit
namespace Xp
/-- A piece of a text. -/
def cut (s : List UInt8) (p k : Nat) : List UInt8 := (s.drop p).take (k - p)
abbrev Att := ByteArray × ByteArray
def ba (l : List UInt8) : ByteArray := ⟨l.toArray⟩
/-- An attribute at p, behind those of l. The error: its place, its number. -/
def attr (s : List UInt8) (p : Nat) (l : List Att) : Except (Nat × Nat) (Att × Nat) :=
  if 8 ≤ l.length then .error (p, 4) else
  match qual s p with
  | none => .error (p, 2)
  | some k =>
    if l.any (fun a => a.1.data.toList == cut s p k) = true then .error (p, 2) else
    if hasL s k [61] = true then
      (match value s (k + 1) with
      | none => .error (k + 1, 2)
      | some (v, j) => .ok ((ba (cut s p k), ba v), j))
    else .error (k, 2)
/-- Does an attribute begin behind the blanks at p? -/
def more (s : List UInt8) (p : Nat) : Bool := decide (p < skip s p) && decide (skip s p < s.length) && !hasL s (skip s p) [47] && !hasL s (skip s p) [62]
def tagF : Nat → List UInt8 → Nat → List Att → Except (Nat × Nat) (List Att × Nat)
  | 0, s, p, l => .ok (l, skip s p)
  | f + 1, s, p, l =>
    if more s p = true then
      (match attr s (skip s p) l with
      | .error e => .error e
      | .ok (a, k) => tagF f s k (l ++ [a]))
    else .ok (l, skip s p)
/-- The kids from p on, with the end tag; f reads a kid. -/
def kidsF (f : Nat → Nat → Except (Nat × Nat) (Tr × Nat × Nat)) : Nat → List UInt8 → List UInt8 → Nat → Nat → List Tr → Except (Nat × Nat) (List Tr × Nat × Nat)
  | 0, s, nm, p, n, ks => .error (p, 2)
  | g + 1, s, nm, p, n, ks =>
    match misc s p with
    | .error q => .error (q, 2)
    | .ok k =>
      if hasL s k [60, 47] = true then
        (match endTag s k nm with
        | .error q => .error (q, 2)
        | .ok j => .ok (ks, j, n))
      else if hasL s k [60] = true then
        (match f k n with
        | .error e => .error e
        | .ok (T, j, m) => kidsF f g s nm j m (ks ++ [T]))
      else .error (k, 2)
/-- An element at p, of at most so many storeys, n ahead of it. -/
def elem : Nat → List UInt8 → Nat → Nat → Except (Nat × Nat) (Tr × Nat × Nat)
  | 0, s, p, n => if hasL s p [60] = true then .error (p, 4) else .error (p, 2)
  | m + 1, s, p, n =>
    if hasL s p [60] = true then
      (if 400 ≤ n then .error (p, 4) else
      match qual s (p + 1) with
      | none => .error (p + 1, 2)
      | some k =>
        match tagF 9 s k [] with
        | .error e => .error e
        | .ok (l, j) =>
          if hasL s j [47, 62] = true then .ok (mkT (ba (cut s (p + 1) k)) l [] p, j + 2, n + 1)
          else if hasL s j [62] = true then
            (match kidsF (elem m s) (s.length + 1) s (cut s (p + 1) k) (j + 1) (n + 1) [] with
            | .error e => .error e
            | .ok (ks, i, n') => .ok (mkT (ba (cut s (p + 1) k)) l ks p, i, n'))
          else .error (j, 2))
    else .error (p, 2)
/-- A whole text. -/
def parse (s : List UInt8) : Except (Nat × Nat) Tr :=
  if 8000 < s.length then .error (0, 3) else
  match misc s 0 with
  | .error q => .error (q, 2)
  | .ok p =>
    match elem 12 s p 0 with
    | .error e => .error e
    | .ok (T, k, n) =>
      match misc s k with
      | .error q => .error (q, 2)
      | .ok j => if j < s.length then .error (j, 2) else .ok T
end Xp
end Go.Proofs.YtimecocegnnjjaaDoor
/-
  Plain laws: the first place of two dashes, of a quote; the runes of a text one by one. They say nothing of any program.
-/
set_option linter.unusedSimpArgs false
set_option linter.unusedVariables false
namespace Go.Proofs.YtimecocegnnjjaaDoor
open Go.RowKit
namespace Xp
open Go.Lib (index indexByte)
theorem index_dash : ∀ (l : List UInt8), (0 ≤ index l [45, 45] → dashL l = (index l [45, 45]).toNat ∧ dashL l + 2 ≤ l.length) ∧ (¬ 0 ≤ index l [45, 45] → l.length ≤ dashL l + 1)
  | [] => by
    constructor
    · intro h; exact absurd h (by decide)
    · intro _; exact Nat.zero_le _
  | [a] => by
    have : index [a] [45, 45] = -1 := by
      unfold index
      rw [if_neg (by simp [List.isPrefixOf])]
      rfl
    rw [this]
    constructor
    · intro h; exact absurd h (by decide)
    · intro _; exact Nat.le_refl _
  | a :: b :: l => by
    have ih := index_dash (b :: l)
    have hg := Lib.index_ge (b :: l) [45, 45]
    by_cases h : a = 45 ∧ b = 45
    · have hi : index (a :: b :: l) [45, 45] = 0 := by
        unfold index
        rw [if_pos (by rw [h.1, h.2]; rfl)]
      rw [hi, dashL, if_pos h]
      constructor
      · intro _; exact ⟨rfl, by simp⟩
      · intro h0; exact absurd (Int.le_refl 0) h0
    · have hp : List.isPrefixOf [45, 45] (a :: b :: l) = false := by
        simp only [List.isPrefixOf, Bool.and_true, Bool.and_eq_false_imp, beq_iff_eq]
        intro h1
        rw [beq_eq_false_iff_ne]
        intro h2
        exact h ⟨h1.symm, h2.symm⟩
      have hi : index (a :: b :: l) [45, 45] = if index (b :: l) [45, 45] == -1 then -1 else index (b :: l) [45, 45] + 1 := by
        rw [index, if_neg (by rw [hp]; simp)]
      rw [hi, dashL, if_neg h]
      by_cases h0 : 0 ≤ index (b :: l) [45, 45]
      · rw [if_neg (by simp; omega)]
        obtain ⟨e1, e2⟩ := ih.1 h0
        constructor
        · intro _
          rw [e1]
          refine ⟨by omega, ?_⟩
          rw [← e1]
          simp only [List.length_cons] at e2 ⊢
          omega
        · intro h1; omega
      · rw [if_pos (by rw [beq_iff_eq]; omega)]
        constructor
        · intro h1; omega
        · intro _
          have := ih.2 h0
          simp only [List.length_cons] at this ⊢
          omega
theorem indexByte_cons (b : UInt8) (l : List UInt8) (c : UInt8) : indexByte (b :: l) c = if b = c then 0 else if indexByte l c = -1 then -1 else indexByte l c + 1 := by
  rw [indexByte]
  by_cases h : b = c
  · rw [if_pos (by simpa using h), if_pos h]
  · rw [if_neg (by simpa using h), if_neg h]
    by_cases h2 : indexByte l c = -1
    · rw [if_pos (by simpa using h2), if_pos h2]
    · rw [if_neg (by simpa using h2), if_neg h2]
/-- Up to the first d: is no 60 among it? -/
theorem stop_index (d : UInt8) (hd : d ≠ 60) : ∀ (l : List UInt8), ((0 ≤ indexByte l d ∧ indexByte (l.take (indexByte l d).toNat) 60 < 0) → stopL d l = (indexByte l d).toNat ∧ l[stopL d l]? = some d) ∧ (¬ (0 ≤ indexByte l d ∧ indexByte (l.take (indexByte l d).toNat) 60 < 0) → ¬ l[stopL d l]? = some d)
  | [] => by
    constructor
    · intro h; exact absurd h.1 (show ¬ (0 : Int) ≤ -1 by decide)
    · intro _ h; simp at h
  | c :: l => by
    obtain ⟨ih1, ih2⟩ := stop_index d hd l
    have hg := Lib.indexByte_ge l d
    rw [indexByte_cons]
    by_cases hc : c = d
    · rw [if_pos hc, stopL, if_pos (Or.inl hc)]
      constructor
      · intro _; exact ⟨rfl, by rw [hc]; rfl⟩
      · intro h; exact absurd ⟨Int.le_refl 0, show (-1 : Int) < 0 by decide⟩ h
    · rw [if_neg hc]
      by_cases h6 : c = 60
      · rw [stopL, if_pos (Or.inr h6)]
        constructor
        · rintro ⟨h1, h2⟩
          exfalso
          by_cases hm : indexByte l d = -1
          · rw [if_pos hm] at h1; omega
          · rw [if_neg hm] at h2
            obtain ⟨n, hn⟩ := Int.eq_ofNat_of_zero_le (show 0 ≤ indexByte l d by omega)
            rw [hn, show ((n : Int) + 1).toNat = n + 1 by omega, List.take_succ_cons, indexByte_cons, if_pos h6] at h2
            omega
        · intro _ h
          simp only [List.getElem?_cons_zero, Option.some.injEq] at h
          exact hc h
      · have hst : stopL d (c :: l) = stopL d l + 1 := by rw [stopL, if_neg (by rintro (h | h) <;> contradiction)]
        rw [hst]
        by_cases hm : indexByte l d = -1
        · rw [if_pos hm]
          constructor
          · intro h; omega
          · intro _ h
            rw [List.getElem?_cons_succ] at h
            exact ih2 (by omega) h
        · rw [if_neg hm]
          obtain ⟨n, hn⟩ := Int.eq_ofNat_of_zero_le (show 0 ≤ indexByte l d by omega)
          rw [hn, show ((n : Int) + 1).toNat = n + 1 by omega, List.take_succ_cons, indexByte_cons, if_neg h6, List.getElem?_cons_succ]
          rw [hn, show ((n : Int)).toNat = n by omega] at ih1 ih2
          have hq := Lib.indexByte_ge (l.take n) 60
          constructor
          · rintro ⟨h1, h2⟩
            obtain ⟨e1, e2⟩ := ih1 ⟨by omega, by split at h2 <;> omega⟩
            exact ⟨by rw [e1], e2⟩
          · intro h1
            refine ih2 fun h2 => h1 ⟨by omega, ?_⟩
            rw [if_pos (by omega)]
            decide
theorem value_len {s : List UInt8} {p : Nat} {t : List UInt8} {k : Nat} (h : value s p = some (t, k)) : t.length ≤ 60 ∧ p < k := by
  have hin : ∀ d, valueIn d s p = some (t, k) → t.length ≤ 60 ∧ p < k := by
    intro d h
    unfold valueIn at h
    split at h
    · split at h
      · split at h
        · simp only [Option.some.injEq, Prod.mk.injEq] at h
          obtain ⟨rfl, rfl⟩ := h
          refine ⟨by assumption, ?_⟩
          unfold stop
          omega
        · cases h
      · cases h
    · cases h
  unfold value at h
  split at h
  · exact hin _ h
  · split at h
    · exact hin _ h
    · cases h
end Xp
namespace Sp
theorem idx_runes (s : ByteArray) (p : Nat → Bool) : ∀ (f i : Nat), (0 ≤ Lib.idxFuncFrom p true s f i) ↔ (runes f (s.data.toList.drop i)).any p = true
  | 0, i => by
    unfold Lib.idxFuncFrom runes
    simp
  | f + 1, i => by
    unfold Lib.idxFuncFrom
    by_cases h : i < s.size
    · have hne : s.data.toList.drop i ≠ [] := by
        rw [drop_byte s i h]
        simp
      rw [if_pos h, runes, if_neg hne, List.any_cons, ← Lib.decodeL_drop, List.drop_drop]
      by_cases hp : p (Lib.decodeL (List.drop i s.data.toList)).1 = true
      · rw [if_pos hp, hp]
        simp
      · rw [if_neg hp, idx_runes s p f]
        simp only [Bool.not_eq_true] at hp
        rw [hp]
        simp
    · rw [if_neg h, drop_all s i (by omega), runes_nil]
      simp
theorem any_signs (s : ByteArray) (h : Lib.validD s.data.toList = true) : (!decide (0 ≤ Lib.idxFunc (fun x : Nat => !charB (x : Int)) true s)) = signsB s.data.toList := by
  unfold signsB Lib.idxFunc
  rw [h, Bool.true_and]
  have := idx_runes s (fun x : Nat => !charB (x : Int)) s.size 0
  rw [List.drop_zero] at this
  rw [show decide (0 ≤ Lib.idxFuncFrom (fun x : Nat => !charB (x : Int)) true s s.size 0) = (runes s.size s.data.toList).any (fun x : Nat => !charB (x : Int)) by
    rw [Bool.eq_iff_iff, decide_eq_true_eq, this]]
  rw [len_byte, List.not_any_eq_all_not]
  congr 1
  funext x
  simp
end Sp
end Go.Proofs.YtimecocegnnjjaaDoor
/-
  Plain laws: elements go on; kids one by one. They say nothing of any program.
-/
set_option linter.unusedSimpArgs false
set_option linter.unusedVariables false
namespace Go.Proofs.YtimecocegnnjjaaDoor
open Go.RowKit
namespace Xp
theorem hasL_le {s x : List UInt8} {p : Nat} (h : hasL s p x = true) (h0 : 0 < x.length) : p + x.length ≤ s.length := by
  rcases Nat.lt_or_ge s.length (p + x.length) with h' | h'
  · rw [hasL_far h' h0] at h
    cases h
  · exact h'
theorem runL_le (l : List UInt8) : runL l ≤ l.length := by
  induction l with
  | nil => exact Nat.le_refl _
  | cons c l ih =>
    unfold runL
    split
    · exact Nat.succ_le_succ ih
    · exact Nat.zero_le _
theorem qual_le {s : List UInt8} {p k : Nat} (h : qual s p = some k) (hp : p ≤ s.length) : p ≤ k ∧ k ≤ s.length := by
  unfold qual at h
  split at h
  · have := Option.some.inj h
    have h2 := runL_le (s.drop p)
    rw [List.length_drop] at h2
    unfold run at this
    omega
  · cases h
theorem value_le {s : List UInt8} {p : Nat} {t : List UInt8} {k : Nat} (h : value s p = some (t, k)) : k ≤ s.length := by
  have hin : ∀ d, valueIn d s p = some (t, k) → k ≤ s.length := by
    intro d h
    unfold valueIn at h
    split at h
    · rename_i hh
      have := (List.getElem?_eq_some_iff.1 hh).1
      split at h
      · split at h
        · simp only [Option.some.injEq, Prod.mk.injEq] at h
          omega
        · cases h
      · cases h
    · cases h
  unfold value at h
  split at h
  · exact hin _ h
  · split at h
    · exact hin _ h
    · cases h
theorem attr_le {s : List UInt8} {p : Nat} {l : List Att} {a : Att} {k : Nat} (hp : p ≤ s.length) (h : attr s p l = .ok (a, k)) : p < k ∧ k ≤ s.length := by
  unfold attr at h
  split at h
  · cases h
  · split at h
    · cases h
    · rename_i j hj
      have hq := qual_le hj hp
      split at h
      · cases h
      · split at h
        · split at h
          · cases h
          · rename_i v i hv
            have h1 := (value_len hv).2
            have h2 := value_le hv
            simp only [Except.ok.injEq, Prod.mk.injEq] at h
            omega
        · cases h
theorem tagF_le {s : List UInt8} : ∀ (f p : Nat) (l : List Att) (l' : List Att) (k : Nat), p ≤ s.length → tagF f s p l = .ok (l', k) → p ≤ k ∧ k ≤ s.length
  | 0, p, l, l', k, hp, h => by
    unfold tagF at h
    simp only [Except.ok.injEq, Prod.mk.injEq] at h
    have := skip_ge s p
    have := skip_le hp
    omega
  | f + 1, p, l, l', k, hp, h => by
    have h1 := skip_ge s p
    have h2 := skip_le hp
    unfold tagF at h
    split at h
    · split at h
      · cases h
      · rename_i a j hj
        have := attr_le h2 hj
        have := tagF_le f j _ _ _ (by omega) h
        omega
    · simp only [Except.ok.injEq, Prod.mk.injEq] at h
      omega
theorem endTag_le {s : List UInt8} {p k : Nat} {nm : List UInt8} (hp : p + 2 ≤ s.length) (h : endTag s p nm = .ok k) : p < k ∧ k ≤ s.length := by
  unfold endTag at h
  split at h
  · cases h
  · rename_i j hj
    have hq := qual_le hj hp
    split at h
    · split at h
      · rename_i hh
        have := skip_ge s j
        have := hasL_le hh (by decide)
        simp only [Except.ok.injEq] at h
        simp only [List.length_cons, List.length_nil] at this
        omega
      · cases h
    · cases h
/-- What reads a kid goes on, and counts. -/
def Goes (s : List UInt8) (f : Nat → Nat → Except (Nat × Nat) (Tr × Nat × Nat)) : Prop := ∀ p n T k n', p ≤ s.length → f p n = .ok (T, k, n') → p < k ∧ k ≤ s.length ∧ n < n' ∧ n' ≤ 400
theorem kidsF_le {s : List UInt8} {f : Nat → Nat → Except (Nat × Nat) (Tr × Nat × Nat)} (hf : Goes s f) (nm : List UInt8) : ∀ (g p n : Nat) (ks ks' : List Tr) (k n' : Nat), p ≤ s.length → n ≤ 400 → kidsF f g s nm p n ks = .ok (ks', k, n') → p < k ∧ k ≤ s.length ∧ n ≤ n' ∧ n' ≤ 400
  | 0, p, n, ks, ks', k, n', hp, hn, h => by
    unfold kidsF at h
    cases h
  | g + 1, p, n, ks, ks', k, n', hp, hn, h => by
    unfold kidsF at h
    split at h
    · cases h
    · rename_i j hj
      have h1 := misc_le hp hj
      split at h
      · rename_i hh
        have h2 := hasL_le hh (by decide)
        split at h
        · cases h
        · rename_i i hi
          have h3 := endTag_le h2 hi
          simp only [Except.ok.injEq, Prod.mk.injEq] at h
          omega
      · split at h
        · split at h
          · cases h
          · rename_i T i m hi
            have h3 := hf j n T i m h1.2 hi
            have h4 := kidsF_le hf nm g i m _ _ _ _ (by omega) (by omega) h
            omega
        · cases h
theorem elem_goes (s : List UInt8) : ∀ m, Goes s (elem m s)
  | 0 => by
    intro p n T k n' hp h
    unfold elem at h
    split at h <;> cases h
  | m + 1 => by
    intro p n T k n' hp h
    unfold elem at h
    split at h
    · rename_i hh
      have h0 := hasL_le hh (by decide)
      simp only [List.length_cons, List.length_nil] at h0
      split at h
      · cases h
      · rename_i hn
        split at h
        · cases h
        · rename_i j hj
          have h1 := qual_le hj (by omega)
          split at h
          · cases h
          · rename_i l i hi
            have h2 := tagF_le 9 j [] _ _ h1.2 hi
            split at h
            · rename_i h3
              have h4 := hasL_le h3 (by decide)
              simp only [Except.ok.injEq, Prod.mk.injEq, List.length_cons, List.length_nil] at h h4
              omega
            · split at h
              · rename_i h3
                have h4 := hasL_le h3 (by decide)
                simp only [List.length_cons, List.length_nil] at h4
                split at h
                · cases h
                · rename_i ks a b hk
                  have h5 := kidsF_le (elem_goes s m) _ _ _ _ _ _ _ _ (by omega) (by omega) hk
                  simp only [Except.ok.injEq, Prod.mk.injEq] at h
                  omega
              · cases h
    · cases h
/-- It does not matter how many rounds are allowed, as long as they are enough. -/
theorem kidsF_any {s : List UInt8} {f : Nat → Nat → Except (Nat × Nat) (Tr × Nat × Nat)} (hf : Goes s f) (nm : List UInt8) : ∀ (g g' p n : Nat) (ks : List Tr), p ≤ s.length → s.length - p < g → s.length - p < g' → kidsF f g s nm p n ks = kidsF f g' s nm p n ks
  | 0, g', p, n, ks, hp, h, h' => by omega
  | g + 1, 0, p, n, ks, hp, h, h' => by omega
  | g + 1, g' + 1, p, n, ks, hp, h, h' => by
    unfold kidsF
    split
    · rfl
    · rename_i j hj
      have h1 := misc_le hp hj
      split
      · rfl
      · split
        · split
          · rfl
          · rename_i T i m hi
            have h3 := hf j n T i m h1.2 hi
            exact kidsF_any hf nm g g' i m _ (by omega) (by omega) (by omega)
        · rfl
def kids (m : Nat) (s nm : List UInt8) (p n : Nat) (ks : List Tr) : Except (Nat × Nat) (List Tr × Nat × Nat) := kidsF (elem m s) (s.length + 1) s nm p n ks
theorem kids_err {m : Nat} {s nm : List UInt8} {p n : Nat} {ks : List Tr} {q : Nat} (h : misc s p = .error q) : kids m s nm p n ks = .error (q, 2) := by
  unfold kids kidsF
  rw [h]
theorem kids_end {m : Nat} {s nm : List UInt8} {p n : Nat} {ks : List Tr} {k : Nat} (h : misc s p = .ok k) (h2 : hasL s k [60, 47] = true) : kids m s nm p n ks = (match endTag s k nm with | .error q => .error (q, 2) | .ok j => .ok (ks, j, n)) := by
  unfold kids kidsF
  rw [h]
  simp only [h2, if_true]
  try (cases endTag s k nm <;> rfl)
theorem kids_no {m : Nat} {s nm : List UInt8} {p n : Nat} {ks : List Tr} {k : Nat} (h : misc s p = .ok k) (h2 : hasL s k [60, 47] = false) (h3 : hasL s k [60] = false) : kids m s nm p n ks = .error (k, 2) := by
  unfold kids kidsF
  rw [h]
  simp only [h2, h3, if_false, Bool.false_eq_true]
theorem kids_kid {m : Nat} {s nm : List UInt8} {p n : Nat} {ks : List Tr} {k : Nat} (hp : p ≤ s.length) (h : misc s p = .ok k) (h2 : hasL s k [60, 47] = false) (h3 : hasL s k [60] = true) : kids m s nm p n ks = (match elem m s k n with | .error e => .error e | .ok (T, j, n') => kids m s nm j n' (ks ++ [T])) := by
  have h1 := misc_le hp h
  have hu : kids m s nm p n ks = (match elem m s k n with | .error e => .error e | .ok (T, j, n') => kidsF (elem m s) s.length s nm j n' (ks ++ [T])) := by
    unfold kids
    rw [kidsF, h]
    simp only [h2, h3, if_true, if_false, Bool.false_eq_true]
    try (rcases elem m s k n with e | ⟨T, j, n1⟩ <;> rfl)
  rw [hu]
  cases he : elem m s k n with
  | error e => rfl
  | ok r =>
    obtain ⟨T, j, n'⟩ := r
    have h4 := elem_goes s m k n T j n' h1.2 he
    exact kidsF_any (elem_goes s m) nm _ _ j n' _ (by omega) (by omega) (by omega)
theorem kids_misc {m : Nat} {s nm : List UInt8} {p p' n : Nat} {ks : List Tr} (h : misc s p = misc s p') : kids m s nm p n ks = kids m s nm p' n ks := by
  unfold kids
  rw [kidsF, kidsF, h]
theorem elem_eq (m : Nat) (s : List UInt8) (p n : Nat) : elem (m + 1) s p n = (if hasL s p [60] = true then (if 400 ≤ n then .error (p, 4) else match qual s (p + 1) with
      | none => .error (p + 1, 2)
      | some k => match tagF 9 s k [] with
        | .error e => .error e
        | .ok (l, j) => if hasL s j [47, 62] = true then .ok (mkT (ba (cut s (p + 1) k)) l [] p, j + 2, n + 1) else if hasL s j [62] = true then (match kids m s (cut s (p + 1) k) (j + 1) (n + 1) [] with
            | .error e => .error e
            | .ok (ks, i, n') => .ok (mkT (ba (cut s (p + 1) k)) l ks p, i, n')) else .error (j, 2)) else .error (p, 2)) := by
  rw [elem]
  try rfl
end Xp
end Go.Proofs.YtimecocegnnjjaaDoor
/-
  Plain: an element as a text. It says nothing of any program.
-/
set_option linter.unusedSimpArgs false
set_option linter.unusedVariables false
namespace Go.Proofs.YtimecocegnnjjaaDoor
open Go.RowKit
namespace Xp
def attrP : Tr → List UInt8
  | .agg [.lit (.string x), .lit (.string y)] => 32 :: (x ++ (61 :: 34 :: (Sp.esc true y ++ [34])))
  | _ => []
def attrsP (l : List Tr) : List UInt8 := l.flatMap attrP
/-- An element as a text, of at most so many storeys. -/
def printT : Nat → Tr → List UInt8
  | 0, _ => []
  | n + 1, T => 60 :: (nmT T ++ (attrsP (asT T) ++ (if ksT T = [] then [47, 62] else 62 :: ((ksT T).flatMap (printT n) ++ (60 :: 47 :: (nmT T ++ [62]))))))
theorem attrP_mk (p : ByteArray × ByteArray) : attrP (pairD p) = 32 :: (p.1.data.toList ++ (61 :: 34 :: (Sp.esc true p.2.data.toList ++ [34]))) := rfl
theorem printT_mk (n : Nat) (nm : ByteArray) (l : List (ByteArray × ByteArray)) (ks : List Tr) (p : Int) : printT (n + 1) (mkT nm l ks p) = 60 :: (nm.data.toList ++ (attrsP (l.map pairD) ++ (if ks = [] then [47, 62] else 62 :: (ks.flatMap (printT n) ++ (60 :: 47 :: (nm.data.toList ++ [62])))))) := rfl
theorem attrsP_take {l : List (ByteArray × ByteArray)} {k : Nat} {p : ByteArray × ByteArray} (h : l[k]? = some p) : attrsP ((l.take (k + 1)).map pairD) = attrsP ((l.take k).map pairD) ++ attrP (pairD p) := by
  rw [List.take_add_one, h]
  unfold attrsP
  rw [List.map_append, List.flatMap_append]
  simp
theorem kidsP_take {ks : List Tr} {n k : Nat} {K : Tr} (h : ks[k]? = some K) : (ks.take (k + 1)).flatMap (printT n) = (ks.take k).flatMap (printT n) ++ printT n K := by
  rw [List.take_add_one, h]
  rw [List.flatMap_append]
  simp
theorem attrsP_le {l : List (ByteArray × ByteArray)} (k : Nat) : (attrsP ((l.take k).map pairD)).length ≤ (attrsP (l.map pairD)).length := by
  have h := List.take_append_drop k l
  have : attrsP (l.map pairD) = attrsP ((l.take k).map pairD) ++ attrsP ((l.drop k).map pairD) := by
    unfold attrsP
    rw [← List.flatMap_append, ← List.map_append, h]
  rw [this, List.length_append]
  omega
theorem kidsP_le {ks : List Tr} (n k : Nat) : ((ks.take k).flatMap (printT n)).length ≤ (ks.flatMap (printT n)).length := by
  have : ks.flatMap (printT n) = (ks.take k).flatMap (printT n) ++ (ks.drop k).flatMap (printT n) := by
    rw [← List.flatMap_append, List.take_append_drop]
  rw [this, List.length_append]
  omega
end Xp
theorem Sp.esc_ge (attr : Bool) (l : List UInt8) : l.length ≤ (Sp.esc attr l).length := by
  induction l with
  | nil => exact Nat.zero_le _
  | cons c l ih =>
    have h := Sp.esc_snoc attr [] c
    have hc : Sp.esc attr (c :: l) = Sp.esc1 attr c ++ Sp.esc attr l := by
      unfold Sp.esc
      simp
    rw [hc, List.length_append]
    have h1 : 1 ≤ (Sp.esc1 attr c).length := by
      unfold Sp.esc1
      split
      · simp
      · rename_i hh
        cases hw : Sp.writ (c.toNat : Int) attr with
        | nil => exact absurd hw hh
        | cons a t => simp
    simp only [List.length_cons]
    omega
end Go.Proofs.YtimecocegnnjjaaDoor
/-
  A struct behind a pointer: what a method that writes to it keeps; the reader's five cells.
-/
set_option linter.unusedVariables false
namespace Go.Proofs.YtimecocegnnjjaaDoor
open Go.RowKit
/-- Of what was there nothing has turned, but the blocks that S names. -/
structure Keep (S : Nat → Prop) (w w' : World) : Prop where
  os : w'.os = w.os
  tape : w'.tape = w.tape
  output : w'.output = w.output
  size : w.heap.size ≤ w'.heap.size
  block : ∀ k, k < w.heap.size → ¬ S k → w'.heap[k]? = w.heap[k]?
theorem Keep.refl (S : Nat → Prop) (w : World) : Keep S w w := ⟨rfl, rfl, rfl, Nat.le_refl _, fun _ _ _ => rfl⟩
theorem Keep.trans {S : Nat → Prop} {a b c : World} (h : Keep S a b) (k : Keep S b c) : Keep S a c :=
  ⟨k.os.trans h.os, k.tape.trans h.tape, k.output.trans h.output, Nat.le_trans h.size k.size, fun i hi hs => (k.block i (Nat.lt_of_lt_of_le hi h.size) hs).trans (h.block i hi hs)⟩
theorem Keep.of_below {S : Nat → Prop} {w w' : World} (h : Below w.heap.size w w') : Keep S w w' := ⟨h.os, h.tape, h.output, h.size, fun k hk _ => h.block k hk⟩
theorem Keep.set {S : Nat → Prop} (w : World) (a : Addr) (u : Value) (h : S a.block) : Keep S w (w.setCell a u) :=
  ⟨rfl, rfl, rfl, by simp [World.setCell], fun k hk hs => Below.heap_setCell _ _ _ _ (fun e => hs (e ▸ h))⟩
theorem Keep.wide {S R : Nat → Prop} {w w' : World} (h : Keep S w w') (hs : ∀ k, k < w.heap.size → S k → R k) : Keep R w w' :=
  ⟨h.os, h.tape, h.output, h.size, fun k hk hr => h.block k hk (fun e => hr (hs k hk e))⟩
/-- Blocks that the call itself made do not count. -/
theorem Keep.below {S : Nat → Prop} {w v w' : World} (h : Below w.heap.size w v) (k : Keep S v w') (hs : ∀ i, i < w.heap.size → ¬ S i) : Below w.heap.size w w' :=
  ⟨k.os.trans h.os, k.tape.trans h.tape, k.output.trans h.output, Nat.le_trans h.size k.size, fun i hi => (k.block i (Nat.lt_of_lt_of_le hi h.size) (hs i hi)).trans (h.block i hi)⟩
theorem Keep.cell {S : Nat → Prop} {w w' : World} (h : Keep S w w') {a : Addr} (hl : a.block < w.heap.size) (hs : ¬ S a.block) : w'.cell? a = w.cell? a := World.cell?_of_block (w := w) (h.block a.block hl hs)
/-- At block b lie these cells, and none is frozen. -/
def Lies (w : World) (b : Nat) (t : TypeId) (C : Array Value) : Prop := w.heap[b]? = some (.cells C t (0, 0))
theorem Lies.lt {w : World} {b : Nat} {t : TypeId} {C : Array Value} (h : Lies w b t C) : b < w.heap.size := by
  rcases Nat.lt_or_ge b w.heap.size with h' | h'
  · exact h'
  · unfold Lies at h
    rw [Array.getElem?_eq_none h'] at h
    cases h
theorem Lies.cell {w : World} {b : Nat} {t : TypeId} {C : Array Value} (h : Lies w b t C) (k : Nat) : w.cell? ⟨b, k, none⟩ = C[k]? := Lib.cell_of_heap h k
theorem Lies.free {w : World} {b : Nat} {t : TypeId} {C : Array Value} (h : Lies w b t C) (k : Nat) : w.frozen? ⟨b, k, none⟩ = false := by
  unfold World.frozen?
  rw [show w.heap[(⟨b, k, none⟩ : Addr).block]? = some (.cells C t (0, 0)) from h]
  simp
theorem Lies.set {w : World} {b : Nat} {t : TypeId} {C : Array Value} (h : Lies w b t C) (k : Nat) (u : Value) : Lies (w.setCell ⟨b, k, none⟩ u) b t (C.setIfInBounds k u) := by
  unfold Lies World.setCell at *
  simp only [Array.getElem?_modify, if_true]
  rw [h]
  rfl
theorem Lies.off {w : World} {b : Nat} {t : TypeId} {C : Array Value} (h : Lies w b t C) (a : Addr) (u : Value) (hn : b ≠ a.block) : Lies (w.setCell a u) b t C := by
  unfold Lies at *
  rw [Below.heap_setCell _ _ _ _ hn, h]
theorem Lies.keep {S : Nat → Prop} {w w' : World} {b : Nat} {t : TypeId} {C : Array Value} (h : Lies w b t C) (k : Keep S w w') (hs : ¬ S b) : Lies w' b t C := by
  have hl := h.lt
  unfold Lies at *
  rw [k.block b hl hs, h]
theorem Lies.below {w w' : World} {b : Nat} {t : TypeId} {C : Array Value} (h : Lies w b t C) (k : Below w.heap.size w w') : Lies w' b t C := h.keep (S := fun _ => False) (Keep.of_below k) (fun e => e)
theorem Lies.new (w : World) (t : TypeId) (C : Array Value) : Lies (w.alloc (.cells C t)) w.heap.size t C := by
  show (w.heap.push _)[w.heap.size]? = _
  simp
end Go.Proofs.YtimecocegnnjjaaDoor
