/-
  Elements in memory, as trees.
-/
import Derived.Test.YtkjekohncfhbiabXTree
import Derived.Lib.Builder
set_option linter.unusedVariables false
namespace Go.Proofs.Ytkjekohncfhbiab
open Go.RowKit
abbrev Tr := DataW Unit
namespace Xp
def pairD (p : ByteArray × ByteArray) : Tr := .agg [.lit (.string p.1.data.toList), .lit (.string p.2.data.toList)]
def mkT (nm : ByteArray) (l : List (ByteArray × ByteArray)) (ks : List Tr) (p : Int) : Tr := .agg [.lit (.string nm.data.toList), .slice (l.map pairD) [], .slice ks [], .lit (.int .i64 p)]
def nmT : Tr → List UInt8
  | .agg [.lit (.string x), _, _, _] => x
  | _ => []
def asT : Tr → List Tr
  | .agg [_, .slice x _, _, _] => x
  | _ => []
def ksT : Tr → List Tr
  | .agg [_, _, .slice x _, _] => x
  | _ => []
def atT : Tr → Int
  | .agg [_, _, _, .lit (.int _ p)] => p
  | _ => 0
theorem nm_mk (nm : ByteArray) (l : List (ByteArray × ByteArray)) (ks : List Tr) (p : Int) : nmT (mkT nm l ks p) = nm.data.toList := rfl
theorem as_mk (nm : ByteArray) (l : List (ByteArray × ByteArray)) (ks : List Tr) (p : Int) : asT (mkT nm l ks p) = l.map pairD := rfl
theorem ks_mk (nm : ByteArray) (l : List (ByteArray × ByteArray)) (ks : List Tr) (p : Int) : ksT (mkT nm l ks p) = ks := rfl
theorem at_mk (nm : ByteArray) (l : List (ByteArray × ByteArray)) (ks : List Tr) (p : Int) : atT (mkT nm l ks p) = p := rfl
theorem ba_inj {a b : ByteArray} (h : a.data.toList = b.data.toList) : a = b := by
  obtain ⟨⟨x⟩⟩ := a
  obtain ⟨⟨y⟩⟩ := b
  have : x = y := h
  rw [this]
theorem pairD_inj {p q : ByteArray × ByteArray} (h : pairD p = pairD q) : p = q := by
  simp only [pairD, DataW.agg.injEq, List.cons.injEq, DataW.lit.injEq, Lit.string.injEq, and_true] at h
  exact Prod.ext (ba_inj h.1) (ba_inj h.2)
theorem pairs_inj : ∀ {l m : List (ByteArray × ByteArray)}, l.map pairD = m.map pairD → l = m
  | [], [], _ => rfl
  | [], _ :: _, h => by cases h
  | _ :: _, [], h => by cases h
  | a :: l, b :: m, h => by
    simp only [List.map_cons, List.cons.injEq] at h
    rw [pairD_inj h.1, pairs_inj h.2]
/-- 'b' at every place, up to the shorter end; the lengths are asked apart. -/
def all2 (f : Tr → Tr → Bool) : List Tr → List Tr → Bool
  | a :: l, b :: m => f a b && all2 f l m
  | _, _ => true
/-- Are two trees one, but for the places? -/
def sameT : Nat → Tr → Tr → Prop
  | 0, _, _ => True
  | n + 1, a, b => nmT a = nmT b ∧ asT a = asT b ∧ (ksT a).length = (ksT b).length ∧ ∀ (i : Nat) (x y : Tr), (ksT a)[i]? = some x → (ksT b)[i]? = some y → sameT n x y
theorem sameT_succ (n : Nat) (a b : Tr) : sameT (n + 1) a b = (nmT a = nmT b ∧ asT a = asT b ∧ (ksT a).length = (ksT b).length ∧ ∀ (i : Nat) (x y : Tr), (ksT a)[i]? = some x → (ksT b)[i]? = some y → sameT n x y) := rfl
end Xp
/-- Four cells of an element, at block b from place o on. -/
def Four (w : World) (b o : Nat) (c0 c1 c2 c3 : Value) : Prop :=
  w.cell? ⟨b, o, none⟩ = some c0 ∧ w.cell? ⟨b, o + 1, none⟩ = some c1 ∧ w.cell? ⟨b, o + 2, none⟩ = some c2 ∧ w.cell? ⟨b, o + 3, none⟩ = some c3
theorem Four.below {w w' : World} {b o : Nat} {c0 c1 c2 c3 : Value} (h : Four w b o c0 c1 c2 c3) (hb : Below w.heap.size w w') : Four w' b o c0 c1 c2 c3 := by
  obtain ⟨h0, h1, h2, h3⟩ := h
  refine ⟨?_, ?_, ?_, ?_⟩
  · rw [hb.cell (cell_lt h0)]; exact h0
  · rw [hb.cell (cell_lt h1)]; exact h1
  · rw [hb.cell (cell_lt h2)]; exact h2
  · rw [hb.cell (cell_lt h3)]; exact h3
/-- These four values are an element's, of at most so many storeys: T. -/
def EIn (w : World) : Nat → Value → Value → Value → Value → Tr → Prop
  | 0, _, _, _, _, _ => False
  | n + 1, c0, c1, c2, c3, T => ∃ (nm : ByteArray) (p : Int) (l : List (ByteArray × ByteArray)) (ks : List Tr), c0 = .string nm ∧ c3 = .int .i64 p ∧ T = Xp.mkT nm l ks p ∧ nm.size ≤ 140737488355328 ∧ ARow w c1 l ∧
      ∃ b o, Row c2 ks.length b o ∧ ks.length ≤ 1000000000000 ∧ ∀ i K, ks[i]? = some K → ∃ d0 d1 d2 d3, Four w b (o + 4 * i) d0 d1 d2 d3 ∧ EIn w n d0 d1 d2 d3 K
theorem EIn.below {w w' : World} (hb : Below w.heap.size w w') : ∀ {n : Nat} {c0 c1 c2 c3 : Value} {T : Tr}, EIn w n c0 c1 c2 c3 T → EIn w' n c0 c1 c2 c3 T
  | 0, _, _, _, _, _, h => h
  | n + 1, _, _, _, _, _, ⟨nm, p, l, ks, h0, h3, hT, hs, ha, b, o, hr, hl, hk⟩ => by
    refine ⟨nm, p, l, ks, h0, h3, hT, hs, ha.below hb, b, o, hr, hl, fun i K hK => ?_⟩
    obtain ⟨d0, d1, d2, d3, hf, he⟩ := hk i K hK
    exact ⟨d0, d1, d2, d3, hf.below hb, EIn.below hb he⟩
theorem EIn.succ {w : World} : ∀ {n : Nat} {c0 c1 c2 c3 : Value} {T : Tr}, EIn w n c0 c1 c2 c3 T → EIn w (n + 1) c0 c1 c2 c3 T
  | 0, _, _, _, _, _, h => h.elim
  | n + 1, _, _, _, _, _, ⟨nm, p, l, ks, h0, h3, hT, hs, ha, b, o, hr, hl, hk⟩ => by
    refine ⟨nm, p, l, ks, h0, h3, hT, hs, ha, b, o, hr, hl, fun i K hK => ?_⟩
    obtain ⟨d0, d1, d2, d3, hf, he⟩ := hk i K hK
    exact ⟨d0, d1, d2, d3, hf, EIn.succ he⟩
end Go.Proofs.Ytkjekohncfhbiab
