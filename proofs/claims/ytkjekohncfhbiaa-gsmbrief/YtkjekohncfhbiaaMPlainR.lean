/-
  What the document asks of models: plain functions.
-/
import Derived.Test.YtkjekohncfhbiaaPartA
set_option linter.unusedVariables false
namespace Go.Proofs.Ytkjekohncfhbiaa.Mp
def parAt (l : List Item) (i : Nat) : BA := match l[i]? with
  | some x => x.parent
  | none => e0
def idAt (l : List Item) (i : Nat) : BA := match l[i]? with
  | some x => x.id
  | none => e0
def kindAt (l : List Item) (i : Nat) : Int := match l[i]? with
  | some x => x.kind
  | none => 0
def upZ (l : List Item) (i : Int) : Int := placeZ l (parAt l i.toNat)
def depthG (l : List Item) : Nat → Int → Nat → Int
  | 0, _, _ => -1
  | f + 1, i, n => if 0 < i then depthG l f (upZ l i) (n + 1) else if i < 0 then -1 else n
def depthZ (l : List Item) (i : Int) : Int := depthG l (l.length + 1) i 0
def withinG (l : List Item) (s : BA) : Nat → Int → Bool
  | 0, _ => false
  | f + 1, i => if i < 0 then false else if idAt l i.toNat = s then true else withinG l s f (upZ l i)
def withinZ (l : List Item) (i : Int) (s : BA) : Bool := withinG l s (l.length + 1) i
def nestedR (l : List Item) (i : Nat) (x : Item) : Bool :=
  !decide (x.parent = e0) && decide (0 ≤ placeZ l x.parent) && decide (placeZ l x.parent < i) && decide (kindAt l (placeZ l x.parent).toNat = 1) && withinZ l ((i : Int) - 1) x.parent && decide (1 ≤ depthZ l i) && decide (depthZ l i ≤ 5)
def itemR (l : List Item) (i : Nat) (x : Item) : Bool :=
  isN x.id && decide (placeZ l x.id = i) && kindB x.kind && ticksB x && waitB x && (if i = 0 then planB x else nestedR l i x)
def itemsF (l : List Item) : Nat → List Item → Bool
  | _, [] => true
  | k, x :: r => itemR l k x && itemsF l (k + 1) r
def bothS (m : Model) (x : Item) : Bool := sentsB m x.entry && sentsB m x.exit
def isR (m : Model) : Bool := decide (m.files.length ≤ 6) && decide (1 ≤ m.items.length) && decide (m.items.length ≤ 16) && namesF [] m.files && itemsF m.items 0 m.items && m.items.all (bothS m)
theorem placeZ_ge (l : List Item) (s : BA) : -1 ≤ placeZ l s := by
  unfold placeZ
  cases placeO l s with
  | none => exact Int.le_refl _
  | some k => show (-1 : Int) ≤ k; omega
theorem placeZ_lt (l : List Item) (s : BA) : placeZ l s < l.length ∨ placeZ l s = -1 := by
  unfold placeZ
  cases h : placeO l s with
  | none => exact .inr rfl
  | some k =>
    obtain ⟨x, hx, _⟩ := find_some_inv h
    have := (List.getElem?_eq_some_iff.1 hx).1
    exact .inl (by show (k : Int) < _; omega)
theorem upZ_ge (l : List Item) (i : Int) : -1 ≤ upZ l i := placeZ_ge _ _
theorem upZ_lt (l : List Item) (i : Int) (h : 0 < l.length) : upZ l i < l.length := by
  rcases placeZ_lt l (parAt l i.toNat) with h1 | h1
  · exact h1
  · unfold upZ
    omega
end Go.Proofs.Ytkjekohncfhbiaa.Mp
