/-
  A model that the law itself builds, item by item.
-/
import Derived.Test.YtdcahnaempabcabGreatMKnown
set_option linter.unusedSimpArgs false
set_option linter.unusedVariables false
namespace Go.Proofs.YtdcahnaempabcabGreat
open Go.RowKit
set_option maxRecDepth 100000
def flatI (L : List Mp.Item) : List Value := (L.map fun x => itemC x nilS nilS).flatten
theorem flatI_app (L M : List Mp.Item) : flatI (L ++ M) = flatI L ++ flatI M := by unfold flatI; rw [List.map_append, List.flatten_append]
def pI : Mp.Item := ⟨⟨#[112]⟩, 1, Mp.e0, false, 0, [], []⟩
def fF : List ByteArray := [⟨#[102]⟩]
/-- The law's model at block B: its two rows are the law's own. -/
structure MB (w : World) (H B : Nat) (fv iv : Value) (fs : List ByteArray) (L : List Mp.Item) : Prop where
  lies : Lies w B 32 #[fv, iv]
  files : w.ownsRow H 9 1 fv fs.length (fs.map Value.string)
  items : w.ownsRow H 29 7 iv L.length (flatI L)
theorem MB.below {w w' : World} {H B : Nat} {fv iv : Value} {fs : List ByteArray} {L : List Mp.Item} (h : MB w H B fv iv fs L) (hb : Below w.heap.size w w') : MB w' H B fv iv fs L :=
  ⟨h.lies.below hb, own_below h.files hb, own_below h.items hb⟩
theorem MB.c0 {w : World} {H B : Nat} {fv iv : Value} {fs : List ByteArray} {L : List Mp.Item} (h : MB w H B fv iv fs L) : w.cell? ⟨B, 0, none⟩ = some fv ∧ w.cell? ⟨B, 1, none⟩ = some iv ∧ w.frozen? ⟨B, 0, none⟩ = false ∧ w.frozen? ⟨B, 1, none⟩ = false :=
  ⟨h.lies.cell 0, h.lies.cell 1, h.lies.free 0, h.lies.free 1⟩
/-- Behind an append to the items all else is as it was. -/
theorem MB.grewI {w w1 w3 : World} {H B : Nat} {fv iv : Value} {fs : List ByteArray} {L : List Mp.Item} (h : MB w H B fv iv fs L) (hb : Below w.heap.size w w1) (hg : w1.grownBy w3 iv.ownBlock) : Lies w3 B 32 #[fv, iv] ∧ w3.ownsRow H 9 1 fv fs.length (fs.map Value.string) := by
  have h1 := h.below hb
  refine ⟨h1.lies.keep (Keep.grown hg) (own_ne h1.items h1.lies (by decide)), own_keep h1.files fun g hv => hg.block g (own_lt h1.files hv).1 fun e => ?_⟩
  exact own_ne2 h1.items h1.files (by decide) g e.symm hv
theorem MB.grewF {w w1 w3 : World} {H B : Nat} {fv iv : Value} {fs : List ByteArray} {L : List Mp.Item} (h : MB w H B fv iv fs L) (hb : Below w.heap.size w w1) (hg : w1.grownBy w3 fv.ownBlock) : Lies w3 B 32 #[fv, iv] ∧ w3.ownsRow H 29 7 iv L.length (flatI L) := by
  have h1 := h.below hb
  refine ⟨h1.lies.keep (Keep.grown hg) (own_ne h1.files h1.lies (by decide)), own_keep h1.items fun g hv => hg.block g (own_lt h1.items hv).1 fun e => ?_⟩
  exact own_ne2 h1.files h1.items (by decide) g e.symm hv
theorem own_off {w : World} {H : Nat} {e : TypeId} {z : Nat} {v : Value} {n : Nat} {xs : List Value} {B : Nat} {t : TypeId} {C : Array Value} (h : w.ownsRow H e z v n xs) (hl : Lies w B t C) (ht : t ≠ e) (k : Nat) (u : Value) : (w.setCell ⟨B, k, none⟩ u).ownsRow H e z v n xs :=
  own_keep h fun g hv => Below.heap_setCell _ _ _ _ (fun e' => own_ne h hl ht (hv.trans (by rw [e'])))
theorem MB.putI {w3 : World} {H B : Nat} {fv iv iv' : Value} {fs : List ByteArray} {L' : List Mp.Item} {n : Nat} {xs : List Value} (hl : Lies w3 B 32 #[fv, iv]) (hf : w3.ownsRow H 9 1 fv fs.length (fs.map Value.string)) (hi : w3.ownsRow H 29 7 iv' n xs) (hn : n = L'.length) (hx : xs = flatI L') : MB (w3.setCell ⟨B, 1, none⟩ iv') H B fv iv' fs L' := by
  subst hn
  subst hx
  exact ⟨hl.set 1 iv', own_off hf hl (by decide) _ _, own_off hi hl (by decide) _ _⟩
theorem MB.putF {w3 : World} {H B : Nat} {fv iv fv' : Value} {fs' : List ByteArray} {L : List Mp.Item} {n : Nat} {xs : List Value} (hl : Lies w3 B 32 #[fv, iv]) (hi : w3.ownsRow H 29 7 iv L.length (flatI L)) (hf : w3.ownsRow H 9 1 fv' n xs) (hn : n = fs'.length) (hx : xs = fs'.map Value.string) : MB (w3.setCell ⟨B, 0, none⟩ fv') H B fv' iv fs' L := by
  subst hn
  subst hx
  exact ⟨hl.set 0 fv', own_off hf hl (by decide) _ _, own_off hi hl (by decide) _ _⟩
/-- Its rows as a model's. -/
theorem MB.at {w : World} {H B : Nat} {fa ia : Option Addr} {nf ni fc ic : Nat} {fs : List ByteArray} {L : List Mp.Item} (h : MB w H B (.slice fa nf fc) (.slice ia ni ic) fs L) (hf : fs.length ≤ 1000) (hi : L.length ≤ 1000) (hfz : ∀ s ∈ fs, s.size ≤ 1000) (hiz : ∀ x ∈ L, x.id.size ≤ 1000 ∧ x.parent.size ≤ 1000 ∧ x.entry = [] ∧ x.exit = []) : nf = fs.length ∧ ni = L.length ∧ ModelAt w fa fc ia ic ⟨fs, L⟩ := by
  obtain ⟨rfl, _⟩ := own_cap h.files
  obtain ⟨rfl, _⟩ := own_cap h.items
  refine ⟨rfl, rfl, frow_of_own h.files rfl (by omega) (fun s hs => by have := hfz s hs; omega), irow_bare h.items rfl (by omega) (fun x hx => ?_)⟩
  obtain ⟨h1, h2, h3, h4⟩ := hiz x hx
  exact ⟨by omega, by omega, h3, h4⟩
end Go.Proofs.YtdcahnaempabcabGreat
