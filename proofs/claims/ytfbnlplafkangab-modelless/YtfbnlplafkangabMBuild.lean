/-
  A model that the law itself builds, item by item.
-/
import Derived.Test.YtfbnlplafkangabMKnown
set_option linter.unusedSimpArgs false
set_option linter.unusedVariables false
namespace Go.Proofs.Ytfbnlplafkangab
open Go.RowKit
def flatI (L : List Mp.Item) : List Value := (L.map fun x => itemC x nilS nilS).flatten
theorem flatI_app (L M : List Mp.Item) : flatI (L ++ M) = flatI L ++ flatI M := by unfold flatI; rw [List.map_append, List.flatten_append]
def pI : Mp.Item := ⟨⟨#[112]⟩, 1, Mp.e0, false, 0, [], []⟩
def fF : List ByteArray := [⟨#[102]⟩]
/-- The law's model at block B: its two rows are the law's own. -/
structure MB (w : World) (H B : Nat) (fv iv : Value) (fs : List ByteArray) (L : List Mp.Item) : Prop where
  lies : Lies w B 25 #[fv, iv]
  files : w.ownsRow H 9 1 fv fs.length (fs.map Value.string)
  items : w.ownsRow H 29 7 iv L.length (flatI L)
theorem MB.below {w w' : World} {H B : Nat} {fv iv : Value} {fs : List ByteArray} {L : List Mp.Item} (h : MB w H B fv iv fs L) (hb : Below w.heap.size w w') : MB w' H B fv iv fs L :=
  ⟨h.lies.below hb, own_below h.files hb, own_below h.items hb⟩
theorem MB.c0 {w : World} {H B : Nat} {fv iv : Value} {fs : List ByteArray} {L : List Mp.Item} (h : MB w H B fv iv fs L) : w.cell? ⟨B, 0, none⟩ = some fv ∧ w.cell? ⟨B, 1, none⟩ = some iv ∧ w.frozen? ⟨B, 0, none⟩ = false ∧ w.frozen? ⟨B, 1, none⟩ = false :=
  ⟨h.lies.cell 0, h.lies.cell 1, h.lies.free 0, h.lies.free 1⟩
/-- Behind an append to the items all else is as it was. -/
theorem MB.grewI {w w1 w3 : World} {H B : Nat} {fv iv : Value} {fs : List ByteArray} {L : List Mp.Item} (h : MB w H B fv iv fs L) (hb : Below w.heap.size w w1) (hg : w1.grownBy w3 iv.ownBlock) : Lies w3 B 25 #[fv, iv] ∧ w3.ownsRow H 9 1 fv fs.length (fs.map Value.string) := by
  have h1 := h.below hb
  refine ⟨h1.lies.keep (Keep.grown hg) (own_ne h1.items h1.lies (by decide)), own_keep h1.files fun g hv => hg.block g (own_lt h1.files hv).1 fun e => ?_⟩
  exact own_ne2 h1.items h1.files (by decide) g e.symm hv
theorem MB.grewF {w w1 w3 : World} {H B : Nat} {fv iv : Value} {fs : List ByteArray} {L : List Mp.Item} (h : MB w H B fv iv fs L) (hb : Below w.heap.size w w1) (hg : w1.grownBy w3 fv.ownBlock) : Lies w3 B 25 #[fv, iv] ∧ w3.ownsRow H 29 7 iv L.length (flatI L) := by
  have h1 := h.below hb
  refine ⟨h1.lies.keep (Keep.grown hg) (own_ne h1.files h1.lies (by decide)), own_keep h1.items fun g hv => hg.block g (own_lt h1.items hv).1 fun e => ?_⟩
  exact own_ne2 h1.files h1.items (by decide) g e.symm hv
theorem own_off {w : World} {H : Nat} {e : TypeId} {z : Nat} {v : Value} {n : Nat} {xs : List Value} {B : Nat} {t : TypeId} {C : Array Value} (h : w.ownsRow H e z v n xs) (hl : Lies w B t C) (ht : t ≠ e) (k : Nat) (u : Value) : (w.setCell ⟨B, k, none⟩ u).ownsRow H e z v n xs :=
  own_keep h fun g hv => Below.heap_setCell _ _ _ _ (fun e' => own_ne h hl ht (hv.trans (by rw [e'])))
theorem MB.putI {w3 : World} {H B : Nat} {fv iv iv' : Value} {fs : List ByteArray} {L' : List Mp.Item} {n : Nat} {xs : List Value} (hl : Lies w3 B 25 #[fv, iv]) (hf : w3.ownsRow H 9 1 fv fs.length (fs.map Value.string)) (hi : w3.ownsRow H 29 7 iv' n xs) (hn : n = L'.length) (hx : xs = flatI L') : MB (w3.setCell ⟨B, 1, none⟩ iv') H B fv iv' fs L' := by
  subst hn
  subst hx
  exact ⟨hl.set 1 iv', own_off hf hl (by decide) _ _, own_off hi hl (by decide) _ _⟩
theorem MB.putF {w3 : World} {H B : Nat} {fv iv fv' : Value} {fs' : List ByteArray} {L : List Mp.Item} {n : Nat} {xs : List Value} (hl : Lies w3 B 25 #[fv, iv]) (hi : w3.ownsRow H 29 7 iv L.length (flatI L)) (hf : w3.ownsRow H 9 1 fv' n xs) (hn : n = fs'.length) (hx : xs = fs'.map Value.string) : MB (w3.setCell ⟨B, 0, none⟩ fv') H B fv' iv fs' L := by
  subst hn
  subst hx
  exact ⟨hl.set 0 fv', own_off hf hl (by decide) _ _, own_off hi hl (by decide) _ _⟩
/-- Its rows as a model's. -/
theorem MB.at {w : World} {H B : Nat} {fa ia : Option Addr} {nf ni fc ic : Nat} {fs : List ByteArray} {L : List Mp.Item} (h : MB w H B (.slice fa nf fc) (.slice ia ni ic) fs L) (hf : fs.length ≤ 1000) (hi : L.length ≤ 1000) (hfz : ∀ s ∈ fs, s.size ≤ 1000) (hiz : ∀ x ∈ L, x.id.size ≤ 1000 ∧ x.parent.size ≤ 1000 ∧ x.entry = [] ∧ x.exit = []) : nf = fs.length ∧ ni = L.length ∧ ModelAt w fa fc ia ic ⟨fs, L⟩ := by
  obtain ⟨rfl, _⟩ := own_cap h.files
  obtain ⟨rfl, _⟩ := own_cap h.items
  refine ⟨rfl, rfl, frow_of_own h.files rfl (by omega) (fun s hs => by have := hfz s hs; omega), irow_bare h.items rfl (by omega) (fun x hx => ?_)⟩
  obtain ⟨h1, h2, h3, h4⟩ := hiz x hx
  exact ⟨by omega, by omega, h3, h4⟩
set_option maxHeartbeats 2000000 in
theorem plan0D (w : World) : Calls Try.prog 12 #[.slice none 0 0] w fun e w' => Below w.heap.size w w' ∧ ∃ fb ib, e = .returned (.agg #[.slice (some ⟨fb, 0, none⟩) 1 1, .slice (some ⟨ib, 0, none⟩) 1 1]) ∧ w'.ownsRow w.heap.size 9 1 (.slice (some ⟨fb, 0, none⟩) 1 1) 1 (fF.map Value.string) ∧ w'.ownsRow w.heap.size 29 7 (.slice (some ⟨ib, 0, none⟩) 1 1) 1 (flatI [pI]) := by
  go_enter Try.func12, Try.ntmps12
  go_wp2_with fail
  generalize hW1 : w.alloc _ = W1
  obtain ⟨B1, L1, z1⟩ := of_alloc hW1
  generalize hW2 : W1.alloc _ = W2
  obtain ⟨B2, L2, z2⟩ := of_alloc hW2
  generalize hW3 : W2.alloc _ = W3
  obtain ⟨B3, L3, z3⟩ := of_alloc hW3
  rw [z1] at L2 z2
  rw [z2] at L3 z3
  have BT1 : Below W1.heap.size W1 W3 := B2.trans (B3.mono B2.size)
  have r0 := (L1.below BT1).cell 0
  have r1 := (L1.below BT1).cell 1
  simp only [List.getElem?_toArray, List.getElem?_cons_zero, List.getElem?_cons_succ] at r0 r1
  refine bodyPost_ret (v := .agg #[.slice (some ⟨w.heap.size + 1, 0, none⟩) 1 1, .slice (some ⟨w.heap.size + 1 + 1, 0, none⟩) 1 1]) (by simp [results, Try.results12, go_sem, r0, r1]) rfl ⟨B1.trans (BT1.mono B1.size), _, _, rfl, ?_, ?_⟩
  · exact own_of_lies (n := 1) (z := 1) (L2.below B3) (by omega) rfl (by decide)
  · exact own_of_lies (n := 1) (z := 7) L3 (by omega) rfl (by decide)
end Go.Proofs.Ytfbnlplafkangab
