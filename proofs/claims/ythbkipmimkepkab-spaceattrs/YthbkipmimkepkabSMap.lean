/-
  The map of spaces: what it holds, as a function; look-up and store.
-/
import Derived.Test.YthbkipmimkepkabSRow
import Derived.Maps.OwnOps
import Derived.Maps.Views
set_option linter.unusedSimpArgs false
set_option linter.unusedVariables false
namespace Go.Proofs.Ythbkipmimkepkab
open Go.RowKit Go.Maps
abbrev Bind := ByteArray × Bool
abbrev Env := ByteArray → Bind
abbrev e0 : ByteArray := ⟨#[]⟩
def bindV (x : Bind) : Value := .agg #[.string x.1, .bool x.2]
def bindD (x : Bind) : Tr := .agg [.lit (.string x.1.data.toList), .lit (.bool x.2)]
def bindR : Value → Option (Tr × List MemPlace)
  | .agg ⟨[.string s, .bool b]⟩ => some (bindD (s, b), [])
  | _ => none
theorem bindR_mk (x : Bind) : bindR (bindV x) = some (bindD x, []) := rfl
theorem bindR_inv {v : Value} {ps : List MemPlace} {x : Bind} (h : bindR v = some (bindD x, ps)) : v = bindV x := by
  unfold bindR at h
  split at h
  · rename_i s b
    simp only [Option.some.injEq, Prod.mk.injEq, bindD, DataW.agg.injEq, List.cons.injEq, DataW.lit.injEq, Lit.string.injEq, Lit.bool.injEq, and_true] at h
    obtain ⟨⟨h1, h2⟩, _⟩ := h
    obtain ⟨x1, x2⟩ := x
    have := Xp.ba_inj h1
    subst this
    subst h2
    rfl
  · cases h
def upd (G : Env) (k : ByteArray) (x : Bind) : Env := fun j => if j = k then x else G j
theorem upd_same (G : Env) (k : ByteArray) (x : Bind) : upd G k x k = x := if_pos rfl
theorem upd_other (G : Env) {k j : ByteArray} (x : Bind) (h : j ≠ k) : upd G k x j = G j := if_neg h
theorem upd_back (G : Env) (k : ByteArray) (x : Bind) : upd (upd G k x) k (G k) = G := by
  funext j
  by_cases h : j = k
  · rw [h, upd_same]
  · rw [upd_other _ _ h, upd_other _ _ h]
/-- Block b is a map of at most n entries that holds G. -/
def MIn (w : World) (b n : Nat) (G : Env) : Prop :=
  ∃ D : Tr, w.ownsMap Try.prog 9 bindR b n D ∧ ∀ k : ByteArray, D.atKey (.string k.data.toList) (bindD (e0, false)) = bindD (G k)
theorem MIn.lt {w : World} {b n : Nat} {G : Env} (h : MIn w b n G) : b < w.heap.size := by
  obtain ⟨D, h, _⟩ := h
  exact h.lt
theorem MIn.keep {w w' : World} {b n : Nat} {G : Env} (h : MIn w b n G) (hk : w'.heap[b]? = w.heap[b]?) : MIn w' b n G := by
  obtain ⟨D, ⟨es, clock, hb, F, hs, hD⟩, hG⟩ := h
  exact ⟨D, ⟨es, clock, hk.trans hb, F, hs, hD⟩, hG⟩
theorem MIn.ne {w : World} {b n : Nat} {G : Env} {k : Nat} {t : TypeId} {C : Array Value} (h : MIn w b n G) (hl : Lies w k t C) : k ≠ b := by
  rintro rfl
  obtain ⟨D, ⟨es, clock, hb, _⟩, _⟩ := h
  unfold Lies at hl
  rw [hl] at hb
  cases hb
theorem MIn.ne_own {w : World} {b n : Nat} {G : Env} {H : Nat} {e : TypeId} {z : Nat} {v : Value} {m : Nat} {xs : List Value} (h : MIn w b n G) (ho : w.ownsRow H e z v m xs) : v.ownBlock ≠ some b := by
  intro hv
  obtain ⟨_, cur, _, _, h2, _⟩ := own_heap ho hv
  exact h.ne (k := b) (C := cur) (t := e) h2 rfl
theorem keyS : Keyed Try.prog 9 := string_keyed Try.underlying9
theorem zeroB (w : World) : (zeroValue 43).run Try.prog w = .ok (bindV (e0, false)) w := by kernel_rfl
theorem MIn.look {w : World} {b n : Nat} {G : Env} (h : MIn w b n G) (k : ByteArray) (hk : k.size ≤ 1000000) :
    (Instr.lookup 44 (.map (some b)) (.string k) false).run Try.prog w = .ok (bindV (G k)) w := by
  obtain ⟨D, ho, hG⟩ := h
  obtain ⟨v, ps, hr, hv⟩ := ho.lookup (t := 44) keyS Try.underlying44 (zeroB w) (bindR_mk (e0, false)) (WideMaps.keyOf_string_mk Try.underlying9 (s := k) (by unfold maxLen; omega))
  rw [hG k] at hv
  rw [hr, bindR_inv hv]
theorem own_isMap {w : World} {P : Program} {k : TypeId} {R : Value → Option (Tr × List MemPlace)} {b n : Nat} {D : Tr} (h : w.ownsMap P k R b n D) : IsMap D := by
  obtain ⟨es, clock, _, _, _, hD⟩ := h
  exact ⟨_, hD⟩
theorem MIn.store {w : World} {b n : Nat} {G : Env} (h : MIn w b n G) (hn : n ≤ 1000000000) (k : ByteArray) (hk : k.size ≤ 1000000) (x : Bind) :
    ∃ w', (Instr.mapUpdate 44 (.map (some b)) (.string k) (.agg #[.string x.1, .bool x.2])).run Try.prog w = .ok () w' ∧ MIn w' b (n + 1) (upd G k x) ∧ w.grownBy w' (some b) := by
  obtain ⟨D, ho, hG⟩ := h
  obtain ⟨w', hr, h1, h2⟩ := ho.update (t := 44) (n := n) keyS Try.underlying44 (by unfold maxLen; omega) (WideMaps.keyOf_string_mk Try.underlying9 (s := k) (by unfold maxLen; omega)) (bindR_mk x)
  refine ⟨w', hr, ⟨_, h1, fun j => ?_⟩, h2⟩
  by_cases hj : j = k
  · rw [hj, upd_same, atKey_put_same (own_isMap ho) (by trivial)]
  · rw [upd_other _ _ hj, atKey_put_other (fun e => hj (Xp.ba_inj (by simpa using e))), hG j]
end Go.Proofs.Ythbkipmimkepkab
