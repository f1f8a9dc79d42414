/-
  Elements that are written out in a text: what they are in memory; what a resolved one's cells hold.
-/
import Derived.Test.YthbkipmimkepkabSResolve2
set_option linter.unusedSimpArgs false
set_option linter.unusedVariables false
namespace Go.Proofs.Ythbkipmimkepkab
open Go.RowKit
abbrev Quad := Value × Value × Value × Value
def flatE (L : List Quad) : List Value := L.flatMap fun q => [q.1, q.2.1, q.2.2.1, q.2.2.2]
theorem flatE_cons (q : Quad) (L : List Quad) : flatE (q :: L) = q.1 :: q.2.1 :: q.2.2.1 :: q.2.2.2 :: flatE L := rfl
theorem flatE_get : ∀ {L : List Quad} {i : Nat} {q : Quad}, L[i]? = some q → (flatE L)[4 * i]? = some q.1 ∧ (flatE L)[4 * i + 1]? = some q.2.1 ∧ (flatE L)[4 * i + 2]? = some q.2.2.1 ∧ (flatE L)[4 * i + 3]? = some q.2.2.2
  | [], i, q, h => by simp at h
  | a :: L, 0, q, h => by
    simp only [List.getElem?_cons_zero, Option.some.injEq] at h
    subst h
    exact ⟨rfl, rfl, rfl, rfl⟩
  | a :: L, i + 1, q, h => by
    rw [List.getElem?_cons_succ] at h
    obtain ⟨h0, h1, h2, h3⟩ := flatE_get h
    rw [flatE_cons]
    exact ⟨h0, h1, h2, h3⟩
theorem lies_at {w : World} {b : Nat} {t : TypeId} {C : Array Value} (h : Lies w b t C) {L : List Value} (hC : C.toList = L) {k : Nat} {v : Value} (hv : L[k]? = some v) : w.cell? ⟨b, k, none⟩ = some v := by
  rw [h.cell k, ← Array.getElem?_toList, hC, hv]
theorem ARow.nil (w : World) : ARow w nilS [] := ⟨0, 0, ⟨none, 0, rfl, fun h => absurd h (by decide)⟩, ⟨by decide, fun p hp => by cases hp⟩, fun i p hp => by simp at hp⟩
theorem ARow.lies {w : World} {b : Nat} {t : TypeId} {C : Array Value} (h : Lies w b t C) (l : List Att) (hC : C.toList = flatA l) (hl : l.length ≤ 1000000000000) (hz : ∀ p ∈ l, p.1.size ≤ 140737488355328 ∧ p.2.size ≤ 140737488355328) (n cap : Nat) (hn : n = l.length) : ARow w (.slice (some ⟨b, 0, none⟩) n cap) l := by
  refine ⟨b, 0, ⟨_, cap, by rw [hn], fun _ => rfl⟩, ⟨hl, hz⟩, fun i p hp => ?_⟩
  obtain ⟨h0, h1⟩ := flatA_get hp
  simp only [Nat.zero_add]
  exact ⟨lies_at h hC h0, lies_at h hC h1⟩
theorem EIn.leaf {w : World} (n : Nat) (nm : ByteArray) (c1 : Value) (l : List Att) (p : Int) (hnm : nm.size ≤ 140737488355328) (ha : ARow w c1 l) : EIn w (n + 1) (.string nm) c1 nilS (.int .i64 p) (Xp.mkT nm l [] p) :=
  ⟨nm, p, l, [], rfl, rfl, rfl, hnm, ha, 0, 0, ⟨none, 0, rfl, fun h => absurd h (by decide)⟩, by simp, fun i K hK => by simp at hK⟩
theorem EIn.node {w : World} (n : Nat) (nm : ByteArray) (c1 : Value) (l : List Att) (p : Int) (hnm : nm.size ≤ 140737488355328) (ha : ARow w c1 l) {b : Nat} {t : TypeId} {C : Array Value} (h : Lies w b t C) (L : List Quad) (ks : List Tr) (hC : C.toList = flatE L) (hL : L.length = ks.length) (hl : ks.length ≤ 1000000) (hk : ∀ (i : Nat) (q : Quad) (K : Tr), L[i]? = some q → ks[i]? = some K → EIn w n q.1 q.2.1 q.2.2.1 q.2.2.2 K) (m cap : Nat) (hm : m = ks.length) :
    EIn w (n + 1) (.string nm) c1 (.slice (some ⟨b, 0, none⟩) m cap) (.int .i64 p) (Xp.mkT nm l ks p) := by
  refine ⟨nm, p, l, ks, rfl, rfl, rfl, hnm, ha, b, 0, ⟨_, cap, by rw [hm], fun _ => rfl⟩, by omega, fun i K hK => ?_⟩
  obtain ⟨q, hq⟩ : ∃ q, L[i]? = some q := ⟨L[i]'(by have := (List.getElem?_eq_some_iff.1 hK).1; omega), List.getElem?_eq_getElem _⟩
  obtain ⟨h0, h1, h2, h3⟩ := flatE_get hq
  simp only [Nat.zero_add]
  exact ⟨q.1, q.2.1, q.2.2.1, q.2.2.2, ⟨lies_at h hC h0, lies_at h hC h1, lies_at h hC h2, lies_at h hC h3⟩, hk i q K hq hK⟩
theorem fine_node {d : Nat} {nm : ByteArray} {l : List Att} {ks : List Tr} {p : Int} (h1 : nm.size ≤ 1000000) (h2 : ∀ p ∈ l, p.1.size ≤ 1000000 ∧ p.2.size ≤ 140000000000000) (h3 : ∀ K ∈ ks, fineT d K) : fineT (d + 1) (Xp.mkT nm l ks p) := by
  refine ⟨?_, ?_, h3⟩
  · have : (Xp.nmT (Xp.mkT nm l ks p)).length = nm.size := Array.length_toList
    omega
  · have e : (Xp.asT (Xp.mkT nm l ks p)).map unpair = l := unpairs l
    rw [e]
    exact h2
theorem mkN_inj {sp lo sp' lo' : ByteArray} {l l' : List Att} {ks ks' : List Tr} {p p' : Int} (h : mkN sp lo l ks p = mkN sp' lo' l' ks' p') : sp = sp' ∧ lo = lo' ∧ l = l' ∧ ks = ks' ∧ p = p' := by
  simp only [mkN, DataW.agg.injEq, List.cons.injEq, DataW.lit.injEq, Lit.string.injEq, Lit.int.injEq, DataW.slice.injEq, and_true, true_and] at h
  obtain ⟨h1, h2, h3, h4, h5⟩ := h
  exact ⟨Xp.ba_inj h1, Xp.ba_inj h2, Xp.pairs_inj h3, h4, h5⟩
theorem NInR.inv {w : World} {R : Nat → Prop} {n : Nat} {c0 c1 c2 c3 c4 : Value} {sp lo : ByteArray} {l : List Att} {ks : List Tr} {p : Int} (h : NInR w R (n + 1) c0 c1 c2 c3 c4 (mkN sp lo l ks p)) :
    c0 = .string sp ∧ c1 = .string lo ∧ c4 = .int .i64 p ∧ ARowR w R c2 l ∧ (∃ a ac, c2 = .slice a l.length ac) ∧ ∃ b o ka kc, c3 = .slice ka ks.length kc ∧ (0 < ks.length → ka = some ⟨b, o, none⟩) ∧ ∀ i K, ks[i]? = some K → ∃ d0 d1 d2 d3 d4, Five w b (o + 5 * i) d0 d1 d2 d3 d4 ∧ NInR w R n d0 d1 d2 d3 d4 K := by
  obtain ⟨sp', lo', p', l', ks', h0, h1, h4, hT, ha, b, o, ⟨ka, kc, h3, hka⟩, hb, hl, hk⟩ := h
  obtain ⟨rfl, rfl, rfl, rfl, rfl⟩ := mkN_inj hT
  exact ⟨h0, h1, h4, ha, (by obtain ⟨_, _, ⟨a, ac, e, _⟩, _⟩ := ha; exact ⟨a, ac, e⟩), b, o, ka, kc, h3, hka, hk⟩
theorem att_one {a b : ByteArray} {n m : Nat} (h1 : a.size ≤ n) (h2 : b.size ≤ m) : ∀ p ∈ [(a, b)], p.1.size ≤ n ∧ p.2.size ≤ m := by
  intro p hp
  rw [List.mem_singleton.1 hp]
  exact ⟨h1, h2⟩
theorem of_alloc {w W : World} {C : Array Value} {t : TypeId} (h : w.alloc (.cells C t) = W) : Below w.heap.size w W ∧ Lies W w.heap.size t C ∧ W.heap.size = w.heap.size + 1 := by
  subst h
  exact ⟨(Below.refl _ w).alloc (Nat.le_refl _) _, Lies.new w _ _, by simp⟩
theorem cell_below {w w' : World} {n : Nat} (h : Below n w w') (hn : n = w.heap.size) {a : Addr} {v : Value} (hc : w.cell? a = some v) : w'.cell? a = some v := by
  subst hn
  rw [h.cell (cell_lt hc)]
  exact hc
theorem splitB_one (l : List UInt8) (h : Lib.indexByte l 58 < 0) : splitB ⟨l.toArray⟩ = (e0, ⟨l.toArray⟩) := by
  unfold splitB
  rw [show (⟨l.toArray⟩ : ByteArray).data.toList = l from rfl, Sp.splitL_none _ h]
theorem G0_none : G0 e0 = (e0, true) := upd_same _ _ _
theorem G0_other {k : ByteArray} (h : k ≠ e0) : G0 k = (e0, false) := upd_other _ _ h
end Go.Proofs.Ythbkipmimkepkab
