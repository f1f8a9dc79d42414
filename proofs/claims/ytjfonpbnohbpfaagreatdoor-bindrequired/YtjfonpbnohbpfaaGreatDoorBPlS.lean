/-
  An element that is made without prefixes: what stays while it grows.
-/
import Derived.Test.YtjfonpbnohbpfaaGreatDoorBTo
import Derived.Test.YtjfonpbnohbpfaaGreatDoorPartG
set_option linter.unusedSimpArgs false
set_option linter.unusedVariables false
namespace Go.Proofs.YtjfonpbnohbpfaaGreatDoor
open Go.RowKit
set_option maxRecDepth 100000
def PQ (w wr : World) (eb : Nat) (av kv : Value) (k : Nat) : Prop := w.heap.size ≤ k ∧ k < wr.heap.size ∧ k ≠ eb ∧ av.ownBlock ≠ some k ∧ kv.ownBlock ≠ some k
structure PSt (w wr : World) (eb d : Nat) (lo : ByteArray) (l : List Att) (ks : List Tr) (av kv : Value) : Prop where
  lies : Lies wr eb 50 #[.string lo, av, kv, .int .i64 0]
  ge : w.heap.size ≤ eb
  att : AOwn wr w.heap.size av l
  kids : KRow wr w.heap.size (PQ w wr eb av kv) d kv ks
  below : Below w.heap.size w wr
  len : ks.length ≤ 1000000
  ne : kv.ownBlock ≠ some eb
theorem PSt.step {w wr w1 : World} {eb d : Nat} {lo : ByteArray} {l : List Att} {ks : List Tr} {av kv : Value} (h : PSt w wr eb d lo l ks av kv) (hb : Below wr.heap.size wr w1) : PSt w w1 eb d lo l ks av kv := by
  obtain ⟨qs, ho, _⟩ := id h.kids
  exact ⟨h.lies.below hb, h.ge, ⟨own_below h.att.1 hb, h.att.2⟩, h.kids.turn (fun g hg => hb.block g (own_lt ho hg).1) (fun k hk => hb.block k hk.2.1) (fun k hk => ⟨hk.1, Nat.lt_of_lt_of_le hk.2.1 hb.size, hk.2.2⟩), h.below.trans (hb.mono h.below.size), h.len, h.ne⟩
theorem PSt.attr {w w1 W w3 : World} {eb d : Nat} {lo : ByteArray} {l : List Att} {ks : List Tr} {av kv : Value} {g cap : Nat} (h : PSt w w1 eb d lo l ks av kv) (hB : Below w1.heap.size w1 W) (hg : W.grownBy w3 av.ownBlock) (a b : ByteArray) (hown : w3.ownsRow w.heap.size 66 2 (.slice (some ⟨g, 0, none⟩) (l.length + 1) cap) (l.length + 1) (flatA l ++ [.string a, .string b])) (hat : av.ownBlock = some g ∨ w1.heap.size ≤ g) (ha : a.size ≤ 1000000 ∧ b.size ≤ 1000000) (hl : l.length < 8) :
    (w3.cell? ⟨eb, 1, none⟩ = some av ∧ w3.frozen? ⟨eb, 1, none⟩ = false) ∧ PSt w (w3.setCell ⟨eb, 1, none⟩ (.slice (some ⟨g, 0, none⟩) (l.length + 1) cap)) eb d lo (l ++ [(a, b)]) ks (.slice (some ⟨g, 0, none⟩) (l.length + 1) cap) kv := by
  obtain ⟨qs, ho, hq⟩ := id h.kids
  have l1 := h.lies.below hB
  have l3 : Lies w3 eb 50 #[.string lo, av, kv, .int .i64 0] := l1.keep (Keep.grown hg) (own_ne (own_below h.att.1 hB) l1 (by decide))
  have hke : kv.ownBlock ≠ some eb := h.ne
  have hkg : ∀ k, kv.ownBlock = some k → (Value.slice (some ⟨g, 0, none⟩) (l.length + 1) cap).ownBlock ≠ some k := fun k hk e => by
    have ho3 : w3.ownsRow w.heap.size 50 4 kv qs.length (flatE qs) := own_keep (own_below ho hB) (fun g' hg' => hg.block g' (own_lt (own_below ho hB) hg').1 (fun e' => own_ne2 (own_below ho hB) (own_below h.att.1 hB) (by decide) g' hg' e'.symm))
    exact own_ne2 ho3 hown (by decide) k hk e
  have hb3 : ∀ k, PQ w w1 eb av kv k → (w3.setCell ⟨eb, 1, none⟩ (.slice (some ⟨g, 0, none⟩) (l.length + 1) cap)).heap[k]? = w1.heap[k]? := fun k hk => by
    rw [Below.heap_setCell _ _ _ _ hk.2.2.1, hg.block k (Nat.lt_of_lt_of_le hk.2.1 hB.size) (fun e => hk.2.2.2.1 e.symm), hB.block k hk.2.1]
  refine ⟨⟨l3.cell 1, l3.free 1⟩, l3.set 1 _, h.ge, ⟨?_, by simp; omega, ?_⟩, h.kids.turn (fun k hk => ?_) hb3 (fun k hk => ?_), ?_, h.len, h.ne⟩
  · rw [flatA_app, List.length_append]
    exact own_off hown l3 (by decide) _ _
  · intro p hp
    rcases List.mem_append.1 hp with hp | hp
    · exact h.att.2.2 p hp
    · rw [List.mem_singleton.1 hp]
      exact ha
  · have hlt := (own_lt ho hk).1
    rw [Below.heap_setCell _ _ _ _ (fun e => hke (by rw [hk, e])), hg.block k (Nat.lt_of_lt_of_le hlt hB.size) (fun e => own_ne2 ho h.att.1 (by decide) k hk e.symm), hB.block k hlt]
  · refine ⟨hk.1, ?_, hk.2.2.1, ?_, hk.2.2.2.2⟩
    · have := Nat.le_trans hB.size hg.size
      exact Nat.lt_of_lt_of_le hk.2.1 (by simpa [World.setCell] using this)
    · intro e
      obtain rfl : g = k := Option.some.inj e
      rcases hat with hat | hat
      · exact hk.2.2.2.1 hat
      · have := hk.2.1; omega
  · refine Below.setCell ?_ h.ge _
    exact (h.below.trans (hB.mono h.below.size)).grown hg (Nat.le_trans h.below.size hB.size) (fun k hk => (own_lt h.att.1 hk).2)
theorem PSt.kid {w w1 W w3 : World} {eb d : Nat} {lo : ByteArray} {l : List Att} {ks : List Tr} {av kv : Value} {g cap : Nat} (h : PSt w w1 eb d lo l ks av kv) (hB : Below w1.heap.size w1 W) (hg : W.grownBy w3 kv.ownBlock) (c0 c1 c2 c3 : Value) (K : Tr) (qs : List Quad) (hqs : qs.length = ks.length) (hqk : ∀ (i : Nat) (q : Quad) (K : Tr), qs[i]? = some q → ks[i]? = some K → EInR w1 (PQ w w1 eb av kv) d q.1 q.2.1 q.2.2.1 q.2.2.2 K) (ho : w1.ownsRow w.heap.size 50 4 kv qs.length (flatE qs)) (hown : w3.ownsRow w.heap.size 50 4 (.slice (some ⟨g, 0, none⟩) (qs.length + 1) cap) (qs.length + 1) (flatE qs ++ [c0, c1, c2, c3])) (hat : kv.ownBlock = some g ∨ w1.heap.size ≤ g) (hK : EInR w1 (PQ w w1 eb av kv) d c0 c1 c2 c3 K) (hge : g ≠ eb) (hl : ks.length < 1000000) :
    (w3.cell? ⟨eb, 2, none⟩ = some kv ∧ w3.frozen? ⟨eb, 2, none⟩ = false) ∧ PSt w (w3.setCell ⟨eb, 2, none⟩ (.slice (some ⟨g, 0, none⟩) (qs.length + 1) cap)) eb d lo l (ks ++ [K]) av (.slice (some ⟨g, 0, none⟩) (qs.length + 1) cap) := by
  have l1 := h.lies.below hB
  have l3 : Lies w3 eb 50 #[.string lo, av, kv, .int .i64 0] := l1.keep (Keep.grown hg) h.ne
  have hb3 : ∀ k, PQ w w1 eb av kv k → (w3.setCell ⟨eb, 2, none⟩ (.slice (some ⟨g, 0, none⟩) (qs.length + 1) cap)).heap[k]? = w1.heap[k]? := fun k hk => by
    rw [Below.heap_setCell _ _ _ _ hk.2.2.1, hg.block k (Nat.lt_of_lt_of_le hk.2.1 hB.size) (fun e => hk.2.2.2.2 e.symm), hB.block k hk.2.1]
  have hR : ∀ k, PQ w w1 eb av kv k → PQ w (w3.setCell ⟨eb, 2, none⟩ (.slice (some ⟨g, 0, none⟩) (qs.length + 1) cap)) eb av (.slice (some ⟨g, 0, none⟩) (qs.length + 1) cap) k := fun k hk => by
    refine ⟨hk.1, ?_, hk.2.2.1, hk.2.2.2.1, ?_⟩
    · have := Nat.le_trans hB.size hg.size
      exact Nat.lt_of_lt_of_le hk.2.1 (by simpa [World.setCell] using this)
    · intro e
      obtain rfl : g = k := Option.some.inj e
      rcases hat with hat | hat
      · exact hk.2.2.2.2 hat
      · have := hk.2.1; omega
  have hown2 : (w3.setCell ⟨eb, 2, none⟩ (.slice (some ⟨g, 0, none⟩) (qs.length + 1) cap)).ownsRow w.heap.size 50 4 (.slice (some ⟨g, 0, none⟩) (qs.length + 1) cap) (qs.length + 1) (flatE (qs ++ [(c0, c1, c2, c3)])) := by
    rw [flatE_app]
    exact own_keep hown (fun g' hg' => Below.heap_setCell _ _ _ _ (fun e => hge ((show g = g' from Option.some.inj hg').trans e)))
  refine ⟨⟨l3.cell 2, l3.free 2⟩, l3.set 2 _, h.ge, ⟨own_keep h.att.1 (fun k hk => ?_), h.att.2⟩, ⟨qs ++ [(c0, c1, c2, c3)], by simpa using hown2, by simp [hqs], fun i q K' h1 h2 => ?_⟩, ?_, by simp; omega, fun e => hge (Option.some.inj e)⟩
  · have hlt := (own_lt h.att.1 hk).1
    rw [Below.heap_setCell _ _ _ _ (fun e => own_ne h.att.1 h.lies (by decide) (hk.trans (by rw [e]))), hg.block k (Nat.lt_of_lt_of_le hlt hB.size) (fun e => own_ne2 h.att.1 ho (by decide) k hk e.symm), hB.block k hlt]
  · rcases getElem?_snoc h1 with ⟨hi, h1⟩ | ⟨hi, rfl⟩
    · rcases getElem?_snoc h2 with ⟨_, h2⟩ | ⟨hi2, _⟩
      · exact (hqk i q K' h1 h2).turn hb3 hR
      · omega
    · rcases getElem?_snoc h2 with ⟨hi2, _⟩ | ⟨_, rfl⟩
      · omega
      · exact hK.turn hb3 hR
  · refine Below.setCell ?_ h.ge _
    exact (h.below.trans (hB.mono h.below.size)).grown hg (Nat.le_trans h.below.size hB.size) (fun k hk => (own_lt ho hk).2)
/-- What may be written without prefixes. -/
def fineN : Nat → Tr → Prop
  | 0, _ => True
  | d + 1, T => (Bp.loT T).size ≤ 1000000 ∧ (Bp.spT T).size ≤ 1000000 ∧ (Bp.alT T).length ≤ 7 ∧ (∀ p ∈ Bp.alT T, p.1.size ≤ 1000000 ∧ p.2.size ≤ 1000000) ∧ (Bp.klT T).length ≤ 1000000 ∧ ∀ K ∈ Bp.klT T, fineN d K
def PlIn (d : Nat) : Prop := ∀ (w : World) (outer : ByteArray) (n0 n1 n2 n3 n4 : Value) (T : Tr), NInR w (· < w.heap.size) d n0 n1 n2 n3 n4 T → fineN d T → Calls Tryz.prog 73 #[.string outer, .agg #[n0, n1, n2, n3, n4]] w fun e w' => (∃ c0 c1 c2 c3, e = .returned (.agg #[c0, c1, c2, c3]) ∧ EInR w' (newQ w w') d c0 c1 c2 c3 (Bp.plP d outer T)) ∧ Below w.heap.size w w'
end Go.Proofs.YtjfonpbnohbpfaaGreatDoor
