/-
  Resolved elements in memory, as trees.
-/
import Derived.Test.YthbkipmimkepkabSLeave
set_option linter.unusedSimpArgs false
set_option linter.unusedVariables false
namespace Go.Proofs.Ythbkipmimkepkab
open Go.RowKit
/-- Five cells of a resolved element. -/
def Five (w : World) (b o : Nat) (c0 c1 c2 c3 c4 : Value) : Prop :=
  w.cell? ⟨b, o, none⟩ = some c0 ∧ w.cell? ⟨b, o + 1, none⟩ = some c1 ∧ w.cell? ⟨b, o + 2, none⟩ = some c2 ∧ w.cell? ⟨b, o + 3, none⟩ = some c3 ∧ w.cell? ⟨b, o + 4, none⟩ = some c4
def NInR (w : World) (R : Nat → Prop) : Nat → Value → Value → Value → Value → Value → Tr → Prop
  | 0, _, _, _, _, _, _ => False
  | n + 1, c0, c1, c2, c3, c4, T => ∃ (sp lo : ByteArray) (p : Int) (l : List Att) (ks : List Tr), c0 = .string sp ∧ c1 = .string lo ∧ c4 = .int .i64 p ∧ T = mkN sp lo l ks p ∧ ARowR w R c2 l ∧
      ∃ b o, Row c3 ks.length b o ∧ (0 < ks.length → R b) ∧ ks.length ≤ 1000000000000 ∧ ∀ i K, ks[i]? = some K → ∃ d0 d1 d2 d3 d4, Five w b (o + 5 * i) d0 d1 d2 d3 d4 ∧ NInR w R n d0 d1 d2 d3 d4 K
theorem NInR.turn {w w' : World} {R R' : Nat → Prop} (hk' : ∀ k, R k → w'.heap[k]? = w.heap[k]?) (hR : ∀ k, R k → R' k) : ∀ {n : Nat} {c0 c1 c2 c3 c4 : Value} {T : Tr}, NInR w R n c0 c1 c2 c3 c4 T → NInR w' R' n c0 c1 c2 c3 c4 T
  | 0, _, _, _, _, _, _, h => h
  | n + 1, _, _, _, _, _, _, ⟨sp, lo, p, l, ks, h0, h1, h3, hT, ha, b, o, hr, hb, hl, hk⟩ => by
    refine ⟨sp, lo, p, l, ks, h0, h1, h3, hT, ha.turn hk' hR, b, o, hr, fun h => hR _ (hb h), hl, fun i K hK => ?_⟩
    obtain ⟨d0, d1, d2, d3, d4, ⟨f0, f1, f2, f3, f4⟩, he⟩ := hk i K hK
    have h0 : 0 < ks.length := Nat.lt_of_le_of_lt (Nat.zero_le _) (List.getElem?_eq_some_iff.1 hK).1
    have hbb := hk' b (hb h0)
    refine ⟨d0, d1, d2, d3, d4, ⟨?_, ?_, ?_, ?_, ?_⟩, NInR.turn hk' hR he⟩
    · rw [World.cell?_of_block (w := w) (w' := w') (a := ⟨b, o + 5 * i, none⟩) hbb]; exact f0
    · rw [World.cell?_of_block (w := w) (w' := w') (a := ⟨b, o + 5 * i + 1, none⟩) hbb]; exact f1
    · rw [World.cell?_of_block (w := w) (w' := w') (a := ⟨b, o + 5 * i + 2, none⟩) hbb]; exact f2
    · rw [World.cell?_of_block (w := w) (w' := w') (a := ⟨b, o + 5 * i + 3, none⟩) hbb]; exact f3
    · rw [World.cell?_of_block (w := w) (w' := w') (a := ⟨b, o + 5 * i + 4, none⟩) hbb]; exact f4
theorem NInR.below {w w' : World} {n : Nat} {c0 c1 c2 c3 c4 : Value} {T : Tr} (h : NInR w (· < w.heap.size) n c0 c1 c2 c3 c4 T) (hb : Below w.heap.size w w') : NInR w' (· < w'.heap.size) n c0 c1 c2 c3 c4 T :=
  h.turn (fun k hk => hb.block k hk) (fun k hk => Nat.lt_of_lt_of_le hk hb.size)
abbrev Quint := Value × Value × Value × Value × Value
def flatN (L : List Quint) : List Value := L.flatMap fun q => [q.1, q.2.1, q.2.2.1, q.2.2.2.1, q.2.2.2.2]
theorem flatN_cons (q : Quint) (L : List Quint) : flatN (q :: L) = q.1 :: q.2.1 :: q.2.2.1 :: q.2.2.2.1 :: q.2.2.2.2 :: flatN L := rfl
theorem flatN_app (L M : List Quint) : flatN (L ++ M) = flatN L ++ flatN M := by unfold flatN; exact List.flatMap_append
theorem flatN_len (L : List Quint) : (flatN L).length = L.length * 5 := by
  induction L with
  | nil => rfl
  | cons q L ih => rw [flatN_cons]; simp only [List.length_cons, ih]; omega
theorem flatN_get : ∀ {L : List Quint} {i : Nat} {q : Quint}, L[i]? = some q → (flatN L)[5 * i]? = some q.1 ∧ (flatN L)[5 * i + 1]? = some q.2.1 ∧ (flatN L)[5 * i + 2]? = some q.2.2.1 ∧ (flatN L)[5 * i + 3]? = some q.2.2.2.1 ∧ (flatN L)[5 * i + 4]? = some q.2.2.2.2
  | [], i, q, h => by simp at h
  | a :: L, 0, q, h => by
    simp only [List.getElem?_cons_zero, Option.some.injEq] at h
    subst h
    exact ⟨rfl, rfl, rfl, rfl, rfl⟩
  | a :: L, i + 1, q, h => by
    rw [List.getElem?_cons_succ] at h
    obtain ⟨h0, h1, h2, h3, h4⟩ := flatN_get h
    rw [flatN_cons]
    exact ⟨h0, h1, h2, h3, h4⟩
theorem infoN : (Try.prog.info? 32).map (fun i => (i.zero, i.size, i.bytes)) = some (some (.agg #[.string ⟨#[]⟩, .string ⟨#[]⟩, .slice none 0 0, .slice none 0 0, .int .i64 0]), 5, 88) := by kernel_rfl
/-- Kids that lie in a row of the program's own. -/
def NRow (w : World) (H : Nat) (R : Nat → Prop) (n : Nat) (kv : Value) (ks : List Tr) : Prop :=
  ∃ qs : List Quint, w.ownsRow H 32 5 kv ks.length (flatN qs) ∧ qs.length = ks.length ∧ ∀ (i : Nat) (q : Quint) (K : Tr), qs[i]? = some q → ks[i]? = some K → NInR w R n q.1 q.2.1 q.2.2.1 q.2.2.2.1 q.2.2.2.2 K
theorem attrs_of {w : World} {H : Nat} {R : Nat → Prop} {av : Value} {l : List Att} (h : w.ownsRow H 24 2 av l.length (flatA l)) (hl : l.length ≤ 1000000000000) (hz : ∀ p ∈ l, p.1.size ≤ 140737488355328 ∧ p.2.size ≤ 140737488355328) (hR : ∀ g, av.ownBlock = some g → R g) : ARowR w R av l := by
  rcases h.2 with ⟨rfl, h0⟩ | ⟨g, cap, cur, hv, h1, h2, h3⟩
  · have : l = [] := List.eq_nil_of_length_eq_zero h0
    subst this
    exact ⟨0, 0, ⟨none, 0, rfl, fun h => absurd h (by decide)⟩, fun h => absurd h (by decide), ⟨hl, hz⟩, fun i p hp => by simp at hp⟩
  · subst hv
    refine ⟨g, 0, ⟨_, _, rfl, fun _ => rfl⟩, fun _ => hR g rfl, ⟨hl, hz⟩, fun i p hp => ?_⟩
    obtain ⟨e0, e1⟩ := flatA_get hp
    simp only [Nat.zero_add]
    exact ⟨own_cell h e0, own_cell h e1⟩
/-- An element whose kids all are resolved: a tree. -/
theorem named_of {w : World} {H : Nat} {R : Nat → Prop} {n : Nat} {sp lo : ByteArray} {av kv : Value} {p : Int} {l : List Att} {ks : List Tr} (ha : ARowR w R av l) (hk : NRow w H R n kv ks) (h2 : ∀ g, kv.ownBlock = some g → R g) (hl : ks.length ≤ 1000000000000) : NInR w R (n + 1) (.string sp) (.string lo) av kv (.int .i64 p) (mkN sp lo l ks p) := by
  obtain ⟨qs, ho, hq, he⟩ := hk
  refine ⟨sp, lo, p, l, ks, rfl, rfl, rfl, rfl, ha, ?_⟩
  rcases ho.2 with ⟨rfl, h0⟩ | ⟨g, cap, cur, hv, _⟩
  · have : ks = [] := List.eq_nil_of_length_eq_zero (by omega)
    subst this
    exact ⟨0, 0, ⟨none, 0, rfl, fun h => absurd h (by decide)⟩, fun h => absurd h (by decide), by simp, fun i p hp => by simp at hp⟩
  · subst hv
    refine ⟨g, 0, ⟨_, _, rfl, fun _ => rfl⟩, fun _ => h2 g rfl, hl, fun i K hK => ?_⟩
    obtain ⟨q, hqi⟩ : ∃ q, qs[i]? = some q := ⟨qs[i]'(by have := (List.getElem?_eq_some_iff.1 hK).1; omega), List.getElem?_eq_getElem _⟩
    obtain ⟨e0, e1, e2, e3, e4⟩ := flatN_get hqi
    simp only [Nat.zero_add]
    exact ⟨q.1, q.2.1, q.2.2.1, q.2.2.2.1, q.2.2.2.2, ⟨own_cell ho e0, own_cell ho e1, own_cell ho e2, own_cell ho e3, own_cell ho e4⟩, he i q K hqi hK⟩
theorem NRow.snoc {w w' : World} {H : Nat} {R R' : Nat → Prop} {n : Nat} {kv kv' : Value} {ks : List Tr} {q : Quint} {K : Tr} {qs : List Quint} (hq : qs.length = ks.length) (he : ∀ (i : Nat) (q : Quint) (K : Tr), qs[i]? = some q → ks[i]? = some K → NInR w' R' n q.1 q.2.1 q.2.2.1 q.2.2.2.1 q.2.2.2.2 K)
    (ho : w'.ownsRow H 32 5 kv' (ks.length + 1) (flatN qs ++ [q.1, q.2.1, q.2.2.1, q.2.2.2.1, q.2.2.2.2])) (hK : NInR w' R' n q.1 q.2.1 q.2.2.1 q.2.2.2.1 q.2.2.2.2 K) : NRow w' H R' n kv' (ks ++ [K]) := by
  refine ⟨qs ++ [q], ?_, by simp [hq], fun i q' K' h1 h2 => ?_⟩
  · rw [flatN_app, List.length_append]
    exact ho
  · rcases Nat.lt_or_ge i qs.length with hi | hi
    · rw [List.getElem?_append_left hi] at h1
      rw [List.getElem?_append_left (by omega)] at h2
      exact he i q' K' h1 h2
    · rw [List.getElem?_append_right hi] at h1
      rw [List.getElem?_append_right (by omega)] at h2
      have hi0 : i - qs.length = 0 := by
        have := (List.getElem?_eq_some_iff.1 h1).1
        simp at this
        omega
      rw [hi0] at h1
      rw [show i - ks.length = 0 by omega] at h2
      simp only [List.getElem?_cons_zero, Option.some.injEq] at h1 h2
      subst h1
      subst h2
      exact hK
end Go.Proofs.Ythbkipmimkepkab
