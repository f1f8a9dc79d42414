/-
  The program's queue and the document's, side by side.
-/
import Derived.Test.YtjibkhljihnhiaaQTwo
import Derived.Test.YtjibkhljihnhiaaQRefPush
set_option linter.unusedSimpArgs false
set_option linter.unusedVariables false
namespace Go.Proofs.Ytjibkhljihnhiaa
open Go.RowKit
open Qp
theorem refFull (w : World) (H xb g o : Nat) (ao : Option Addr) (cap : Nat) (L : List Thing) (d x : Int) (h : XAt w H xb g o ao cap L) (hl : 100 ≤ L.length) :
    Calls Try.prog 11 #[.pointer (some ⟨xb, 0, none⟩), .int .i64 d, .int .i64 x] w fun e w' => e = .returned (.bool false) ∧ w' = w := by
  have q0 : w.cell? ⟨xb, 0, none⟩ = some (.slice ao L.length cap) := h.box.cell 0
  have t1 : (100 : Int) ≤ (L.length : Int) := by omega
  clear h
  go_enter Try.func11, Try.ntmps11
  go_wp2_with fail
  go_ret
  exact ⟨rfl, rfl⟩
/-- Both in memory. -/
structure QX (w0 w : World) (b : Nat) (v : Value) (L : List Thing) (xb : Nat) (X : List Thing) : Prop where
  q : LQ w0 w b v L
  x : ∃ g o ao cap, XAt w w0.heap.size xb g o ao cap X
theorem QX.on {w0 w w' : World} {b xb : Nat} {v : Value} {L X : List Thing} (h : QX w0 w b v L xb X) (t : Below w.heap.size w w') : QX w0 w' b v L xb X := by
  obtain ⟨g, o, ao, cap, hx⟩ := h.x
  exact ⟨h.q.on t, g, o, ao, cap, hx.below t⟩
theorem QX.toq {w0 w w' : World} {b xb : Nat} {v v' : Value} {L L' X : List Thing} (h : QX w0 w b v L xb X) (t : QTo w w' w0.heap.size b v v' L') : QX w0 w' b v' L' xb X := by
  obtain ⟨g, o, ao, cap, hx⟩ := h.x
  obtain ⟨h1, h2⟩ := hx.off h.q.q
  exact ⟨h.q.to t, g, o, ao, cap, hx.keep t.keep h1 h2⟩
theorem QX.tox {w0 w w' : World} {b xb : Nat} {v : Value} {L X X' : List Thing} (h : QX w0 w b v L xb X) (k : Keep (fun k => k = xb) w w') (hx' : ∃ g o ao cap, XAt w' w0.heap.size xb g o ao cap X') : QX w0 w' b v L xb X' := by
  obtain ⟨g, o, ao, cap, hx⟩ := h.x
  obtain ⟨h1, h2⟩ := hx.off h.q.q
  refine ⟨⟨h.q.q.keep k (fun i hi e => h1 (e ▸ hi)), ?_⟩, hx'⟩
  exact ⟨k.os.trans h.q.below.os, k.tape.trans h.q.below.tape, k.output.trans h.q.below.output, Nat.le_trans h.q.below.size k.size, fun i hi => (k.block i (Nat.lt_of_lt_of_le hi h.q.below.size) (fun e => by have := hx.low; omega)).trans (h.q.below.block i hi)⟩
theorem QX.push {w0 w : World} {b xb : Nat} {v : Value} {L X : List Thing} (h : QX w0 w b v L xb X) (d x : Int) (hl : L.length < 100) :
    Calls Try.prog 10 #[.pointer (some ⟨b, 0, none⟩), .int .i64 d, .int .i64 x] w fun e w' => e = .returned (.bool true) ∧ ∃ v' L', QX w0 w' b v' L' xb X ∧ L'.Perm ((d, x) :: L) :=
  (pushQ w w0.heap.size b v L d x h.q.q h.q.below.size hl).mono fun e w' ⟨h1, v', L', h2, h3⟩ => ⟨h1, v', L', h.toq h2, h3⟩
theorem QX.full {w0 w : World} {b xb : Nat} {v : Value} {L X : List Thing} (h : QX w0 w b v L xb X) (d x : Int) (hl : 100 ≤ L.length) :
    Calls Try.prog 10 #[.pointer (some ⟨b, 0, none⟩), .int .i64 d, .int .i64 x] w fun e w' => e = .returned (.bool false) ∧ QX w0 w' b v L xb X :=
  (pushFull w w0.heap.size b v L d x h.q.q hl).mono fun e w' ⟨h1, h2⟩ => ⟨h1, by rw [h2]; exact h⟩
theorem QX.pop {w0 w : World} {b xb : Nat} {v : Value} {L X : List Thing} (h : QX w0 w b v L xb X) (n : Nat) (hL : L.length = n + 1) (m : Thing) (hm : at_ L 0 = m) :
    Calls Try.prog 12 #[.pointer (some ⟨b, 0, none⟩)] w fun e w' => e = .returned (.tuple #[.int .i64 m.1, .int .i64 m.2, .bool true]) ∧ ∃ v' L', QX w0 w' b v' L' xb X ∧ (m :: L').Perm L := by
  subst hm
  exact (popQ w w0.heap.size b v L h.q.q n hL).mono fun e w' ⟨h1, v', L', h2, h3, _⟩ => ⟨h1, v', L', h.toq h2, h3⟩
theorem QX.popN {w0 w : World} {b xb : Nat} {v : Value} {X : List Thing} (h : QX w0 w b v [] xb X) :
    Calls Try.prog 12 #[.pointer (some ⟨b, 0, none⟩)] w fun e w' => e = .returned (.tuple #[.int .i64 0, .int .i64 0, .bool false]) ∧ QX w0 w' b v [] xb X :=
  (popNone w w0.heap.size b v h.q.q).mono fun e w' ⟨h1, h2⟩ => ⟨h1, by rw [h2]; exact h⟩
theorem QX.peek {w0 w : World} {b xb : Nat} {v : Value} {L X : List Thing} (h : QX w0 w b v L xb X) (h0 : 0 < L.length) (m : Thing) (hm : at_ L 0 = m) :
    Calls Try.prog 14 #[.pointer (some ⟨b, 0, none⟩)] w fun e w' => e = .returned (.tuple #[.int .i64 m.1, .int .i64 m.2, .bool true]) ∧ QX w0 w' b v L xb X := by
  subst hm
  exact (peekQ w w0.heap.size b v L h.q.q h0).mono fun e w' ⟨h1, h2⟩ => ⟨h1, h.on h2⟩
theorem QX.peekN {w0 w : World} {b xb : Nat} {v : Value} {X : List Thing} (h : QX w0 w b v [] xb X) :
    Calls Try.prog 14 #[.pointer (some ⟨b, 0, none⟩)] w fun e w' => e = .returned (.tuple #[.int .i64 0, .int .i64 0, .bool false]) ∧ QX w0 w' b v [] xb X :=
  (peekNone w w0.heap.size b v h.q.q).mono fun e w' ⟨h1, h2⟩ => ⟨h1, by rw [h2]; exact h⟩
theorem QX.xpush {w0 w : World} {b xb : Nat} {v : Value} {L X : List Thing} (h : QX w0 w b v L xb X) (d x : Int) (hl : X.length < 100) :
    Calls Try.prog 11 #[.pointer (some ⟨xb, 0, none⟩), .int .i64 d, .int .i64 x] w fun e w' => e = .returned (.bool true) ∧ ∃ k, Ins X (d, x) k ∧ QX w0 w' b v L xb (X.take k ++ [(d, x)] ++ X.drop k) := by
  obtain ⟨g, o, ao, cap, hx⟩ := h.x
  exact (refPush w w0.heap.size xb g o ao cap X d x hx h.q.below.size hl).mono fun e w' ⟨h1, k, h2, h3, h4⟩ => ⟨h1, k, h2, h.tox h4 h3⟩
theorem QX.xfull {w0 w : World} {b xb : Nat} {v : Value} {L X : List Thing} (h : QX w0 w b v L xb X) (d x : Int) (hl : 100 ≤ X.length) :
    Calls Try.prog 11 #[.pointer (some ⟨xb, 0, none⟩), .int .i64 d, .int .i64 x] w fun e w' => e = .returned (.bool false) ∧ QX w0 w' b v L xb X := by
  obtain ⟨g, o, ao, cap, hx⟩ := h.x
  exact (refFull w w0.heap.size xb g o ao cap X d x hx hl).mono fun e w' ⟨h1, h2⟩ => ⟨h1, by rw [h2]; exact h⟩
theorem QX.xpop {w0 w : World} {b xb : Nat} {v : Value} {L X : List Thing} (h : QX w0 w b v L xb X) (n : Nat) (hL : X.length = n + 1) (m : Thing) (hm : at_ X 0 = m) :
    Calls Try.prog 13 #[.pointer (some ⟨xb, 0, none⟩)] w fun e w' => e = .returned (.tuple #[.int .i64 m.1, .int .i64 m.2, .bool true]) ∧ QX w0 w' b v L xb (X.drop 1) := by
  subst hm
  obtain ⟨g, o, ao, cap, hx⟩ := h.x
  exact (refPop w w0.heap.size xb g o ao cap X hx n hL).mono fun e w' ⟨h1, ⟨ao', o', cap', h2⟩, h3⟩ => ⟨h1, h.tox h3 ⟨g, o', ao', cap', h2⟩⟩
theorem QX.xpopN {w0 w : World} {b xb : Nat} {v : Value} {L : List Thing} (h : QX w0 w b v L xb []) :
    Calls Try.prog 13 #[.pointer (some ⟨xb, 0, none⟩)] w fun e w' => e = .returned (.tuple #[.int .i64 0, .int .i64 0, .bool false]) ∧ QX w0 w' b v L xb [] := by
  obtain ⟨g, o, ao, cap, hx⟩ := h.x
  exact (refPopNone w w0.heap.size xb g o ao cap hx).mono fun e w' ⟨h1, h2⟩ => ⟨h1, by rw [h2]; exact h⟩
theorem QX.xpeek {w0 w : World} {b xb : Nat} {v : Value} {L X : List Thing} (h : QX w0 w b v L xb X) (h0 : 0 < X.length) (m : Thing) (hm : at_ X 0 = m) :
    Calls Try.prog 15 #[.pointer (some ⟨xb, 0, none⟩)] w fun e w' => e = .returned (.tuple #[.int .i64 m.1, .int .i64 m.2, .bool true]) ∧ QX w0 w' b v L xb X := by
  subst hm
  obtain ⟨g, o, ao, cap, hx⟩ := h.x
  exact (refPeek w w0.heap.size xb g o ao cap X hx h0).mono fun e w' ⟨h1, h2⟩ => ⟨h1, h.on h2⟩
theorem QX.xpeekN {w0 w : World} {b xb : Nat} {v : Value} {L : List Thing} (h : QX w0 w b v L xb []) :
    Calls Try.prog 15 #[.pointer (some ⟨xb, 0, none⟩)] w fun e w' => e = .returned (.tuple #[.int .i64 0, .int .i64 0, .bool false]) ∧ QX w0 w' b v L xb [] := by
  obtain ⟨g, o, ao, cap, hx⟩ := h.x
  exact (refPeekNone w w0.heap.size xb g o ao cap hx).mono fun e w' ⟨h1, h2⟩ => ⟨h1, by rw [h2]; exact h⟩
/-- The copy takes the queue's place, whatever is put into the old one. -/
theorem QX.copy {w0 w : World} {b xb : Nat} {v : Value} {L X : List Thing} (h : QX w0 w b v L xb X) :
    Calls Try.prog 16 #[.pointer (some ⟨b, 0, none⟩)] w fun e w' => ∃ b2 v2, e = .returned (.pointer (some ⟨b2, 0, none⟩)) ∧ Two w0 w' b v L b2 v2 L ∧ ∃ g o ao cap, XAt w' w0.heap.size xb g o ao cap X := by
  obtain ⟨g, o, ao, cap, hx⟩ := h.x
  exact (copyQ w w0.heap.size b v L h.q.q).mono fun e w' ⟨b2, v2, h1, h2, h3⟩ => ⟨b2, v2, h1, ⟨h.q.on h3, ⟨h2.mono h.q.below.size, h.q.below.trans (h3.mono h.q.below.size)⟩, fun i k1 k2 => by
    have a1 := (h.q.q.q.lt k1).1
    have a2 := (h2.q.lt k2).2
    omega⟩, g, o, ao, cap, hx.below h3⟩
theorem two_pushX {w0 w : World} {b b2 xb : Nat} {v v2 : Value} {L L2 X : List Thing} (h : Two w0 w b v L b2 v2 L2) (hx : ∃ g o ao cap, XAt w w0.heap.size xb g o ao cap X) (d x : Int) :
    Calls Try.prog 10 #[.pointer (some ⟨b, 0, none⟩), .int .i64 d, .int .i64 x] w fun e w' => (∃ t, e = .returned (.bool t)) ∧ QX w0 w' b2 v2 L2 xb X := by
  by_cases hl : L.length < 100
  · exact (pushQ w w0.heap.size b v L d x h.one.q h.one.below.size hl).mono fun e w' ⟨h1, v', L', h2, h3⟩ => ⟨⟨_, h1⟩, (h.to h2).two, (QX.toq ⟨h.one, hx⟩ h2).x⟩
  · exact (pushFull w w0.heap.size b v L d x h.one.q (by omega)).mono fun e w' ⟨h1, h2⟩ => ⟨⟨_, h1⟩, by rw [h2]; exact h.two, by rw [h2]; exact hx⟩
/-- The document's row rises. -/
def Rise (X : List Thing) : Prop := X.Pairwise fun a c => lt c a = false
theorem rise_ins {X : List Thing} {x : Thing} {k : Nat} (h : Rise X) (hI : Ins X x k) : Rise (X.take k ++ [x] ++ X.drop k) := by
  unfold Rise at *
  have h0 := h
  rw [← List.take_append_drop k X, List.pairwise_append] at h
  obtain ⟨h1, h2, h3⟩ := h
  have hd : ∀ c ∈ X.drop k, lt c x = false := fun c hc => by
    obtain ⟨j, hj, rfl⟩ := mem_at hc
    rw [List.length_drop] at hj
    have e : at_ (X.drop k) j = at_ X (k + j) := by unfold at_; rw [List.getElem?_drop]
    have hu := hI.up (by omega)
    rw [e]
    rcases Nat.eq_zero_or_pos j with h4 | h4
    · subst h4
      rw [Nat.add_zero]
      rw [lt_iff] at hu; rw [lt_no]; omega
    · have h5 := List.pairwise_iff_getElem.1 h0 k (k + j) (by omega) (by omega) (by omega)
      have e1 : at_ X k = X[k]'(by omega) := by unfold at_; rw [List.getElem?_eq_getElem (by omega)]; rfl
      have e2 : at_ X (k + j) = X[k + j]'(by omega) := by unfold at_; rw [List.getElem?_eq_getElem (by omega)]; rfl
      rw [← e1, ← e2] at h5
      rw [lt_iff] at hu; rw [lt_no] at h5 ⊢; omega
  have ht : ∀ a ∈ X.take k, lt x a = false := fun a ha => by
    obtain ⟨i, hi, rfl⟩ := mem_at ha
    rw [List.length_take] at hi
    rw [at_take (by omega)]
    exact hI.low i (by omega)
  rw [List.pairwise_append, List.pairwise_append]
  refine ⟨⟨h1, by simp, fun a ha c hc => ?_⟩, h2, fun a ha c hc => ?_⟩
  · rw [List.mem_singleton.1 hc]; exact ht a ha
  · rcases List.mem_append.1 ha with ha | ha
    · exact h3 a ha c hc
    · rw [List.mem_singleton.1 ha]; exact hd c hc
theorem perm_ins {X : List Thing} (x : Thing) (k : Nat) : (X.take k ++ [x] ++ X.drop k).Perm (x :: X) := by
  rw [List.append_assoc, List.singleton_append]
  have h := List.perm_middle (a := x) (l₁ := X.take k) (l₂ := X.drop k)
  rwa [List.take_append_drop] at h
theorem rise_first {m : Thing} {Y : List Thing} (h : Rise (m :: Y)) : ∀ x ∈ m :: Y, lt x m = false := by
  unfold Rise at h
  rw [List.pairwise_cons] at h
  intro x hx
  rcases List.mem_cons.1 hx with rfl | hx
  · rw [lt_no]; omega
  · exact h.1 x hx
/-- Both hold the same. -/
structure PQ (w0 w : World) (b : Nat) (v : Value) (L : List Thing) (xb : Nat) (X : List Thing) : Prop where
  m : QX w0 w b v L xb X
  perm : L.Perm X
  rise : Rise X
  few : L.length ≤ 100
theorem PQ.nil {w0 w : World} {b xb : Nat} {v : Value} {L : List Thing} (h : PQ w0 w b v L xb []) : L = [] := List.eq_nil_of_length_eq_zero (by have := h.perm.length_eq; simpa using this)
theorem PQ.on {w0 w w' : World} {b xb : Nat} {v : Value} {L X : List Thing} (h : PQ w0 w b v L xb X) (t : Below w.heap.size w w') : PQ w0 w' b v L xb X := ⟨h.m.on t, h.perm, h.rise, h.few⟩
theorem PQ.lenV {w0 w : World} {b xb : Nat} {v : Value} {L X : List Thing} (h : PQ w0 w b v L xb X) (n : Nat) :
    Calls Try.prog 17 #[.pointer (some ⟨b, 0, none⟩)] (w.drewN n) fun e w' => e = .returned (.int .i64 X.length) ∧ w' = w.drewN n := by
  rw [← h.perm.length_eq]
  exact lenQQ (w.drewN n) w0.heap.size b v L (h.m.q.q.below (qdrewN (Below.refl _ w) n))
theorem PQ.box {w0 w : World} {b xb : Nat} {v : Value} {L X : List Thing} (h : PQ w0 w b v L xb X) : ∃ ao cap, w.cell? ⟨xb, 0, none⟩ = some (.slice ao X.length cap) := by
  obtain ⟨g, o, ao, cap, hx⟩ := h.m.x
  exact ⟨ao, cap, hx.box.cell 0⟩
/-- The first of both is one. -/
theorem PQ.first {w0 w : World} {b xb : Nat} {v : Value} {L Y : List Thing} {m : Thing} (h : PQ w0 w b v L xb (m :: Y)) : at_ L 0 = m := by
  have hr := rise_first h.rise
  exact least_eq h.m.q.q.heap (h.perm.mem_iff.2 List.mem_cons_self) (fun x hx => hr x (h.perm.mem_iff.1 hx))
theorem PQ.grown {w0 w : World} {b xb : Nat} {v : Value} {L L' X : List Thing} {y : Thing} {k : Nat} (hm : QX w0 w b v L' xb (X.take k ++ [y] ++ X.drop k)) (hp : L'.Perm (y :: L)) (h : L.Perm X) (hr : Rise X) (hl : L.length < 100) (hI : Ins X y k) : PQ w0 w b v L' xb (X.take k ++ [y] ++ X.drop k) :=
  ⟨hm, (hp.trans (List.Perm.cons _ h)).trans (perm_ins y k).symm, rise_ins hr hI, by have := hp.length_eq; rw [List.length_cons] at this; omega⟩
theorem PQ.less {w0 w : World} {b xb : Nat} {v : Value} {L L' Y : List Thing} {m : Thing} (hm : QX w0 w b v L' xb Y) (hp : (m :: L').Perm L) (h : L.Perm (m :: Y)) (hr : Rise (m :: Y)) (hl : L.length ≤ 100) : PQ w0 w b v L' xb Y :=
  ⟨hm, (List.perm_cons m).1 (hp.trans h), by unfold Rise at *; exact (List.pairwise_cons.1 hr).2, by have := hp.length_eq; rw [List.length_cons] at this; omega⟩
end Go.Proofs.Ytjibkhljihnhiaa
