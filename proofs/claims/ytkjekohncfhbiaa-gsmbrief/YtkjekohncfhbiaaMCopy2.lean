/-
  The program's copyEach.
-/
import Derived.Test.YtkjekohncfhbiaaMCopy1
import Derived.OwnWalk
set_option linter.unusedSimpArgs false
set_option linter.unusedVariables false
namespace Go.Proofs.Ytkjekohncfhbiaa
open Go.RowKit
/-- What copyEach answers: a row of its own. -/
def CPost {α : Type} (z : Nat) (R : World → List Value → α → Prop) (l : List α) (w : World) (e : Ending) (w' : World) : Prop := ∃ ao cap, e = .returned (.slice ao l.length cap) ∧ NewR w.heap.size (fun w => RowR z R w (.slice ao l.length cap) l) w' ∧ Below w.heap.size w w'
def setL (xs : List Value) (off : Nat) : List Value → List Value
  | [] => xs
  | c :: r => setL (xs.set off c) (off + 1) r
def setAll (w : World) (b off : Nat) : List Value → World
  | [] => w
  | c :: r => setAll (w.setCell ⟨b, off, none⟩ c) b (off + 1) r
theorem setL_low : ∀ (cs xs : List Value) (off j : Nat), j < off → (setL xs off cs)[j]? = xs[j]?
  | [], _, _, _, _ => rfl
  | c :: r, xs, off, j, h => by
    rw [setL, setL_low r _ _ _ (by omega), List.getElem?_set_ne (by omega)]
theorem setL_at : ∀ (cs xs : List Value) (off i : Nat) (c : Value), off + cs.length ≤ xs.length → cs[i]? = some c → (setL xs off cs)[off + i]? = some c
  | [], _, _, _, _, _, h => by simp at h
  | d :: r, xs, off, 0, c, hl, h => by
    simp only [List.length_cons] at hl
    rw [setL, setL_low r _ _ _ (by omega), Nat.add_zero, List.getElem?_set_self (by omega)]
    simpa using h
  | d :: r, xs, off, i + 1, c, hl, h => by
    simp only [List.length_cons] at hl
    have := setL_at r (xs.set off d) (off + 1) i c (by rw [List.length_set]; omega) (by simpa using h)
    rw [setL, show off + (i + 1) = off + 1 + i by omega]
    exact this
theorem setAll_own {H : Nat} {e : TypeId} {z n g cap : Nat} : ∀ (cs : List Value) (w : World) (xs : List Value) (off : Nat), w.ownsRow H e z (.slice (some ⟨g, 0, none⟩) n cap) n xs → (setAll w g off cs).ownsRow H e z (.slice (some ⟨g, 0, none⟩) n cap) n (setL xs off cs)
  | [], _, _, _, h => h
  | c :: r, w, xs, off, h => setAll_own r _ _ _ (own_set h off c)
theorem setAll_keep {b : Nat} {w0 : World} : ∀ (cs : List Value) (w : World) (off : Nat), KeepBut b w0 w → KeepBut b w0 (setAll w b off cs)
  | [], _, _, h => h
  | c :: r, w, off, h => setAll_keep r _ _ (keep_set h off c)
theorem setAll_below {b B : Nat} {w0 : World} (hb : B ≤ b) : ∀ (cs : List Value) (w : World) (off : Nat), Below B w0 w → Below B w0 (setAll w b off cs)
  | [], _, _, h => h
  | c :: r, w, off, h => setAll_below hb r _ _ (h.setCell hb c)
/-- A row that is being filled: k elements stand. -/
def Built {α : Type} (B ob z : Nat) (t : TypeId) (R : World → List Value → α → Prop) (l : List α) (n k : Nat) (wr : World) : Prop :=
  ∃ xs, wr.ownsRow B t z (.slice (some ⟨ob, 0, none⟩) n n) n xs ∧ ∀ (j : Nat) x, j < k → l[j]? = some x → ∃ cs : List Value, cs.length = z ∧ (∀ (i : Nat) c, cs[i]? = some c → xs[j * z + i]? = some c) ∧ NewR (ob + 1) (fun w => R w cs x) wr
theorem Built.below {α : Type} {B ob z : Nat} {t : TypeId} {R : World → List Value → α → Prop} {l : List α} {n k : Nat} {w w' : World} (h : Built B ob z t R l n k w) (hb : Below w.heap.size w w') : Built B ob z t R l n k w' := by
  obtain ⟨xs, h1, h2⟩ := h
  refine ⟨xs, own_keep h1 (fun g hg => hb.block g (own_lt h1 hg).1), fun j x hj hx => ?_⟩
  obtain ⟨cs, k1, k2, k3⟩ := h2 j x hj hx
  exact ⟨cs, k1, k2, k3.below hb⟩
theorem Built.put {α : Type} {B ob z : Nat} {t : TypeId} {R : World → List Value → α → Prop} {l : List α} {n k : Nat} {w : World} (h : Built B ob z t R l n k w) (hk : k < n) (cs : List Value) (hcs : cs.length = z) (x : α) (hx : l[k]? = some x) (hr : NewR (ob + 1) (fun w => R w cs x) w) : Built B ob z t R l n (k + 1) (setAll w ob (k * z) cs) := by
  obtain ⟨xs, h1, h2⟩ := h
  have hxl : xs.length = n * z := h1.1
  have hkz : k * z + z ≤ n * z := by
    have := Nat.mul_le_mul_right z (show k + 1 ≤ n by omega)
    rw [Nat.succ_mul] at this
    exact this
  have hst : ∀ (P : World → Prop), NewR (ob + 1) P w → NewR (ob + 1) P (setAll w ob (k * z) cs) := fun P hP => hP.step fun a c ha hc => setAll_keep cs w _ (keep_refl _ _) a c (by omega) hc
  refine ⟨_, setAll_own cs w xs _ h1, fun j y hj hy => ?_⟩
  by_cases hjk : j < k
  · obtain ⟨ds, k1, k2, k3⟩ := h2 j y hjk hy
    refine ⟨ds, k1, fun i c hi => ?_, hst _ k3⟩
    have hil := (List.getElem?_eq_some_iff.1 hi).1
    have hjz : j * z + z ≤ k * z := by
      have := Nat.mul_le_mul_right z (show j + 1 ≤ k by omega)
      rw [Nat.succ_mul] at this
      exact this
    rw [setL_low _ _ _ _ (by omega)]
    exact k2 i c hi
  · obtain rfl : j = k := by omega
    obtain rfl : x = y := Option.some.inj (hx.symm.trans hy)
    exact ⟨cs, hcs, fun i c hi => setL_at cs xs _ i c (by omega) hi, hst _ hr⟩
theorem Built.done {α : Type} {B ob z : Nat} {t : TypeId} {R : World → List Value → α → Prop} {l : List α} {n : Nat} {w : World} (h : Built B ob z t R l n n w) (hn : n = l.length) (hl : n ≤ 10000000000000) (hB : B ≤ ob) : NewR B (fun w => RowR z R w (.slice (some ⟨ob, 0, none⟩) l.length n) l) w := by
  obtain ⟨xs, h1, h2⟩ := h
  intro w' hw
  refine ⟨ob, 0, ⟨_, n, rfl, by omega, fun _ => rfl⟩, by omega, fun j x hx => ?_⟩
  have hjl := (List.getElem?_eq_some_iff.1 hx).1
  obtain ⟨cs, k1, k2, k3⟩ := h2 j x (by omega) hx
  refine ⟨cs, k1, k3 w' fun a c ha hc => hw a c (by omega) hc, fun i c hi => ?_⟩
  refine hw _ _ hB ?_
  rw [Nat.zero_add]
  exact own_cell h1 (k2 i c hi)
theorem Built.cells {α : Type} {B ob z : Nat} {t : TypeId} {R : World → List Value → α → Prop} {l : List α} {n k : Nat} {w : World} (h : Built B ob z t R l n k w) (hk : k < n) (i : Nat) (hi : i < z) : (∃ u, w.cell? ⟨ob, k * z + i, none⟩ = some u) ∧ w.frozen? ⟨ob, k * z + i, none⟩ = false := by
  obtain ⟨xs, h1, h2⟩ := h
  have hxl : xs.length = n * z := h1.1
  have hkz : k * z + z ≤ n * z := by
    have := Nat.mul_le_mul_right z (show k + 1 ≤ n by omega)
    rw [Nat.succ_mul] at this
    exact this
  exact ⟨⟨_, own_cell h1 (List.getElem?_eq_getElem (by omega))⟩, own_free h1 _⟩
theorem infoOn : (Try.prog.info? 165).map (fun i => (i.zero, i.size, i.bytes)) = some (some (.agg #[.string ⟨#[]⟩, .int .i64 0]), 2, 24) := by kernel_rfl
end Go.Proofs.Ytkjekohncfhbiaa
