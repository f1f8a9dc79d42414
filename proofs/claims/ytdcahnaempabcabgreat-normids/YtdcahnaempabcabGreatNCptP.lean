/-
  What the walk of slices.CompactFunc leans on: plain rows, rows that are owned, clear.
-/
import Derived.Test.YtdcahnaempabcabGreatNSent
import Derived.Test.YtdcahnaempabcabGreatPartX
import Derived.Laws.IdiomCopy
set_option linter.unusedSimpArgs false
set_option linter.unusedVariables false
namespace Go.Proofs.YtdcahnaempabcabGreat
open Go.RowKit
/-- k elements stand without neighbours that are one. -/
def CpA {α : Type} (c : α → α → Int) (L : List α) (k : Nat) : Prop := ∃ p, L[k - 1]? = some p ∧ Np.cpt c L = L.take k ++ Np.cptF c p (L.drop k)
/-- The first kk of D, and what comes of L from m on. -/
def CpB {α : Type} (c : α → α → Int) (L D : List α) (m kk : Nat) : Prop := D.length = L.length ∧ D.drop (m - 1) = L.drop (m - 1) ∧ kk ≤ m - 1 ∧ 1 ≤ kk ∧ 1 ≤ m ∧ ∃ p, L[m - 1]? = some p ∧ Np.cpt c L = D.take kk ++ Np.cptF c p (L.drop m)
section
variable {α : Type} {c : α → α → Int} {L D : List α}
theorem CpA.start (h : 1 ≤ L.length) : CpA c L 1 := by
  cases L with
  | nil => simp at h
  | cons x r => exact ⟨x, rfl, rfl⟩
theorem CpA.keep {k : Nat} {x y : α} (h : CpA c L k) (hk : 1 ≤ k) (hx : L[k]? = some x) (hy : L[k - 1]? = some y) (hne : c x y ≠ 0) : CpA c L (k + 1) := by
  obtain ⟨p, hp, e⟩ := h
  rw [hy] at hp
  cases hp
  refine ⟨x, hx, ?_⟩
  rw [e, Mp.drop_at hx, Np.cptF, if_neg hne, Mp.take_at hx, List.append_assoc]
  rfl
theorem CpA.all {k : Nat} (h : CpA c L k) (hk : L.length ≤ k) : Np.cpt c L = L := by
  obtain ⟨p, hp, e⟩ := h
  rw [e, Mp.drop_all hk, List.take_of_length_le hk]
  simp [Np.cptF]
theorem CpA.dup {k : Nat} {x y : α} (h : CpA c L k) (hk : 1 ≤ k) (hx : L[k]? = some x) (hy : L[k - 1]? = some y) (he : c x y = 0) : CpB c L L (k + 1) k := by
  obtain ⟨p, hp, e⟩ := h
  rw [hy] at hp
  cases hp
  refine ⟨rfl, rfl, by omega, hk, by omega, x, by rw [Nat.add_sub_cancel]; exact hx, ?_⟩
  rw [e, Mp.drop_at hx, Np.cptF, if_pos he]
theorem CpB.at {m kk : Nat} (h : CpB c L D m kk) (j : Nat) (hj : m - 1 ≤ j) : D[j]? = L[j]? := by
  have e := congrArg (fun l => l[j - (m - 1)]?) h.2.1
  simp only [List.getElem?_drop] at e
  rwa [show m - 1 + (j - (m - 1)) = j by omega] at e
theorem CpB.skip {m kk : Nat} {x y : α} (h : CpB c L D m kk) (hx : L[m]? = some x) (hy : L[m - 1]? = some y) (he : c x y = 0) : CpB c L D (m + 1) kk := by
  have hat := h.at
  obtain ⟨h1, h2, h3, h4, h5, p, hp, e⟩ := h
  rw [hy] at hp
  cases hp
  refine ⟨h1, ?_, by omega, h4, by omega, x, by rw [Nat.add_sub_cancel]; exact hx, ?_⟩
  · refine List.ext_getElem? fun j => ?_
    rw [List.getElem?_drop, List.getElem?_drop]
    exact hat _ (by omega)
  · rw [e, Mp.drop_at hx, Np.cptF, if_pos he]
theorem CpB.put {m kk : Nat} {x y : α} (h : CpB c L D m kk) (hx : L[m]? = some x) (hy : L[m - 1]? = some y) (hne : c x y ≠ 0) : CpB c L (D.set kk x) (m + 1) (kk + 1) := by
  have hat := h.at
  obtain ⟨h1, h2, h3, h4, h5, p, hp, e⟩ := h
  have hml := (List.getElem?_eq_some_iff.1 hx).1
  rw [hy] at hp
  cases hp
  refine ⟨by rw [List.length_set]; exact h1, ?_, by omega, by omega, by omega, x, by rw [Nat.add_sub_cancel]; exact hx, ?_⟩
  · refine List.ext_getElem? fun j => ?_
    rw [List.getElem?_drop, List.getElem?_drop, List.getElem?_set_ne (by omega)]
    exact hat _ (by omega)
  · have hs : (D.set kk x)[kk]? = some x := List.getElem?_set_self (by omega)
    rw [e, Mp.drop_at hx, Np.cptF, if_neg hne, Mp.take_at hs, List.take_set_of_le (Nat.le_refl _), List.append_assoc]
    rfl
theorem CpB.done {m kk : Nat} (h : CpB c L D m kk) (hm : L.length ≤ m) : Np.cpt c L = D.take kk := by
  obtain ⟨_, _, _, _, _, p, _, e⟩ := h
  rw [e, Mp.drop_all hm]
  simp [Np.cptF]
theorem CpB.lt {m kk : Nat} (h : CpB c L D m kk) (hm : m ≤ L.length) : kk < L.length := by
  obtain ⟨_, _, h3, h4, h5, _⟩ := h
  omega
end
theorem setL_high : ∀ (cs xs : List Value) (off j : Nat), off + cs.length ≤ j → (setL xs off cs)[j]? = xs[j]?
  | [], _, _, _, _ => rfl
  | c :: r, xs, off, j, h => by
    simp only [List.length_cons] at h
    rw [setL, setL_high r _ _ _ (by omega), List.getElem?_set_ne (by omega)]
theorem setL_length : ∀ (cs xs : List Value) (off : Nat), (setL xs off cs).length = xs.length
  | [], _, _ => rfl
  | c :: r, xs, off => by rw [setL, setL_length r, List.length_set]
theorem flat_length {α : Type} {enc : α → List Value} {z : Nat} (hk : ∀ x, (enc x).length = z) : ∀ L : List α, (L.map enc).flatten.length = L.length * z
  | [] => by simp
  | a :: L => by rw [List.map_cons, List.flatten_cons, List.length_append, flat_length hk L, hk, List.length_cons, Nat.add_mul, Nat.one_mul, Nat.add_comm]
theorem flat_at {α : Type} {enc : α → List Value} {z : Nat} (hk : ∀ x, (enc x).length = z) {L : List α} {i j : Nat} {x : α} {u : Value} (hx : L[i]? = some x) (hj : (enc x)[j]? = some u) : (L.map enc).flatten[i * z + j]? = some u :=
  flatten_get (fun y hy => by obtain ⟨v, _, rfl⟩ := List.mem_map.1 hy; exact hk v) (by rw [List.getElem?_map, hx]; rfl) hj
theorem flat_set {α : Type} {enc : α → List Value} {z : Nat} (hk : ∀ x, (enc x).length = z) {L : List α} {i : Nat} (hi : i < L.length) (u : α) : setL (L.map enc).flatten (i * z) (enc u) = ((L.set i u).map enc).flatten := by
  have hiz : i * z + z ≤ L.length * z := by
    have := Nat.mul_le_mul_right z (show i + 1 ≤ L.length by omega)
    rw [Nat.succ_mul] at this
    exact this
  refine List.ext_getElem? fun t => ?_
  by_cases ht : t < L.length * z
  · have k0 : 0 < z := by
      rcases Nat.eq_zero_or_pos z with h | h
      · subst h; simp at ht
      · exact h
    have hq : t / z < L.length := (Nat.div_lt_iff_lt_mul k0).2 ht
    have hj : t % z < z := Nat.mod_lt _ k0
    have et : t / z * z + t % z = t := by rw [Nat.mul_comm, Nat.div_add_mod]
    by_cases e : t / z = i
    · have e1 := setL_at (enc u) (L.map enc).flatten (i * z) (t % z) ((enc u)[t % z]'(by rw [hk]; exact hj)) (by rw [hk, flat_length hk]; exact hiz) (List.getElem?_eq_getElem _)
      have e2 := flat_at hk (L := L.set i u) (i := i) (j := t % z) (x := u) (u := (enc u)[t % z]'(by rw [hk]; exact hj)) (List.getElem?_set_self hi) (List.getElem?_eq_getElem _)
      rw [← e, et] at e1 e2
      rw [← e, e1, e2]
    · have hx : L[t / z]? = some L[t / z] := List.getElem?_eq_getElem hq
      have e2 := flat_at hk (L := L.set i u) (i := t / z) (j := t % z) (x := L[t / z]) (u := (enc L[t / z])[t % z]'(by rw [hk]; exact hj)) (by rw [List.getElem?_set_ne (Ne.symm e)]; exact hx) (List.getElem?_eq_getElem _)
      have e3 := flat_at hk (L := L) (i := t / z) (j := t % z) (x := L[t / z]) (u := (enc L[t / z])[t % z]'(by rw [hk]; exact hj)) hx (List.getElem?_eq_getElem _)
      rw [et] at e2 e3
      rw [e2]
      rcases Nat.lt_or_gt_of_ne e with h | h
      · rw [setL_low _ _ _ _ (by have := Nat.mul_le_mul_right z (show t / z + 1 ≤ i by omega); rw [Nat.succ_mul] at this; omega), e3]
      · rw [setL_high _ _ _ _ (by rw [hk]; have := Nat.mul_le_mul_right z (show i + 1 ≤ t / z by omega); rw [Nat.succ_mul] at this; omega), e3]
  · rw [List.getElem?_eq_none (by rw [setL_length, flat_length hk]; omega), List.getElem?_eq_none (by rw [flat_length hk, List.length_set]; omega)]
theorem flat_take {α : Type} {enc : α → List Value} {z : Nat} (hk : ∀ x, (enc x).length = z) : ∀ (L : List α) (k : Nat), (L.map enc).flatten.take (k * z) = ((L.take k).map enc).flatten
  | [], k => by simp
  | a :: L, 0 => by simp
  | a :: L, k + 1 => by
    rw [List.map_cons, List.flatten_cons, List.take_succ_cons, List.map_cons, List.flatten_cons, List.take_append, hk, List.take_of_length_le (by rw [hk, Nat.succ_mul]; omega), show (k + 1) * z - z = k * z by rw [Nat.succ_mul]; omega, flat_take hk L k]
theorem setCells_all : ∀ (cs : List Value) (w : World) (b off : Nat), w.setCells b off cs = setAll w b off cs
  | [], _, _, _ => rfl
  | c :: r, w, b, off => setCells_all r _ b (off + 1)
/-- A store of one element. -/
theorem own_put {α : Type} {enc : α → List Value} {z : Nat} (hk : ∀ x, (enc x).length = z) {w : World} {H : Nat} {t : TypeId} {g n cap : Nat} {D : List α} (h : w.ownsRow H t z (.slice (some ⟨g, 0, none⟩) n cap) n (D.map enc).flatten) {i : Nat} (hi : i < D.length) (u : α) : (setAll w g (i * z) (enc u)).ownsRow H t z (.slice (some ⟨g, 0, none⟩) n cap) n ((D.set i u).map enc).flatten := by
  have := setAll_own (enc u) w _ (i * z) h
  rwa [flat_set hk hi] at this
/-- A row whose end is made nought, cut. -/
theorem own_cleared {α : Type} {enc : α → List Value} {z : Nat} (hk : ∀ x, (enc x).length = z) {w : World} {H : Nat} {t : TypeId} {g n cap : Nat} {D : List α} (h : w.ownsRow H t z (.slice (some ⟨g, 0, none⟩) n cap) n (D.map enc).flatten) {kk : Nat} (hkk : kk ≤ n) (cs : List Value) : (setAll w g (kk * z) cs).ownsRow H t z (.slice (some ⟨g, 0, none⟩) kk cap) kk ((D.take kk).map enc).flatten := by
  have h1 := own_cut (setAll_own cs w _ (kk * z) h) kk hkk
  have e : (setL (D.map enc).flatten (kk * z) cs).take (kk * z) = (D.map enc).flatten.take (kk * z) := by
    refine List.ext_getElem? fun j => ?_
    rw [List.getElem?_take, List.getElem?_take]
    split
    · exact setL_low _ _ _ _ (by assumption)
    · rfl
  rw [e, flat_take hk] at h1
  exact h1
/-- What the walk leaves: nothing turned but one row and new blocks. -/
theorem gb_refl (w : World) (b : Option Nat) : w.grownBy w b := ⟨rfl, rfl, rfl, Nat.le_refl _, fun _ _ _ => rfl⟩
theorem gb_below {w w1 w2 : World} {b : Option Nat} (h : w.grownBy w1 b) (k : Below w1.heap.size w1 w2) : w.grownBy w2 b :=
  ⟨k.os.trans h.os, k.tape.trans h.tape, k.output.trans h.output, Nat.le_trans h.size k.size, fun j hj hn => (k.block j (by have := h.size; omega)).trans (h.block j hj hn)⟩
theorem gb_set {w w1 : World} {g : Nat} (h : w.grownBy w1 (some g)) (off : Nat) (u : Value) : w.grownBy (w1.setCell ⟨g, off, none⟩ u) (some g) :=
  ⟨h.os, h.tape, h.output, by have := h.size; simpa [World.setCell] using this, fun j hj hn => (set_other w1 g off u j (fun e => hn (by rw [e]))).trans (h.block j hj hn)⟩
theorem gb_setAll {w : World} {g : Nat} : ∀ (cs : List Value) (w1 : World) (off : Nat), w.grownBy w1 (some g) → w.grownBy (setAll w1 g off cs) (some g)
  | [], _, _, h => h
  | c :: r, w1, off, h => gb_setAll r _ _ (gb_set h off c)
theorem gb_keep {w w1 : World} {g : Nat} (h : w.grownBy w1 (some g)) : KeepBut g w w1 := by
  intro a c ha hc
  have hl := cell_lt hc
  have := h.block a.block hl (fun e => ha (Option.some.inj e))
  unfold World.cell? at hc ⊢
  rw [this]
  exact hc
/-- 'clear' of a row of structs. -/
theorem run_clearK (w : World) (t e ty : TypeId) (z : Value) (ht : Tryz.prog.underlying t = some (.slice e)) (hv : ∀ w, (zeroValue e).run Tryz.prog w = .ok z w) (b o n c : Nat) (hn : 0 < n)
    (h1 : ∀ v ∈ (Builtin.zeroCells z.cells n).toList, v.oneCell' = true) (hc : ∀ j, j < (Builtin.zeroCells z.cells n).toList.length → (w.cell? ⟨b, o + j, none⟩).isSome = true) (hf : ∀ j, j < (Builtin.zeroCells z.cells n).toList.length → w.frozen? ⟨b, o + j, none⟩ = false) :
    (Builtin.clear_ #[t] ty #[.slice (some ⟨b, o, none⟩) n c]).run Tryz.prog w = .ok (.tuple #[]) (w.setCells b o (Builtin.zeroCells z.cells n).toList) := by
  have hst := run_storeCells_cells (P := Tryz.prog) b o (Builtin.zeroCells z.cells n).toList 0 w (by simpa using hc) (by simpa using hf) h1
  simp only [Nat.add_zero] at hst
  obtain ⟨m, rfl⟩ : ∃ m, n = m + 1 := ⟨n - 1, by omega⟩
  simp [Builtin.clear_, run_underlying ht, hv, hst]
end Go.Proofs.YtdcahnaempabcabGreat
