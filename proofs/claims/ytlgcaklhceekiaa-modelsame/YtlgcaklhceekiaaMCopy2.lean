/-
  The program's copyEach.
-/
import Derived.Test.YtlgcaklhceekiaaMCopy1
import Derived.OwnWalk
set_option linter.unusedSimpArgs false
set_option linter.unusedVariables false
namespace Go.Proofs.Ytlgcaklhceekiaa
open Go.RowKit
/-- What copyEach answers: a row of its own. -/
def CPost {α : Type} (z : Nat) (R : World → List Value → α → Prop) (l : List α) (w : World) (e : Ending) (w' : World) : Prop := ∃ ao cap, e = .returned (.slice ao l.length cap) ∧ NewR w.heap.size (fun w => RowR z R w (.slice ao l.length cap) l) w' ∧ Below w.heap.size w w'
def setL (xs : List Value) (off : Nat) : List Value → List Value
  | [] => xs
  | c :: r => setL (xs.set off c) (off + 1) r
def setAll (w : World) (b off : Nat) : List Value → World
  | [] => w
  | c :: r => setAll (w.setCell ⟨b, off, none⟩ c) b (off + 1) r
theorem setL_low : ∀ (cs xs : List Value) (off j : Nat), j < off → (setL xs off cs)[j]? = xs[j]?
  | [], _, _, _, _ => rfl
  | c :: r, xs, off, j, h => by
    rw [setL, setL_low r _ _ _ (by omega), List.getElem?_set_ne (by omega)]
theorem setL_at : ∀ (cs xs : List Value) (off i : Nat) (c : Value), off + cs.length ≤ xs.length → cs[i]? = some c → (setL xs off cs)[off + i]? = some c
  | [], _, _, _, _, _, h => by simp at h
  | d :: r, xs, off, 0, c, hl, h => by
    simp only [List.length_cons] at hl
    rw [setL, setL_low r _ _ _ (by omega), Nat.add_zero, List.getElem?_set_self (by omega)]
    simpa using h
  | d :: r, xs, off, i + 1, c, hl, h => by
    simp only [List.length_cons] at hl
    have := setL_at r (xs.set off d) (off + 1) i c (by rw [List.length_set]; omega) (by simpa using h)
    rw [setL, show off + (i + 1) = off + 1 + i by omega]
    exact this
theorem setAll_own {H : Nat} {e : TypeId} {z n g cap : Nat} : ∀ (cs : List Value) (w : World) (xs : List Value) (off : Nat), w.ownsRow H e z (.slice (some ⟨g, 0, none⟩) n cap) n xs → (setAll w g off cs).ownsRow H e z (.slice (some ⟨g, 0, none⟩) n cap) n (setL xs off cs)
  | [], _, _, _, h => h
  | c :: r, w, xs, off, h => setAll_own r _ _ _ (own_set h off c)
theorem setAll_keep {b : Nat} {w0 : World} : ∀ (cs : List Value) (w : World) (off : Nat), KeepBut b w0 w → KeepBut b w0 (setAll w b off cs)
  | [], _, _, h => h
  | c :: r, w, off, h => setAll_keep r _ _ (keep_set h off c)
theorem setAll_below {b B : Nat} {w0 : World} (hb : B ≤ b) : ∀ (cs : List Value) (w : World) (off : Nat), Below B w0 w → Below B w0 (setAll w b off cs)
  | [], _, _, h => h
  | c :: r, w, off, h => setAll_below hb r _ _ (h.setCell hb c)
/-- A row that is being filled: k elements stand. -/
def Built {α : Type} (B ob z : Nat) (t : TypeId) (R : World → List Value → α → Prop) (l : List α) (n k : Nat) (wr : World) : Prop :=
  ∃ xs, wr.ownsRow B t z (.slice (some ⟨ob, 0, none⟩) n n) n xs ∧ ∀ (j : Nat) x, j < k → l[j]? = some x → ∃ cs : List Value, cs.length = z ∧ (∀ (i : Nat) c, cs[i]? = some c → xs[j * z + i]? = some c) ∧ NewR (ob + 1) (fun w => R w cs x) wr
theorem Built.below {α : Type} {B ob z : Nat} {t : TypeId} {R : World → List Value → α → Prop} {l : List α} {n k : Nat} {w w' : World} (h : Built B ob z t R l n k w) (hb : Below w.heap.size w w') : Built B ob z t R l n k w' := by
  obtain ⟨xs, h1, h2⟩ := h
  refine ⟨xs, own_keep h1 (fun g hg => hb.block g (own_lt h1 hg).1), fun j x hj hx => ?_⟩
  obtain ⟨cs, k1, k2, k3⟩ := h2 j x hj hx
  exact ⟨cs, k1, k2, k3.below hb⟩
theorem Built.put {α : Type} {B ob z : Nat} {t : TypeId} {R : World → List Value → α → Prop} {l : List α} {n k : Nat} {w : World} (h : Built B ob z t R l n k w) (hk : k < n) (cs : List Value) (hcs : cs.length = z) (x : α) (hx : l[k]? = some x) (hr : NewR (ob + 1) (fun w => R w cs x) w) : Built B ob z t R l n (k + 1) (setAll w ob (k * z) cs) := by
  obtain ⟨xs, h1, h2⟩ := h
  have hxl : xs.length = n * z := h1.1
  have hkz : k * z + z ≤ n * z := by
    have := Nat.mul_le_mul_right z (show k + 1 ≤ n by omega)
    rw [Nat.succ_mul] at this
    exact this
  have hst : ∀ (P : World → Prop), NewR (ob + 1) P w → NewR (ob + 1) P (setAll w ob (k * z) cs) := fun P hP => hP.step fun a c ha hc => setAll_keep cs w _ (keep_refl _ _) a c (by omega) hc
  refine ⟨_, setAll_own cs w xs _ h1, fun j y hj hy => ?_⟩
  by_cases hjk : j < k
  · obtain ⟨ds, k1, k2, k3⟩ := h2 j y hjk hy
    refine ⟨ds, k1, fun i c hi => ?_, hst _ k3⟩
    have hil := (List.getElem?_eq_some_iff.1 hi).1
    have hjz : j * z + z ≤ k * z := by
      have := Nat.mul_le_mul_right z (show j + 1 ≤ k by omega)
      rw [Nat.succ_mul] at this
      exact this
    rw [setL_low _ _ _ _ (by omega)]
    exact k2 i c hi
  · obtain rfl : j = k := by omega
    obtain rfl : x = y := Option.some.inj (hx.symm.trans hy)
    exact ⟨cs, hcs, fun i c hi => setL_at cs xs _ i c (by omega) hi, hst _ hr⟩
theorem Built.done {α : Type} {B ob z : Nat} {t : TypeId} {R : World → List Value → α → Prop} {l : List α} {n : Nat} {w : World} (h : Built B ob z t R l n n w) (hn : n = l.length) (hl : n ≤ 10000000000000) (hB : B ≤ ob) : NewR B (fun w => RowR z R w (.slice (some ⟨ob, 0, none⟩) l.length n) l) w := by
  obtain ⟨xs, h1, h2⟩ := h
  intro w' hw
  refine ⟨ob, 0, ⟨_, n, rfl, by omega, fun _ => rfl⟩, by omega, fun j x hx => ?_⟩
  have hjl := (List.getElem?_eq_some_iff.1 hx).1
  obtain ⟨cs, k1, k2, k3⟩ := h2 j x (by omega) hx
  refine ⟨cs, k1, k3 w' fun a c ha hc => hw a c (by omega) hc, fun i c hi => ?_⟩
  refine hw _ _ hB ?_
  rw [Nat.zero_add]
  exact own_cell h1 (k2 i c hi)
theorem Built.cells {α : Type} {B ob z : Nat} {t : TypeId} {R : World → List Value → α → Prop} {l : List α} {n k : Nat} {w : World} (h : Built B ob z t R l n k w) (hk : k < n) (i : Nat) (hi : i < z) : (∃ u, w.cell? ⟨ob, k * z + i, none⟩ = some u) ∧ w.frozen? ⟨ob, k * z + i, none⟩ = false := by
  obtain ⟨xs, h1, h2⟩ := h
  have hxl : xs.length = n * z := h1.1
  have hkz : k * z + z ≤ n * z := by
    have := Nat.mul_le_mul_right z (show k + 1 ≤ n by omega)
    rw [Nat.succ_mul] at this
    exact this
  exact ⟨⟨_, own_cell h1 (List.getElem?_eq_getElem (by omega))⟩, own_free h1 _⟩
theorem infoOn : (Try.prog.info? 40).map (fun i => (i.zero, i.size, i.bytes)) = some (some (.agg #[.string ⟨#[]⟩, .int .i64 0]), 2, 24) := by kernel_rfl
set_option maxHeartbeats 4000000 in
theorem copyEachO (w : World) (a1 : Option Addr) (n c1 : Nat) (l : List Mp.On) (h1 : ORow w (.slice a1 n c1) l) (hn : n ≤ 1000) :
    Calls Try.prog 39 #[.slice a1 n c1, .func (.func 40) #[] #[]] w (CPost 2 onR l w) := by
  obtain ⟨hn1, hl1, _, b1, o1, ha1, hc1⟩ := orow_at h1
  have HN1 := hideT hn1
  have HC1 := hideT hc1
  have HA1 := hideT ha1
  clear hc1 ha1 h1
  by_cases h0 : n = 0
  · subst h0
    have HL : Hid (l = []) := List.eq_nil_of_length_eq_zero hn1.symm
    clear hn1
    go_enter Try.func39, Try.ntmps39
    go_wp2_with fail
    go_ret
    rw [HL.out]
    exact ⟨none, 0, rfl, fun w' _ => rowR_nil w', Below.refl _ _⟩
  obtain ⟨i0, hi0, hz0, hz1, hz2⟩ := info_parts infoOn
  have t0 : ((n : Int) == 0) = false := beq_eq_false_iff_ne.2 (by omega)
  obtain ⟨W, hrun, r1, r2⟩ := run_make_full (P := Try.prog) w w.heap.size 35 40 i0 _ 2 Try.underlying35 hi0 hz0 hz1 .i64 .i64 n (by rw [hz2]; omega) (by unfold maxLen; omega) (Nat.le_refl _)
  have BT0 : Hid (Built w.heap.size w.heap.size 2 40 onR l n 0 W) := ⟨_, r1, fun j x hj => absurd hj (Nat.not_lt_zero _)⟩
  have BW0 : Hid (Below w.heap.size w W) := (Below.refl _ w).grown r2 (Nat.le_refl _) (fun k hk => by cases hk)
  clear hn1 r1 r2 hi0 hz0 hz1 hz2
  go_enter Try.func39, Try.ntmps39
  go_wp2_with fail
  clear hrun
  go_loopw [16] (fun i wr => ∃ k : Nat, k ≤ n ∧ i = .int .i64 k ∧ Hid (Built w.heap.size w.heap.size 2 40 onR l n k wr) ∧ Hid (Below w.heap.size w wr)) (fun i _ => n - (intOf i).toNat)
  case atStart => exact ⟨0, by omega, rfl, BT0, BW0⟩
  case round =>
    obtain ⟨k, hk, rfl, HB, HW⟩ := hrel
    by_cases hlt : k < n
    rotate_left
    · have HE : Hid (k = n) := by show k = n; omega
      have HB1 : Hid (Built w.heap.size w.heap.size 2 40 onR l n n wr) := by have := HB.out; rw [HE.out] at this; exact this
      go_wp2_with fail
      go_ret
      refine ⟨some ⟨w.heap.size, 0, none⟩, n, ?_, HB1.out.done HN1.out hl1 (Nat.le_refl _), HW.out⟩
      exact congrArg (fun q => Ending.returned (.slice (some ⟨w.heap.size, 0, none⟩) q n)) HN1.out
    obtain ⟨⟨x0, x1⟩, hx⟩ := Mp.at_lt (l := l) (k := k) (by have := HN1.out; omega)
    obtain ⟨hz, d0, d1⟩ := HC1.out k _ hx
    dsimp only at hz d0 d1
    have d0 := below_cell HW.out _ _ d0
    have d1 := below_cell HW.out _ _ d1
    obtain rfl := HA1.out (by omega)
    have HX := hideT hx
    clear hx
    have t1 : (0 : Int) ≤ (k : Int) := by omega
    have t2 : (k : Int) < (n : Int) := by omega
    go_wp2_with fail
    refine (copyOnD x0 x1 _ hz).mono ?_
    rintro e w1 ⟨rfl, p⟩
    have BA := hideT ((Below.refl wr.heap.size wr).alloc (Nat.le_refl _) (.cells #[.string x0, .int .i64 x1] 40))
    have B1 := hideT (BA.out.trans (p.mono BA.out.size))
    have HB1 := hideT (HB.out.below B1.out)
    have HW1 := hideT (HW.out.trans (B1.out.mono HW.out.size))
    obtain ⟨⟨u0, e0⟩, f0⟩ := HB1.out.cells hlt 0 (by omega)
    obtain ⟨⟨u1, e1⟩, f1⟩ := HB1.out.cells hlt 1 (by omega)
    rw [Nat.add_zero] at e0 f0
    have HB2 := hideT (HB1.out.put hlt [.string x0, .int .i64 x1] rfl (x0, x1) HX.out (fun w' _ => ⟨rfl, hz⟩))
    have HW2 := hideT (setAll_below (Nat.le_refl _) [.string x0, .int .i64 x1] _ (k * 2) HW1.out)
    clear p d0 d1
    go_wp2_with fail
    refine ⟨⟨k + 1, by omega, by go_num, HB2, HW2⟩, ?_⟩
    first | omega | (simp [intOf]; omega)
end Go.Proofs.Ytlgcaklhceekiaa
