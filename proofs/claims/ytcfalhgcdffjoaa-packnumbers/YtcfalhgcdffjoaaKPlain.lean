/-
  Models as bytes, and back: plain functions.
-/
import Derived.Test.YtcfalhgcdffjoaaMPlainR
set_option linter.unusedVariables false
namespace Go.Proofs.Ytcfalhgcdffjoaa.Kp
open Mp (BA e0 placeZ)
def byte (n : Int) : UInt8 := UInt8.ofNat (n % 256).toNat
def numF : Nat → Int → List UInt8
  | 0, n => [byte n]
  | k + 1, n => if 128 ≤ n then UInt8.ofNat ((n % 128).toNat + 128) :: numF k (n / 128) else [byte n]
/-- A number as bytes. -/
def num (n : Int) : List UInt8 := numF 10 n
def fold (n : Int) : Int := if n < 0 then -2 * n - 1 else 2 * n
def unfold (n : Int) : Int := if n % 2 = 1 then -((n + 1) / 2) else n / 2
def text (s : BA) : List UInt8 := num s.size ++ s.data.toList
def opsL : List BA := [⟨#[60]⟩, ⟨#[60, 61]⟩, ⟨#[61]⟩, ⟨#[33, 61]⟩, ⟨#[62, 61]⟩, ⟨#[62]⟩]
def atZ (l : List BA) (s : BA) : Int := match Mp.idx l s with
  | some k => k
  | none => -1
def onW (m : Mp.Model) (o : Mp.On) : List UInt8 := num (placeZ m.items o.1) ++ num o.2
def condW (m : Mp.Model) (c : Mp.Cond) : List UInt8 := num (atZ m.files c.1) ++ (num (atZ opsL c.2.1) ++ num (fold c.2.2))
def sentW (m : Mp.Model) (s : Mp.Sent) : List UInt8 := num s.1.length ++ (s.1.flatMap (onW m) ++ (num s.2.length ++ s.2.flatMap (condW m)))
def sentsW (m : Mp.Model) (l : List Mp.Sent) : List UInt8 := num l.length ++ l.flatMap (sentW m)
def itemW (m : Mp.Model) (x : Mp.Item) : List UInt8 := num x.kind ++ (num (placeZ m.items x.parent + 1) ++ (num (if x.req = true then 1 else 0) ++ (num x.ticks ++ (sentsW m x.entry ++ sentsW m x.exit))))
def body (m : Mp.Model) : List UInt8 := num (m.files.length + m.items.length) ++ (m.files.flatMap text ++ (m.items.flatMap (fun x => text x.id) ++ (num m.files.length ++ m.items.flatMap (itemW m))))
/-- The sum, step by step. -/
def sumF : Nat → Nat → List UInt8 → Nat × Nat
  | a, c, [] => (a, c)
  | a, c, x :: r => sumF ((a + x.toNat) % 65521) ((c + (a + x.toNat) % 65521) % 65521) r
def sum (l : List UInt8) : Nat := (sumF 1 0 l).2 * 65536 + (sumF 1 0 l).1
def head (s : Nat) : List UInt8 := [83, 78, 84, 49, UInt8.ofNat (s / 16777216), UInt8.ofNat (s / 65536), UInt8.ofNat (s / 256), UInt8.ofNat s]
def sealed (l : List UInt8) : List UInt8 := head (sum l) ++ l
def pack (m : Mp.Model) : List UInt8 := sealed (body m)
/-! ### Reading: what is left, or a fault -/
abbrev St := Option (List UInt8)
def rest (σ : St) : List UInt8 := σ.getD []
def numR (most : Int) : Nat → Int → List UInt8 → Int × St
  | _, _, [] => (0, none)
  | j, n, x :: r => if j = 0 ∨ 0 < most / 128 ^ j then (if 128 ≤ x.toNat then numR most (j + 1) (n + ((x.toNat % 128 : Nat) : Int) * 128 ^ j) r else if most < n + ((x.toNat % 128 : Nat) : Int) * 128 ^ j then (0, none) else (n + ((x.toNat % 128 : Nat) : Int) * 128 ^ j, some r)) else (0, none)
def numS (most : Int) (σ : St) : Int × St := numR most 0 0 (rest σ)
def textS (σ : St) : BA × St := if (rest (numS 12 σ).2).length < (numS 12 σ).1.toNat then (e0, none) else (⟨((rest (numS 12 σ).2).take (numS 12 σ).1.toNat).toArray⟩, (numS 12 σ).2.map (List.drop (numS 12 σ).1.toNat))
def oneS (l : List BA) (σ : St) : BA × St := match (numS ((l.length : Int) - 1) σ).2 with
  | none => (e0, none)
  | some r => (l.getD (numS ((l.length : Int) - 1) σ).1.toNat e0, some r)
def repS {α : Type} (one : St → α × St) : Nat → List α → St → List α × St
  | 0, acc, σ => (acc, σ)
  | k + 1, acc, σ => repS one k (acc ++ [(one σ).1]) (one σ).2
def rowS {α : Type} (most : Int) (one : St → α × St) (σ : St) : List α × St := repS one (numS most σ).1.toNat [] (numS most σ).2
def onS (ids : List BA) (σ : St) : Mp.On × St := (((oneS ids σ).1, (numS 5 (oneS ids σ).2).1), (numS 5 (oneS ids σ).2).2)
def condS (fs : List BA) (σ : St) : Mp.Cond × St :=
  let a := oneS fs σ
  let b := oneS opsL a.2
  let c := numS 2000000 b.2
  ((a.1, b.1, unfold c.1), c.2)
def sentS (fs ids : List BA) (σ : St) : Mp.Sent × St :=
  let a := rowS 3 (onS ids) σ
  let b := rowS 2 (condS fs) a.2
  ((a.1, b.1), b.2)
def parS (ids : List BA) (σ : St) : BA × St :=
  let a := numS ids.length σ
  (if a.1 = 0 then e0 else ids.getD (a.1 - 1).toNat e0, a.2)
def itemS (fs ids : List BA) (id : BA) (σ : St) : Mp.Item × St :=
  let a := numS 5 σ
  let b := parS ids a.2
  let c := numS 1 b.2
  let d := numS 100 c.2
  let e := rowS 3 (sentS fs ids) d.2
  let f := rowS 3 (sentS fs ids) e.2
  (⟨id, a.1, b.1, decide (c.1 = 1), d.1, e.1, f.1⟩, f.2)
def itemsS (fs ids : List BA) : List BA → List Mp.Item → St → List Mp.Item × St
  | [], acc, σ => (acc, σ)
  | id :: r, acc, σ => itemsS fs ids r (acc ++ [(itemS fs ids id σ).1]) (itemS fs ids id σ).2
def allS (σ : St) : Mp.Model × St :=
  let a := rowS 22 textS σ
  let b := numS a.1.length a.2
  let fs := a.1.take b.1.toNat
  let ids := a.1.drop b.1.toNat
  let c := itemsS fs ids ids [] b.2
  (⟨fs, c.1⟩, c.2)
def unpack (l : List UInt8) : Option Mp.Model := if l.length < 8 then none else match (allS (some (l.drop 8))).2 with
  | none => none
  | some _ => if Mp.isB (allS (some (l.drop 8))).1 = true ∧ pack (allS (some (l.drop 8))).1 = l then some (allS (some (l.drop 8))).1 else none
/-! ### Numbers -/
theorem numF_more : ∀ (k : Nat) (n : Int), n < 128 ^ (k + 1) → numF (k + 1) n = numF k n
  | 0, n, h => by
    have : ¬ 128 ≤ n := by omega
    show (if 128 ≤ n then _ else _) = _
    rw [if_neg this]
    rfl
  | k + 1, n, h => by
    show (if 128 ≤ n then _ :: numF (k + 1) (n / 128) else _) = (if 128 ≤ n then _ :: numF k (n / 128) else _)
    rw [numF_more k (n / 128) (by rw [Int.pow_succ] at h; omega)]
theorem num_step {n : Int} (h : 128 ≤ n) (hl : n < 9223372036854775808) : num n = UInt8.ofNat ((n % 128).toNat + 128) :: num (n / 128) := by
  show numF 10 n = _ :: numF 10 (n / 128)
  rw [numF_more 9 (n / 128) (by omega)]
  show (if 128 ≤ n then _ else _) = _
  rw [if_pos h]
theorem num_last {n : Int} (h : ¬ 128 ≤ n) : num n = [byte n] := by
  show (if 128 ≤ n then _ else _) = _
  rw [if_neg h]
theorem numR_le (most : Int) (hm : 0 ≤ most) : ∀ (l : List UInt8) (j : Nat) (n : Int), 0 ≤ n → 0 ≤ (numR most j n l).1 ∧ ((numR most j n l).1 ≤ most)
  | [], j, n, hn => ⟨Int.le_refl _, hm⟩
  | x :: r, j, n, hn => by
    rw [numR]
    have hp : (0 : Int) ≤ ((x.toNat % 128 : Nat) : Int) * 128 ^ j := Int.mul_nonneg (by omega) (Int.pow_nonneg (by decide))
    split
    · split
      · exact numR_le most hm r _ _ (by omega)
      · split
        · exact ⟨Int.le_refl _, hm⟩
        · exact ⟨by omega, by omega⟩
    · exact ⟨Int.le_refl _, hm⟩
theorem numR_neg (l : List UInt8) : numR (-1) 0 0 l = (0, none) ∨ ∃ x r, l = x :: r ∧ 128 ≤ x.toNat ∧ numR (-1) 0 0 l = numR (-1) 1 (((x.toNat % 128 : Nat) : Int)) r := by
  cases l with
  | nil => exact .inl rfl
  | cons x r =>
    rw [numR, if_pos (.inl rfl)]
    split
    · rename_i h
      exact .inr ⟨x, r, rfl, h, by simp⟩
    · rw [if_pos (by simp; omega)]
      exact .inl rfl
theorem numR_fault (most : Int) : ∀ (l : List UInt8) (j : Nat) (n : Int), (numR most j n l).2 = none → (numR most j n l).1 = 0
  | [], j, n, h => rfl
  | x :: r, j, n, h => by
    rw [numR] at h ⊢
    split
    · rename_i h1
      rw [if_pos h1] at h
      split
      · rename_i h2
        rw [if_pos h2] at h
        exact numR_fault most r _ _ h
      · rename_i h2
        rw [if_neg h2] at h
        split
        · rfl
        · rename_i h3
          rw [if_neg h3] at h
          cases h
    · rfl
theorem numS_none (most : Int) : numS most none = (0, none) := rfl
theorem numS_le {most : Int} (hm : 0 ≤ most) (σ : St) : 0 ≤ (numS most σ).1 ∧ (numS most σ).1 ≤ most := numR_le most hm _ _ _ (Int.le_refl _)
/-- One that is had again. -/
theorem numR_back (most : Int) (r : List UInt8) : ∀ (k j : Nat) (a n : Int), 0 ≤ n → n < 128 ^ (k + 1) → a + n * 128 ^ j ≤ most → 0 ≤ a → (j = 0 ∨ 1 ≤ n) → numR most j a (numF k n ++ r) = (a + n * 128 ^ j, some r) := by
  intro k
  have last : ∀ (j : Nat) (a n : Int), 0 ≤ n → n < 128 → a + n * 128 ^ j ≤ most → 0 ≤ a → (j = 0 ∨ 1 ≤ n) → numR most j a ([byte n] ++ r) = (a + n * 128 ^ j, some r) := by
    intro j a n hn hl hm ha hj
    have hb : (byte n).toNat = n.toNat := by
      unfold byte
      rw [UInt8.toNat_ofNat']
      omega
    have hp : (0 : Int) < 128 ^ j := Int.pow_pos (by decide)
    have h1 : j = 0 ∨ 0 < most / 128 ^ j := by
      rcases hj with hj | hj
      · exact .inl hj
      · refine .inr ?_
        have : 1 * 128 ^ j ≤ most := by
          have := Int.mul_le_mul_of_nonneg_right hj (Int.le_of_lt hp)
          omega
        have := (Int.le_ediv_iff_mul_le hp).2 this
        omega
    have hx : (((byte n).toNat % 128 : Nat) : Int) = n := by rw [hb]; omega
    rw [List.singleton_append, numR, if_pos h1, if_neg (by rw [hb]; omega), hx, if_neg (by omega)]
  induction k with
  | zero => intro j a n hn hl hm ha hj; exact last j a n hn (by simpa using hl) hm ha hj
  | succ k ih =>
    intro j a n hn hl hm ha hj
    show numR most j a ((if 128 ≤ n then UInt8.ofNat ((n % 128).toNat + 128) :: numF k (n / 128) else [byte n]) ++ r) = _
    split
    · rename_i h
      have hb : (UInt8.ofNat ((n % 128).toNat + 128)).toNat = (n % 128).toNat + 128 := by
        rw [UInt8.toNat_ofNat']
        omega
      have hp : (0 : Int) < 128 ^ j := Int.pow_pos (by decide)
      have hx : (((UInt8.ofNat ((n % 128).toNat + 128)).toNat % 128 : Nat) : Int) = n % 128 := by rw [hb]; omega
      have h1 : j = 0 ∨ 0 < most / 128 ^ j := by
        refine .inr ?_
        have : 1 * 128 ^ j ≤ most := by
          have := Int.mul_le_mul_of_nonneg_right (show (1 : Int) ≤ n by omega) (Int.le_of_lt hp)
          omega
        have := (Int.le_ediv_iff_mul_le hp).2 this
        omega
      have hq : a + n % 128 * 128 ^ j + n / 128 * 128 ^ (j + 1) = a + n * 128 ^ j := by
        rw [Int.pow_succ, Int.mul_comm (128 ^ j) 128, ← Int.mul_assoc, Int.add_assoc, ← Int.add_mul]
        congr 2
        omega
      have hm2 : 0 ≤ n % 128 * 128 ^ j := Int.mul_nonneg (by omega) (Int.le_of_lt hp)
      rw [List.cons_append, numR, if_pos h1, if_pos (by rw [hb]; omega), hx, ih (j + 1) (a + n % 128 * 128 ^ j) (n / 128) (by omega) (by rw [Int.pow_succ] at hl; omega) (by omega) (by omega) (.inr (by omega)), hq]
    · exact last j a n hn (by omega) hm ha hj
theorem num_back {most n : Int} (h0 : 0 ≤ n) (h1 : n ≤ most) (hl : n < 9223372036854775808) (r : List UInt8) : numS most (some (num n ++ r)) = (n, some r) := by
  have := numR_back most r 10 0 0 n h0 (by omega) (by simpa using h1) (Int.le_refl _) (.inl rfl)
  rw [show (0 : Int) + n * 128 ^ 0 = n by simp] at this
  exact this
theorem fold_back {n : Int} : unfold (fold n) = n := by
  unfold Kp.unfold Kp.fold
  split <;> split <;> omega
end Go.Proofs.Ytcfalhgcdffjoaa.Kp
