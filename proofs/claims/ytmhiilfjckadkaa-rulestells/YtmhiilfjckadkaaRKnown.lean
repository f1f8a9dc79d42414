/-
  What the law asks at its end: a program that reads ahead of what writes, and one that may be.
-/
import Derived.Test.YtmhiilfjckadkaaRIs
import Derived.Test.YtmhiilfjckadkaaPartC
import Derived.Test.YtmhiilfjckadkaaRInts
set_option linter.unusedSimpArgs false
set_option linter.unusedVariables false
namespace Go.Proofs.Ytmhiilfjckadkaa
open Go.RowKit
set_option maxRecDepth 100000
namespace Rp
def k0 : Prog := ⟨2, 1, [], [], 1, [], [(1, [(1, false)], [], [(1, true)])], [], [], []⟩
def k1 : Prog := ⟨0, 0, [], [], 1, [], [], [], [], []⟩
theorem k0_not : ¬ IsP k0 := fun H => by
  have h := H.2.2.2.2.2.2 (1, [(1, false)], [], [(1, true)]) (by simp [k0]) (1, true) (by simp)
  have h2 := h.2 ⟨by simp [k0], by simp [k0]⟩ (1, [(1, false)], [], [(1, true)]) (by simp [k0]) (1, false) (by simp) rfl
  exact absurd h2 (by decide)
theorem k1_is : IsP k1 := by
  refine ⟨⟨by decide, by decide, by decide, fun i x h => by simp [k1] at h, fun i x h => by simp [k1] at h⟩, ⟨by decide, by decide⟩, ⟨by decide, fun i j s _ h => by simp [k1] at h⟩, ⟨by decide, fun i r h => by simp [k1] at h⟩, fun c h => by simp [k1] at h, fun c h => by simp [k1] at h, fun c h => by simp [k1] at h⟩
theorem k0_reads : Sets [1] (ReadsS k0 1) := ⟨by simp, fun x => ⟨fun h => by simp at h; subst h; exact ⟨_, by simp [k0]; rfl, rfl, (1, false), by simp, rfl⟩, fun ⟨r, hr, hx, _⟩ => by simp [k0] at hr; subst hr; simp at hx; simp [hx]⟩⟩
theorem k0_writes : Sets [1] (WritesS k0 1) := ⟨by simp, fun x => ⟨fun h => by simp at h; subst h; exact ⟨_, by simp [k0]; rfl, rfl, (1, true), by simp, rfl⟩, fun ⟨r, hr, hx, _⟩ => by simp [k0] at hr; subst hr; simp at hx; simp [hx]⟩⟩
end Rp
def A0 (b : Nat) : PA := ⟨none, 0, none, 0, none, 0, some ⟨b, 0, none⟩, 1, none, 0, none, 0, none, 0⟩
def A1 : PA := ⟨none, 0, none, 0, none, 0, none, 0, none, 0, none, 0, none, 0⟩
theorem progat1 (w : World) : ProgAt w A1 Rp.k1 := ⟨zrow_nil w, zrow_nil w, rowR_nil w, rowR_nil w, rowR_nil w, rowR_nil w, rowR_nil w⟩
theorem lrow_one {w : World} {b : Nat} {x : Int} {y : Bool} (h0 : w.cell? ⟨b, 0, none⟩ = some (.int .i64 x)) (h1 : w.cell? ⟨b, 1, none⟩ = some (.bool y)) : LRow w (.slice (some ⟨b, 0, none⟩) 1 1) [(x, y)] :=
  ⟨b, 0, ⟨_, 1, rfl, Nat.le_refl _, fun _ => rfl⟩, by simp, fun i z hz => by
    match i, hz with
    | 0, hz =>
      simp at hz
      subst hz
      refine ⟨_, rfl, rfl, fun j c hj => ?_⟩
      match j, hj with
      | 0, hj => cases hj; simpa using h0
      | 1, hj => cases hj; simpa using h1
      | j + 2, hj => simp at hj
    | i + 1, hz => simp at hz⟩
theorem rrow_one {w : World} {b : Nat} {r : Rp.Rule} {v1 v2 v3 : Value} (h0 : w.cell? ⟨b, 0, none⟩ = some (.int .i64 r.1)) (h1 : w.cell? ⟨b, 1, none⟩ = some v1) (h2 : w.cell? ⟨b, 2, none⟩ = some v2) (h3 : w.cell? ⟨b, 3, none⟩ = some v3)
    (r1 : LRow w v1 r.2.1) (r2 : CRow w v2 r.2.2.1) (r3 : LRow w v3 r.2.2.2) : RRow w (.slice (some ⟨b, 0, none⟩) 1 1) [r] :=
  ⟨b, 0, ⟨_, 1, rfl, Nat.le_refl _, fun _ => rfl⟩, by simp, fun i z hz => by
    match i, hz with
    | 0, hz =>
      simp at hz
      subst hz
      refine ⟨_, rfl, ⟨v1, v2, v3, rfl, r1, r2, r3⟩, fun j c hj => ?_⟩
      match j, hj with
      | 0, hj => cases hj; simpa using h0
      | 1, hj => cases hj; simpa using h1
      | 2, hj => cases hj; simpa using h2
      | 3, hj => cases hj; simpa using h3
      | j + 4, hj => simp at hj
    | i + 1, hz => simp at hz⟩
theorem zrow_one {w : World} {b : Nat} {x : Int} (h0 : w.cell? ⟨b, 0, none⟩ = some (.int .i64 x)) : ZRow w (.slice (some ⟨b, 0, none⟩) 1 1) [x] :=
  ⟨b, 0, ⟨_, 1, rfl, Nat.le_refl _, fun _ => rfl⟩, by simp, fun i z hz => by
    match i, hz with
    | 0, hz => cases hz; simpa using h0
    | i + 1, hz => simp at hz⟩
abbrev rule0 (b : Nat) : Array Value := #[.int .i64 1, .slice (some ⟨b, 0, none⟩) 1 1, .slice none 0 0, .slice (some ⟨b + 1, 0, none⟩) 1 1]
abbrev prog0 (b : Nat) : Array Value := #[.int .i64 2, .int .i64 1, .slice none 0 0, .slice none 0 0, .int .i64 1, .slice none 0 0, .slice (some ⟨b, 0, none⟩) 1 1, .slice none 0 0, .slice none 0 0, .slice none 0 0]
theorem built0 (w : World) : ∃ V, (((w.alloc (.cells #[.int .i64 1, .bool false] 45)).alloc (.cells #[.int .i64 1, .bool true] 37)).alloc (.cells (rule0 w.heap.size) 42)).alloc (.cells (prog0 (w.heap.size + 2)) 29) = V ∧ Below w.heap.size w V ∧ V.heap.size = w.heap.size + 4 ∧ ProgAt V (A0 (w.heap.size + 2)) Rp.k0 ∧ PBox V (w.heap.size + 3) (A0 (w.heap.size + 2)) Rp.k0 := by
  have b1 : ∀ (u : World) o, Below u.heap.size u (u.alloc o) := fun u o => (Below.refl _ u).alloc (Nat.le_refl _) o
  obtain ⟨W1, hW1⟩ : ∃ W1, w.alloc (.cells #[.int .i64 1, .bool false] 45) = W1 := ⟨_, rfl⟩
  have s1 : W1.heap.size = w.heap.size + 1 := by rw [← hW1]; simp
  have l1 : Lies W1 w.heap.size 45 #[.int .i64 1, .bool false] := by rw [← hW1]; exact Lies.new _ _ _
  have k1 := b1 w (.cells #[.int .i64 1, .bool false] 45)
  rw [hW1] at k1 ⊢
  obtain ⟨W2, hW2⟩ : ∃ W2, W1.alloc (.cells #[.int .i64 1, .bool true] 37) = W2 := ⟨_, rfl⟩
  have s2 : W2.heap.size = w.heap.size + 2 := by rw [← hW2]; simp [s1]
  have l2 : Lies W2 (w.heap.size + 1) 37 #[.int .i64 1, .bool true] := by rw [← hW2, ← s1]; exact Lies.new _ _ _
  have k2 := b1 W1 (.cells #[.int .i64 1, .bool true] 37)
  rw [hW2] at k2 ⊢
  obtain ⟨W3, hW3⟩ : ∃ W3, W2.alloc (.cells (rule0 w.heap.size) 42) = W3 := ⟨_, rfl⟩
  have s3 : W3.heap.size = w.heap.size + 3 := by rw [← hW3]; simp [s2]
  have l3 : Lies W3 (w.heap.size + 2) 42 (rule0 w.heap.size) := by rw [← hW3, ← s2]; exact Lies.new _ _ _
  have k3 := b1 W2 (.cells (rule0 w.heap.size) 42)
  rw [hW3] at k3 ⊢
  obtain ⟨W4, hW4⟩ : ∃ W4, W3.alloc (.cells (prog0 (w.heap.size + 2)) 29) = W4 := ⟨_, rfl⟩
  have s4 : W4.heap.size = w.heap.size + 4 := by rw [← hW4]; simp [s3]
  have l4 : Lies W4 (w.heap.size + 3) 29 (prog0 (w.heap.size + 2)) := by rw [← hW4, ← s3]; exact Lies.new _ _ _
  have k4 := b1 W3 (.cells (prog0 (w.heap.size + 2)) 29)
  rw [hW4] at k4 ⊢
  have l1' := ((l1.below k2).below k3).below k4
  have l2' := (l2.below k3).below k4
  have l3' := l3.below k4
  refine ⟨W4, rfl, ((k1.trans (k2.mono (by omega))).trans (k3.mono (by omega))).trans (k4.mono (by omega)), s4, ⟨zrow_nil _, zrow_nil _, rowR_nil _, ?_, rowR_nil _, rowR_nil _, rowR_nil _⟩, l4⟩
  exact rrow_one (r := (1, [(1, false)], [], [(1, true)])) (l3'.cell 0) (l3'.cell 1) (l3'.cell 2) (l3'.cell 3) (lrow_one (l1'.cell 0) (l1'.cell 1)) (rowR_nil _) (lrow_one (l2'.cell 0) (l2'.cell 1))
set_option maxHeartbeats 4000000 in
theorem known10 (w : World) : Calls Try.prog 18 #[] w fun e w' => e = .returned (.bool true) ∧ Below w.heap.size w w' := by
  obtain ⟨V, hV, b, hs, hp, hb⟩ := built0 w
  have HB := hideT b
  have HP := hideT hp
  have HX := hideT hb
  clear b hp hb
  subst hV
  go_enter Try.func18, Try.ntmps18
  go_wp2_with fail
  refine (isD _ (A0 (w.heap.size + 2)) Rp.k0 HP.out).mono ?_
  rintro e w1 k1
  obtain ⟨rfl, b1⟩ := k1.no Rp.k0_not
  have B1 := hideT (HB.out.trans (b1.mono HB.out.size))
  have L1 := hideT (HX.out.below b1)
  have P1 := hideT (HP.out.below b1)
  clear k1 b1
  go_wp2_with fail
  refine (isD w1 A1 Rp.k1 (progat1 w1)).mono ?_
  rintro e w2 k1
  obtain ⟨rfl, b1⟩ := k1.yes Rp.k1_is
  have B2 := hideT (B1.out.trans (b1.mono B1.out.size))
  have L2 := hideT (L1.out.below b1)
  have P2 := hideT (P1.out.below b1)
  clear k1 b1
  obtain ⟨x0, x1, x2, x3, x4, x5, x6, x7, x8, x9⟩ := L2.out.cells
  simp only [A0, Rp.k0, List.length_nil, List.length_cons, Nat.zero_add] at x0 x1 x2 x3 x4 x5 x6 x7 x8 x9
  go_wp2_with fail
  refine (progReads w2 (A0 (w.heap.size + 2)) Rp.k0 P2.out 1).mono ?_
  rintro e w3 ⟨a, L, rfl, z, s, b1⟩
  obtain rfl := Rp.sets_one s Rp.k0_reads
  have B3 := hideT (B2.out.trans (b1.mono B2.out.size))
  have L3 := hideT (L2.out.below b1)
  have P3 := hideT (P2.out.below b1)
  have Z3 := hideT z
  clear b1 z s x0 x1 x2 x3 x4 x5 x6 x7 x8 x9
  have BA := hideT ((Below.refl w3.heap.size w3).alloc (Nat.le_refl _) (.cells #[.int .i64 1] 3))
  have CA := hideT (show (w3.alloc (.cells #[.int .i64 1] 3)).cell? ⟨w3.heap.size, 0, none⟩ = some (.int .i64 1) from cell_new w3 #[.int .i64 1] 3 0)
  go_wp2_with fail
  refine (sameIntsR _ _ _ _ _ _ _ [1] [1] (zrow_below Z3.out BA.out) (zrow_one CA.out)).mono ?_
  rintro e w4 k1
  obtain ⟨rfl, b1⟩ := k1.yes rfl
  have B4 := hideT ((B3.out.trans (BA.out.mono B3.out.size)).trans (b1.mono (by have := B3.out.size; simp; omega)))
  have L4 := hideT ((L3.out.below BA.out).below b1)
  have P4 := hideT ((P3.out.below BA.out).below b1)
  clear k1 b1
  obtain ⟨x0, x1, x2, x3, x4, x5, x6, x7, x8, x9⟩ := L4.out.cells
  simp only [A0, Rp.k0, List.length_nil, List.length_cons, Nat.zero_add] at x0 x1 x2 x3 x4 x5 x6 x7 x8 x9
  go_wp2_with fail
  refine (progWrites w4 (A0 (w.heap.size + 2)) Rp.k0 P4.out 1).mono ?_
  rintro e w5 ⟨a, L, rfl, z, s, b1⟩
  obtain rfl := Rp.sets_one s Rp.k0_writes
  have B5 := hideT (B4.out.trans (b1.mono B4.out.size))
  have Z5 := hideT z
  clear b1 z s x0 x1 x2 x3 x4 x5 x6 x7 x8 x9
  have BA5 := hideT ((Below.refl w5.heap.size w5).alloc (Nat.le_refl _) (.cells #[.int .i64 1] 3))
  have CA5 := hideT (show (w5.alloc (.cells #[.int .i64 1] 3)).cell? ⟨w5.heap.size, 0, none⟩ = some (.int .i64 1) from cell_new w5 #[.int .i64 1] 3 0)
  go_wp2_with fail
  refine (sameIntsR _ _ _ _ _ _ _ [1] [1] (zrow_below Z5.out BA5.out) (zrow_one CA5.out)).mono ?_
  rintro e w6 k1
  obtain ⟨rfl, b1⟩ := k1.yes rfl
  have B6 := hideT ((B5.out.trans (BA5.out.mono B5.out.size)).trans (b1.mono (by have := B5.out.size; simp; omega)))
  clear k1 b1
  go_wp2_with fail
  go_ret
  exact ⟨rfl, B6.out⟩
end Go.Proofs.Ytmhiilfjckadkaa
