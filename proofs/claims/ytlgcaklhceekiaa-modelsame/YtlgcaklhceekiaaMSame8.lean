/-
  The document's Same.
-/
import Derived.Test.YtlgcaklhceekiaaMSame7
set_option linter.unusedSimpArgs false
set_option linter.unusedVariables false
namespace Go.Proofs.Ytlgcaklhceekiaa
open Go.RowKit
set_option maxRecDepth 100000
theorem refTextsV (w : World) (a1 a2 : Option Addr) (n1 n2 c1 c2 : Nat) (la lb : List ByteArray) (h1 : FRow w (.slice a1 n1 c1) la) (h2 : FRow w (.slice a2 n2 c2) lb) (b : Bool) (hb : Hid (decide (la = lb) = b)) :
    Calls Try.prog 19 #[.slice a1 n1 c1, .slice a2 n2 c2] w fun e w' => e = .returned (.bool b) ∧ Below w.heap.size w w' := by
  rw [← hb.out]
  exact sameTexts w a1 a2 n1 n2 c1 c2 la lb h1 h2
theorem refSameD (w : World) (p1 p2 q1 q2 : Option Addr) (c1 c2 d1 d2 : Nat) (x y : Mp.Model) (hx : ModelAt w p1 c1 p2 c2 x) (hy : ModelAt w q1 d1 q2 d2 y) (b : Bool) (hb : Hid (Mp.eqM x y = b)) :
    Calls Try.prog 11 #[.agg #[.slice p1 x.files.length c1, .slice p2 x.items.length c2], .agg #[.slice q1 y.files.length d1, .slice q2 y.items.length d2]] w fun e w' => e = .returned (.bool b) ∧ Below w.heap.size w w' := by
  obtain ⟨s1, s2⟩ := x
  obtain ⟨t1, t2⟩ := y
  obtain ⟨h1, h2⟩ := hx
  obtain ⟨k1, k2⟩ := hy
  dsimp only at h1 h2 k1 k2
  obtain ⟨b1, H1⟩ : ∃ y, Hid (decide (s1 = t1) = y) := ⟨_, rfl⟩
  obtain ⟨b2, H2⟩ : ∃ y, Hid (Mp.eqIs s2 t2 = y) := ⟨_, rfl⟩
  have HF : Hid (b = (b1 && b2)) := by show _ = _; rw [← hb.out, ← H1.out, ← H2.out]; rfl
  have R1 := hideT h1
  have R2 := hideT h2
  have K1 := hideT k1
  have K2 := hideT k2
  clear h1 h2 k1 k2
  have B0 := hideT (((Below.refl w.heap.size w).alloc (Nat.le_refl _) (.cells #[.slice p1 s1.length c1, .slice p2 s2.length c2] 25)).alloc (by simp) (.cells #[.slice q1 t1.length d1, .slice q2 t2.length d2] 25))
  have LA := hideT ((Lies.new w 25 #[.slice p1 s1.length c1, .slice p2 s2.length c2]).below ((Below.refl _ _).alloc (Nat.le_refl _) (.cells #[.slice q1 t1.length d1, .slice q2 t2.length d2] 25)))
  have LB : Hid (Lies ((w.alloc (.cells #[.slice p1 s1.length c1, .slice p2 s2.length c2] 25)).alloc (.cells #[.slice q1 t1.length d1, .slice q2 t2.length d2] 25)) (w.heap.size + 1) 25 #[.slice q1 t1.length d1, .slice q2 t2.length d2]) := by
    have := Lies.new (w.alloc (.cells #[.slice p1 s1.length c1, .slice p2 s2.length c2] 25)) 25 #[.slice q1 t1.length d1, .slice q2 t2.length d2]
    rwa [show (w.alloc (.cells #[.slice p1 s1.length c1, .slice p2 s2.length c2] 25)).heap.size = w.heap.size + 1 by simp] at this
  go_enter Try.func11, Try.ntmps11
  go_wp2_with fail
  refine (refTextsV _ _ _ _ _ _ _ s1 t1 (frow_below R1.out B0.out) (frow_below K1.out B0.out) b1 H1).mono ?_
  rintro e w1 ⟨rfl, p⟩
  have B1 := hideT (B0.out.trans (p.mono B0.out.size))
  cases b1
  · go_wp2_with fail
    go_ret
    exact ⟨ret_b (by rw [HF.out]; rfl), B1.out⟩
  have x1 : w1.cell? ⟨w.heap.size, 1, none⟩ = some (.slice p2 s2.length c2) := (LA.out.below p).cell 1
  have x2 : w1.cell? ⟨w.heap.size + 1, 1, none⟩ = some (.slice q2 t2.length d2) := (LB.out.below p).cell 1
  clear p
  go_wp2_with fail
  refine (refItems _ _ _ _ _ _ _ s2 t2 (irow_below R2.out B1.out) (irow_below K2.out B1.out)).mono ?_
  rintro e w2 ⟨rfl, p2'⟩
  go_wp2_with fail
  go_ret
  exact ⟨ret_b (by rw [HF.out, H2.out]; rfl), B1.out.trans (p2'.mono B1.out.size)⟩
end Go.Proofs.Ytlgcaklhceekiaa
