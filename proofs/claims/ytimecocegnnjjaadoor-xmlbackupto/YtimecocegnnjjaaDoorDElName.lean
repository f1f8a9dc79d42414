/-
  The program's elementName.
-/
import Derived.Test.YtimecocegnnjjaaDoorDBegin
import Derived.Test.YtimecocegnnjjaaDoorPartD
set_option linter.unusedSimpArgs false
set_option linter.unusedVariables false
namespace Go.Proofs.YtimecocegnnjjaaDoor
open Go.RowKit
set_option maxHeartbeats 1000000 in
theorem elementNameD (w : World) (b H : Nat) (s : ByteArray) (p : Nat) (R : PRest) (L : List Quad) (x y z u : Value) (hs : s.size ≤ 1000000) (hp : p ≤ s.size) (hL : L.length < 12) (hw : Ok w) (hoff : Off b)
    (h : PIn w b s p 0 R) (ho : w.ownsRow H 25 4 R.vo (L.length + 1) (flatE (L ++ [(x, y, z, u)]))) :
    Calls Tryd.prog 28 #[ptr b] w (Told
      (fun w' => ∃ k : Nat, Xp.qual s.data.toList p = some k ∧ p ≤ k ∧ k ≤ s.size ∧ Keep (fun k => k = b ∨ R.vo.ownBlock = some k) w w' ∧ PIn w' b s k 0 R ∧ w'.ownsRow H 25 4 R.vo (L.length + 1) (flatE (L ++ [(.string (s.extract p k), y, z, u)])))
      (fun w' => Xp.qual s.data.toList p = none ∧ Keep (· = b) w w' ∧ PIn w' b s p 2 R)) := by
  obtain ⟨g, cap, hv, _, hg⟩ := ho.form (by omega)
  have HV := hideT hv
  have HP := hideT h
  have HO := hideT ho
  have HWW := hideT hw
  have hne : R.vo.ownBlock ≠ some b := own_ne ho h (by decide)
  have hgb : g ≠ b := fun e => hne (by rw [hv, e]; rfl)
  clear h ho hv hw
  go_enter Tryd.func28, Tryd.ntmps28
  go_wp2_with fail
  refine (qualD w b s p R hs hp HWW.out HP.out).mono ?_
  rintro e w1 ⟨k1, g1, e1⟩
  cases hq : Xp.qual s.data.toList p with
  | none =>
    obtain ⟨rfl, r1⟩ := e1 hq
    have K1 := hideT k1
    have R1 := hideT r1
    have HQ := hideT hq
    clear k1 r1 g1 e1 hq
    go_wp2_with fail
    go_ret
    exact .inr ⟨rfl, HQ.out, K1.out, R1.out⟩
  | some k =>
    obtain ⟨rfl, hk1, hk2, r1⟩ := g1 k hq
    have K1 := hideT k1
    have R1 := hideT r1
    have HQ := hideT hq
    have O1 : Hid (w1.ownsRow H 25 4 (.slice (some ⟨g, 0, none⟩) (L.length + 1) cap) (L.length + 1) (flatE (L ++ [(x, y, z, u)]))) := by
      have := own_keep HO.out (fun g' hg' => k1.block g' (own_lt HO.out hg').1 (fun e => hne (by rw [hg', e])))
      rw [HV.out] at this
      exact this
    clear k1 r1 g1 e1 hq
    go_wp2_with fail
    refine (innermostD w1 b s k 0 R g L.length cap (by omega) HV.out R1.out).mono ?_
    rintro e w2 ⟨rfl, b2⟩
    have R2 := hideT (R1.out.below b2)
    have O2 : Hid (w2.ownsRow H 25 4 (.slice (some ⟨g, 0, none⟩) (L.length + 1) cap) (L.length + 1) (flatE (L ++ [(x, y, z, u)]))) := own_keep O1.out (fun g' hg' => b2.block g' (own_lt O1.out hg').1)
    have K2 : Hid (Keep (· = b) w w2) := K1.out.trans (Keep.of_below b2)
    have c0 : w2.cell? ⟨g, L.length * 4, none⟩ = some x := own_cell O2.out (flatE_last L x y z u).1
    have f0 : w2.frozen? ⟨g, L.length * 4, none⟩ = false := own_free O2.out _
    clear b2
    go_wp2_with fail
    go_ret
    refine .inl ⟨rfl, k, HQ.out, hk1, hk2, ?_, ?_, ?_⟩
    · refine (K2.out.wide (fun k _ e => .inl e)).trans (Keep.set _ ⟨g, L.length * 4, none⟩ _ (.inr ?_))
      rw [HV.out]
      rfl
    · exact R2.out.off _ _ (fun e => hgb e.symm)
    · have := own_set O2.out (L.length * 4) (.string (s.extract p k))
      rw [(flatE_set L x y z u (.string (s.extract p k))).1] at this
      rw [HV.out]
      exact this
end Go.Proofs.YtimecocegnnjjaaDoor
