/-
  The program's endTag.
-/
import Derived.Test.YtimecocegnnjjaaDoorDTag2
set_option linter.unusedSimpArgs false
set_option linter.unusedVariables false
namespace Go.Proofs.YtimecocegnnjjaaDoor
open Go.RowKit
theorem Xp.endTag_gt {s : List UInt8} {p k : Nat} {nm : List UInt8} (h : Xp.endTag s p nm = .ok k) : p < k := by
  unfold Xp.endTag at h
  split at h
  · cases h
  · rename_i j hj
    have hr : p + 2 ≤ j := by
      unfold Xp.qual at hj
      split at hj
      · rw [← Option.some.inj hj]
        exact Xp.run_ge s (p + 2)
      · cases hj
    split at h
    · split at h
      · have := Xp.skip_ge s j
        simp only [Except.ok.injEq] at h
        omega
      · cases h
    · cases h
set_option maxHeartbeats 2000000 in
theorem endTagD (w : World) (b H : Nat) (s nm : ByteArray) (p : Nat) (R : PRest) (L : List Quad) (y z u : Value) (hs : s.size ≤ 1000000) (hp : p ≤ s.size) (hL : L.length < 12) (hw : Ok w) (hoff : Off b)
    (h : PIn w b s p 0 R) (ho : w.ownsRow H 25 4 R.vo (L.length + 1) (flatE (L ++ [(.string nm, y, z, u)]))) :
    Calls Tryd.prog 48 #[ptr b] w (Told
      (fun w' => ∃ k : Nat, Xp.hasL s.data.toList p [60, 47] = true ∧ Xp.endTag s.data.toList p nm.data.toList = .ok k ∧ p < k ∧ k ≤ s.size ∧ Keep (· = b) w w' ∧ PIn w' b s k 0 R)
      (fun w' => ∃ q : Nat, ((Xp.hasL s.data.toList p [60, 47] = false ∧ q = p) ∨ (Xp.hasL s.data.toList p [60, 47] = true ∧ Xp.endTag s.data.toList p nm.data.toList = .error q)) ∧ Keep (· = b) w w' ∧ PIn w' b s q 2 R)) := by
  obtain ⟨g, cap, hv, _, hg⟩ := ho.form (by omega)
  have HV := hideT hv
  have HP := hideT h
  have HO := hideT ho
  have HWW := hideT hw
  have HL := hideT (show s.data.toList.length = s.size from Array.length_toList)
  have hne : R.vo.ownBlock ≠ some b := own_ne ho h (by decide)
  have x1 : w.cell? ⟨b, 1, none⟩ = some (.int .i64 p) := h.cell 1
  obtain ⟨v1, V1⟩ : ∃ v, Hid (Xp.hasL s.data.toList p (⟨#[60, 47]⟩ : ByteArray).data.toList = v) := ⟨_, rfl⟩
  have V1' : Hid (Xp.hasL s.data.toList p [60, 47] = v1) := V1.out
  clear h ho hv hw
  go_enter Tryd.func48, Tryd.ntmps48
  go_wp2_with fail
  refine (mustD w b s ⟨#[60, 47]⟩ p R v1 hs hp (by decide) HP.out V1).mono ?_
  rintro e w1 ⟨rfl, k1, r1, e1⟩
  have K1 := hideT k1
  cases v1
  case false =>
    have R1 := hideT (e1 rfl)
    clear k1 r1 e1 x1
    go_wp2_with fail
    go_ret
    exact .inr ⟨rfl, p, .inl ⟨V1'.out, rfl⟩, K1.out, R1.out⟩
  have hp2 : p + 2 ≤ s.size := Xp.has_room V1.out (by decide)
  have R1 : Hid (PIn w1 b s (p + 2 : Nat) 0 R) := r1 rfl
  clear k1 r1 e1 x1
  go_wp2_with fail
  refine (qualD w1 b s (p + 2) R hs hp2 (HWW.out.keep K1.out (fun i hi => by subst hi; exact hoff)) R1.out).mono ?_
  rintro e w2 ⟨k2, g2, e2⟩
  cases hq : Xp.qual s.data.toList (p + 2) with
  | none =>
    obtain ⟨rfl, r2⟩ := e2 hq
    have HE : Hid (Xp.endTag s.data.toList p nm.data.toList = .error (p + 2)) := by
      show _ = _
      unfold Xp.endTag
      rw [hq]
    have K2 := hideT (K1.out.trans k2)
    have R2 := hideT r2
    clear k2 r2 g2 e2 hq
    go_wp2_with fail
    go_ret
    exact .inr ⟨rfl, p + 2, .inr ⟨V1'.out, HE.out⟩, K2.out, R2.out⟩
  | some k =>
    obtain ⟨rfl, hk1, hk2, r2⟩ := g2 k hq
    obtain ⟨fd, hfd⟩ : ∃ fd, fd = s.extract (p + 2) k := ⟨_, rfl⟩
    have hfl : fd.data.toList = (s.data.toList.drop (p + 2)).take (k - (p + 2)) := by rw [hfd, Lib.extract_data]
    obtain ⟨j, hj⟩ : ∃ j, Xp.skip s.data.toList k = j := ⟨_, rfl⟩
    have hjs : j ≤ s.size := by rw [← hj, ← HL.out]; exact Xp.skip_le (by rw [HL.out]; exact hk2)
    have HJ := hideT hj
    obtain ⟨v3, V3⟩ : ∃ v, Hid (Xp.hasL s.data.toList j (⟨#[62]⟩ : ByteArray).data.toList = v) := ⟨_, rfl⟩
    have HE : Hid (Xp.endTag s.data.toList p nm.data.toList = if fd.data.toList = nm.data.toList then (if v3 = true then .ok (j + 1) else .error j) else .error p) := by
      show _ = _
      unfold Xp.endTag
      rw [hq]
      dsimp only
      rw [← hfl]
      simp only [hj]
      rw [show Xp.hasL s.data.toList j [62] = v3 from V3.out]
    have K2 := hideT (K1.out.trans k2)
    have R2 := hideT r2
    have O2 : Hid (w2.ownsRow H 25 4 (.slice (some ⟨g, 0, none⟩) (L.length + 1) cap) (L.length + 1) (flatE (L ++ [(.string nm, y, z, u)]))) := by
      have := own_keep HO.out (fun g' hg' => K2.out.block g' (own_lt HO.out hg').1 (fun e => hne (by rw [hg', e])))
      rw [HV.out] at this
      exact this
    rw [← hfd]
    clear k2 r2 g2 e2 hq hfd hfl hj
    go_wp2_with fail
    refine (innermostD w2 b s k 0 R g L.length cap (by omega) HV.out R2.out).mono ?_
    rintro e w3 ⟨rfl, b3⟩
    have R3 := hideT (R2.out.below b3)
    have K3 := hideT (K2.out.trans (Keep.of_below b3))
    have O3 := hideT (own_keep (w' := w3) O2.out (fun g' hg' => b3.block g' (own_lt O2.out hg').1))
    have c3 : w3.cell? ⟨g, L.length * 4, none⟩ = some (.string nm) := own_cell O3.out (flatE_last L (.string nm) y z u).1
    clear b3
    by_cases heq : fd = nm
    · subst heq
      have HE2 : Hid (Xp.endTag s.data.toList p fd.data.toList = if v3 = true then .ok (j + 1) else .error j) := by
        show _ = _
        rw [HE.out, if_pos rfl]
      go_wp2_with fail
      refine (blanksD w3 b s k R hs hk2 R3.out).mono ?_
      rw [HJ.out]
      rintro e w4 ⟨rfl, r4, k4⟩
      have R4 := hideT r4
      have K4 := hideT (K3.out.trans k4)
      clear r4 k4 c3
      go_wp2_with fail
      refine (mustD w4 b s ⟨#[62]⟩ j R v3 hs hjs (by decide) R4.out V3).mono ?_
      rintro e w5 ⟨rfl, k5, r5, e5⟩
      have K5 := hideT (K4.out.trans k5)
      cases v3
      case true =>
        have R5 : Hid (PIn w5 b s (j + 1 : Nat) 0 R) := r5 rfl
        have hj1 : j + 1 ≤ s.size := Xp.has_room V3.out (by decide)
        have HE3 : Hid (Xp.endTag s.data.toList p fd.data.toList = .ok (j + 1)) := by
          show _ = _
          rw [HE2.out, if_pos (by trivial)]
        clear k5 r5 e5
        go_wp2_with fail
        go_ret
        exact .inl ⟨rfl, j + 1, V1'.out, HE3.out, Xp.endTag_gt HE3.out, hj1, K5.out, R5.out⟩
      case false =>
        have R5 : Hid (PIn w5 b s j 2 R) := e5 rfl
        have HE3 : Hid (Xp.endTag s.data.toList p fd.data.toList = .error j) := by
          show _ = _
          rw [HE2.out, if_neg (by simp)]
        clear k5 r5 e5
        go_wp2_with fail
        go_ret
        exact .inr ⟨rfl, j, .inr ⟨V1'.out, HE3.out⟩, K5.out, R5.out⟩
    · have hne2 : ¬ fd.toList = nm.toList := fun e => heq (by
        rw [Lib.toList_data, Lib.toList_data] at e
        exact Xp.ba_inj e)
      have HE2 : Hid (Xp.endTag s.data.toList p nm.data.toList = .error p) := by
        show _ = _
        rw [HE.out, if_neg (fun e => heq (Xp.ba_inj e))]
      have tne : (fd.toList == nm.toList) = false := beq_eq_false_iff_ne.2 hne2
      clear heq hne2
      go_wp2_with fail
      refine (failD w3 b s k 0 p 2 R R3.out).mono ?_
      rintro e w4 ⟨rfl, r4, k4⟩
      go_wp2_with fail
      go_ret
      exact .inr ⟨rfl, p, .inr ⟨V1'.out, HE2.out⟩, K3.out.trans k4, r4⟩
end Go.Proofs.YtimecocegnnjjaaDoor
