/-
  The program's From.
-/
import Derived.Test.YtjfonpbnohbpfaaGreatDoorBFrom2
set_option linter.unusedSimpArgs false
set_option linter.unusedVariables false
namespace Go.Proofs.YtjfonpbnohbpfaaGreatDoor
open Go.RowKit
set_option maxRecDepth 100000
theorem light_sents {m : Mp.Model} {l : List Mp.Sent} (h : Mp.sentsB m l = true) : l.length < 400 ∧ ∀ s ∈ l, lightS s := by
  unfold Mp.sentsB at h
  rw [Bool.and_eq_true] at h
  have h1 := of_decide_eq_true h.1
  refine ⟨by omega, fun s hs => ?_⟩
  have h2 := List.all_eq_true.1 h.2 s hs
  unfold Mp.sentB at h2
  rw [Bool.and_eq_true, Bool.and_eq_true] at h2
  obtain ⟨⟨_, h3⟩, h4⟩ := h2
  unfold Mp.onB at h3
  unfold Mp.ifB at h4
  rw [Bool.and_eq_true] at h3 h4
  have h5 := of_decide_eq_true h3.1
  have h6 := of_decide_eq_true h4.1
  exact ⟨by omega, by omega⟩
theorem light_is {m : Mp.Model} (h : Mp.isB m = true) : light m := by
  unfold Mp.isB at h
  simp only [Bool.and_eq_true] at h
  obtain ⟨⟨⟨⟨h1, h2⟩, _⟩, _⟩, h5⟩ := h
  unfold Mp.filesB at h1
  unfold Mp.idsB at h2
  simp only [Bool.and_eq_true, decide_eq_true_eq] at h1 h2
  refine ⟨by omega, by omega, fun x hx => ?_⟩
  have h6 := List.all_eq_true.1 h5 x hx
  unfold Mp.itemB at h6
  simp only [Bool.and_eq_true] at h6
  have e := light_sents h6.1.2
  have x' := light_sents h6.2
  exact ⟨e.1, x'.1, e.2, x'.2⟩
def fromG (tbl : Bp.Tab Bp.BS) (T : Tr) : Except (Int × Int) Mp.Model := match caseG tbl ⟨[], [], e0⟩ T with
  | .error q => .error (q, 6)
  | .ok s => if Mp.isB ⟨s.files, s.items⟩ = true then .ok ⟨s.files, s.items⟩ else .error (Bp.apT T, 7)
/-- What From answers. -/
def FPost (tbl : Bp.Tab Bp.BS) (T : Tr) (w : World) (e : Ending) (w' : World) : Prop :=
  Below w.heap.size w w' ∧
  (∀ q er, fromG tbl T = .error (q, er) → e = .returned (.tuple #[.agg #[.slice none 0 0, .slice none 0 0], .int .i64 q, .int .i64 er])) ∧
  (∀ m, fromG tbl T = .ok m → ∃ af cf ai ci, e = .returned (.tuple #[.agg #[.slice af m.files.length cf, .slice ai m.items.length ci], .int .i64 0, .int .i64 0]) ∧ NewR w.heap.size (fun w => ModelAt w af cf ai ci m) w')
theorem bmem_start {w W : World} (h : W.heap.size = w.heap.size + 3) (hl : Lies W (w.heap.size + 2) 61 #[.slice none 0 0, .slice none 0 0, .string ⟨#[]⟩, .slice none 0 0, .slice none 0 0, .int .i64 0]) : BIn (w.heap.size + 2) (w.heap.size + 2) 0 W (· < w.heap.size + 2) ⟨[], [], e0⟩ := by
  refine ⟨⟨Nat.le_refl _, Nat.le_refl _, fun x hx => by simp at hx⟩, nilS, nilS, nilS, nilS, 0, [], hl, Nat.le_refl _, ⟨_, _, _, rfl⟩, ⟨_, _, _, rfl⟩, World.ownsRow_nil _ _ _ _, (fun f hf => by simp at hf), World.ownsRow_nil _ _ _ _, rfl, (fun cs h => by simp at h), (fun j x cs h => by simp at h), (fun j x cs h => by simp at h), by decide, fun k hk => ⟨by omega, by omega, (fun h => by cases h), fun h => by cases h⟩⟩
theorem put2 {w w2 : World} {c d : Value} (h : Below w.heap.size w w2) (l : Lies w2 (w.heap.size + 1) 25 #[c, d]) (a b : Value) : ∃ X, (w2.setCell ⟨w.heap.size + 1, 0, none⟩ a).setCell ⟨w.heap.size + 1, 1, none⟩ b = X ∧ Below w.heap.size w X ∧ Lies X (w.heap.size + 1) 25 #[a, b] ∧ KeepBut (w.heap.size + 1) w2 X :=
  ⟨_, rfl, (h.setCell (Nat.le_succ _) _).setCell (Nat.le_succ _) _, (l.set 0 a).set 1 b, keep_set (keep_set (keep_refl _ _) 0 _) 1 _⟩
set_option maxHeartbeats 4000000 in
theorem fromD (w : World) (d : Nat) (n0 n1 n2 n3 n4 : Value) (T : Tr) (tbl : Bp.Tab Bp.BS) (hT : NInR w (· < w.heap.size) (d + 1) n0 n1 n2 n3 n4 T) (hc : Bp.cnt (d + 1) T ≤ 1000000) (ha : Alike caseE tbl) (hE : ∀ b B, Parts b B d 1000000 caseE tbl T) :
    Calls Tryz.prog 8 #[.agg #[n0, n1, n2, n3, n4]] w (FPost tbl T w) := by
  obtain ⟨sp, lo, a2, l2, m2, a3, l3, m3, p, rfl, rfl, rfl, rfl, rfl, _, _, hap⟩ := hT.five
  obtain ⟨W, hW, BW, zW, LN, LR, LB⟩ : ∃ W, ((w.alloc (.cells #[.string sp, .string lo, .slice a2 l2 m2, .slice a3 l3 m3, .int .i64 p] 45)).alloc (.cells #[.slice none 0 0, .slice none 0 0] 25)).alloc (.cells #[.slice none 0 0, .slice none 0 0, .string ⟨#[]⟩, .slice none 0 0, .slice none 0 0, .int .i64 0] 61) = W ∧ Below w.heap.size w W ∧ W.heap.size = w.heap.size + 3 ∧ Lies W w.heap.size 45 #[.string sp, .string lo, .slice a2 l2 m2, .slice a3 l3 m3, .int .i64 p] ∧ Lies W (w.heap.size + 1) 25 #[.slice none 0 0, .slice none 0 0] ∧ Lies W (w.heap.size + 2) 61 #[.slice none 0 0, .slice none 0 0, .string ⟨#[]⟩, .slice none 0 0, .slice none 0 0, .int .i64 0] := by
    obtain ⟨W1, h1⟩ : ∃ W1, w.alloc (.cells #[.string sp, .string lo, .slice a2 l2 m2, .slice a3 l3 m3, .int .i64 p] 45) = W1 := ⟨_, rfl⟩
    obtain ⟨b1, k1, z1⟩ := of_alloc h1
    obtain ⟨W2, h2⟩ : ∃ W2, W1.alloc (.cells #[.slice none 0 0, .slice none 0 0] 25) = W2 := ⟨_, rfl⟩
    obtain ⟨b2, k2, z2⟩ := of_alloc h2
    obtain ⟨W3, h3⟩ : ∃ W3, W2.alloc (.cells #[.slice none 0 0, .slice none 0 0, .string ⟨#[]⟩, .slice none 0 0, .slice none 0 0, .int .i64 0] 61) = W3 := ⟨_, rfl⟩
    obtain ⟨b3, k3, z3⟩ := of_alloc h3
    rw [h1, h2, h3]
    rw [z1] at k2 z2
    rw [z2] at k3 z3
    exact ⟨W3, rfl, b1.trans ((b2.trans (b3.mono (by omega))).mono (by omega)), z3, k1.below (b2.trans (b3.mono (by omega))), k2.below b3, k3⟩
  have HBW := hideT BW
  have HZW := hideT zW
  have HLN := hideT LN
  have HLR := hideT LR
  have HBI := hideT (bmem_start zW LB)
  have HAP := hideT hap
  have HT : Hid (NInR W (· < w.heap.size + 2) (d + 1) (.string sp) (.string lo) (.slice a2 l2 m2) (.slice a3 l3 m3) (.int .i64 p) T) := hT.turn (fun k hk => BW.block k hk) (fun k hk => by omega)
  have HC := hideT hc
  have HO := hideT (outermostD (b := w.heap.size + 2) (B := w.heap.size + 2) (hE _ _) ha (Nat.le_refl _))
  have x0 : W.cell? ⟨w.heap.size, 0, none⟩ = some (.string sp) := LN.cell 0
  have x1 : W.cell? ⟨w.heap.size, 1, none⟩ = some (.string lo) := LN.cell 1
  have x2 : W.cell? ⟨w.heap.size, 2, none⟩ = some (.slice a2 l2 m2) := LN.cell 2
  have x3 : W.cell? ⟨w.heap.size, 3, none⟩ = some (.slice a3 l3 m3) := LN.cell 3
  have x4 : W.cell? ⟨w.heap.size, 4, none⟩ = some (.int .i64 p) := LN.cell 4
  clear hT hc ha hE BW zW LN LR LB hap
  have HWq := hideT hW
  clear hW
  go_enter Tryz.func8, Tryz.ntmps8
  go_wp2_with fail
  try rw [HWq.out]
  refine (HO.out 0 W _ _ _ _ _ _ _ HBI.out HT.out (by have := HC.out; omega)).mono ?_
  rintro e w2 ⟨Q2, t2, ok2, er2⟩
  have L2R : Lies w2 (w.heap.size + 1) 25 #[.slice none 0 0, .slice none 0 0] := (t2.keep _ (show w.heap.size + 1 < w.heap.size + 2 by omega)).1.trans HLR.out
  have L2N : Lies w2 w.heap.size 45 #[.string sp, .string lo, .slice a2 l2 m2, .slice a3 l3 m3, .int .i64 p] := (t2.keep _ (show w.heap.size < w.heap.size + 2 by omega)).1.trans HLN.out
  have B2 := hideT (HBW.out.trans (t2.below (B := w.heap.size) (fun k hk => by show k < w.heap.size + 2; omega)))
  have m0 : w2.cell? ⟨w.heap.size + 1, 0, none⟩ = some (.slice none 0 0) := L2R.cell 0
  have m1 : w2.cell? ⟨w.heap.size + 1, 1, none⟩ = some (.slice none 0 0) := L2R.cell 1
  have f0 : w2.frozen? ⟨w.heap.size + 1, 0, none⟩ = false := L2R.free 0
  have f1 : w2.frozen? ⟨w.heap.size + 1, 1, none⟩ = false := L2R.free 1
  have H2R := hideT L2R
  have H2N := hideT L2N
  have q2 := t2.size
  clear x0 x1 x2 x3 x4 L2R L2N HWq
  cases hr : caseG tbl ⟨[], [], e0⟩ T with
  | error q =>
    have HF : Hid (fromG tbl T = .error (q, 6)) := by
      show _ = _
      unfold fromG
      rw [hr]
    obtain ⟨rfl, fe⟩ := er2 q hr
    obtain ⟨c0, c1, c2, c3, c4, fl⟩ := fe
    have b5 : w2.cell? ⟨w.heap.size + 2, 5, none⟩ = some (.int .i64 q) := fl.cell 5
    clear hr ok2 er2 t2 fl
    go_wp2_with fail
    go_region
    all_goals go_wp2_with fail
    all_goals obtain ⟨X, hX, bX, lX, _⟩ := put2 B2.out H2R.out (.slice none 0 0) (.slice none 0 0)
    all_goals rw [hX]
    all_goals have r0 : X.drew.cell? ⟨w.heap.size + 1, 0, none⟩ = some (.slice none 0 0) := lX.cell 0
    all_goals have r1 : X.drew.cell? ⟨w.heap.size + 1, 1, none⟩ = some (.slice none 0 0) := lX.cell 1
    all_goals refine bodyPost_ret (v := .tuple #[.agg #[.slice none 0 0, .slice none 0 0], .int .i64 q, .int .i64 6]) (by simp [results, Tryz.results8, go_sem, r0, r1]) rfl ⟨bX.drew, (fun q' er' h => by rw [HF.out] at h; cases h; rfl), fun m' h => by rw [HF.out] at h; cases h⟩
  | ok s =>
    obtain ⟨rfl, hfit, fv, iv, o1, o2, at_, C, mem⟩ := ok2 s hr
    have hfl := hfit.1
    have hil := hfit.2.1
    have hcc := HC.out
    obtain ⟨fa, fc, ia, ic, rfl, rfl, MA⟩ := mem.model (by omega) (by omega) (fun y hy => by have := hfit.2.2 y hy; omega)
    have HMA := hideT MA
    have b0 : w2.cell? ⟨w.heap.size + 2, 0, none⟩ = some (.slice fa s.files.length fc) := mem.lies.cell 0
    have b1 : w2.cell? ⟨w.heap.size + 2, 1, none⟩ = some (.slice ia s.items.length ic) := mem.lies.cell 1
    have HLB := hideT mem.lies
    clear hfit mem MA ok2 er2 t2
    go_wp2_with fail
    refine (isD w2 ⟨s.files, s.items⟩ fa ia fc ic HMA.out).mono ?_
    rintro e w3 ⟨rfl, b3⟩
    have B3 := hideT (B2.out.trans (b3.mono B2.out.size))
    have H3R := hideT (H2R.out.below b3)
    have H3N := hideT (H2N.out.below b3)
    have H3B := hideT (HLB.out.below b3)
    have HM3 := hideT (HMA.out.below b3)
    have q3 := b3.size
    clear m0 m1 f0 f1 b0 b1 b3
    cases his : Mp.isB ⟨s.files, s.items⟩ with
    | false =>
      have HF : Hid (fromG tbl T = .error (p, 7)) := by
        show _ = _
        unfold fromG
        rw [hr]
        dsimp only
        rw [his, if_neg (by decide), HAP.out]
      have m0 : w3.cell? ⟨w.heap.size + 1, 0, none⟩ = some (.slice none 0 0) := H3R.out.cell 0
      have m1 : w3.cell? ⟨w.heap.size + 1, 1, none⟩ = some (.slice none 0 0) := H3R.out.cell 1
      have f0 : w3.frozen? ⟨w.heap.size + 1, 0, none⟩ = false := H3R.out.free 0
      have f1 : w3.frozen? ⟨w.heap.size + 1, 1, none⟩ = false := H3R.out.free 1
      have x4 : w3.cell? ⟨w.heap.size, 4, none⟩ = some (.int .i64 p) := H3N.out.cell 4
      clear hr his
      go_wp2_with fail
      go_region
      all_goals go_wp2_with fail
      all_goals obtain ⟨X, hX, bX, lX, _⟩ := put2 B3.out H3R.out (.slice none 0 0) (.slice none 0 0)
      all_goals rw [hX]
      all_goals have r0 : X.drew.cell? ⟨w.heap.size + 1, 0, none⟩ = some (.slice none 0 0) := lX.cell 0
      all_goals have r1 : X.drew.cell? ⟨w.heap.size + 1, 1, none⟩ = some (.slice none 0 0) := lX.cell 1
      all_goals refine bodyPost_ret (v := .tuple #[.agg #[.slice none 0 0, .slice none 0 0], .int .i64 p, .int .i64 7]) (by simp [results, Tryz.results8, go_sem, r0, r1]) rfl ⟨bX.drew, (fun q' er' h => by rw [HF.out] at h; cases h; rfl), fun m' h => by rw [HF.out] at h; cases h⟩
    | true =>
      have HF : Hid (fromG tbl T = .ok ⟨s.files, s.items⟩) := by
        show _ = _
        unfold fromG
        rw [hr]
        dsimp only
        rw [his, if_pos rfl]
      have HLI := hideT (light_is his)
      have b0 : w3.cell? ⟨w.heap.size + 2, 0, none⟩ = some (.slice fa s.files.length fc) := H3B.out.cell 0
      have b1 : w3.cell? ⟨w.heap.size + 2, 1, none⟩ = some (.slice ia s.items.length ic) := H3B.out.cell 1
      clear hr his
      go_wp2_with fail
      refine (copyD fa ia fc ic s.files s.items w3 HM3.out.files HM3.out.items HLI.out).mono ?_
      rintro e w4 ⟨af, cf, ai, ci, rfl, n4, b4⟩
      have B4 := hideT (B3.out.trans (b4.mono B3.out.size))
      have H4R := hideT (H3R.out.below b4)
      have N4 := hideT n4
      have m0 : w4.cell? ⟨w.heap.size + 1, 0, none⟩ = some (.slice none 0 0) := H4R.out.cell 0
      have m1 : w4.cell? ⟨w.heap.size + 1, 1, none⟩ = some (.slice none 0 0) := H4R.out.cell 1
      have f0 : w4.frozen? ⟨w.heap.size + 1, 0, none⟩ = false := H4R.out.free 0
      have f1 : w4.frozen? ⟨w.heap.size + 1, 1, none⟩ = false := H4R.out.free 1
      dsimp only
      clear b0 b1 b4 n4
      go_wp2_with fail
      obtain ⟨X, hX, bX, lX, kX⟩ := put2 B4.out H4R.out (.slice af s.files.length cf) (.slice ai s.items.length ci)
      try rw [hX]
      have r0 : X.cell? ⟨w.heap.size + 1, 0, none⟩ = some (.slice af s.files.length cf) := lX.cell 0
      have r1 : X.cell? ⟨w.heap.size + 1, 1, none⟩ = some (.slice ai s.items.length ci) := lX.cell 1
      refine bodyPost_ret (v := .tuple #[.agg #[.slice af s.files.length cf, .slice ai s.items.length ci], .int .i64 0, .int .i64 0]) (by simp [results, Tryz.results8, go_sem, r0, r1]) rfl ⟨bX, (fun q' er' h => by rw [HF.out] at h; cases h), fun m' h => ?_⟩
      rw [HF.out] at h
      cases h
      have hz3 := HZW.out
      exact ⟨af, cf, ai, ci, rfl, (N4.out.step (fun a c ha hc => kX a c (by omega) hc)).low (by omega)⟩
end Go.Proofs.YtjfonpbnohbpfaaGreatDoor
