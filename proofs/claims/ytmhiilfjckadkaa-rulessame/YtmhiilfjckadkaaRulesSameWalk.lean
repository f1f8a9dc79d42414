/-
  RulesSame's walk. (Written by RulesSameWalk.py.)
-/
import Derived.Test.YtmhiilfjckadkaaRBig
import Derived.Test.YtmhiilfjckadkaaRSame4
import Derived.Test.YtmhiilfjckadkaaRKnown
import Derived.Test.YtmhiilfjckadkaaRWay2
set_option linter.unusedSimpArgs false
set_option linter.unusedVariables false
namespace Go.Proofs.Ytmhiilfjckadkaa
open Go.RowKit
set_option maxRecDepth 100000
set_option maxHeartbeats 16000000 in
theorem rulesSame_walk {w : World} (A : PA) (p : Rp.Prog) (h : ProgAt w A p) (way : Int) : Calls Try.prog 5 #[.agg #[.int .i64 p.flags, .int .i64 p.lasting, .slice A.a2 p.first.length A.c2, .slice A.a3 p.over.length A.c3, .int .i64 p.frm, .slice A.a5 p.files.length A.c5, .slice A.a6 p.rules.length A.c6, .slice A.a7 p.ctrs.length A.c7, .slice A.a8 p.users.length A.c8, .slice A.a9 p.notes.length A.c9], .int .i64 way] w fun e w' => e = .returned (.bool true) ∧ Below w.heap.size w w' := by
  obtain ⟨a2, c2, a3, c3, a5, c5, a6, c6, a7, c7, a8, c8, a9, c9⟩ := A
  show Calls _ _ #[.agg #[.int .i64 p.flags, .int .i64 p.lasting, .slice a2 p.first.length c2, .slice a3 p.over.length c3, .int .i64 p.frm, .slice a5 p.files.length c5, .slice a6 p.rules.length c6, .slice a7 p.ctrs.length c7, .slice a8 p.users.length c8, .slice a9 p.notes.length c9], _] w _
  have B0 := hideT ((Below.refl w.heap.size w).alloc (Nat.le_refl _) (.cells #[.int .i64 p.flags, .int .i64 p.lasting, .slice a2 p.first.length c2, .slice a3 p.over.length c3, .int .i64 p.frm, .slice a5 p.files.length c5, .slice a6 p.rules.length c6, .slice a7 p.ctrs.length c7, .slice a8 p.users.length c8, .slice a9 p.notes.length c9] 29))
  have L0 := hideT (PBox.newC w a2 a3 a5 a6 a7 a8 a9 c2 c3 c5 c6 c7 c8 c9 p)
  have HP := hideT h
  clear h
  go_enter Try.func5, Try.ntmps5
  go_wp2_with fail
  refine (bigD _ ⟨a2, c2, a3, c3, a5, c5, a6, c6, a7, c7, a8, c8, a9, c9⟩ p (HP.out.below B0.out)).mono ?_
  rintro e w1 ⟨bb, rfl, hsm, b1⟩
  have B1 := hideT (B0.out.trans (b1.mono B0.out.size))
  have L1 := hideT (L0.out.below b1)
  cases bb
  rotate_left
  · clear b1 hsm
    go_wp2_with fail
    go_ret
    exact ⟨rfl, B1.out⟩
  have HSM := hideT (hsm rfl)
  clear b1 hsm
  by_cases g1 : way < 0
  · go_wp2_with fail
    go_ret
    exact ⟨rfl, B1.out⟩
  by_cases g2 : 6 < way
  · have g1' : decide (way < 0) = false := decide_eq_false g1
    go_wp2_with fail
    go_ret
    exact ⟨rfl, B1.out⟩
  obtain ⟨x0, x1, x2, x3, x4, x5, x6, x7, x8, x9⟩ := L1.out.cellsC
  have hzz := L1.out.lt
  have hw : way = 0 ∨ way = 1 ∨ way = 2 ∨ way = 3 ∨ way = 4 ∨ way = 5 ∨ way = 6 := by omega
  rcases hw with rfl | rfl | rfl | rfl | rfl | rfl | rfl
  · clear g1 g2
    obtain ⟨y, hy⟩ : ∃ y, IntKind.i64.wrap (p.flags + 1) = y := ⟨_, rfl⟩
    have HNE : Hid (p ≠ ({ p with flags := y } : Rp.Prog)) := fun e => by
      have h : p.flags = y := congrArg Rp.Prog.flags e
      rw [← hy, IntKind.wrap_i64] at h
      omega
    go_wp2_with fail
    have BA := hideT ((Below.refl w1.heap.size w1).alloc (Nat.le_refl _) (.cells #[.int .i64 y, .int .i64 p.lasting, .slice a2 p.first.length c2, .slice a3 p.over.length c3, .int .i64 p.frm, .slice a5 p.files.length c5, .slice a6 p.rules.length c6, .slice a7 p.ctrs.length c7, .slice a8 p.users.length c8, .slice a9 p.notes.length c9] 29))
    have BQ := hideT (B1.out.trans (BA.out.mono B1.out.size))
    have LA := hideT (L1.out.below BA.out)
    have LQ : Hid (PBox (w1.alloc (.cells #[.int .i64 y, .int .i64 p.lasting, .slice a2 p.first.length c2, .slice a3 p.over.length c3, .int .i64 p.frm, .slice a5 p.files.length c5, .slice a6 p.rules.length c6, .slice a7 p.ctrs.length c7, .slice a8 p.users.length c8, .slice a9 p.notes.length c9] 29)) w1.heap.size (⟨a2, c2, a3, c3, a5, c5, a6, c6, a7, c7, a8, c8, a9, c9⟩ : PA) ({ p with flags := y } : Rp.Prog)) := Lies.new w1 29 #[.int .i64 y, .int .i64 p.lasting, .slice a2 p.first.length c2, .slice a3 p.over.length c3, .int .i64 p.frm, .slice a5 p.files.length c5, .slice a6 p.rules.length c6, .slice a7 p.ctrs.length c7, .slice a8 p.users.length c8, .slice a9 p.notes.length c9]
    have HPP := hideT (HP.out.below BQ.out)
    have HPQ : Hid (ProgAt (w1.alloc (.cells #[.int .i64 y, .int .i64 p.lasting, .slice a2 p.first.length c2, .slice a3 p.over.length c3, .int .i64 p.frm, .slice a5 p.files.length c5, .slice a6 p.rules.length c6, .slice a7 p.ctrs.length c7, .slice a8 p.users.length c8, .slice a9 p.notes.length c9] 29)) (⟨a2, c2, a3, c3, a5, c5, a6, c6, a7, c7, a8, c8, a9, c9⟩ : PA) ({ p with flags := y } : Rp.Prog)) := by
      have h := HPP.out
      exact ⟨h.first, h.over, h.files, h.rules, h.ctrs, h.users, h.notes⟩
    refine (sameP _ (⟨a2, c2, a3, c3, a5, c5, a6, c6, a7, c7, a8, c8, a9, c9⟩ : PA) (⟨a2, c2, a3, c3, a5, c5, a6, c6, a7, c7, a8, c8, a9, c9⟩ : PA) p ({ p with flags := y } : Rp.Prog) HPP.out HPQ.out).mono ?_
    rintro e W0 z1
    obtain ⟨rfl, b1⟩ := z1.no HNE.out
    have BB0 := hideT (BQ.out.trans (b1.mono BQ.out.size))
    have LA0 := hideT (PBox.below LA.out b1)
    have LQ0 := hideT (PBox.below LQ.out b1)
    have PP0 := hideT (ProgAt.below HPP.out b1)
    have PQ0 := hideT (ProgAt.below HPQ.out b1)
    clear z1 b1 x0 x1 x2 x3 x4 x5 x6 x7 x8 x9
    obtain ⟨x0, x1, x2, x3, x4, x5, x6, x7, x8, x9⟩ := LA0.out.cellsC
    obtain ⟨y0, y1, y2, y3, y4, y5, y6, y7, y8, y9⟩ := LQ0.out.cellsC
    go_wp2_with fail
    refine (sameP _ (⟨a2, c2, a3, c3, a5, c5, a6, c6, a7, c7, a8, c8, a9, c9⟩ : PA) (⟨a2, c2, a3, c3, a5, c5, a6, c6, a7, c7, a8, c8, a9, c9⟩ : PA) ({ p with flags := y } : Rp.Prog) p PQ0.out PP0.out).mono ?_
    rintro e W1 z1
    obtain ⟨rfl, b1⟩ := z1.no (fun e => HNE.out e.symm)
    have BB1 := hideT (BB0.out.trans (b1.mono BB0.out.size))
    have LA1 := hideT (PBox.below LA0.out b1)
    have LQ1 := hideT (PBox.below LQ0.out b1)
    have PP1 := hideT (ProgAt.below PP0.out b1)
    have PQ1 := hideT (ProgAt.below PQ0.out b1)
    clear z1 b1 x0 x1 x2 x3 x4 x5 x6 x7 x8 x9 y0 y1 y2 y3 y4 y5 y6 y7 y8 y9
    obtain ⟨x0, x1, x2, x3, x4, x5, x6, x7, x8, x9⟩ := LA1.out.cellsC
    obtain ⟨y0, y1, y2, y3, y4, y5, y6, y7, y8, y9⟩ := LQ1.out.cellsC
    go_wp2_with fail
    refine (sameP _ (⟨a2, c2, a3, c3, a5, c5, a6, c6, a7, c7, a8, c8, a9, c9⟩ : PA) (⟨a2, c2, a3, c3, a5, c5, a6, c6, a7, c7, a8, c8, a9, c9⟩ : PA) ({ p with flags := y } : Rp.Prog) ({ p with flags := y } : Rp.Prog) PQ1.out PQ1.out).mono ?_
    rintro e W2 z1
    obtain ⟨rfl, b1⟩ := z1.yes rfl
    have BB2 := hideT (BB1.out.trans (b1.mono BB1.out.size))
    have LA2 := hideT (PBox.below LA1.out b1)
    have LQ2 := hideT (PBox.below LQ1.out b1)
    have PP2 := hideT (ProgAt.below PP1.out b1)
    have PQ2 := hideT (ProgAt.below PQ1.out b1)
    clear z1 b1 x0 x1 x2 x3 x4 x5 x6 x7 x8 x9 y0 y1 y2 y3 y4 y5 y6 y7 y8 y9
    obtain ⟨x0, x1, x2, x3, x4, x5, x6, x7, x8, x9⟩ := LA2.out.cellsC
    obtain ⟨y0, y1, y2, y3, y4, y5, y6, y7, y8, y9⟩ := LQ2.out.cellsC
    go_wp2_with fail
    refine (known10 _).mono ?_
    rintro e W3 ⟨rfl, b1⟩
    have BB3 := hideT (BB2.out.trans (b1.mono BB2.out.size))
    clear b1 x0 x1 x2 x3 x4 x5 x6 x7 x8 x9 y0 y1 y2 y3 y4 y5 y6 y7 y8 y9
    go_wp2_with fail
    go_ret
    exact ⟨rfl, BB3.out⟩
  · clear g1 g2
    obtain ⟨y, hy⟩ : ∃ y, IntKind.i64.wrap (p.lasting + 1) = y := ⟨_, rfl⟩
    have HNE : Hid (p ≠ ({ p with lasting := y } : Rp.Prog)) := fun e => by
      have h : p.lasting = y := congrArg Rp.Prog.lasting e
      rw [← hy, IntKind.wrap_i64] at h
      omega
    go_wp2_with fail
    have BA := hideT ((Below.refl w1.heap.size w1).alloc (Nat.le_refl _) (.cells #[.int .i64 p.flags, .int .i64 y, .slice a2 p.first.length c2, .slice a3 p.over.length c3, .int .i64 p.frm, .slice a5 p.files.length c5, .slice a6 p.rules.length c6, .slice a7 p.ctrs.length c7, .slice a8 p.users.length c8, .slice a9 p.notes.length c9] 29))
    have BQ := hideT (B1.out.trans (BA.out.mono B1.out.size))
    have LA := hideT (L1.out.below BA.out)
    have LQ : Hid (PBox (w1.alloc (.cells #[.int .i64 p.flags, .int .i64 y, .slice a2 p.first.length c2, .slice a3 p.over.length c3, .int .i64 p.frm, .slice a5 p.files.length c5, .slice a6 p.rules.length c6, .slice a7 p.ctrs.length c7, .slice a8 p.users.length c8, .slice a9 p.notes.length c9] 29)) w1.heap.size (⟨a2, c2, a3, c3, a5, c5, a6, c6, a7, c7, a8, c8, a9, c9⟩ : PA) ({ p with lasting := y } : Rp.Prog)) := Lies.new w1 29 #[.int .i64 p.flags, .int .i64 y, .slice a2 p.first.length c2, .slice a3 p.over.length c3, .int .i64 p.frm, .slice a5 p.files.length c5, .slice a6 p.rules.length c6, .slice a7 p.ctrs.length c7, .slice a8 p.users.length c8, .slice a9 p.notes.length c9]
    have HPP := hideT (HP.out.below BQ.out)
    have HPQ : Hid (ProgAt (w1.alloc (.cells #[.int .i64 p.flags, .int .i64 y, .slice a2 p.first.length c2, .slice a3 p.over.length c3, .int .i64 p.frm, .slice a5 p.files.length c5, .slice a6 p.rules.length c6, .slice a7 p.ctrs.length c7, .slice a8 p.users.length c8, .slice a9 p.notes.length c9] 29)) (⟨a2, c2, a3, c3, a5, c5, a6, c6, a7, c7, a8, c8, a9, c9⟩ : PA) ({ p with lasting := y } : Rp.Prog)) := by
      have h := HPP.out
      exact ⟨h.first, h.over, h.files, h.rules, h.ctrs, h.users, h.notes⟩
    refine (sameP _ (⟨a2, c2, a3, c3, a5, c5, a6, c6, a7, c7, a8, c8, a9, c9⟩ : PA) (⟨a2, c2, a3, c3, a5, c5, a6, c6, a7, c7, a8, c8, a9, c9⟩ : PA) p ({ p with lasting := y } : Rp.Prog) HPP.out HPQ.out).mono ?_
    rintro e W0 z1
    obtain ⟨rfl, b1⟩ := z1.no HNE.out
    have BB0 := hideT (BQ.out.trans (b1.mono BQ.out.size))
    have LA0 := hideT (PBox.below LA.out b1)
    have LQ0 := hideT (PBox.below LQ.out b1)
    have PP0 := hideT (ProgAt.below HPP.out b1)
    have PQ0 := hideT (ProgAt.below HPQ.out b1)
    clear z1 b1 x0 x1 x2 x3 x4 x5 x6 x7 x8 x9
    obtain ⟨x0, x1, x2, x3, x4, x5, x6, x7, x8, x9⟩ := LA0.out.cellsC
    obtain ⟨y0, y1, y2, y3, y4, y5, y6, y7, y8, y9⟩ := LQ0.out.cellsC
    go_wp2_with fail
    refine (sameP _ (⟨a2, c2, a3, c3, a5, c5, a6, c6, a7, c7, a8, c8, a9, c9⟩ : PA) (⟨a2, c2, a3, c3, a5, c5, a6, c6, a7, c7, a8, c8, a9, c9⟩ : PA) ({ p with lasting := y } : Rp.Prog) p PQ0.out PP0.out).mono ?_
    rintro e W1 z1
    obtain ⟨rfl, b1⟩ := z1.no (fun e => HNE.out e.symm)
    have BB1 := hideT (BB0.out.trans (b1.mono BB0.out.size))
    have LA1 := hideT (PBox.below LA0.out b1)
    have LQ1 := hideT (PBox.below LQ0.out b1)
    have PP1 := hideT (ProgAt.below PP0.out b1)
    have PQ1 := hideT (ProgAt.below PQ0.out b1)
    clear z1 b1 x0 x1 x2 x3 x4 x5 x6 x7 x8 x9 y0 y1 y2 y3 y4 y5 y6 y7 y8 y9
    obtain ⟨x0, x1, x2, x3, x4, x5, x6, x7, x8, x9⟩ := LA1.out.cellsC
    obtain ⟨y0, y1, y2, y3, y4, y5, y6, y7, y8, y9⟩ := LQ1.out.cellsC
    go_wp2_with fail
    refine (sameP _ (⟨a2, c2, a3, c3, a5, c5, a6, c6, a7, c7, a8, c8, a9, c9⟩ : PA) (⟨a2, c2, a3, c3, a5, c5, a6, c6, a7, c7, a8, c8, a9, c9⟩ : PA) ({ p with lasting := y } : Rp.Prog) ({ p with lasting := y } : Rp.Prog) PQ1.out PQ1.out).mono ?_
    rintro e W2 z1
    obtain ⟨rfl, b1⟩ := z1.yes rfl
    have BB2 := hideT (BB1.out.trans (b1.mono BB1.out.size))
    have LA2 := hideT (PBox.below LA1.out b1)
    have LQ2 := hideT (PBox.below LQ1.out b1)
    have PP2 := hideT (ProgAt.below PP1.out b1)
    have PQ2 := hideT (ProgAt.below PQ1.out b1)
    clear z1 b1 x0 x1 x2 x3 x4 x5 x6 x7 x8 x9 y0 y1 y2 y3 y4 y5 y6 y7 y8 y9
    obtain ⟨x0, x1, x2, x3, x4, x5, x6, x7, x8, x9⟩ := LA2.out.cellsC
    obtain ⟨y0, y1, y2, y3, y4, y5, y6, y7, y8, y9⟩ := LQ2.out.cellsC
    go_wp2_with fail
    refine (known10 _).mono ?_
    rintro e W3 ⟨rfl, b1⟩
    have BB3 := hideT (BB2.out.trans (b1.mono BB2.out.size))
    clear b1 x0 x1 x2 x3 x4 x5 x6 x7 x8 x9 y0 y1 y2 y3 y4 y5 y6 y7 y8 y9
    go_wp2_with fail
    go_ret
    exact ⟨rfl, BB3.out⟩
  · clear g1 g2
    obtain ⟨F, hF⟩ : ∃ F, F = p.first ++ [(1 : Int)] := ⟨_, rfl⟩
    have HF := hideT hF
    have HNE : Hid (p ≠ ({ p with first := F } : Rp.Prog)) := fun e => app_ne _ _ ((congrArg Rp.Prog.first e).trans HF.out)
    have HFL : Hid (F.length = p.first.length + 1) := by
      show _ = _
      rw [HF.out]
      simp
    clear hF
    obtain ⟨cl, hcl, _, hcr, hcs⟩ := rowr_cells (show RowR 1 intR w (.slice a2 p.first.length c2) p.first from zrow_rowr HP.out.first (by have := HSM.out.1; omega)) intR_one
    have HCL := hideT hcl
    have HCR := hideT hcr
    have HCS := hideT hcs
    clear hcl hcr hcs
    have hlen : p.first.length < 2500 := by have := HSM.out; unfold SmallP at this; omega
    have L5 : Hid (PBox (w1.alloc (.cells #[.int .i64 p.flags, .int .i64 p.lasting, .slice a2 p.first.length c2, .slice a3 p.over.length c3, .int .i64 p.frm, .slice a5 p.files.length c5, .slice a6 p.rules.length c6, .slice a7 p.ctrs.length c7, .slice a8 p.users.length c8, .slice a9 p.notes.length c9] 29)) w1.heap.size (⟨a2, c2, a3, c3, a5, c5, a6, c6, a7, c7, a8, c8, a9, c9⟩ : PA) p) := Lies.new w1 29 #[.int .i64 p.flags, .int .i64 p.lasting, .slice a2 p.first.length c2, .slice a3 p.over.length c3, .int .i64 p.frm, .slice a5 p.files.length c5, .slice a6 p.rules.length c6, .slice a7 p.ctrs.length c7, .slice a8 p.users.length c8, .slice a9 p.notes.length c9]
    have BV : Hid (Below w1.heap.size w1 (w1.alloc (.cells #[.int .i64 p.flags, .int .i64 p.lasting, .slice a2 p.first.length c2, .slice a3 p.over.length c3, .int .i64 p.frm, .slice a5 p.files.length c5, .slice a6 p.rules.length c6, .slice a7 p.ctrs.length c7, .slice a8 p.users.length c8, .slice a9 p.notes.length c9] 29))) := (Below.refl w1.heap.size w1).alloc (Nat.le_refl _) (.cells #[.int .i64 p.flags, .int .i64 p.lasting, .slice a2 p.first.length c2, .slice a3 p.over.length c3, .int .i64 p.frm, .slice a5 p.files.length c5, .slice a6 p.rules.length c6, .slice a7 p.ctrs.length c7, .slice a8 p.users.length c8, .slice a9 p.notes.length c9] 29)
    have BW : Hid (Below w.heap.size w (w1.alloc (.cells #[.int .i64 p.flags, .int .i64 p.lasting, .slice a2 p.first.length c2, .slice a3 p.over.length c3, .int .i64 p.frm, .slice a5 p.files.length c5, .slice a6 p.rules.length c6, .slice a7 p.ctrs.length c7, .slice a8 p.users.length c8, .slice a9 p.notes.length c9] 29))) := B1.out.trans (BV.out.mono B1.out.size)
    have LA5 : Hid (PBox (w1.alloc (.cells #[.int .i64 p.flags, .int .i64 p.lasting, .slice a2 p.first.length c2, .slice a3 p.over.length c3, .int .i64 p.frm, .slice a5 p.files.length c5, .slice a6 p.rules.length c6, .slice a7 p.ctrs.length c7, .slice a8 p.users.length c8, .slice a9 p.notes.length c9] 29)) w.heap.size (⟨a2, c2, a3, c3, a5, c5, a6, c6, a7, c7, a8, c8, a9, c9⟩ : PA) p) := L1.out.below BV.out
    go_wp2_with (first
      | (at_builtin; (refine wpList_appE (t := 22) (e := 3) (z := 1) (E := celE) Try.underlying22 infoZ rfl (by omega) (by omega) celE_len celE_one (by rfl) (.tmp 40) (.tmp 42) (by rfl) (W0 := (w1.alloc (.cells #[.int .i64 p.flags, .int .i64 p.lasting, .slice a2 p.first.length c2, .slice a3 p.over.length c3, .int .i64 p.frm, .slice a5 p.files.length c5, .slice a6 p.rules.length c6, .slice a7 p.ctrs.length c7, .slice a8 p.users.length c8, .slice a9 p.notes.length c9] 29))) (v := .slice (some ⟨w1.heap.size + 1, 0, none⟩) 0 0) (by rfl) (by rfl) (TE.empty (Below.refl _ _) _ (by simp)) cl (HCL.out) (fun h => (HCS.out h).imp fun ad ⟨e, hc⟩ => ⟨e, fun j u hu => below_cell (BW.out.alloc (BW.out.size) _) _ _ (hc j u hu)⟩) (by have := HCL.out; simp; omega) ?_; intro v1 W3 T1 G1; rw [List.nil_append] at T1; have TT1 := hideT T1; clear T1 G1))
      | (at_builtin; (refine wpList_appE (t := 22) (e := 3) (z := 1) (E := celE) Try.underlying22 infoZ rfl (by omega) (by omega) celE_len celE_one (by rfl) (.tmp 43) (.tmp 44) (by rfl) (W0 := (w1.alloc (.cells #[.int .i64 p.flags, .int .i64 p.lasting, .slice a2 p.first.length c2, .slice a3 p.over.length c3, .int .i64 p.frm, .slice a5 p.files.length c5, .slice a6 p.rules.length c6, .slice a7 p.ctrs.length c7, .slice a8 p.users.length c8, .slice a9 p.notes.length c9] 29))) (v := v1) (by rfl) (by rfl) (TT1.out.alloc _) [oneI] (rfl) (one_srcC (by rfl) oneI rfl) (by have := HCL.out; simp; omega) ?_; intro v2 W4 T2 G2; obtain ⟨ob, oc, hv⟩ := te_slice T2 (n := F.length) (by rw [List.length_append, HCL.out, HFL.out]; rfl); subst hv; have TT2 := hideT T2; have LA4 := hideT (LA5.out.below TT2.out.below); have LQ4 := hideT (L5.out.below TT2.out.below); clear T2 G2 x0 x1 x2 x3 x4 x5 x6 x7 x8 x9; obtain ⟨x0, x1, x2, x3, x4, x5, x6, x7, x8, x9⟩ := LA4.out.cellsC; obtain ⟨y0, y1, y2, y3, y4, y5, y6, y7, y8, y9⟩ := LQ4.out.cellsC; have yf := Lies.free LQ4.out 2; have l4 := LA4.out.lt; have l5 := LQ4.out.lt; have l6 := L1.out.lt))
      | fail)
    have BW4 : Hid (Below w.heap.size w W4) := BW.out.trans (TT2.out.below.mono BW.out.size)
    have BW5 : Hid (Below w.heap.size w (W4.setCell ⟨w1.heap.size, 2, none⟩ (.slice ob F.length oc))) := BW4.out.setCell (by have := B1.out.size; omega) _
    have LAZ : Hid (PBox (W4.setCell ⟨w1.heap.size, 2, none⟩ (.slice ob F.length oc)) w.heap.size (⟨a2, c2, a3, c3, a5, c5, a6, c6, a7, c7, a8, c8, a9, c9⟩ : PA) p) := Lies.off LA4.out _ _ (by show w.heap.size ≠ w1.heap.size; have := L1.out.lt; omega)
    have LQZ : Hid (PBox (W4.setCell ⟨w1.heap.size, 2, none⟩ (.slice ob F.length oc)) w1.heap.size (⟨ob, oc, a3, c3, a5, c5, a6, c6, a7, c7, a8, c8, a9, c9⟩ : PA) ({ p with first := F } : Rp.Prog)) := Lies.set LQ4.out 2 _
    have HPP := hideT (HP.out.below BW5.out)
    have RN : Hid (RowR 1 intR (W4.setCell ⟨w1.heap.size, 2, none⟩ (.slice ob F.length oc)) (.slice ob F.length oc) F) := te_one TT2.out HF.out (fun b i u hb hu => by
      rw [World.cell?_setCell_far _ _ _ _ (by show w1.heap.size ≠ b; simp at hb; omega)]
      exact hu) HCL.out HCR.out (fun cs x h => h) (oneI_is _) (by omega)
    have HPQ : Hid (ProgAt (W4.setCell ⟨w1.heap.size, 2, none⟩ (.slice ob F.length oc)) (⟨ob, oc, a3, c3, a5, c5, a6, c6, a7, c7, a8, c8, a9, c9⟩ : PA) ({ p with first := F } : Rp.Prog)) := by
      have h := HPP.out
      exact ⟨rowr_zrow RN.out, h.over, h.files, h.rules, h.ctrs, h.users, h.notes⟩
    refine (sameP _ (⟨a2, c2, a3, c3, a5, c5, a6, c6, a7, c7, a8, c8, a9, c9⟩ : PA) (⟨ob, oc, a3, c3, a5, c5, a6, c6, a7, c7, a8, c8, a9, c9⟩ : PA) p ({ p with first := F } : Rp.Prog) HPP.out HPQ.out).mono ?_
    rintro e W0 z1
    obtain ⟨rfl, b1⟩ := z1.no HNE.out
    have BB0 := hideT (BW5.out.trans (b1.mono BW5.out.size))
    have LA0 := hideT (PBox.below LAZ.out b1)
    have LQ0 := hideT (PBox.below LQZ.out b1)
    have PP0 := hideT (ProgAt.below HPP.out b1)
    have PQ0 := hideT (ProgAt.below HPQ.out b1)
    clear z1 b1 x0 x1 x2 x3 x4 x5 x6 x7 x8 x9 y0 y1 y2 y3 y4 y5 y6 y7 y8 y9 yf l4 l5 l6
    obtain ⟨x0, x1, x2, x3, x4, x5, x6, x7, x8, x9⟩ := LA0.out.cellsC
    obtain ⟨y0, y1, y2, y3, y4, y5, y6, y7, y8, y9⟩ := LQ0.out.cellsC
    go_wp2_with fail
    refine (sameP _ (⟨ob, oc, a3, c3, a5, c5, a6, c6, a7, c7, a8, c8, a9, c9⟩ : PA) (⟨a2, c2, a3, c3, a5, c5, a6, c6, a7, c7, a8, c8, a9, c9⟩ : PA) ({ p with first := F } : Rp.Prog) p PQ0.out PP0.out).mono ?_
    rintro e W1 z1
    obtain ⟨rfl, b1⟩ := z1.no (fun e => HNE.out e.symm)
    have BB1 := hideT (BB0.out.trans (b1.mono BB0.out.size))
    have LA1 := hideT (PBox.below LA0.out b1)
    have LQ1 := hideT (PBox.below LQ0.out b1)
    have PP1 := hideT (ProgAt.below PP0.out b1)
    have PQ1 := hideT (ProgAt.below PQ0.out b1)
    clear z1 b1 x0 x1 x2 x3 x4 x5 x6 x7 x8 x9 y0 y1 y2 y3 y4 y5 y6 y7 y8 y9
    obtain ⟨x0, x1, x2, x3, x4, x5, x6, x7, x8, x9⟩ := LA1.out.cellsC
    obtain ⟨y0, y1, y2, y3, y4, y5, y6, y7, y8, y9⟩ := LQ1.out.cellsC
    go_wp2_with fail
    refine (sameP _ (⟨ob, oc, a3, c3, a5, c5, a6, c6, a7, c7, a8, c8, a9, c9⟩ : PA) (⟨ob, oc, a3, c3, a5, c5, a6, c6, a7, c7, a8, c8, a9, c9⟩ : PA) ({ p with first := F } : Rp.Prog) ({ p with first := F } : Rp.Prog) PQ1.out PQ1.out).mono ?_
    rintro e W2 z1
    obtain ⟨rfl, b1⟩ := z1.yes rfl
    have BB2 := hideT (BB1.out.trans (b1.mono BB1.out.size))
    have LA2 := hideT (PBox.below LA1.out b1)
    have LQ2 := hideT (PBox.below LQ1.out b1)
    have PP2 := hideT (ProgAt.below PP1.out b1)
    have PQ2 := hideT (ProgAt.below PQ1.out b1)
    clear z1 b1 x0 x1 x2 x3 x4 x5 x6 x7 x8 x9 y0 y1 y2 y3 y4 y5 y6 y7 y8 y9
    obtain ⟨x0, x1, x2, x3, x4, x5, x6, x7, x8, x9⟩ := LA2.out.cellsC
    obtain ⟨y0, y1, y2, y3, y4, y5, y6, y7, y8, y9⟩ := LQ2.out.cellsC
    go_wp2_with fail
    refine (known10 _).mono ?_
    rintro e W3 ⟨rfl, b1⟩
    have BB3 := hideT (BB2.out.trans (b1.mono BB2.out.size))
    clear b1 x0 x1 x2 x3 x4 x5 x6 x7 x8 x9 y0 y1 y2 y3 y4 y5 y6 y7 y8 y9
    go_wp2_with fail
    go_ret
    exact ⟨rfl, BB3.out⟩
  · clear g1 g2
    obtain ⟨F, hF⟩ : ∃ F, F = p.files ++ [(⟨#[120]⟩ : ByteArray)] := ⟨_, rfl⟩
    have HF := hideT hF
    have HNE : Hid (p ≠ ({ p with files := F } : Rp.Prog)) := fun e => app_ne _ _ ((congrArg Rp.Prog.files e).trans HF.out)
    have HFL : Hid (F.length = p.files.length + 1) := by
      show _ = _
      rw [HF.out]
      simp
    clear hF
    obtain ⟨cl, hcl, _, hcr, hcs⟩ := rowr_cells (show RowR 1 strR w (.slice a5 p.files.length c5) p.files from HP.out.files) strR_one
    have HCL := hideT hcl
    have HCR := hideT hcr
    have HCS := hideT hcs
    clear hcl hcr hcs
    have hlen : p.files.length < 2500 := by have := HSM.out; unfold SmallP at this; omega
    have L5 : Hid (PBox (w1.alloc (.cells #[.int .i64 p.flags, .int .i64 p.lasting, .slice a2 p.first.length c2, .slice a3 p.over.length c3, .int .i64 p.frm, .slice a5 p.files.length c5, .slice a6 p.rules.length c6, .slice a7 p.ctrs.length c7, .slice a8 p.users.length c8, .slice a9 p.notes.length c9] 29)) w1.heap.size (⟨a2, c2, a3, c3, a5, c5, a6, c6, a7, c7, a8, c8, a9, c9⟩ : PA) p) := Lies.new w1 29 #[.int .i64 p.flags, .int .i64 p.lasting, .slice a2 p.first.length c2, .slice a3 p.over.length c3, .int .i64 p.frm, .slice a5 p.files.length c5, .slice a6 p.rules.length c6, .slice a7 p.ctrs.length c7, .slice a8 p.users.length c8, .slice a9 p.notes.length c9]
    have BV : Hid (Below w1.heap.size w1 (w1.alloc (.cells #[.int .i64 p.flags, .int .i64 p.lasting, .slice a2 p.first.length c2, .slice a3 p.over.length c3, .int .i64 p.frm, .slice a5 p.files.length c5, .slice a6 p.rules.length c6, .slice a7 p.ctrs.length c7, .slice a8 p.users.length c8, .slice a9 p.notes.length c9] 29))) := (Below.refl w1.heap.size w1).alloc (Nat.le_refl _) (.cells #[.int .i64 p.flags, .int .i64 p.lasting, .slice a2 p.first.length c2, .slice a3 p.over.length c3, .int .i64 p.frm, .slice a5 p.files.length c5, .slice a6 p.rules.length c6, .slice a7 p.ctrs.length c7, .slice a8 p.users.length c8, .slice a9 p.notes.length c9] 29)
    have BW : Hid (Below w.heap.size w (w1.alloc (.cells #[.int .i64 p.flags, .int .i64 p.lasting, .slice a2 p.first.length c2, .slice a3 p.over.length c3, .int .i64 p.frm, .slice a5 p.files.length c5, .slice a6 p.rules.length c6, .slice a7 p.ctrs.length c7, .slice a8 p.users.length c8, .slice a9 p.notes.length c9] 29))) := B1.out.trans (BV.out.mono B1.out.size)
    have LA5 : Hid (PBox (w1.alloc (.cells #[.int .i64 p.flags, .int .i64 p.lasting, .slice a2 p.first.length c2, .slice a3 p.over.length c3, .int .i64 p.frm, .slice a5 p.files.length c5, .slice a6 p.rules.length c6, .slice a7 p.ctrs.length c7, .slice a8 p.users.length c8, .slice a9 p.notes.length c9] 29)) w.heap.size (⟨a2, c2, a3, c3, a5, c5, a6, c6, a7, c7, a8, c8, a9, c9⟩ : PA) p) := L1.out.below BV.out
    go_wp2_with (first
      | (at_builtin; (refine wpList_appE (t := 23) (e := 9) (z := 1) (E := celE) Try.underlying23 infoTxt rfl (by omega) (by omega) celE_len celE_one (by rfl) (.tmp 49) (.tmp 51) (by rfl) (W0 := (w1.alloc (.cells #[.int .i64 p.flags, .int .i64 p.lasting, .slice a2 p.first.length c2, .slice a3 p.over.length c3, .int .i64 p.frm, .slice a5 p.files.length c5, .slice a6 p.rules.length c6, .slice a7 p.ctrs.length c7, .slice a8 p.users.length c8, .slice a9 p.notes.length c9] 29))) (v := .slice (some ⟨w1.heap.size + 1, 0, none⟩) 0 0) (by rfl) (by rfl) (TE.empty (Below.refl _ _) _ (by simp)) cl (HCL.out) (fun h => (HCS.out h).imp fun ad ⟨e, hc⟩ => ⟨e, fun j u hu => below_cell (BW.out.alloc (BW.out.size) _) _ _ (hc j u hu)⟩) (by have := HCL.out; simp; omega) ?_; intro v1 W3 T1 G1; rw [List.nil_append] at T1; have TT1 := hideT T1; clear T1 G1))
      | (at_builtin; (refine wpList_appE (t := 23) (e := 9) (z := 1) (E := celE) Try.underlying23 infoTxt rfl (by omega) (by omega) celE_len celE_one (by rfl) (.tmp 52) (.tmp 53) (by rfl) (W0 := (w1.alloc (.cells #[.int .i64 p.flags, .int .i64 p.lasting, .slice a2 p.first.length c2, .slice a3 p.over.length c3, .int .i64 p.frm, .slice a5 p.files.length c5, .slice a6 p.rules.length c6, .slice a7 p.ctrs.length c7, .slice a8 p.users.length c8, .slice a9 p.notes.length c9] 29))) (v := v1) (by rfl) (by rfl) (TT1.out.alloc _) [oneS] (rfl) (one_srcC (by rfl) oneS rfl) (by have := HCL.out; simp; omega) ?_; intro v2 W4 T2 G2; obtain ⟨ob, oc, hv⟩ := te_slice T2 (n := F.length) (by rw [List.length_append, HCL.out, HFL.out]; rfl); subst hv; have TT2 := hideT T2; have LA4 := hideT (LA5.out.below TT2.out.below); have LQ4 := hideT (L5.out.below TT2.out.below); clear T2 G2 x0 x1 x2 x3 x4 x5 x6 x7 x8 x9; obtain ⟨x0, x1, x2, x3, x4, x5, x6, x7, x8, x9⟩ := LA4.out.cellsC; obtain ⟨y0, y1, y2, y3, y4, y5, y6, y7, y8, y9⟩ := LQ4.out.cellsC; have yf := Lies.free LQ4.out 5; have l4 := LA4.out.lt; have l5 := LQ4.out.lt; have l6 := L1.out.lt))
      | fail)
    have BW4 : Hid (Below w.heap.size w W4) := BW.out.trans (TT2.out.below.mono BW.out.size)
    have BW5 : Hid (Below w.heap.size w (W4.setCell ⟨w1.heap.size, 5, none⟩ (.slice ob F.length oc))) := BW4.out.setCell (by have := B1.out.size; omega) _
    have LAZ : Hid (PBox (W4.setCell ⟨w1.heap.size, 5, none⟩ (.slice ob F.length oc)) w.heap.size (⟨a2, c2, a3, c3, a5, c5, a6, c6, a7, c7, a8, c8, a9, c9⟩ : PA) p) := Lies.off LA4.out _ _ (by show w.heap.size ≠ w1.heap.size; have := L1.out.lt; omega)
    have LQZ : Hid (PBox (W4.setCell ⟨w1.heap.size, 5, none⟩ (.slice ob F.length oc)) w1.heap.size (⟨a2, c2, a3, c3, ob, oc, a6, c6, a7, c7, a8, c8, a9, c9⟩ : PA) ({ p with files := F } : Rp.Prog)) := Lies.set LQ4.out 5 _
    have HPP := hideT (HP.out.below BW5.out)
    have RN : Hid (RowR 1 strR (W4.setCell ⟨w1.heap.size, 5, none⟩ (.slice ob F.length oc)) (.slice ob F.length oc) F) := te_one TT2.out HF.out (fun b i u hb hu => by
      rw [World.cell?_setCell_far _ _ _ _ (by show w1.heap.size ≠ b; simp at hb; omega)]
      exact hu) HCL.out HCR.out (fun cs x h => h) (oneS_is _) (by omega)
    have HPQ : Hid (ProgAt (W4.setCell ⟨w1.heap.size, 5, none⟩ (.slice ob F.length oc)) (⟨a2, c2, a3, c3, ob, oc, a6, c6, a7, c7, a8, c8, a9, c9⟩ : PA) ({ p with files := F } : Rp.Prog)) := by
      have h := HPP.out
      exact ⟨h.first, h.over, RN.out, h.rules, h.ctrs, h.users, h.notes⟩
    refine (sameP _ (⟨a2, c2, a3, c3, a5, c5, a6, c6, a7, c7, a8, c8, a9, c9⟩ : PA) (⟨a2, c2, a3, c3, ob, oc, a6, c6, a7, c7, a8, c8, a9, c9⟩ : PA) p ({ p with files := F } : Rp.Prog) HPP.out HPQ.out).mono ?_
    rintro e W0 z1
    obtain ⟨rfl, b1⟩ := z1.no HNE.out
    have BB0 := hideT (BW5.out.trans (b1.mono BW5.out.size))
    have LA0 := hideT (PBox.below LAZ.out b1)
    have LQ0 := hideT (PBox.below LQZ.out b1)
    have PP0 := hideT (ProgAt.below HPP.out b1)
    have PQ0 := hideT (ProgAt.below HPQ.out b1)
    clear z1 b1 x0 x1 x2 x3 x4 x5 x6 x7 x8 x9 y0 y1 y2 y3 y4 y5 y6 y7 y8 y9 yf l4 l5 l6
    obtain ⟨x0, x1, x2, x3, x4, x5, x6, x7, x8, x9⟩ := LA0.out.cellsC
    obtain ⟨y0, y1, y2, y3, y4, y5, y6, y7, y8, y9⟩ := LQ0.out.cellsC
    go_wp2_with fail
    refine (sameP _ (⟨a2, c2, a3, c3, ob, oc, a6, c6, a7, c7, a8, c8, a9, c9⟩ : PA) (⟨a2, c2, a3, c3, a5, c5, a6, c6, a7, c7, a8, c8, a9, c9⟩ : PA) ({ p with files := F } : Rp.Prog) p PQ0.out PP0.out).mono ?_
    rintro e W1 z1
    obtain ⟨rfl, b1⟩ := z1.no (fun e => HNE.out e.symm)
    have BB1 := hideT (BB0.out.trans (b1.mono BB0.out.size))
    have LA1 := hideT (PBox.below LA0.out b1)
    have LQ1 := hideT (PBox.below LQ0.out b1)
    have PP1 := hideT (ProgAt.below PP0.out b1)
    have PQ1 := hideT (ProgAt.below PQ0.out b1)
    clear z1 b1 x0 x1 x2 x3 x4 x5 x6 x7 x8 x9 y0 y1 y2 y3 y4 y5 y6 y7 y8 y9
    obtain ⟨x0, x1, x2, x3, x4, x5, x6, x7, x8, x9⟩ := LA1.out.cellsC
    obtain ⟨y0, y1, y2, y3, y4, y5, y6, y7, y8, y9⟩ := LQ1.out.cellsC
    go_wp2_with fail
    refine (sameP _ (⟨a2, c2, a3, c3, ob, oc, a6, c6, a7, c7, a8, c8, a9, c9⟩ : PA) (⟨a2, c2, a3, c3, ob, oc, a6, c6, a7, c7, a8, c8, a9, c9⟩ : PA) ({ p with files := F } : Rp.Prog) ({ p with files := F } : Rp.Prog) PQ1.out PQ1.out).mono ?_
    rintro e W2 z1
    obtain ⟨rfl, b1⟩ := z1.yes rfl
    have BB2 := hideT (BB1.out.trans (b1.mono BB1.out.size))
    have LA2 := hideT (PBox.below LA1.out b1)
    have LQ2 := hideT (PBox.below LQ1.out b1)
    have PP2 := hideT (ProgAt.below PP1.out b1)
    have PQ2 := hideT (ProgAt.below PQ1.out b1)
    clear z1 b1 x0 x1 x2 x3 x4 x5 x6 x7 x8 x9 y0 y1 y2 y3 y4 y5 y6 y7 y8 y9
    obtain ⟨x0, x1, x2, x3, x4, x5, x6, x7, x8, x9⟩ := LA2.out.cellsC
    obtain ⟨y0, y1, y2, y3, y4, y5, y6, y7, y8, y9⟩ := LQ2.out.cellsC
    go_wp2_with fail
    refine (known10 _).mono ?_
    rintro e W3 ⟨rfl, b1⟩
    have BB3 := hideT (BB2.out.trans (b1.mono BB2.out.size))
    clear b1 x0 x1 x2 x3 x4 x5 x6 x7 x8 x9 y0 y1 y2 y3 y4 y5 y6 y7 y8 y9
    go_wp2_with fail
    go_ret
    exact ⟨rfl, BB3.out⟩
  · clear g1 g2
    obtain ⟨F, hF⟩ : ∃ F, F = p.rules ++ [((0, [], [], []) : Rp.Rule)] := ⟨_, rfl⟩
    have HF := hideT hF
    have HNE : Hid (p ≠ ({ p with rules := F } : Rp.Prog)) := fun e => app_ne _ _ ((congrArg Rp.Prog.rules e).trans HF.out)
    have HFL : Hid (F.length = p.rules.length + 1) := by
      show _ = _
      rw [HF.out]
      simp
    clear hF
    obtain ⟨cl, hcl, _, hcr, hcs⟩ := rowr_cells (show RowR 4 ruleR w (.slice a6 p.rules.length c6) p.rules from HP.out.rules) ruleR_one
    have HCL := hideT hcl
    have HCR := hideT hcr
    have HCS := hideT hcs
    clear hcl hcr hcs
    have hlen : p.rules.length < 2500 := by have := HSM.out; unfold SmallP at this; omega
    have L5 : Hid (PBox (w1.alloc (.cells #[.int .i64 p.flags, .int .i64 p.lasting, .slice a2 p.first.length c2, .slice a3 p.over.length c3, .int .i64 p.frm, .slice a5 p.files.length c5, .slice a6 p.rules.length c6, .slice a7 p.ctrs.length c7, .slice a8 p.users.length c8, .slice a9 p.notes.length c9] 29)) w1.heap.size (⟨a2, c2, a3, c3, a5, c5, a6, c6, a7, c7, a8, c8, a9, c9⟩ : PA) p) := Lies.new w1 29 #[.int .i64 p.flags, .int .i64 p.lasting, .slice a2 p.first.length c2, .slice a3 p.over.length c3, .int .i64 p.frm, .slice a5 p.files.length c5, .slice a6 p.rules.length c6, .slice a7 p.ctrs.length c7, .slice a8 p.users.length c8, .slice a9 p.notes.length c9]
    have BV : Hid (Below w1.heap.size w1 (w1.alloc (.cells #[.int .i64 p.flags, .int .i64 p.lasting, .slice a2 p.first.length c2, .slice a3 p.over.length c3, .int .i64 p.frm, .slice a5 p.files.length c5, .slice a6 p.rules.length c6, .slice a7 p.ctrs.length c7, .slice a8 p.users.length c8, .slice a9 p.notes.length c9] 29))) := (Below.refl w1.heap.size w1).alloc (Nat.le_refl _) (.cells #[.int .i64 p.flags, .int .i64 p.lasting, .slice a2 p.first.length c2, .slice a3 p.over.length c3, .int .i64 p.frm, .slice a5 p.files.length c5, .slice a6 p.rules.length c6, .slice a7 p.ctrs.length c7, .slice a8 p.users.length c8, .slice a9 p.notes.length c9] 29)
    have BW : Hid (Below w.heap.size w (w1.alloc (.cells #[.int .i64 p.flags, .int .i64 p.lasting, .slice a2 p.first.length c2, .slice a3 p.over.length c3, .int .i64 p.frm, .slice a5 p.files.length c5, .slice a6 p.rules.length c6, .slice a7 p.ctrs.length c7, .slice a8 p.users.length c8, .slice a9 p.notes.length c9] 29))) := B1.out.trans (BV.out.mono B1.out.size)
    have LA5 : Hid (PBox (w1.alloc (.cells #[.int .i64 p.flags, .int .i64 p.lasting, .slice a2 p.first.length c2, .slice a3 p.over.length c3, .int .i64 p.frm, .slice a5 p.files.length c5, .slice a6 p.rules.length c6, .slice a7 p.ctrs.length c7, .slice a8 p.users.length c8, .slice a9 p.notes.length c9] 29)) w.heap.size (⟨a2, c2, a3, c3, a5, c5, a6, c6, a7, c7, a8, c8, a9, c9⟩ : PA) p) := L1.out.below BV.out
    go_wp2_with (first
      | (at_builtin; (refine wpList_appE (t := 24) (e := 42) (z := 4) (E := celE) Try.underlying24 infoRul rfl (by omega) (by omega) celE_len celE_one (by rfl) (.tmp 58) (.tmp 60) (by rfl) (W0 := (w1.alloc (.cells #[.int .i64 p.flags, .int .i64 p.lasting, .slice a2 p.first.length c2, .slice a3 p.over.length c3, .int .i64 p.frm, .slice a5 p.files.length c5, .slice a6 p.rules.length c6, .slice a7 p.ctrs.length c7, .slice a8 p.users.length c8, .slice a9 p.notes.length c9] 29))) (v := .slice (some ⟨w1.heap.size + 1, 0, none⟩) 0 0) (by rfl) (by rfl) (TE.empty (Below.refl _ _) _ (by simp)) cl (HCL.out) (fun h => (HCS.out h).imp fun ad ⟨e, hc⟩ => ⟨e, fun j u hu => below_cell (BW.out.alloc (BW.out.size) _) _ _ (hc j u hu)⟩) (by have := HCL.out; simp; omega) ?_; intro v1 W3 T1 G1; rw [List.nil_append] at T1; have TT1 := hideT T1; clear T1 G1))
      | (at_builtin; (refine wpList_appE (t := 24) (e := 42) (z := 4) (E := celE) Try.underlying24 infoRul rfl (by omega) (by omega) celE_len celE_one (by rfl) (.tmp 61) (.tmp 63) (by rfl) (W0 := (w1.alloc (.cells #[.int .i64 p.flags, .int .i64 p.lasting, .slice a2 p.first.length c2, .slice a3 p.over.length c3, .int .i64 p.frm, .slice a5 p.files.length c5, .slice a6 p.rules.length c6, .slice a7 p.ctrs.length c7, .slice a8 p.users.length c8, .slice a9 p.notes.length c9] 29))) (v := v1) (by rfl) (by rfl) (TT1.out.alloc _) [oneR] (rfl) (one_srcC (by rfl) oneR rfl) (by have := HCL.out; simp; omega) ?_; intro v2 W4 T2 G2; obtain ⟨ob, oc, hv⟩ := te_slice T2 (n := F.length) (by rw [List.length_append, HCL.out, HFL.out]; rfl); subst hv; have TT2 := hideT T2; have LA4 := hideT (LA5.out.below TT2.out.below); have LQ4 := hideT (L5.out.below TT2.out.below); clear T2 G2 x0 x1 x2 x3 x4 x5 x6 x7 x8 x9; obtain ⟨x0, x1, x2, x3, x4, x5, x6, x7, x8, x9⟩ := LA4.out.cellsC; obtain ⟨y0, y1, y2, y3, y4, y5, y6, y7, y8, y9⟩ := LQ4.out.cellsC; have yf := Lies.free LQ4.out 6; have l4 := LA4.out.lt; have l5 := LQ4.out.lt; have l6 := L1.out.lt))
      | fail)
    have BW4 : Hid (Below w.heap.size w W4) := BW.out.trans (TT2.out.below.mono BW.out.size)
    have BW5 : Hid (Below w.heap.size w (W4.setCell ⟨w1.heap.size, 6, none⟩ (.slice ob F.length oc))) := BW4.out.setCell (by have := B1.out.size; omega) _
    have LAZ : Hid (PBox (W4.setCell ⟨w1.heap.size, 6, none⟩ (.slice ob F.length oc)) w.heap.size (⟨a2, c2, a3, c3, a5, c5, a6, c6, a7, c7, a8, c8, a9, c9⟩ : PA) p) := Lies.off LA4.out _ _ (by show w.heap.size ≠ w1.heap.size; have := L1.out.lt; omega)
    have LQZ : Hid (PBox (W4.setCell ⟨w1.heap.size, 6, none⟩ (.slice ob F.length oc)) w1.heap.size (⟨a2, c2, a3, c3, a5, c5, ob, oc, a7, c7, a8, c8, a9, c9⟩ : PA) ({ p with rules := F } : Rp.Prog)) := Lies.set LQ4.out 6 _
    have HPP := hideT (HP.out.below BW5.out)
    have RN : Hid (RowR 4 ruleR (W4.setCell ⟨w1.heap.size, 6, none⟩ (.slice ob F.length oc)) (.slice ob F.length oc) F) := te_one TT2.out HF.out (fun b i u hb hu => by
      rw [World.cell?_setCell_far _ _ _ _ (by show w1.heap.size ≠ b; simp at hb; omega)]
      exact hu) HCL.out HCR.out (ruleR_turn (below_cell BW5.out)) (oneR_is _) (by omega)
    have HPQ : Hid (ProgAt (W4.setCell ⟨w1.heap.size, 6, none⟩ (.slice ob F.length oc)) (⟨a2, c2, a3, c3, a5, c5, ob, oc, a7, c7, a8, c8, a9, c9⟩ : PA) ({ p with rules := F } : Rp.Prog)) := by
      have h := HPP.out
      exact ⟨h.first, h.over, h.files, RN.out, h.ctrs, h.users, h.notes⟩
    refine (sameP _ (⟨a2, c2, a3, c3, a5, c5, a6, c6, a7, c7, a8, c8, a9, c9⟩ : PA) (⟨a2, c2, a3, c3, a5, c5, ob, oc, a7, c7, a8, c8, a9, c9⟩ : PA) p ({ p with rules := F } : Rp.Prog) HPP.out HPQ.out).mono ?_
    rintro e W0 z1
    obtain ⟨rfl, b1⟩ := z1.no HNE.out
    have BB0 := hideT (BW5.out.trans (b1.mono BW5.out.size))
    have LA0 := hideT (PBox.below LAZ.out b1)
    have LQ0 := hideT (PBox.below LQZ.out b1)
    have PP0 := hideT (ProgAt.below HPP.out b1)
    have PQ0 := hideT (ProgAt.below HPQ.out b1)
    clear z1 b1 x0 x1 x2 x3 x4 x5 x6 x7 x8 x9 y0 y1 y2 y3 y4 y5 y6 y7 y8 y9 yf l4 l5 l6
    obtain ⟨x0, x1, x2, x3, x4, x5, x6, x7, x8, x9⟩ := LA0.out.cellsC
    obtain ⟨y0, y1, y2, y3, y4, y5, y6, y7, y8, y9⟩ := LQ0.out.cellsC
    go_wp2_with fail
    refine (sameP _ (⟨a2, c2, a3, c3, a5, c5, ob, oc, a7, c7, a8, c8, a9, c9⟩ : PA) (⟨a2, c2, a3, c3, a5, c5, a6, c6, a7, c7, a8, c8, a9, c9⟩ : PA) ({ p with rules := F } : Rp.Prog) p PQ0.out PP0.out).mono ?_
    rintro e W1 z1
    obtain ⟨rfl, b1⟩ := z1.no (fun e => HNE.out e.symm)
    have BB1 := hideT (BB0.out.trans (b1.mono BB0.out.size))
    have LA1 := hideT (PBox.below LA0.out b1)
    have LQ1 := hideT (PBox.below LQ0.out b1)
    have PP1 := hideT (ProgAt.below PP0.out b1)
    have PQ1 := hideT (ProgAt.below PQ0.out b1)
    clear z1 b1 x0 x1 x2 x3 x4 x5 x6 x7 x8 x9 y0 y1 y2 y3 y4 y5 y6 y7 y8 y9
    obtain ⟨x0, x1, x2, x3, x4, x5, x6, x7, x8, x9⟩ := LA1.out.cellsC
    obtain ⟨y0, y1, y2, y3, y4, y5, y6, y7, y8, y9⟩ := LQ1.out.cellsC
    go_wp2_with fail
    refine (sameP _ (⟨a2, c2, a3, c3, a5, c5, ob, oc, a7, c7, a8, c8, a9, c9⟩ : PA) (⟨a2, c2, a3, c3, a5, c5, ob, oc, a7, c7, a8, c8, a9, c9⟩ : PA) ({ p with rules := F } : Rp.Prog) ({ p with rules := F } : Rp.Prog) PQ1.out PQ1.out).mono ?_
    rintro e W2 z1
    obtain ⟨rfl, b1⟩ := z1.yes rfl
    have BB2 := hideT (BB1.out.trans (b1.mono BB1.out.size))
    have LA2 := hideT (PBox.below LA1.out b1)
    have LQ2 := hideT (PBox.below LQ1.out b1)
    have PP2 := hideT (ProgAt.below PP1.out b1)
    have PQ2 := hideT (ProgAt.below PQ1.out b1)
    clear z1 b1 x0 x1 x2 x3 x4 x5 x6 x7 x8 x9 y0 y1 y2 y3 y4 y5 y6 y7 y8 y9
    obtain ⟨x0, x1, x2, x3, x4, x5, x6, x7, x8, x9⟩ := LA2.out.cellsC
    obtain ⟨y0, y1, y2, y3, y4, y5, y6, y7, y8, y9⟩ := LQ2.out.cellsC
    go_wp2_with fail
    refine (known10 _).mono ?_
    rintro e W3 ⟨rfl, b1⟩
    have BB3 := hideT (BB2.out.trans (b1.mono BB2.out.size))
    clear b1 x0 x1 x2 x3 x4 x5 x6 x7 x8 x9 y0 y1 y2 y3 y4 y5 y6 y7 y8 y9
    go_wp2_with fail
    go_ret
    exact ⟨rfl, BB3.out⟩
  · clear g1 g2
    obtain ⟨F, hF⟩ : ∃ F, F = p.users ++ [((⟨#[]⟩, 0, [], 0) : Rp.User)] := ⟨_, rfl⟩
    have HF := hideT hF
    have HNE : Hid (p ≠ ({ p with users := F } : Rp.Prog)) := fun e => app_ne _ _ ((congrArg Rp.Prog.users e).trans HF.out)
    have HFL : Hid (F.length = p.users.length + 1) := by
      show _ = _
      rw [HF.out]
      simp
    clear hF
    obtain ⟨cl, hcl, _, hcr, hcs⟩ := rowr_cells (show RowR 4 userR w (.slice a8 p.users.length c8) p.users from HP.out.users) userR_one
    have HCL := hideT hcl
    have HCR := hideT hcr
    have HCS := hideT hcs
    clear hcl hcr hcs
    have hlen : p.users.length < 2500 := by have := HSM.out; unfold SmallP at this; omega
    have L5 : Hid (PBox (w1.alloc (.cells #[.int .i64 p.flags, .int .i64 p.lasting, .slice a2 p.first.length c2, .slice a3 p.over.length c3, .int .i64 p.frm, .slice a5 p.files.length c5, .slice a6 p.rules.length c6, .slice a7 p.ctrs.length c7, .slice a8 p.users.length c8, .slice a9 p.notes.length c9] 29)) w1.heap.size (⟨a2, c2, a3, c3, a5, c5, a6, c6, a7, c7, a8, c8, a9, c9⟩ : PA) p) := Lies.new w1 29 #[.int .i64 p.flags, .int .i64 p.lasting, .slice a2 p.first.length c2, .slice a3 p.over.length c3, .int .i64 p.frm, .slice a5 p.files.length c5, .slice a6 p.rules.length c6, .slice a7 p.ctrs.length c7, .slice a8 p.users.length c8, .slice a9 p.notes.length c9]
    have BV : Hid (Below w1.heap.size w1 (w1.alloc (.cells #[.int .i64 p.flags, .int .i64 p.lasting, .slice a2 p.first.length c2, .slice a3 p.over.length c3, .int .i64 p.frm, .slice a5 p.files.length c5, .slice a6 p.rules.length c6, .slice a7 p.ctrs.length c7, .slice a8 p.users.length c8, .slice a9 p.notes.length c9] 29))) := (Below.refl w1.heap.size w1).alloc (Nat.le_refl _) (.cells #[.int .i64 p.flags, .int .i64 p.lasting, .slice a2 p.first.length c2, .slice a3 p.over.length c3, .int .i64 p.frm, .slice a5 p.files.length c5, .slice a6 p.rules.length c6, .slice a7 p.ctrs.length c7, .slice a8 p.users.length c8, .slice a9 p.notes.length c9] 29)
    have BW : Hid (Below w.heap.size w (w1.alloc (.cells #[.int .i64 p.flags, .int .i64 p.lasting, .slice a2 p.first.length c2, .slice a3 p.over.length c3, .int .i64 p.frm, .slice a5 p.files.length c5, .slice a6 p.rules.length c6, .slice a7 p.ctrs.length c7, .slice a8 p.users.length c8, .slice a9 p.notes.length c9] 29))) := B1.out.trans (BV.out.mono B1.out.size)
    have LA5 : Hid (PBox (w1.alloc (.cells #[.int .i64 p.flags, .int .i64 p.lasting, .slice a2 p.first.length c2, .slice a3 p.over.length c3, .int .i64 p.frm, .slice a5 p.files.length c5, .slice a6 p.rules.length c6, .slice a7 p.ctrs.length c7, .slice a8 p.users.length c8, .slice a9 p.notes.length c9] 29)) w.heap.size (⟨a2, c2, a3, c3, a5, c5, a6, c6, a7, c7, a8, c8, a9, c9⟩ : PA) p) := L1.out.below BV.out
    go_wp2_with (first
      | (at_builtin; (refine wpList_appE (t := 26) (e := 52) (z := 4) (E := celE) Try.underlying26 infoUse rfl (by omega) (by omega) celE_len celE_one (by rfl) (.tmp 68) (.tmp 70) (by rfl) (W0 := (w1.alloc (.cells #[.int .i64 p.flags, .int .i64 p.lasting, .slice a2 p.first.length c2, .slice a3 p.over.length c3, .int .i64 p.frm, .slice a5 p.files.length c5, .slice a6 p.rules.length c6, .slice a7 p.ctrs.length c7, .slice a8 p.users.length c8, .slice a9 p.notes.length c9] 29))) (v := .slice (some ⟨w1.heap.size + 1, 0, none⟩) 0 0) (by rfl) (by rfl) (TE.empty (Below.refl _ _) _ (by simp)) cl (HCL.out) (fun h => (HCS.out h).imp fun ad ⟨e, hc⟩ => ⟨e, fun j u hu => below_cell (BW.out.alloc (BW.out.size) _) _ _ (hc j u hu)⟩) (by have := HCL.out; simp; omega) ?_; intro v1 W3 T1 G1; rw [List.nil_append] at T1; have TT1 := hideT T1; clear T1 G1))
      | (at_builtin; (refine wpList_appE (t := 26) (e := 52) (z := 4) (E := celE) Try.underlying26 infoUse rfl (by omega) (by omega) celE_len celE_one (by rfl) (.tmp 71) (.tmp 73) (by rfl) (W0 := (w1.alloc (.cells #[.int .i64 p.flags, .int .i64 p.lasting, .slice a2 p.first.length c2, .slice a3 p.over.length c3, .int .i64 p.frm, .slice a5 p.files.length c5, .slice a6 p.rules.length c6, .slice a7 p.ctrs.length c7, .slice a8 p.users.length c8, .slice a9 p.notes.length c9] 29))) (v := v1) (by rfl) (by rfl) (TT1.out.alloc _) [oneU] (rfl) (one_srcC (by rfl) oneU rfl) (by have := HCL.out; simp; omega) ?_; intro v2 W4 T2 G2; obtain ⟨ob, oc, hv⟩ := te_slice T2 (n := F.length) (by rw [List.length_append, HCL.out, HFL.out]; rfl); subst hv; have TT2 := hideT T2; have LA4 := hideT (LA5.out.below TT2.out.below); have LQ4 := hideT (L5.out.below TT2.out.below); clear T2 G2 x0 x1 x2 x3 x4 x5 x6 x7 x8 x9; obtain ⟨x0, x1, x2, x3, x4, x5, x6, x7, x8, x9⟩ := LA4.out.cellsC; obtain ⟨y0, y1, y2, y3, y4, y5, y6, y7, y8, y9⟩ := LQ4.out.cellsC; have yf := Lies.free LQ4.out 8; have l4 := LA4.out.lt; have l5 := LQ4.out.lt; have l6 := L1.out.lt))
      | fail)
    have BW4 : Hid (Below w.heap.size w W4) := BW.out.trans (TT2.out.below.mono BW.out.size)
    have BW5 : Hid (Below w.heap.size w (W4.setCell ⟨w1.heap.size, 8, none⟩ (.slice ob F.length oc))) := BW4.out.setCell (by have := B1.out.size; omega) _
    have LAZ : Hid (PBox (W4.setCell ⟨w1.heap.size, 8, none⟩ (.slice ob F.length oc)) w.heap.size (⟨a2, c2, a3, c3, a5, c5, a6, c6, a7, c7, a8, c8, a9, c9⟩ : PA) p) := Lies.off LA4.out _ _ (by show w.heap.size ≠ w1.heap.size; have := L1.out.lt; omega)
    have LQZ : Hid (PBox (W4.setCell ⟨w1.heap.size, 8, none⟩ (.slice ob F.length oc)) w1.heap.size (⟨a2, c2, a3, c3, a5, c5, a6, c6, a7, c7, ob, oc, a9, c9⟩ : PA) ({ p with users := F } : Rp.Prog)) := Lies.set LQ4.out 8 _
    have HPP := hideT (HP.out.below BW5.out)
    have RN : Hid (RowR 4 userR (W4.setCell ⟨w1.heap.size, 8, none⟩ (.slice ob F.length oc)) (.slice ob F.length oc) F) := te_one TT2.out HF.out (fun b i u hb hu => by
      rw [World.cell?_setCell_far _ _ _ _ (by show w1.heap.size ≠ b; simp at hb; omega)]
      exact hu) HCL.out HCR.out (userR_turn (below_cell BW5.out)) (oneU_is _) (by omega)
    have HPQ : Hid (ProgAt (W4.setCell ⟨w1.heap.size, 8, none⟩ (.slice ob F.length oc)) (⟨a2, c2, a3, c3, a5, c5, a6, c6, a7, c7, ob, oc, a9, c9⟩ : PA) ({ p with users := F } : Rp.Prog)) := by
      have h := HPP.out
      exact ⟨h.first, h.over, h.files, h.rules, h.ctrs, RN.out, h.notes⟩
    refine (sameP _ (⟨a2, c2, a3, c3, a5, c5, a6, c6, a7, c7, a8, c8, a9, c9⟩ : PA) (⟨a2, c2, a3, c3, a5, c5, a6, c6, a7, c7, ob, oc, a9, c9⟩ : PA) p ({ p with users := F } : Rp.Prog) HPP.out HPQ.out).mono ?_
    rintro e W0 z1
    obtain ⟨rfl, b1⟩ := z1.no HNE.out
    have BB0 := hideT (BW5.out.trans (b1.mono BW5.out.size))
    have LA0 := hideT (PBox.below LAZ.out b1)
    have LQ0 := hideT (PBox.below LQZ.out b1)
    have PP0 := hideT (ProgAt.below HPP.out b1)
    have PQ0 := hideT (ProgAt.below HPQ.out b1)
    clear z1 b1 x0 x1 x2 x3 x4 x5 x6 x7 x8 x9 y0 y1 y2 y3 y4 y5 y6 y7 y8 y9 yf l4 l5 l6
    obtain ⟨x0, x1, x2, x3, x4, x5, x6, x7, x8, x9⟩ := LA0.out.cellsC
    obtain ⟨y0, y1, y2, y3, y4, y5, y6, y7, y8, y9⟩ := LQ0.out.cellsC
    go_wp2_with fail
    refine (sameP _ (⟨a2, c2, a3, c3, a5, c5, a6, c6, a7, c7, ob, oc, a9, c9⟩ : PA) (⟨a2, c2, a3, c3, a5, c5, a6, c6, a7, c7, a8, c8, a9, c9⟩ : PA) ({ p with users := F } : Rp.Prog) p PQ0.out PP0.out).mono ?_
    rintro e W1 z1
    obtain ⟨rfl, b1⟩ := z1.no (fun e => HNE.out e.symm)
    have BB1 := hideT (BB0.out.trans (b1.mono BB0.out.size))
    have LA1 := hideT (PBox.below LA0.out b1)
    have LQ1 := hideT (PBox.below LQ0.out b1)
    have PP1 := hideT (ProgAt.below PP0.out b1)
    have PQ1 := hideT (ProgAt.below PQ0.out b1)
    clear z1 b1 x0 x1 x2 x3 x4 x5 x6 x7 x8 x9 y0 y1 y2 y3 y4 y5 y6 y7 y8 y9
    obtain ⟨x0, x1, x2, x3, x4, x5, x6, x7, x8, x9⟩ := LA1.out.cellsC
    obtain ⟨y0, y1, y2, y3, y4, y5, y6, y7, y8, y9⟩ := LQ1.out.cellsC
    go_wp2_with fail
    refine (sameP _ (⟨a2, c2, a3, c3, a5, c5, a6, c6, a7, c7, ob, oc, a9, c9⟩ : PA) (⟨a2, c2, a3, c3, a5, c5, a6, c6, a7, c7, ob, oc, a9, c9⟩ : PA) ({ p with users := F } : Rp.Prog) ({ p with users := F } : Rp.Prog) PQ1.out PQ1.out).mono ?_
    rintro e W2 z1
    obtain ⟨rfl, b1⟩ := z1.yes rfl
    have BB2 := hideT (BB1.out.trans (b1.mono BB1.out.size))
    have LA2 := hideT (PBox.below LA1.out b1)
    have LQ2 := hideT (PBox.below LQ1.out b1)
    have PP2 := hideT (ProgAt.below PP1.out b1)
    have PQ2 := hideT (ProgAt.below PQ1.out b1)
    clear z1 b1 x0 x1 x2 x3 x4 x5 x6 x7 x8 x9 y0 y1 y2 y3 y4 y5 y6 y7 y8 y9
    obtain ⟨x0, x1, x2, x3, x4, x5, x6, x7, x8, x9⟩ := LA2.out.cellsC
    obtain ⟨y0, y1, y2, y3, y4, y5, y6, y7, y8, y9⟩ := LQ2.out.cellsC
    go_wp2_with fail
    refine (known10 _).mono ?_
    rintro e W3 ⟨rfl, b1⟩
    have BB3 := hideT (BB2.out.trans (b1.mono BB2.out.size))
    clear b1 x0 x1 x2 x3 x4 x5 x6 x7 x8 x9 y0 y1 y2 y3 y4 y5 y6 y7 y8 y9
    go_wp2_with fail
    go_ret
    exact ⟨rfl, BB3.out⟩
  · clear g1 g2
    obtain ⟨F, hF⟩ : ∃ F, F = p.notes ++ [(⟨⟨#[]⟩, 0, ⟨#[]⟩, false, 0, [], []⟩ : Mp.Item)] := ⟨_, rfl⟩
    have HF := hideT hF
    have HNE : Hid (p ≠ ({ p with notes := F } : Rp.Prog)) := fun e => app_ne _ _ ((congrArg Rp.Prog.notes e).trans HF.out)
    have HFL : Hid (F.length = p.notes.length + 1) := by
      show _ = _
      rw [HF.out]
      simp
    clear hF
    obtain ⟨cl, hcl, _, hcr, hcs⟩ := rowr_cells (show RowR 7 itemR w (.slice a9 p.notes.length c9) p.notes from HP.out.notes) itemR_one
    have HCL := hideT hcl
    have HCR := hideT hcr
    have HCS := hideT hcs
    clear hcl hcr hcs
    have hlen : p.notes.length < 2500 := by have := HSM.out; unfold SmallP at this; omega
    have L5 : Hid (PBox (w1.alloc (.cells #[.int .i64 p.flags, .int .i64 p.lasting, .slice a2 p.first.length c2, .slice a3 p.over.length c3, .int .i64 p.frm, .slice a5 p.files.length c5, .slice a6 p.rules.length c6, .slice a7 p.ctrs.length c7, .slice a8 p.users.length c8, .slice a9 p.notes.length c9] 29)) w1.heap.size (⟨a2, c2, a3, c3, a5, c5, a6, c6, a7, c7, a8, c8, a9, c9⟩ : PA) p) := Lies.new w1 29 #[.int .i64 p.flags, .int .i64 p.lasting, .slice a2 p.first.length c2, .slice a3 p.over.length c3, .int .i64 p.frm, .slice a5 p.files.length c5, .slice a6 p.rules.length c6, .slice a7 p.ctrs.length c7, .slice a8 p.users.length c8, .slice a9 p.notes.length c9]
    have BV : Hid (Below w1.heap.size w1 (w1.alloc (.cells #[.int .i64 p.flags, .int .i64 p.lasting, .slice a2 p.first.length c2, .slice a3 p.over.length c3, .int .i64 p.frm, .slice a5 p.files.length c5, .slice a6 p.rules.length c6, .slice a7 p.ctrs.length c7, .slice a8 p.users.length c8, .slice a9 p.notes.length c9] 29))) := (Below.refl w1.heap.size w1).alloc (Nat.le_refl _) (.cells #[.int .i64 p.flags, .int .i64 p.lasting, .slice a2 p.first.length c2, .slice a3 p.over.length c3, .int .i64 p.frm, .slice a5 p.files.length c5, .slice a6 p.rules.length c6, .slice a7 p.ctrs.length c7, .slice a8 p.users.length c8, .slice a9 p.notes.length c9] 29)
    have BW : Hid (Below w.heap.size w (w1.alloc (.cells #[.int .i64 p.flags, .int .i64 p.lasting, .slice a2 p.first.length c2, .slice a3 p.over.length c3, .int .i64 p.frm, .slice a5 p.files.length c5, .slice a6 p.rules.length c6, .slice a7 p.ctrs.length c7, .slice a8 p.users.length c8, .slice a9 p.notes.length c9] 29))) := B1.out.trans (BV.out.mono B1.out.size)
    have LA5 : Hid (PBox (w1.alloc (.cells #[.int .i64 p.flags, .int .i64 p.lasting, .slice a2 p.first.length c2, .slice a3 p.over.length c3, .int .i64 p.frm, .slice a5 p.files.length c5, .slice a6 p.rules.length c6, .slice a7 p.ctrs.length c7, .slice a8 p.users.length c8, .slice a9 p.notes.length c9] 29)) w.heap.size (⟨a2, c2, a3, c3, a5, c5, a6, c6, a7, c7, a8, c8, a9, c9⟩ : PA) p) := L1.out.below BV.out
    go_wp2_with (first
      | (at_builtin; (refine wpList_appE (t := 27) (e := 56) (z := 7) (E := celE) Try.underlying27 infoIte rfl (by omega) (by omega) celE_len celE_one (by rfl) (.tmp 18) (.tmp 20) (by rfl) (W0 := (w1.alloc (.cells #[.int .i64 p.flags, .int .i64 p.lasting, .slice a2 p.first.length c2, .slice a3 p.over.length c3, .int .i64 p.frm, .slice a5 p.files.length c5, .slice a6 p.rules.length c6, .slice a7 p.ctrs.length c7, .slice a8 p.users.length c8, .slice a9 p.notes.length c9] 29))) (v := .slice (some ⟨w1.heap.size + 1, 0, none⟩) 0 0) (by rfl) (by rfl) (TE.empty (Below.refl _ _) _ (by simp)) cl (HCL.out) (fun h => (HCS.out h).imp fun ad ⟨e, hc⟩ => ⟨e, fun j u hu => below_cell (BW.out.alloc (BW.out.size) _) _ _ (hc j u hu)⟩) (by have := HCL.out; simp; omega) ?_; intro v1 W3 T1 G1; rw [List.nil_append] at T1; have TT1 := hideT T1; clear T1 G1))
      | (at_builtin; (refine wpList_appE (t := 27) (e := 56) (z := 7) (E := celE) Try.underlying27 infoIte rfl (by omega) (by omega) celE_len celE_one (by rfl) (.tmp 21) (.tmp 23) (by rfl) (W0 := (w1.alloc (.cells #[.int .i64 p.flags, .int .i64 p.lasting, .slice a2 p.first.length c2, .slice a3 p.over.length c3, .int .i64 p.frm, .slice a5 p.files.length c5, .slice a6 p.rules.length c6, .slice a7 p.ctrs.length c7, .slice a8 p.users.length c8, .slice a9 p.notes.length c9] 29))) (v := v1) (by rfl) (by rfl) (TT1.out.alloc _) [oneN] (rfl) (one_srcC (by rfl) oneN rfl) (by have := HCL.out; simp; omega) ?_; intro v2 W4 T2 G2; obtain ⟨ob, oc, hv⟩ := te_slice T2 (n := F.length) (by rw [List.length_append, HCL.out, HFL.out]; rfl); subst hv; have TT2 := hideT T2; have LA4 := hideT (LA5.out.below TT2.out.below); have LQ4 := hideT (L5.out.below TT2.out.below); clear T2 G2 x0 x1 x2 x3 x4 x5 x6 x7 x8 x9; obtain ⟨x0, x1, x2, x3, x4, x5, x6, x7, x8, x9⟩ := LA4.out.cellsC; obtain ⟨y0, y1, y2, y3, y4, y5, y6, y7, y8, y9⟩ := LQ4.out.cellsC; have yf := Lies.free LQ4.out 9; have l4 := LA4.out.lt; have l5 := LQ4.out.lt; have l6 := L1.out.lt))
      | fail)
    have BW4 : Hid (Below w.heap.size w W4) := BW.out.trans (TT2.out.below.mono BW.out.size)
    have BW5 : Hid (Below w.heap.size w (W4.setCell ⟨w1.heap.size, 9, none⟩ (.slice ob F.length oc))) := BW4.out.setCell (by have := B1.out.size; omega) _
    have LAZ : Hid (PBox (W4.setCell ⟨w1.heap.size, 9, none⟩ (.slice ob F.length oc)) w.heap.size (⟨a2, c2, a3, c3, a5, c5, a6, c6, a7, c7, a8, c8, a9, c9⟩ : PA) p) := Lies.off LA4.out _ _ (by show w.heap.size ≠ w1.heap.size; have := L1.out.lt; omega)
    have LQZ : Hid (PBox (W4.setCell ⟨w1.heap.size, 9, none⟩ (.slice ob F.length oc)) w1.heap.size (⟨a2, c2, a3, c3, a5, c5, a6, c6, a7, c7, a8, c8, ob, oc⟩ : PA) ({ p with notes := F } : Rp.Prog)) := Lies.set LQ4.out 9 _
    have HPP := hideT (HP.out.below BW5.out)
    have RN : Hid (RowR 7 itemR (W4.setCell ⟨w1.heap.size, 9, none⟩ (.slice ob F.length oc)) (.slice ob F.length oc) F) := te_one TT2.out HF.out (fun b i u hb hu => by
      rw [World.cell?_setCell_far _ _ _ _ (by show w1.heap.size ≠ b; simp at hb; omega)]
      exact hu) HCL.out HCR.out (itemR_turn (below_cell BW5.out)) (oneN_is _) (by omega)
    have HPQ : Hid (ProgAt (W4.setCell ⟨w1.heap.size, 9, none⟩ (.slice ob F.length oc)) (⟨a2, c2, a3, c3, a5, c5, a6, c6, a7, c7, a8, c8, ob, oc⟩ : PA) ({ p with notes := F } : Rp.Prog)) := by
      have h := HPP.out
      exact ⟨h.first, h.over, h.files, h.rules, h.ctrs, h.users, RN.out⟩
    refine (sameP _ (⟨a2, c2, a3, c3, a5, c5, a6, c6, a7, c7, a8, c8, a9, c9⟩ : PA) (⟨a2, c2, a3, c3, a5, c5, a6, c6, a7, c7, a8, c8, ob, oc⟩ : PA) p ({ p with notes := F } : Rp.Prog) HPP.out HPQ.out).mono ?_
    rintro e W0 z1
    obtain ⟨rfl, b1⟩ := z1.no HNE.out
    have BB0 := hideT (BW5.out.trans (b1.mono BW5.out.size))
    have LA0 := hideT (PBox.below LAZ.out b1)
    have LQ0 := hideT (PBox.below LQZ.out b1)
    have PP0 := hideT (ProgAt.below HPP.out b1)
    have PQ0 := hideT (ProgAt.below HPQ.out b1)
    clear z1 b1 x0 x1 x2 x3 x4 x5 x6 x7 x8 x9 y0 y1 y2 y3 y4 y5 y6 y7 y8 y9 yf l4 l5 l6
    obtain ⟨x0, x1, x2, x3, x4, x5, x6, x7, x8, x9⟩ := LA0.out.cellsC
    obtain ⟨y0, y1, y2, y3, y4, y5, y6, y7, y8, y9⟩ := LQ0.out.cellsC
    go_wp2_with fail
    refine (sameP _ (⟨a2, c2, a3, c3, a5, c5, a6, c6, a7, c7, a8, c8, ob, oc⟩ : PA) (⟨a2, c2, a3, c3, a5, c5, a6, c6, a7, c7, a8, c8, a9, c9⟩ : PA) ({ p with notes := F } : Rp.Prog) p PQ0.out PP0.out).mono ?_
    rintro e W1 z1
    obtain ⟨rfl, b1⟩ := z1.no (fun e => HNE.out e.symm)
    have BB1 := hideT (BB0.out.trans (b1.mono BB0.out.size))
    have LA1 := hideT (PBox.below LA0.out b1)
    have LQ1 := hideT (PBox.below LQ0.out b1)
    have PP1 := hideT (ProgAt.below PP0.out b1)
    have PQ1 := hideT (ProgAt.below PQ0.out b1)
    clear z1 b1 x0 x1 x2 x3 x4 x5 x6 x7 x8 x9 y0 y1 y2 y3 y4 y5 y6 y7 y8 y9
    obtain ⟨x0, x1, x2, x3, x4, x5, x6, x7, x8, x9⟩ := LA1.out.cellsC
    obtain ⟨y0, y1, y2, y3, y4, y5, y6, y7, y8, y9⟩ := LQ1.out.cellsC
    go_wp2_with fail
    refine (sameP _ (⟨a2, c2, a3, c3, a5, c5, a6, c6, a7, c7, a8, c8, ob, oc⟩ : PA) (⟨a2, c2, a3, c3, a5, c5, a6, c6, a7, c7, a8, c8, ob, oc⟩ : PA) ({ p with notes := F } : Rp.Prog) ({ p with notes := F } : Rp.Prog) PQ1.out PQ1.out).mono ?_
    rintro e W2 z1
    obtain ⟨rfl, b1⟩ := z1.yes rfl
    have BB2 := hideT (BB1.out.trans (b1.mono BB1.out.size))
    have LA2 := hideT (PBox.below LA1.out b1)
    have LQ2 := hideT (PBox.below LQ1.out b1)
    have PP2 := hideT (ProgAt.below PP1.out b1)
    have PQ2 := hideT (ProgAt.below PQ1.out b1)
    clear z1 b1 x0 x1 x2 x3 x4 x5 x6 x7 x8 x9 y0 y1 y2 y3 y4 y5 y6 y7 y8 y9
    obtain ⟨x0, x1, x2, x3, x4, x5, x6, x7, x8, x9⟩ := LA2.out.cellsC
    obtain ⟨y0, y1, y2, y3, y4, y5, y6, y7, y8, y9⟩ := LQ2.out.cellsC
    go_wp2_with fail
    refine (known10 _).mono ?_
    rintro e W3 ⟨rfl, b1⟩
    have BB3 := hideT (BB2.out.trans (b1.mono BB2.out.size))
    clear b1 x0 x1 x2 x3 x4 x5 x6 x7 x8 x9 y0 y1 y2 y3 y4 y5 y6 y7 y8 y9
    go_wp2_with fail
    go_ret
    exact ⟨rfl, BB3.out⟩
end Go.Proofs.Ytmhiilfjckadkaa
