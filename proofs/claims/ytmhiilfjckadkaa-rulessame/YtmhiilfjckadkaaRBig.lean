/-
  Whether a program is more than is looked at.
-/
import Derived.Test.YtmhiilfjckadkaaRFlags
import Derived.Deep.QuietTactic
import Derived.BigQuiet
set_option linter.unusedSimpArgs false
set_option linter.unusedVariables false
namespace Go.Proofs.Ytmhiilfjckadkaa
open Go.RowKit
set_option maxRecDepth 100000
/-- No row of the program itself is long. -/
def SmallP (p : Rp.Prog) : Prop := p.first.length < 2500 ∧ p.over.length < 2500 ∧ p.files.length < 2500 ∧ p.rules.length < 2500 ∧ p.ctrs.length < 2500 ∧ p.users.length < 2500 ∧ p.notes.length < 2500
def BigPost (p : Rp.Prog) (w : World) (e : Ending) (w' : World) : Prop := ∃ b : Bool, e = .returned (.bool b) ∧ (b = false → SmallP p) ∧ Below w.heap.size w w'
set_option maxHeartbeats 8000000 in
theorem bigD (w : World) (A : PA) (p : Rp.Prog) (h : ProgAt w A p) : Calls Try.prog 8 #[.agg #[.int .i64 p.flags, .int .i64 p.lasting, .slice A.a2 p.first.length A.c2, .slice A.a3 p.over.length A.c3, .int .i64 p.frm, .slice A.a5 p.files.length A.c5, .slice A.a6 p.rules.length A.c6, .slice A.a7 p.ctrs.length A.c7, .slice A.a8 p.users.length A.c8, .slice A.a9 p.notes.length A.c9]] w (BigPost p w) := by
  obtain ⟨a2, c2, a3, c3, a5, c5, a6, c6, a7, c7, a8, c8, a9, c9⟩ := A
  show Calls _ _ #[.agg #[.int .i64 p.flags, .int .i64 p.lasting, .slice a2 p.first.length c2, .slice a3 p.over.length c3, .int .i64 p.frm, .slice a5 p.files.length c5, .slice a6 p.rules.length c6, .slice a7 p.ctrs.length c7, .slice a8 p.users.length c8, .slice a9 p.notes.length c9]] w _
  have B0 := hideT ((Below.refl w.heap.size w).alloc (Nat.le_refl _) (.cells #[.int .i64 p.flags, .int .i64 p.lasting, .slice a2 p.first.length c2, .slice a3 p.over.length c3, .int .i64 p.frm, .slice a5 p.files.length c5, .slice a6 p.rules.length c6, .slice a7 p.ctrs.length c7, .slice a8 p.users.length c8, .slice a9 p.notes.length c9] 29))
  have L0 := hideT (PBox.newC w a2 a3 a5 a6 a7 a8 a9 c2 c3 c5 c6 c7 c8 c9 p)
  obtain ⟨_, hz1, _, _⟩ := zrow_at (show ZRow w (.slice a2 p.first.length c2) p.first from h.first)
  obtain ⟨_, hz2, _, _⟩ := zrow_at (show ZRow w (.slice a3 p.over.length c3) p.over from h.over)
  obtain ⟨_, hz3, _, _⟩ := frow_at (show FRow w (.slice a5 p.files.length c5) p.files from h.files)
  obtain ⟨_, hz4, _, b, o, ha, hc⟩ := rrow_at (show RRow w (.slice a6 p.rules.length c6) p.rules from h.rules)
  obtain ⟨_, hz5, _, _⟩ := trow_at (show TRow w (.slice a7 p.ctrs.length c7) p.ctrs from h.ctrs)
  obtain ⟨_, hz6, _, bu, ou, hau, hcu⟩ := urow_at (show URow w (.slice a8 p.users.length c8) p.users from h.users)
  obtain ⟨_, hz7, _, _⟩ := irow_at (show IRow w (.slice a9 p.notes.length c9) p.notes from h.notes)
  have HC := hideT hc
  have HA := hideT ha
  have HCU := hideT hcu
  have HAU := hideT hau
  obtain ⟨S0, hS0⟩ : ∃ S0, p.first.length + p.over.length + p.files.length + p.rules.length + p.ctrs.length + p.users.length + p.notes.length = S0 := ⟨_, rfl⟩
  have HS := hideT hS0
  clear hc ha hcu hau h hS0
  go_enter Try.func8, Try.ntmps8
  go_wp2_with fail
  go_loopw [3, 4] (fun n i wr => ∃ k N : Nat, k ≤ p.rules.length ∧ S0 ≤ N ∧ N ≤ 1000000000000000 ∧ i = .int .i64 k ∧ n = .int .i64 N ∧ Hid (Below w.heap.size w wr ∧ PBox wr w.heap.size ⟨a2, c2, a3, c3, a5, c5, a6, c6, a7, c7, a8, c8, a9, c9⟩ p)) (fun _ i _ => p.rules.length - (intOf i).toNat)
  case atStart => exact ⟨0, S0, by omega, Nat.le_refl _, by have := HS.out; omega, rfl, by rw [← HS.out]; go_num, B0.out, L0.out⟩
  case round =>
    obtain ⟨k, N, hk, hSN, hN, rfl, rfl, HW⟩ := hrel
    obtain ⟨x0, x1, x2, x3, x4, x5, x6, x7, x8, x9⟩ := HW.out.2.cellsC
    by_cases hgo : k < p.rules.length ∧ N < 2500
    · obtain ⟨hlt, hlN⟩ := hgo
      obtain ⟨⟨s, l1, l2, l3⟩, hx⟩ := Mp.at_lt (l := p.rules) (k := k) hlt
      obtain ⟨i1, n1, i2, n2, i3, n3, I0⟩ := HC.out k _ hx
      obtain ⟨r1, r2, r3, d0, d1, d2, d3⟩ := I0.turn (below_cell HW.out.1)
      dsimp only at r1 r2 r3 d0 d1 d2 d3
      have hq1 := (lrow_at r1).2.1
      have hq2 := (crow_at r2).2.1
      have hq3 := (lrow_at r3).2.1
      obtain rfl := HA.out (by omega)
      clear hx I0 r1 r2 r3
      have t0 : (0 : Int) ≤ (k : Int) := by omega
      have t1 : (k : Int) < (p.rules.length : Int) := by omega
      go_wp2_with fail
      go_quiet (fail)
      go_wp2_with fail
      refine ⟨⟨k + 1, N + l1.length + l2.length + l3.length, by omega, by omega, by omega, by go_num, by first | rfl | go_num, below_drewN HW.out.1 _, HW.out.2.below (below_drewN (Below.refl _ _) _)⟩, ?_⟩
      first | omega | (simp [intOf]; omega)
    have hway : ¬ k < p.rules.length ∨ (k < p.rules.length ∧ ¬ N < 2500) := by omega
    clear hgo
    obtain ⟨W1, hW1⟩ : ∃ W1, W1 = wr := ⟨wr, rfl⟩
    subst hW1
    rcases hway with hway | ⟨hway1, hway2⟩
    all_goals
      go_wp2_with fail
      clear x0 x1 x2 x3 x4 x5 x6 x7 x8 x9
      go_loopw [3, 5] (fun n i wr => ∃ k N : Nat, k ≤ p.users.length ∧ S0 ≤ N ∧ N ≤ 1000000000000000 ∧ i = .int .i64 k ∧ n = .int .i64 N ∧ Hid (Below w.heap.size w wr ∧ PBox wr w.heap.size ⟨a2, c2, a3, c3, a5, c5, a6, c6, a7, c7, a8, c8, a9, c9⟩ p)) (fun _ i _ => p.users.length - (intOf i).toNat)
      case atStart => exact ⟨0, N, by omega, hSN, hN, rfl, rfl, HW⟩
      case round =>
        obtain ⟨k2, N2, hk2, hSN2, hN2, rfl, rfl, HV⟩ := hrel
        obtain ⟨x0, x1, x2, x3, x4, x5, x6, x7, x8, x9⟩ := HV.out.2.cellsC
        by_cases hgo : k2 < p.users.length ∧ N2 < 2500
        · obtain ⟨hlt, hlN⟩ := hgo
          obtain ⟨⟨s0, s1, s2, s3⟩, hx⟩ := Mp.at_lt (l := p.users) (k := k2) hlt
          obtain ⟨i1, n1, I0⟩ := HCU.out k2 _ hx
          obtain ⟨_, r1, d0, d1, d2, d3⟩ := I0.turn (below_cell HV.out.1)
          dsimp only at r1 d0 d1 d2 d3
          have hq1 := (lrow_at r1).2.1
          obtain rfl := HAU.out (by omega)
          clear hx I0 r1
          have t0 : (0 : Int) ≤ (k2 : Int) := by omega
          have t1 : (k2 : Int) < (p.users.length : Int) := by omega
          go_wp2_with fail
          refine ⟨⟨k2 + 1, N2 + s2.length, by omega, by omega, by omega, by go_num, by first | rfl | go_num, HV⟩, ?_⟩
          first | omega | (simp [intOf]; omega)
        have hway : ¬ k2 < p.users.length ∨ (k2 < p.users.length ∧ ¬ N2 < 2500) := by omega
        clear hgo
        by_cases hbig : N2 < 2500
        · have HSM : Hid (SmallP p) := by have := HS.out; exact ⟨by omega, by omega, by omega, by omega, by omega, by omega, by omega⟩
          have hend : ¬ k2 < p.users.length := by omega
          clear hway
          by_cases hfl : 2000 < p.flags
          · go_wp2_with fail
            go_ret
            exact ⟨true, ret_b (by first | rfl | (simp; done) | (simp; omega)), fun e => (by cases e), HV.out.1⟩
          · have hfl' : p.flags ≤ 2000 := by omega
            go_wp2_with fail
            go_ret
            exact ⟨false, ret_b (by first | rfl | (simp; done) | (simp; omega)), fun _ => HSM.out, HV.out.1⟩
        · have hbig' : 2500 ≤ N2 := by omega
          rcases hway with hway | ⟨hway1, hway2⟩
          all_goals
            go_wp2_with fail
            go_ret
            exact ⟨true, ret_b (by first | rfl | (simp; done) | (simp; omega)), fun e => (by cases e), HV.out.1⟩
end Go.Proofs.Ytmhiilfjckadkaa
