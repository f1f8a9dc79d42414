/-
  Whether a program's users may be.
-/
import Derived.Test.YtkjekohncfhbiabRFlags
set_option linter.unusedSimpArgs false
set_option linter.unusedVariables false
namespace Go.Proofs.Ytkjekohncfhbiab
open Go.RowKit
set_option maxRecDepth 100000
set_option maxHeartbeats 2000000 in
theorem usersMayBeD (w : World) (A : PA) (p : Rp.Prog) (h : ProgAt w A p) : Calls Try.prog 43 #[.agg #[.int .i64 p.flags, .int .i64 p.lasting, .slice A.a2 p.first.length A.c2, .slice A.a3 p.over.length A.c3, .int .i64 p.frm, .slice A.a5 p.files.length A.c5, .slice A.a6 p.rules.length A.c6, .slice A.a7 p.ctrs.length A.c7, .slice A.a8 p.users.length A.c8, .slice A.a9 p.notes.length A.c9]] w (BPost (Rp.UsersP p) w) := by
  obtain ⟨a2, c2, a3, c3, a5, c5, a6, c6, a7, c7, a8, c8, a9, c9⟩ := A
  show Calls _ _ #[.agg #[.int .i64 p.flags, .int .i64 p.lasting, .slice a2 p.first.length c2, .slice a3 p.over.length c3, .int .i64 p.frm, .slice a5 p.files.length c5, .slice a6 p.rules.length c6, .slice a7 p.ctrs.length c7, .slice a8 p.users.length c8, .slice a9 p.notes.length c9]] w _
  have B0 := hideT ((Below.refl w.heap.size w).alloc (Nat.le_refl _) (.cells #[.int .i64 p.flags, .int .i64 p.lasting, .slice a2 p.first.length c2, .slice a3 p.over.length c3, .int .i64 p.frm, .slice a5 p.files.length c5, .slice a6 p.rules.length c6, .slice a7 p.ctrs.length c7, .slice a8 p.users.length c8, .slice a9 p.notes.length c9] 53))
  have L0 := hideT (PBox.newC w a2 a3 a5 a6 a7 a8 a9 c2 c3 c5 c6 c7 c8 c9 p)
  obtain ⟨_, hl, _, b, o, ha, hc⟩ := urow_at (show URow w (.slice a8 p.users.length c8) p.users from h.users)
  have HC := hideT hc
  have HA := hideT ha
  clear hc ha h
  go_enter Try.func43, Try.ntmps43
  go_wp2_with fail
  go_loopw [10] (fun i wr => ∃ k : Nat, k ≤ p.users.length ∧ i = .int .i64 k ∧ Hid (∀ (j : Nat) c, j < k → p.users[j]? = some c → Rp.UserP p c) ∧ Hid (Below w.heap.size w wr ∧ PBox wr w.heap.size ⟨a2, c2, a3, c3, a5, c5, a6, c6, a7, c7, a8, c8, a9, c9⟩ p)) (fun i _ => p.users.length - (intOf i).toNat)
  case atStart => exact ⟨0, by omega, rfl, (fun j y hj => absurd hj (by omega)), B0.out, L0.out⟩
  case round =>
    obtain ⟨k, hk, rfl, HB, HW⟩ := hrel
    by_cases hlt : k < p.users.length
    rotate_left
    · have HF : Hid (Rp.UsersP p) := Rp.all_of (Rp.all_done HB.out (by omega))
      go_wp2_with fail
      go_ret
      exact bpost_yes HF.out HW.out.1
    obtain ⟨⟨s0, s1, s2, s3⟩, hx⟩ := Mp.at_lt (l := p.users) (k := k) hlt
    obtain ⟨a1, n1, I0⟩ := HC.out k _ hx
    have I1 := I0.turn (below_cell HW.out.1)
    obtain ⟨_, r1, d0, d1, d2, d3⟩ := I1
    dsimp only at r1 d0 d1 d2 d3
    obtain rfl := HA.out (by omega)
    have HX := hideT hx
    have HNO : Hid (¬ Rp.UserP p (s0, s1, s2, s3) → ¬ Rp.UsersP p) := fun h H => h (H _ (List.mem_of_getElem? HX.out))
    obtain ⟨_, hl2, _, b2, o2, ha2, hc2⟩ := lrow_at r1
    have HC2 := hideT hc2
    have HA2 := hideT ha2
    clear hx hc2 ha2 I0 r1
    have BA := hideT ((Below.refl wr.heap.size wr).alloc (Nat.le_refl _) (.cells #[.string s0, .int .i64 s1, .slice a1 s2.length n1, .int .i64 s3] 39))
    have LA := hideT (Lies.new wr 39 #[.string s0, .int .i64 s1, .slice a1 s2.length n1, .int .i64 s3])
    have LP := hideT (HW.out.2.below BA.out)
    have BW := hideT (HW.out.1.trans (BA.out.mono HW.out.1.size))
    have t0 : (0 : Int) ≤ (k : Int) := by omega
    have t1 : (k : Int) < (p.users.length : Int) := by omega
    have hz := HW.out.2.lt
    obtain ⟨W0, hW0⟩ : ∃ W0, W0 = wr := ⟨wr, rfl⟩
    subst hW0
    go_wp2_with fail
    clear d0 d1 d2 d3
    go_loopw [17] (fun i wr => ∃ j : Nat, j ≤ s2.length ∧ i = .int .i64 j ∧ Hid (∀ (i : Nat) x, i < j → s2[i]? = some x → Rp.InP x.1 p.lasting) ∧ Hid (Below W0.heap.size W0 wr ∧ Lies wr W0.heap.size 39 #[.string s0, .int .i64 s1, .slice a1 s2.length n1, .int .i64 s3])) (fun i _ => s2.length - (intOf i).toNat)
    case atStart => exact ⟨0, by omega, rfl, (fun j y hj => absurd hj (by omega)), BA.out, LA.out⟩
    case round =>
      obtain ⟨j, hj, rfl, HD, HV⟩ := hrel
      have BV := hideT (HW.out.1.trans (HV.out.1.mono HW.out.1.size))
      have LV := hideT (HW.out.2.below HV.out.1)
      obtain ⟨x0, x1, x2, x3, x4, x5, x6, x7, x8, x9⟩ := LV.out.cellsC
      by_cases hjl : j < s2.length
      · obtain ⟨⟨g0, g1⟩, hy⟩ := Mp.at_lt (l := s2) (k := j) hjl
        obtain ⟨d0, d1⟩ := HC2.out j _ hy
        dsimp only at d0 d1
        have d0 := below_cell HV.out.1 _ _ d0
        have d1 := below_cell HV.out.1 _ _ d1
        obtain rfl := HA2.out (by omega)
        have HY := hideT hy
        clear hy
        have BB := hideT ((Below.refl wr.heap.size wr).alloc (Nat.le_refl _) (.cells #[.int .i64 g0, .bool g1] 36))
        have t3 : (0 : Int) ≤ (j : Int) := by omega
        have t4 : (j : Int) < (s2.length : Int) := by omega
        have hz2 := LV.out.lt
        by_cases q : Rp.InP g0 p.lasting
        · have HR : Hid (∀ (i : Nat) x, i < j + 1 → s2[i]? = some x → Rp.InP x.1 p.lasting) := Rp.all_step HD.out HY.out q
          have Q := hideT q
          clear q
          go_wp2_with fail
          refine (lastsD _ ⟨a2, c2, a3, c3, a5, c5, a6, c6, a7, c7, some ⟨b, o, none⟩, c8, a9, c9⟩ p g0).mono ?_
          rintro e w1 k1
          obtain ⟨rfl, b1⟩ := k1.yes Q.out
          have B1 := hideT (BB.out.trans (b1.mono BB.out.size))
          clear k1 b1 x0 x1 x2 x3 x4 x5 x6 x7 x8 x9
          go_wp2_with fail
          refine ⟨⟨j + 1, by omega, by go_num, HR, HV.out.1.trans (B1.out.mono HV.out.1.size), HV.out.2.below B1.out⟩, ?_⟩
          first | omega | (simp [intOf]; omega)
        · have HF : Hid (¬ Rp.UsersP p) := HNO.out fun H => q (H.1 _ (List.mem_of_getElem? HY.out))
          have Q := hideT q
          clear q
          go_wp2_with fail
          refine (lastsD _ ⟨a2, c2, a3, c3, a5, c5, a6, c6, a7, c7, some ⟨b, o, none⟩, c8, a9, c9⟩ p g0).mono ?_
          rintro e w1 k1
          obtain ⟨rfl, b1⟩ := k1.no Q.out
          have B1 := hideT (BV.out.trans ((BB.out.trans (b1.mono BB.out.size)).mono BV.out.size))
          clear k1 b1 x0 x1 x2 x3 x4 x5 x6 x7 x8 x9
          go_wp2_with fail
          go_ret
          exact bpost_no HF.out B1.out
      have HL : Hid (Rp.LitsP s2 p.lasting) := Rp.all_of (Rp.all_done HD.out (by omega))
      have e3 : wr.cell? ⟨W0.heap.size, 3, none⟩ = some (.int .i64 s3) := HV.out.2.cell 3
      go_wp2_with fail
      refine (passesD _ ⟨a2, c2, a3, c3, a5, c5, a6, c6, a7, c7, some ⟨b, o, none⟩, c8, a9, c9⟩ p s3).mono ?_
      clear x0 x1 x2 x3 x4 x5 x6 x7 x8 x9 e3
      rintro e w2 k1
      by_cases q4 : Rp.PassP p s3
      · obtain ⟨rfl, b1⟩ := k1.yes q4
        have B2 := hideT (BV.out.trans (b1.mono BV.out.size))
        have L2 := hideT (LV.out.below b1)
        have HR : Hid (∀ (j : Nat) c, j < k + 1 → p.users[j]? = some c → Rp.UserP p c) := Rp.all_step HB.out HX.out ⟨HL.out, q4⟩
        clear k1 b1 q4
        go_wp2_with fail
        refine ⟨⟨k + 1, by omega, by go_num, HR, B2.out, L2.out⟩, ?_⟩
        first | omega | (simp [intOf]; omega)
      · obtain ⟨rfl, b1⟩ := k1.no q4
        have B2 := hideT (BV.out.trans (b1.mono BV.out.size))
        have HF : Hid (¬ Rp.UsersP p) := HNO.out fun H => q4 H.2
        clear k1 b1 q4
        go_wp2_with fail
        go_ret
        exact bpost_no HF.out B2.out
end Go.Proofs.Ytkjekohncfhbiab
