/-
  Whether a program's rules may be, each for itself.
-/
import Derived.Test.YtkjekohncfhbiaaRRule
set_option linter.unusedSimpArgs false
set_option linter.unusedVariables false
namespace Go.Proofs.Ytkjekohncfhbiaa
open Go.RowKit
set_option maxRecDepth 100000
def RuleAtP (p : Rp.Prog) (i : Nat) (r : Rp.Rule) : Prop := Rp.StratP r.1 ∧ Rp.RuleP p r ∧ ∀ (j : Nat) q, i = j + 1 → p.rules[j]? = some q → q.1 ≤ r.1
set_option maxHeartbeats 4000000 in
theorem rulesMayBeD (w : World) (A : PA) (p : Rp.Prog) (h : ProgAt w A p) (hb : 0 ≤ p.lasting ∧ p.lasting ≤ p.flags) : Calls Try.prog 44 #[.agg #[.int .i64 p.flags, .int .i64 p.lasting, .slice A.a2 p.first.length A.c2, .slice A.a3 p.over.length A.c3, .int .i64 p.frm, .slice A.a5 p.files.length A.c5, .slice A.a6 p.rules.length A.c6, .slice A.a7 p.ctrs.length A.c7, .slice A.a8 p.users.length A.c8, .slice A.a9 p.notes.length A.c9]] w (BPost (Rp.RulesP p) w) := by
  obtain ⟨a2, c2, a3, c3, a5, c5, a6, c6, a7, c7, a8, c8, a9, c9⟩ := A
  show Calls _ _ #[.agg #[.int .i64 p.flags, .int .i64 p.lasting, .slice a2 p.first.length c2, .slice a3 p.over.length c3, .int .i64 p.frm, .slice a5 p.files.length c5, .slice a6 p.rules.length c6, .slice a7 p.ctrs.length c7, .slice a8 p.users.length c8, .slice a9 p.notes.length c9]] w _
  have B0 := hideT ((Below.refl w.heap.size w).alloc (Nat.le_refl _) (.cells #[.int .i64 p.flags, .int .i64 p.lasting, .slice a2 p.first.length c2, .slice a3 p.over.length c3, .int .i64 p.frm, .slice a5 p.files.length c5, .slice a6 p.rules.length c6, .slice a7 p.ctrs.length c7, .slice a8 p.users.length c8, .slice a9 p.notes.length c9] 29))
  have L0 := hideT (PBox.newC w a2 a3 a5 a6 a7 a8 a9 c2 c3 c5 c6 c7 c8 c9 p)
  obtain ⟨_, hl, _, b, o, ha, hc⟩ := rrow_at (show RRow w (.slice a6 p.rules.length c6) p.rules from h.rules)
  have HFi := hideT (show FRow w (.slice a5 p.files.length c5) p.files from h.files)
  have HBD := hideT hb
  have HC := hideT hc
  have HA := hideT ha
  clear hc ha h hb
  by_cases h15 : p.rules.length ≤ 1500
  rotate_left
  · have HF : Hid (¬ Rp.RulesP p) := fun H => h15 H.1
    go_enter Try.func44, Try.ntmps44
    go_wp2_with fail
    go_ret
    exact bpost_no HF.out B0.out
  go_enter Try.func44, Try.ntmps44
  go_wp2_with fail
  go_loopw [3, 13] (fun q i wr => ∃ (k : Nat) (z : Int), k ≤ p.rules.length ∧ i = .int .i64 k ∧ q = .int .i64 z ∧ Hid (∀ (j : Nat) r, j < k → p.rules[j]? = some r → RuleAtP p j r) ∧ Hid ((k = 0 → z = 0) ∧ ∀ (j : Nat) r, k = j + 1 → p.rules[j]? = some r → z = r.1) ∧ Hid (Below w.heap.size w wr ∧ PBox wr w.heap.size ⟨a2, c2, a3, c3, a5, c5, a6, c6, a7, c7, a8, c8, a9, c9⟩ p)) (fun _ i _ => p.rules.length - (intOf i).toNat)
  case atStart => exact ⟨0, 0, by omega, rfl, rfl, (fun j y hj => absurd hj (by omega)), ⟨fun _ => rfl, fun j r hj => absurd hj (by omega)⟩, B0.out, L0.out⟩
  case round =>
    obtain ⟨k, z, hk, rfl, rfl, HB, HZ, HW⟩ := hrel
    by_cases hlt : k < p.rules.length
    rotate_left
    · have HF : Hid (Rp.RulesP p) := ⟨h15, Rp.all_done HB.out (by omega)⟩
      go_wp2_with fail
      go_ret
      exact bpost_yes HF.out HW.out.1
    obtain ⟨⟨s, l1, l2, l3⟩, hx⟩ := Mp.at_lt (l := p.rules) (k := k) hlt
    obtain ⟨i1, n1, i2, n2, i3, n3, I0⟩ := HC.out k _ hx
    obtain ⟨r1, r2, r3, d0, d1, d2, d3⟩ := I0.turn (below_cell HW.out.1)
    dsimp only at r1 r2 r3 d0 d1 d2 d3
    obtain rfl := HA.out (by omega)
    have HX := hideT hx
    have HNO : Hid (¬ RuleAtP p k (s, l1, l2, l3) → ¬ Rp.RulesP p) := fun h H => h (H.2 k _ HX.out)
    have BA := hideT ((Below.refl wr.heap.size wr).alloc (Nat.le_refl _) (.cells #[.int .i64 s, .slice i1 l1.length n1, .slice i2 l2.length n2, .slice i3 l3.length n3] 61))
    have LA := hideT (Lies.new wr 61 #[.int .i64 s, .slice i1 l1.length n1, .slice i2 l2.length n2, .slice i3 l3.length n3])
    have LP := hideT (HW.out.2.below BA.out)
    have BW := hideT (HW.out.1.trans (BA.out.mono HW.out.1.size))
    have R1 := hideT (lrow_below r1 BA.out)
    have R2 := hideT (crow_below r2 BA.out)
    have R3 := hideT (lrow_below r3 BA.out)
    clear hx I0 r1 r2 r3
    obtain ⟨x0, x1, x2, x3, x4, x5, x6, x7, x8, x9⟩ := HW.out.2.cellsC
    have t0 : (0 : Int) ≤ (k : Int) := by omega
    have t1 : (k : Int) < (p.rules.length : Int) := by omega
    have hz := HW.out.2.lt
    by_cases q1 : Rp.StratP s
    rotate_left
    · have HF : Hid (¬ Rp.RulesP p) := HNO.out fun H => q1 H.1
      have Q1 := hideT q1
      clear q1
      go_wp2_with fail
      refine (isStratumD _ s).mono ?_
      rintro e w1 k1
      obtain ⟨rfl, b1⟩ := k1.no Q1.out
      have B1 := hideT (BW.out.trans (b1.mono BW.out.size))
      clear k1 b1 x0 x1 x2 x3 x4 x5 x6 x7 x8 x9
      go_wp2_with fail
      go_ret
      exact bpost_no HF.out B1.out
    have Q1 := hideT q1
    clear q1
    by_cases q2 : s < z
    · have HF : Hid (¬ Rp.RulesP p) := HNO.out fun H => by
        have z1 := HZ.out
        rcases Nat.eq_zero_or_pos k with e0 | e0
        · have := z1.1 e0
          have := Q1.out.1
          omega
        · obtain ⟨j, hj⟩ : ∃ j, k = j + 1 := ⟨k - 1, by omega⟩
          obtain ⟨y, hy⟩ := Mp.at_lt (l := p.rules) (k := j) (by omega)
          have e1 := z1.2 j y hj hy
          have e2 := H.2.2 j y hj hy
          have e3 : y.1 ≤ s := e2
          omega
      go_wp2_with fail
      refine (isStratumD _ s).mono ?_
      rintro e w1 k1
      obtain ⟨rfl, b1⟩ := k1.yes Q1.out
      have B1 := hideT (BW.out.trans (b1.mono BW.out.size))
      have e0 : w1.cell? ⟨wr.heap.size, 0, none⟩ = some (.int .i64 s) := (LA.out.below b1).cell 0
      clear k1 b1 x0 x1 x2 x3 x4 x5 x6 x7 x8 x9
      go_wp2_with fail
      go_ret
      exact bpost_no HF.out B1.out
    have HLE : Hid (∀ (j : Nat) q, k = j + 1 → p.rules[j]? = some q → q.1 ≤ s) := fun j q hj hq => by
      have := HZ.out.2 j q hj hq
      omega
    go_wp2_with fail
    refine (isStratumD _ s).mono ?_
    rintro e w1 k1
    obtain ⟨rfl, b1⟩ := k1.yes Q1.out
    have B1 := hideT (BW.out.trans (b1.mono BW.out.size))
    have L1 := hideT (LP.out.below b1)
    have LR1 := hideT (LA.out.below b1)
    have e0 : w1.cell? ⟨wr.heap.size, 0, none⟩ = some (.int .i64 s) := LR1.out.cell 0
    have e1 : w1.cell? ⟨wr.heap.size, 1, none⟩ = some (.slice i1 l1.length n1) := LR1.out.cell 1
    have e2 : w1.cell? ⟨wr.heap.size, 2, none⟩ = some (.slice i2 l2.length n2) := LR1.out.cell 2
    have e3 : w1.cell? ⟨wr.heap.size, 3, none⟩ = some (.slice i3 l3.length n3) := LR1.out.cell 3
    have S1 := hideT (lrow_below R1.out b1)
    have S2 := hideT (crow_below R2.out b1)
    have S3 := hideT (lrow_below R3.out b1)
    clear k1 b1 x0 x1 x2 x3 x4 x5 x6 x7 x8 x9
    obtain ⟨x0, x1, x2, x3, x4, x5, x6, x7, x8, x9⟩ := L1.out.cellsC
    go_wp2_with fail
    refine (ruleMayBeD _ ⟨a2, c2, a3, c3, a5, c5, some ⟨b, o, none⟩, c6, a7, c7, a8, c8, a9, c9⟩ p (frow_below HFi.out B1.out) HBD.out s l1 l2 l3 i1 i2 i3 n1 n2 n3 S1.out S2.out S3.out).mono ?_
    clear x0 x1 x2 x3 x4 x5 x6 x7 x8 x9 e0 e1 e2 e3
    rintro e w2 k1
    by_cases q4 : Rp.RuleP p (s, l1, l2, l3)
    · obtain ⟨rfl, b1⟩ := k1.yes q4
      have B2 := hideT (B1.out.trans (b1.mono B1.out.size))
      have L2 := hideT (L1.out.below b1)
      have e0 : w2.cell? ⟨wr.heap.size, 0, none⟩ = some (.int .i64 s) := (LR1.out.below b1).cell 0
      have HR : Hid (∀ (j : Nat) r, j < k + 1 → p.rules[j]? = some r → RuleAtP p j r) := Rp.all_step HB.out HX.out ⟨Q1.out, q4, HLE.out⟩
      have HS : Hid ((k + 1 = 0 → s = 0) ∧ ∀ (j : Nat) r, k + 1 = j + 1 → p.rules[j]? = some r → s = r.1) := ⟨fun h => by omega, fun j r hj hr => by
        obtain rfl : j = k := by omega
        rw [HX.out] at hr
        cases hr
        rfl⟩
      clear k1 b1 q4
      go_wp2_with fail
      refine ⟨⟨k + 1, s, by omega, by go_num, rfl, HR, HS, B2.out, L2.out⟩, ?_⟩
      first | omega | (simp [intOf]; omega)
    · obtain ⟨rfl, b1⟩ := k1.no q4
      have B2 := hideT (B1.out.trans (b1.mono B1.out.size))
      have HF : Hid (¬ Rp.RulesP p) := HNO.out fun H => q4 H.2.1
      clear k1 b1 q4
      go_wp2_with fail
      go_ret
      exact bpost_no HF.out B2.out
end Go.Proofs.Ytkjekohncfhbiaa
