/-
  Several texts in one: each opens with its own word.
-/
import Derived.Test.YtkjekohncfhbiaaRFlags
import Derived.Test.YtkjekohncfhbiaaMEq
/-
  Whether a program's flags, files may be.
-/
set_option linter.unusedSimpArgs false
set_option linter.unusedVariables false
namespace Go.Proofs.Ytkjekohncfhbiaa
open Go.RowKit
set_option maxRecDepth 100000
theorem flagsMayBeD (w : World) (A : PA) (p : Rp.Prog) (h : ProgAt w A p) : Calls Try.prog 41 #[.agg #[.int .i64 p.flags, .int .i64 p.lasting, .slice A.a2 p.first.length A.c2, .slice A.a3 p.over.length A.c3, .int .i64 p.frm, .slice A.a5 p.files.length A.c5, .slice A.a6 p.rules.length A.c6, .slice A.a7 p.ctrs.length A.c7, .slice A.a8 p.users.length A.c8, .slice A.a9 p.notes.length A.c9]] w (BPost (Rp.FlagsP p) w) := by
  have B0 := hideT ((Below.refl w.heap.size w).alloc (Nat.le_refl _) (.cells #[.int .i64 p.flags, .int .i64 p.lasting, .slice A.a2 p.first.length A.c2, .slice A.a3 p.over.length A.c3, .int .i64 p.frm, .slice A.a5 p.files.length A.c5, .slice A.a6 p.rules.length A.c6, .slice A.a7 p.ctrs.length A.c7, .slice A.a8 p.users.length A.c8, .slice A.a9 p.notes.length A.c9] 29))
  have L0 := hideT (PBox.new w A p)
  have R2 := hideT h.first
  have R3 := hideT h.over
  clear h
  by_cases h1 : 0 ≤ p.lasting
  rotate_left
  · have HF : Hid (¬ Rp.FlagsP p) := fun H => h1 H.1
    go_enter Try.func41, Try.ntmps41
    go_wp2_with fail
    go_ret
    exact bpost_no HF.out B0.out
  by_cases h2 : p.lasting ≤ p.flags
  rotate_left
  · have HF : Hid (¬ Rp.FlagsP p) := fun H => h2 H.2.1
    go_enter Try.func41, Try.ntmps41
    go_wp2_with fail
    go_ret
    exact bpost_no HF.out B0.out
  by_cases h3 : p.flags ≤ 800
  rotate_left
  · have HF : Hid (¬ Rp.FlagsP p) := fun H => h3 H.2.2.1
    go_enter Try.func41, Try.ntmps41
    go_wp2_with fail
    go_ret
    exact bpost_no HF.out B0.out
  have H3 : Hid (0 ≤ p.lasting ∧ p.lasting ≤ p.flags ∧ p.flags ≤ 800) := ⟨h1, h2, h3⟩
  by_cases h4 : Rp.RisP p.lasting p.first
  rotate_left
  · have HF : Hid (¬ Rp.FlagsP p) := fun H => h4 H.2.2.2.1
    have H4 := hideT h4
    clear h4
    go_enter Try.func41, Try.ntmps41
    go_wp2_with fail
    refine (areLastingD _ A p _ _ _ p.first (zrow_below R2.out B0.out)).mono ?_
    rintro e w1 k1
    obtain ⟨rfl, b1⟩ := k1.no H4.out
    have B1 := hideT (B0.out.trans (b1.mono B0.out.size))
    clear k1 b1
    go_wp2_with fail
    go_ret
    exact bpost_no HF.out B1.out
  have H4 := hideT h4
  clear h4
  by_cases h5 : Rp.RisP p.lasting p.over
  · have H5 := hideT h5
    clear h5
    go_enter Try.func41, Try.ntmps41
    go_wp2_with fail
    refine (areLastingD _ A p _ _ _ p.first (zrow_below R2.out B0.out)).mono ?_
    rintro e w1 k1
    obtain ⟨rfl, b1⟩ := k1.yes H4.out
    have B1 := hideT (B0.out.trans (b1.mono B0.out.size))
    obtain ⟨x0, x1, x2, x3, x4, x5, x6, x7, x8, x9⟩ := (L0.out.below b1).cells
    clear k1 b1
    go_wp2_with fail
    refine (areLastingD _ A p _ _ _ p.over (zrow_below R3.out B1.out)).mono ?_
    rintro e w2 k1
    obtain ⟨rfl, b1⟩ := k1.yes H5.out
    have B2 := hideT (B1.out.trans (b1.mono B1.out.size))
    clear k1 b1 x0 x1 x2 x3 x4 x5 x6 x7 x8 x9
    go_wp2_with fail
    go_ret
    exact bpost_yes ⟨H3.out.1, H3.out.2.1, H3.out.2.2, H4.out, H5.out⟩ B2.out
  · have H5 := hideT h5
    clear h5
    go_enter Try.func41, Try.ntmps41
    go_wp2_with fail
    refine (areLastingD _ A p _ _ _ p.first (zrow_below R2.out B0.out)).mono ?_
    rintro e w1 k1
    obtain ⟨rfl, b1⟩ := k1.yes H4.out
    have B1 := hideT (B0.out.trans (b1.mono B0.out.size))
    obtain ⟨x0, x1, x2, x3, x4, x5, x6, x7, x8, x9⟩ := (L0.out.below b1).cells
    clear k1 b1
    go_wp2_with fail
    refine (areLastingD _ A p _ _ _ p.over (zrow_below R3.out B1.out)).mono ?_
    rintro e w2 k1
    obtain ⟨rfl, b1⟩ := k1.no H5.out
    have B2 := hideT (B1.out.trans (b1.mono B1.out.size))
    clear k1 b1 x0 x1 x2 x3 x4 x5 x6 x7 x8 x9
    go_wp2_with fail
    go_ret
    exact bpost_no (fun H => H5.out H.2.2.2.2) B2.out
theorem once_iff (l : List ByteArray) : Rp.OnceP l ↔ ∀ (k : Nat) s, l[k]? = some s → Mp.has (l.take k) s = false := by
  constructor
  · intro H k s hs
    rw [Mp.has_false]
    intro i hi
    rw [List.getElem?_take] at hi
    split at hi
    · exact H i k s (by assumption) hi hs
    · cases hi
  · intro H i j s hij hi hj
    have := (Mp.has_false _ _).1 (H j s hj) i
    rw [List.getElem?_take, if_pos hij] at this
    exact this hi
theorem filesMayBeD (w : World) (ao : Option Addr) (n cap : Nat) (l : List ByteArray) (h : FRow w (.slice ao n cap) l) :
    Calls Try.prog 43 #[.slice ao n cap] w (BPost (Rp.FilesP l) w) := by
  obtain ⟨hn, hl, hcap, b, o, ha, hc⟩ := frow_at h
  have HN := hideT hn
  have HC := hideT hc
  have HA := hideT ha
  have H := hideT h
  clear hn hc ha h
  by_cases h6 : n ≤ 6
  rotate_left
  · have HF : Hid (¬ Rp.FilesP l) := fun H => h6 (by have := H.1; have := HN.out; omega)
    go_enter Try.func43, Try.ntmps43
    go_wp2_with fail
    go_ret
    exact bpost_no HF.out (Below.refl _ _)
  go_enter Try.func43, Try.ntmps43
  go_wp2_with fail
  go_loop [10] (fun i => ∃ k : Nat, k ≤ n ∧ i = .int .i64 k ∧ Hid (∀ (j : Nat) s, j < k → l[j]? = some s → Mp.has (l.take j) s = false)) (fun i => n - (intOf i).toNat)
  case atStart => exact ⟨0, by omega, rfl, fun j s hj => absurd hj (by omega)⟩
  case round =>
    obtain ⟨k, hk, rfl, HB⟩ := hrel
    by_cases hlt : k < n
    rotate_left
    · have HF : Hid (Rp.FilesP l) := ⟨by have := HN.out; omega, (once_iff l).2 (Rp.all_done HB.out (by have := HN.out; omega))⟩
      go_wp2_with fail
      go_ret
      exact bpost_yes HF.out (Below.refl _ _)
    obtain ⟨t, ht⟩ := Mp.at_lt (l := l) (k := k) (by have := HN.out; omega)
    obtain ⟨hz, c0⟩ := HC.out k t ht
    obtain rfl := HA.out (by omega)
    have HT := hideT ht
    have HR := hideT (rowR_take H.out k cap (by omega) (by omega))
    clear ht
    obtain ⟨b2, H2⟩ : ∃ x, Hid (Mp.has (l.take k) t = x) := ⟨_, rfl⟩
    cases b2
    · have HF : Hid (∀ (j : Nat) s, j < k + 1 → l[j]? = some s → Mp.has (l.take j) s = false) := Rp.all_step HB.out HT.out H2.out
      go_wp2_with fail
      refine (containsSV _ _ k cap _ t HR.out false H2).mono ?_
      rintro e w1 ⟨rfl, rfl⟩
      go_wp2_with fail
      go_round
      case rel => exact ⟨k + 1, by omega, by go_num, HF⟩
      case measure => simp [intOf]; omega
    · have HF : Hid (¬ Rp.FilesP l) := fun H => by
        have := (once_iff l).1 H.2 k t HT.out
        rw [H2.out] at this
        cases this
      go_wp2_with fail
      refine (containsSV _ _ k cap _ t HR.out true H2).mono ?_
      rintro e w1 ⟨rfl, rfl⟩
      go_wp2_with fail
      go_ret
      exact bpost_no HF.out (Below.refl _ _)
end Go.Proofs.Ytkjekohncfhbiaa
/-
  Whether a program's counters may be.
-/
set_option linter.unusedSimpArgs false
set_option linter.unusedVariables false
namespace Go.Proofs.Ytkjekohncfhbiaa
open Go.RowKit
set_option maxRecDepth 100000
set_option maxHeartbeats 2000000 in
theorem countersMayBeD (w : World) (A : PA) (p : Rp.Prog) (h : ProgAt w A p) : Calls Try.prog 45 #[.agg #[.int .i64 p.flags, .int .i64 p.lasting, .slice A.a2 p.first.length A.c2, .slice A.a3 p.over.length A.c3, .int .i64 p.frm, .slice A.a5 p.files.length A.c5, .slice A.a6 p.rules.length A.c6, .slice A.a7 p.ctrs.length A.c7, .slice A.a8 p.users.length A.c8, .slice A.a9 p.notes.length A.c9]] w (BPost (Rp.CtrsP p) w) := by
  obtain ⟨a2, c2, a3, c3, a5, c5, a6, c6, a7, c7, a8, c8, a9, c9⟩ := A
  show Calls _ _ #[.agg #[.int .i64 p.flags, .int .i64 p.lasting, .slice a2 p.first.length c2, .slice a3 p.over.length c3, .int .i64 p.frm, .slice a5 p.files.length c5, .slice a6 p.rules.length c6, .slice a7 p.ctrs.length c7, .slice a8 p.users.length c8, .slice a9 p.notes.length c9]] w _
  have B0 := hideT ((Below.refl w.heap.size w).alloc (Nat.le_refl _) (.cells #[.int .i64 p.flags, .int .i64 p.lasting, .slice a2 p.first.length c2, .slice a3 p.over.length c3, .int .i64 p.frm, .slice a5 p.files.length c5, .slice a6 p.rules.length c6, .slice a7 p.ctrs.length c7, .slice a8 p.users.length c8, .slice a9 p.notes.length c9] 29))
  have L0 := hideT (PBox.newC w a2 a3 a5 a6 a7 a8 a9 c2 c3 c5 c6 c7 c8 c9 p)
  obtain ⟨_, hl, _, b, o, ha, hc⟩ := trow_at (show TRow w (.slice a7 p.ctrs.length c7) p.ctrs from h.ctrs)
  have HC := hideT hc
  have HA := hideT ha
  clear hc ha h
  go_enter Try.func45, Try.ntmps45
  go_wp2_with fail
  go_loopw [8] (fun i wr => ∃ k : Nat, k ≤ p.ctrs.length ∧ i = .int .i64 k ∧ Hid (∀ (j : Nat) c, j < k → p.ctrs[j]? = some c → Rp.CtrP p c) ∧ Hid (Below w.heap.size w wr ∧ PBox wr w.heap.size ⟨a2, c2, a3, c3, a5, c5, a6, c6, a7, c7, a8, c8, a9, c9⟩ p)) (fun i _ => p.ctrs.length - (intOf i).toNat)
  case atStart => exact ⟨0, by omega, rfl, (fun j y hj => absurd hj (by omega)), B0.out, L0.out⟩
  case round =>
    obtain ⟨k, hk, rfl, HB, HW⟩ := hrel
    by_cases hlt : k < p.ctrs.length
    rotate_left
    · have HF : Hid (Rp.CtrsP p) := Rp.all_of (Rp.all_done HB.out (by omega))
      go_wp2_with fail
      go_ret
      exact bpost_yes HF.out HW.out.1
    obtain ⟨⟨g0, g1, g2⟩, hx⟩ := Mp.at_lt (l := p.ctrs) (k := k) hlt
    obtain ⟨d0, d1, d2⟩ := HC.out k _ hx
    dsimp only at d0 d1 d2
    have d0 := below_cell HW.out.1 _ _ d0
    have d1 := below_cell HW.out.1 _ _ d1
    have d2 := below_cell HW.out.1 _ _ d2
    obtain rfl := HA.out (by omega)
    have HX := hideT hx
    have HNO : Hid (¬ Rp.CtrP p (g0, g1, g2) → ¬ Rp.CtrsP p) := fun h H => h (H _ (List.mem_of_getElem? HX.out))
    clear hx
    have BA := hideT ((Below.refl wr.heap.size wr).alloc (Nat.le_refl _) (.cells #[.int .i64 g0, .int .i64 g1, .int .i64 g2] 52))
    have LA := hideT (Lies.new wr 52 #[.int .i64 g0, .int .i64 g1, .int .i64 g2])
    have LP := hideT (HW.out.2.below BA.out)
    have BW := hideT (HW.out.1.trans (BA.out.mono HW.out.1.size))
    obtain ⟨x0, x1, x2, x3, x4, x5, x6, x7, x8, x9⟩ := HW.out.2.cellsC
    have t0 : (0 : Int) ≤ (k : Int) := by omega
    have t1 : (k : Int) < (p.ctrs.length : Int) := by omega
    have hz := HW.out.2.lt
    by_cases q1 : Rp.InP g0 p.lasting
    rotate_left
    · have HF : Hid (¬ Rp.CtrsP p) := HNO.out fun H => q1 H.1
      have Q1 := hideT q1
      clear q1
      go_wp2_with fail
      refine (lastsD _ ⟨a2, c2, a3, c3, a5, c5, a6, c6, some ⟨b, o, none⟩, c7, a8, c8, a9, c9⟩ p g0).mono ?_
      rintro e w1 k1
      obtain ⟨rfl, b1⟩ := k1.no Q1.out
      have B1 := hideT (BW.out.trans (b1.mono BW.out.size))
      clear k1 b1
      go_wp2_with fail
      go_ret
      exact bpost_no HF.out B1.out
    have Q1 := hideT q1
    clear q1
    by_cases q2 : 1 ≤ g1
    rotate_left
    · have HF : Hid (¬ Rp.CtrsP p) := HNO.out fun H => q2 H.2.1
      go_wp2_with fail
      refine (lastsD _ ⟨a2, c2, a3, c3, a5, c5, a6, c6, some ⟨b, o, none⟩, c7, a8, c8, a9, c9⟩ p g0).mono ?_
      rintro e w1 k1
      obtain ⟨rfl, b1⟩ := k1.yes Q1.out
      have B1 := hideT (BW.out.trans (b1.mono BW.out.size))
      have e1 : w1.cell? ⟨wr.heap.size, 1, none⟩ = some (.int .i64 g1) := (LA.out.below b1).cell 1
      clear k1 b1
      go_wp2_with fail
      go_ret
      exact bpost_no HF.out B1.out
    by_cases q3 : g1 ≤ 100
    rotate_left
    · have HF : Hid (¬ Rp.CtrsP p) := HNO.out fun H => q3 H.2.2.1
      go_wp2_with fail
      refine (lastsD _ ⟨a2, c2, a3, c3, a5, c5, a6, c6, some ⟨b, o, none⟩, c7, a8, c8, a9, c9⟩ p g0).mono ?_
      rintro e w1 k1
      obtain ⟨rfl, b1⟩ := k1.yes Q1.out
      have B1 := hideT (BW.out.trans (b1.mono BW.out.size))
      have e1 : w1.cell? ⟨wr.heap.size, 1, none⟩ = some (.int .i64 g1) := (LA.out.below b1).cell 1
      clear k1 b1
      go_wp2_with fail
      go_ret
      exact bpost_no HF.out B1.out
    have Q2 : Hid (1 ≤ g1 ∧ g1 ≤ 100) := ⟨q2, q3⟩
    go_wp2_with fail
    refine (lastsD _ ⟨a2, c2, a3, c3, a5, c5, a6, c6, some ⟨b, o, none⟩, c7, a8, c8, a9, c9⟩ p g0).mono ?_
    rintro e w1 k1
    obtain ⟨rfl, b1⟩ := k1.yes Q1.out
    have B1 := hideT (BW.out.trans (b1.mono BW.out.size))
    have L1 := hideT (LP.out.below b1)
    have e1 : w1.cell? ⟨wr.heap.size, 1, none⟩ = some (.int .i64 g1) := (LA.out.below b1).cell 1
    have e2 : w1.cell? ⟨wr.heap.size, 2, none⟩ = some (.int .i64 g2) := (LA.out.below b1).cell 2
    clear k1 b1 x0 x1 x2 x3 x4 x5 x6 x7 x8 x9
    obtain ⟨x0, x1, x2, x3, x4, x5, x6, x7, x8, x9⟩ := L1.out.cellsC
    go_wp2_with fail
    clear x0 x1 x2 x3 x4 x5 x6 x7 x8 x9
    refine (passesD _ ⟨a2, c2, a3, c3, a5, c5, a6, c6, some ⟨b, o, none⟩, c7, a8, c8, a9, c9⟩ p g2).mono ?_
    rintro e w2 k1
    by_cases q4 : Rp.PassP p g2
    · obtain ⟨rfl, b1⟩ := k1.yes q4
      have B2 := hideT (B1.out.trans (b1.mono B1.out.size))
      have L2 := hideT (L1.out.below b1)
      have HR : Hid (∀ (j : Nat) c, j < k + 1 → p.ctrs[j]? = some c → Rp.CtrP p c) := Rp.all_step HB.out HX.out ⟨Q1.out, Q2.out.1, Q2.out.2, q4⟩
      clear k1 b1 q4
      go_wp2_with fail
      refine ⟨⟨k + 1, by omega, by go_num, HR, B2.out, L2.out⟩, ?_⟩
      first | omega | (simp [intOf]; omega)
    · obtain ⟨rfl, b1⟩ := k1.no q4
      have B2 := hideT (B1.out.trans (b1.mono B1.out.size))
      have HF : Hid (¬ Rp.CtrsP p) := HNO.out fun H => q4 H.2.2.2
      clear k1 b1 q4
      go_wp2_with fail
      go_ret
      exact bpost_no HF.out B2.out
end Go.Proofs.Ytkjekohncfhbiaa
/-
  Whether a program's users may be.
-/
set_option linter.unusedSimpArgs false
set_option linter.unusedVariables false
namespace Go.Proofs.Ytkjekohncfhbiaa
open Go.RowKit
set_option maxRecDepth 100000
set_option maxHeartbeats 2000000 in
theorem usersMayBeD (w : World) (A : PA) (p : Rp.Prog) (h : ProgAt w A p) : Calls Try.prog 46 #[.agg #[.int .i64 p.flags, .int .i64 p.lasting, .slice A.a2 p.first.length A.c2, .slice A.a3 p.over.length A.c3, .int .i64 p.frm, .slice A.a5 p.files.length A.c5, .slice A.a6 p.rules.length A.c6, .slice A.a7 p.ctrs.length A.c7, .slice A.a8 p.users.length A.c8, .slice A.a9 p.notes.length A.c9]] w (BPost (Rp.UsersP p) w) := by
  obtain ⟨a2, c2, a3, c3, a5, c5, a6, c6, a7, c7, a8, c8, a9, c9⟩ := A
  show Calls _ _ #[.agg #[.int .i64 p.flags, .int .i64 p.lasting, .slice a2 p.first.length c2, .slice a3 p.over.length c3, .int .i64 p.frm, .slice a5 p.files.length c5, .slice a6 p.rules.length c6, .slice a7 p.ctrs.length c7, .slice a8 p.users.length c8, .slice a9 p.notes.length c9]] w _
  have B0 := hideT ((Below.refl w.heap.size w).alloc (Nat.le_refl _) (.cells #[.int .i64 p.flags, .int .i64 p.lasting, .slice a2 p.first.length c2, .slice a3 p.over.length c3, .int .i64 p.frm, .slice a5 p.files.length c5, .slice a6 p.rules.length c6, .slice a7 p.ctrs.length c7, .slice a8 p.users.length c8, .slice a9 p.notes.length c9] 29))
  have L0 := hideT (PBox.newC w a2 a3 a5 a6 a7 a8 a9 c2 c3 c5 c6 c7 c8 c9 p)
  obtain ⟨_, hl, _, b, o, ha, hc⟩ := urow_at (show URow w (.slice a8 p.users.length c8) p.users from h.users)
  have HC := hideT hc
  have HA := hideT ha
  clear hc ha h
  go_enter Try.func46, Try.ntmps46
  go_wp2_with fail
  go_loopw [10] (fun i wr => ∃ k : Nat, k ≤ p.users.length ∧ i = .int .i64 k ∧ Hid (∀ (j : Nat) c, j < k → p.users[j]? = some c → Rp.UserP p c) ∧ Hid (Below w.heap.size w wr ∧ PBox wr w.heap.size ⟨a2, c2, a3, c3, a5, c5, a6, c6, a7, c7, a8, c8, a9, c9⟩ p)) (fun i _ => p.users.length - (intOf i).toNat)
  case atStart => exact ⟨0, by omega, rfl, (fun j y hj => absurd hj (by omega)), B0.out, L0.out⟩
  case round =>
    obtain ⟨k, hk, rfl, HB, HW⟩ := hrel
    by_cases hlt : k < p.users.length
    rotate_left
    · have HF : Hid (Rp.UsersP p) := Rp.all_of (Rp.all_done HB.out (by omega))
      go_wp2_with fail
      go_ret
      exact bpost_yes HF.out HW.out.1
    obtain ⟨⟨s0, s1, s2, s3⟩, hx⟩ := Mp.at_lt (l := p.users) (k := k) hlt
    obtain ⟨a1, n1, I0⟩ := HC.out k _ hx
    have I1 := I0.turn (below_cell HW.out.1)
    obtain ⟨_, r1, d0, d1, d2, d3⟩ := I1
    dsimp only at r1 d0 d1 d2 d3
    obtain rfl := HA.out (by omega)
    have HX := hideT hx
    have HNO : Hid (¬ Rp.UserP p (s0, s1, s2, s3) → ¬ Rp.UsersP p) := fun h H => h (H _ (List.mem_of_getElem? HX.out))
    obtain ⟨_, hl2, _, b2, o2, ha2, hc2⟩ := lrow_at r1
    have HC2 := hideT hc2
    have HA2 := hideT ha2
    clear hx hc2 ha2 I0 r1
    have BA := hideT ((Below.refl wr.heap.size wr).alloc (Nat.le_refl _) (.cells #[.string s0, .int .i64 s1, .slice a1 s2.length n1, .int .i64 s3] 65))
    have LA := hideT (Lies.new wr 65 #[.string s0, .int .i64 s1, .slice a1 s2.length n1, .int .i64 s3])
    have LP := hideT (HW.out.2.below BA.out)
    have BW := hideT (HW.out.1.trans (BA.out.mono HW.out.1.size))
    have t0 : (0 : Int) ≤ (k : Int) := by omega
    have t1 : (k : Int) < (p.users.length : Int) := by omega
    have hz := HW.out.2.lt
    obtain ⟨W0, hW0⟩ : ∃ W0, W0 = wr := ⟨wr, rfl⟩
    subst hW0
    go_wp2_with fail
    clear d0 d1 d2 d3
    go_loopw [17] (fun i wr => ∃ j : Nat, j ≤ s2.length ∧ i = .int .i64 j ∧ Hid (∀ (i : Nat) x, i < j → s2[i]? = some x → Rp.InP x.1 p.lasting) ∧ Hid (Below W0.heap.size W0 wr ∧ Lies wr W0.heap.size 65 #[.string s0, .int .i64 s1, .slice a1 s2.length n1, .int .i64 s3])) (fun i _ => s2.length - (intOf i).toNat)
    case atStart => exact ⟨0, by omega, rfl, (fun j y hj => absurd hj (by omega)), BA.out, LA.out⟩
    case round =>
      obtain ⟨j, hj, rfl, HD, HV⟩ := hrel
      have BV := hideT (HW.out.1.trans (HV.out.1.mono HW.out.1.size))
      have LV := hideT (HW.out.2.below HV.out.1)
      obtain ⟨x0, x1, x2, x3, x4, x5, x6, x7, x8, x9⟩ := LV.out.cellsC
      by_cases hjl : j < s2.length
      · obtain ⟨⟨g0, g1⟩, hy⟩ := Mp.at_lt (l := s2) (k := j) hjl
        obtain ⟨d0, d1⟩ := HC2.out j _ hy
        dsimp only at d0 d1
        have d0 := below_cell HV.out.1 _ _ d0
        have d1 := below_cell HV.out.1 _ _ d1
        obtain rfl := HA2.out (by omega)
        have HY := hideT hy
        clear hy
        have BB := hideT ((Below.refl wr.heap.size wr).alloc (Nat.le_refl _) (.cells #[.int .i64 g0, .bool g1] 54))
        have t3 : (0 : Int) ≤ (j : Int) := by omega
        have t4 : (j : Int) < (s2.length : Int) := by omega
        have hz2 := LV.out.lt
        by_cases q : Rp.InP g0 p.lasting
        · have HR : Hid (∀ (i : Nat) x, i < j + 1 → s2[i]? = some x → Rp.InP x.1 p.lasting) := Rp.all_step HD.out HY.out q
          have Q := hideT q
          clear q
          go_wp2_with fail
          refine (lastsD _ ⟨a2, c2, a3, c3, a5, c5, a6, c6, a7, c7, some ⟨b, o, none⟩, c8, a9, c9⟩ p g0).mono ?_
          rintro e w1 k1
          obtain ⟨rfl, b1⟩ := k1.yes Q.out
          have B1 := hideT (BB.out.trans (b1.mono BB.out.size))
          clear k1 b1 x0 x1 x2 x3 x4 x5 x6 x7 x8 x9
          go_wp2_with fail
          refine ⟨⟨j + 1, by omega, by go_num, HR, HV.out.1.trans (B1.out.mono HV.out.1.size), HV.out.2.below B1.out⟩, ?_⟩
          first | omega | (simp [intOf]; omega)
        · have HF : Hid (¬ Rp.UsersP p) := HNO.out fun H => q (H.1 _ (List.mem_of_getElem? HY.out))
          have Q := hideT q
          clear q
          go_wp2_with fail
          refine (lastsD _ ⟨a2, c2, a3, c3, a5, c5, a6, c6, a7, c7, some ⟨b, o, none⟩, c8, a9, c9⟩ p g0).mono ?_
          rintro e w1 k1
          obtain ⟨rfl, b1⟩ := k1.no Q.out
          have B1 := hideT (BV.out.trans ((BB.out.trans (b1.mono BB.out.size)).mono BV.out.size))
          clear k1 b1 x0 x1 x2 x3 x4 x5 x6 x7 x8 x9
          go_wp2_with fail
          go_ret
          exact bpost_no HF.out B1.out
      have HL : Hid (Rp.LitsP s2 p.lasting) := Rp.all_of (Rp.all_done HD.out (by omega))
      have e3 : wr.cell? ⟨W0.heap.size, 3, none⟩ = some (.int .i64 s3) := HV.out.2.cell 3
      go_wp2_with fail
      refine (passesD _ ⟨a2, c2, a3, c3, a5, c5, a6, c6, a7, c7, some ⟨b, o, none⟩, c8, a9, c9⟩ p s3).mono ?_
      clear x0 x1 x2 x3 x4 x5 x6 x7 x8 x9 e3
      rintro e w2 k1
      by_cases q4 : Rp.PassP p s3
      · obtain ⟨rfl, b1⟩ := k1.yes q4
        have B2 := hideT (BV.out.trans (b1.mono BV.out.size))
        have L2 := hideT (LV.out.below b1)
        have HR : Hid (∀ (j : Nat) c, j < k + 1 → p.users[j]? = some c → Rp.UserP p c) := Rp.all_step HB.out HX.out ⟨HL.out, q4⟩
        clear k1 b1 q4
        go_wp2_with fail
        refine ⟨⟨k + 1, by omega, by go_num, HR, B2.out, L2.out⟩, ?_⟩
        first | omega | (simp [intOf]; omega)
      · obtain ⟨rfl, b1⟩ := k1.no q4
        have B2 := hideT (BV.out.trans (b1.mono BV.out.size))
        have HF : Hid (¬ Rp.UsersP p) := HNO.out fun H => q4 H.2
        clear k1 b1 q4
        go_wp2_with fail
        go_ret
        exact bpost_no HF.out B2.out
end Go.Proofs.Ytkjekohncfhbiaa
