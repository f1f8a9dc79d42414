/-
  Whether a program's flags, files may be.
-/
import Derived.Test.YtkjekohncfhbiabRFlags
import Derived.Test.YtkjekohncfhbiabMEq
set_option linter.unusedSimpArgs false
set_option linter.unusedVariables false
namespace Go.Proofs.Ytkjekohncfhbiab
open Go.RowKit
set_option maxRecDepth 100000
theorem flagsMayBeD (w : World) (A : PA) (p : Rp.Prog) (h : ProgAt w A p) : Calls Try.prog 38 #[.agg #[.int .i64 p.flags, .int .i64 p.lasting, .slice A.a2 p.first.length A.c2, .slice A.a3 p.over.length A.c3, .int .i64 p.frm, .slice A.a5 p.files.length A.c5, .slice A.a6 p.rules.length A.c6, .slice A.a7 p.ctrs.length A.c7, .slice A.a8 p.users.length A.c8, .slice A.a9 p.notes.length A.c9]] w (BPost (Rp.FlagsP p) w) := by
  have B0 := hideT ((Below.refl w.heap.size w).alloc (Nat.le_refl _) (.cells #[.int .i64 p.flags, .int .i64 p.lasting, .slice A.a2 p.first.length A.c2, .slice A.a3 p.over.length A.c3, .int .i64 p.frm, .slice A.a5 p.files.length A.c5, .slice A.a6 p.rules.length A.c6, .slice A.a7 p.ctrs.length A.c7, .slice A.a8 p.users.length A.c8, .slice A.a9 p.notes.length A.c9] 53))
  have L0 := hideT (PBox.new w A p)
  have R2 := hideT h.first
  have R3 := hideT h.over
  clear h
  by_cases h1 : 0 ≤ p.lasting
  rotate_left
  · have HF : Hid (¬ Rp.FlagsP p) := fun H => h1 H.1
    go_enter Try.func38, Try.ntmps38
    go_wp2_with fail
    go_ret
    exact bpost_no HF.out B0.out
  by_cases h2 : p.lasting ≤ p.flags
  rotate_left
  · have HF : Hid (¬ Rp.FlagsP p) := fun H => h2 H.2.1
    go_enter Try.func38, Try.ntmps38
    go_wp2_with fail
    go_ret
    exact bpost_no HF.out B0.out
  by_cases h3 : p.flags ≤ 800
  rotate_left
  · have HF : Hid (¬ Rp.FlagsP p) := fun H => h3 H.2.2.1
    go_enter Try.func38, Try.ntmps38
    go_wp2_with fail
    go_ret
    exact bpost_no HF.out B0.out
  have H3 : Hid (0 ≤ p.lasting ∧ p.lasting ≤ p.flags ∧ p.flags ≤ 800) := ⟨h1, h2, h3⟩
  by_cases h4 : Rp.RisP p.lasting p.first
  rotate_left
  · have HF : Hid (¬ Rp.FlagsP p) := fun H => h4 H.2.2.2.1
    have H4 := hideT h4
    clear h4
    go_enter Try.func38, Try.ntmps38
    go_wp2_with fail
    refine (areLastingD _ A p _ _ _ p.first (zrow_below R2.out B0.out)).mono ?_
    rintro e w1 k1
    obtain ⟨rfl, b1⟩ := k1.no H4.out
    have B1 := hideT (B0.out.trans (b1.mono B0.out.size))
    clear k1 b1
    go_wp2_with fail
    go_ret
    exact bpost_no HF.out B1.out
  have H4 := hideT h4
  clear h4
  by_cases h5 : Rp.RisP p.lasting p.over
  · have H5 := hideT h5
    clear h5
    go_enter Try.func38, Try.ntmps38
    go_wp2_with fail
    refine (areLastingD _ A p _ _ _ p.first (zrow_below R2.out B0.out)).mono ?_
    rintro e w1 k1
    obtain ⟨rfl, b1⟩ := k1.yes H4.out
    have B1 := hideT (B0.out.trans (b1.mono B0.out.size))
    obtain ⟨x0, x1, x2, x3, x4, x5, x6, x7, x8, x9⟩ := (L0.out.below b1).cells
    clear k1 b1
    go_wp2_with fail
    refine (areLastingD _ A p _ _ _ p.over (zrow_below R3.out B1.out)).mono ?_
    rintro e w2 k1
    obtain ⟨rfl, b1⟩ := k1.yes H5.out
    have B2 := hideT (B1.out.trans (b1.mono B1.out.size))
    clear k1 b1 x0 x1 x2 x3 x4 x5 x6 x7 x8 x9
    go_wp2_with fail
    go_ret
    exact bpost_yes ⟨H3.out.1, H3.out.2.1, H3.out.2.2, H4.out, H5.out⟩ B2.out
  · have H5 := hideT h5
    clear h5
    go_enter Try.func38, Try.ntmps38
    go_wp2_with fail
    refine (areLastingD _ A p _ _ _ p.first (zrow_below R2.out B0.out)).mono ?_
    rintro e w1 k1
    obtain ⟨rfl, b1⟩ := k1.yes H4.out
    have B1 := hideT (B0.out.trans (b1.mono B0.out.size))
    obtain ⟨x0, x1, x2, x3, x4, x5, x6, x7, x8, x9⟩ := (L0.out.below b1).cells
    clear k1 b1
    go_wp2_with fail
    refine (areLastingD _ A p _ _ _ p.over (zrow_below R3.out B1.out)).mono ?_
    rintro e w2 k1
    obtain ⟨rfl, b1⟩ := k1.no H5.out
    have B2 := hideT (B1.out.trans (b1.mono B1.out.size))
    clear k1 b1 x0 x1 x2 x3 x4 x5 x6 x7 x8 x9
    go_wp2_with fail
    go_ret
    exact bpost_no (fun H => H5.out H.2.2.2.2) B2.out
theorem once_iff (l : List ByteArray) : Rp.OnceP l ↔ ∀ (k : Nat) s, l[k]? = some s → Mp.has (l.take k) s = false := by
  constructor
  · intro H k s hs
    rw [Mp.has_false]
    intro i hi
    rw [List.getElem?_take] at hi
    split at hi
    · exact H i k s (by assumption) hi hs
    · cases hi
  · intro H i j s hij hi hj
    have := (Mp.has_false _ _).1 (H j s hj) i
    rw [List.getElem?_take, if_pos hij] at this
    exact this hi
theorem filesMayBeD (w : World) (ao : Option Addr) (n cap : Nat) (l : List ByteArray) (h : FRow w (.slice ao n cap) l) :
    Calls Try.prog 40 #[.slice ao n cap] w (BPost (Rp.FilesP l) w) := by
  obtain ⟨hn, hl, hcap, b, o, ha, hc⟩ := frow_at h
  have HN := hideT hn
  have HC := hideT hc
  have HA := hideT ha
  have H := hideT h
  clear hn hc ha h
  by_cases h6 : n ≤ 6
  rotate_left
  · have HF : Hid (¬ Rp.FilesP l) := fun H => h6 (by have := H.1; have := HN.out; omega)
    go_enter Try.func40, Try.ntmps40
    go_wp2_with fail
    go_ret
    exact bpost_no HF.out (Below.refl _ _)
  go_enter Try.func40, Try.ntmps40
  go_wp2_with fail
  go_loop [10] (fun i => ∃ k : Nat, k ≤ n ∧ i = .int .i64 k ∧ Hid (∀ (j : Nat) s, j < k → l[j]? = some s → Mp.has (l.take j) s = false)) (fun i => n - (intOf i).toNat)
  case atStart => exact ⟨0, by omega, rfl, fun j s hj => absurd hj (by omega)⟩
  case round =>
    obtain ⟨k, hk, rfl, HB⟩ := hrel
    by_cases hlt : k < n
    rotate_left
    · have HF : Hid (Rp.FilesP l) := ⟨by have := HN.out; omega, (once_iff l).2 (Rp.all_done HB.out (by have := HN.out; omega))⟩
      go_wp2_with fail
      go_ret
      exact bpost_yes HF.out (Below.refl _ _)
    obtain ⟨t, ht⟩ := Mp.at_lt (l := l) (k := k) (by have := HN.out; omega)
    obtain ⟨hz, c0⟩ := HC.out k t ht
    obtain rfl := HA.out (by omega)
    have HT := hideT ht
    have HR := hideT (rowR_take H.out k cap (by omega) (by omega))
    clear ht
    obtain ⟨b2, H2⟩ : ∃ x, Hid (Mp.has (l.take k) t = x) := ⟨_, rfl⟩
    cases b2
    · have HF : Hid (∀ (j : Nat) s, j < k + 1 → l[j]? = some s → Mp.has (l.take j) s = false) := Rp.all_step HB.out HT.out H2.out
      go_wp2_with fail
      refine (containsSV _ _ k cap _ t HR.out false H2).mono ?_
      rintro e w1 ⟨rfl, rfl⟩
      go_wp2_with fail
      go_round
      case rel => exact ⟨k + 1, by omega, by go_num, HF⟩
      case measure => simp [intOf]; omega
    · have HF : Hid (¬ Rp.FilesP l) := fun H => by
        have := (once_iff l).1 H.2 k t HT.out
        rw [H2.out] at this
        cases this
      go_wp2_with fail
      refine (containsSV _ _ k cap _ t HR.out true H2).mono ?_
      rintro e w1 ⟨rfl, rfl⟩
      go_wp2_with fail
      go_ret
      exact bpost_no HF.out (Below.refl _ _)
end Go.Proofs.Ytkjekohncfhbiab
