/-
  The program's Copy.
-/
import Derived.Test.YtlgcaklhceekiaaMCopy7
import Derived.Test.YtlgcaklhceekiaaMCopy4
set_option linter.unusedSimpArgs false
set_option linter.unusedVariables false
namespace Go.Proofs.Ytlgcaklhceekiaa
open Go.RowKit
set_option maxRecDepth 100000
theorem infoItm : (Try.prog.info? 29).map (fun i => (i.zero, i.size, i.bytes)) = some (some (.agg #[.string ⟨#[]⟩, .int .i64 0, .string ⟨#[]⟩, .bool false, .int .i64 0, .slice none 0 0, .slice none 0 0]), 7, 104) := by kernel_rfl
set_option maxHeartbeats 4000000 in
theorem copyEachI (w : World) (a1 : Option Addr) (n c1 : Nat) (l : List Mp.Item) (h1 : IRow w (.slice a1 n c1) l) (hn : n ≤ 1000) (hL : ∀ x ∈ l, lightI x) :
    Calls Try.prog 23 #[.slice a1 n c1, .func (.func 24) #[] #[]] w (CPost 7 itemR l w) := by
  obtain ⟨hn1, hl1, _, b1, o1, ha1, hc1⟩ := irow_at h1
  have HN1 := hideT hn1
  have HC1 := hideT hc1
  have HA1 := hideT ha1
  have HLt := hideT hL
  clear hc1 ha1 h1 hL
  by_cases h0 : n = 0
  · subst h0
    have HL : Hid (l = []) := List.eq_nil_of_length_eq_zero hn1.symm
    clear hn1
    go_enter Try.func23, Try.ntmps23
    go_wp2_with fail
    go_ret
    rw [HL.out]
    exact ⟨none, 0, rfl, fun w' _ => rowR_nil w', Below.refl _ _⟩
  obtain ⟨i0, hi0, hz0, hz1, hz2⟩ := info_parts infoItm
  have t0 : ((n : Int) == 0) = false := beq_eq_false_iff_ne.2 (by omega)
  obtain ⟨W, hrun, r1, r2⟩ := run_make_full (P := Try.prog) w w.heap.size 23 29 i0 _ 7 Try.underlying23 hi0 hz0 hz1 .i64 .i64 n (by rw [hz2]; omega) (by unfold maxLen; omega) (Nat.le_refl _)
  have BT0 : Hid (Built w.heap.size w.heap.size 7 29 itemR l n 0 W) := ⟨_, r1, fun j x hj => absurd hj (Nat.not_lt_zero _)⟩
  have BW0 : Hid (Below w.heap.size w W) := (Below.refl _ w).grown r2 (Nat.le_refl _) (fun k hk => by cases hk)
  clear hn1 r1 r2 hi0 hz0 hz1 hz2
  go_enter Try.func23, Try.ntmps23
  go_wp2_with fail
  clear hrun
  go_loopw [16] (fun i wr => ∃ k : Nat, k ≤ n ∧ i = .int .i64 k ∧ Hid (Built w.heap.size w.heap.size 7 29 itemR l n k wr) ∧ Hid (Below w.heap.size w wr)) (fun i _ => n - (intOf i).toNat)
  case atStart => exact ⟨0, by omega, rfl, BT0, BW0⟩
  case round =>
    obtain ⟨k, hk, rfl, HB, HW⟩ := hrel
    by_cases hlt : k < n
    rotate_left
    · have HE : Hid (k = n) := by show k = n; omega
      have HB1 : Hid (Built w.heap.size w.heap.size 7 29 itemR l n n wr) := by have := HB.out; rw [HE.out] at this; exact this
      go_wp2_with fail
      go_ret
      refine ⟨some ⟨w.heap.size, 0, none⟩, n, ?_, HB1.out.done HN1.out hl1 (Nat.le_refl _), HW.out⟩
      exact congrArg (fun q => Ending.returned (.slice (some ⟨w.heap.size, 0, none⟩) q n)) HN1.out
    obtain ⟨⟨x0, x1, x2, x3, x4, x5, x6⟩, hx⟩ := Mp.at_lt (l := l) (k := k) (by have := HN1.out; omega)
    obtain ⟨p5, c5, p6, c6, IX⟩ := HC1.out k _ hx
    have HLI := hideT (HLt.out _ (List.mem_of_getElem? hx))
    obtain ⟨z0, z2, r1, r2, d0, d1, d2, d3, d4, d5', d6'⟩ := IX
    dsimp only at z0 z2 r1 r2 d0 d1 d2 d3 d4 d5' d6'
    have d0 := below_cell HW.out _ _ d0
    have d1 := below_cell HW.out _ _ d1
    have d2 := below_cell HW.out _ _ d2
    have d3 := below_cell HW.out _ _ d3
    have d4 := below_cell HW.out _ _ d4
    have d5' := below_cell HW.out _ _ d5'
    have d6' := below_cell HW.out _ _ d6'
    obtain rfl := HA1.out (by omega)
    have HX := hideT hx
    have BA := hideT ((Below.refl wr.heap.size wr).alloc (Nat.le_refl _) (.cells #[.string x0, .int .i64 x1, .string x2, .bool x3, .int .i64 x4, .slice p5 x5.length c5, .slice p6 x6.length c6] 29))
    have BW := hideT (HW.out.trans (BA.out.mono HW.out.size))
    have R1 := hideT (srow_below r1 BW.out)
    have R2 := hideT (srow_below r2 BW.out)
    clear hx r1 r2
    have t1 : (0 : Int) ≤ (k : Int) := by omega
    have t2 : (k : Int) < (n : Int) := by omega
    go_wp2_with fail
    refine (copyItemD x0 x1 x2 x3 x4 x5 x6 p5 p6 c5 c6 _ z0 z2 R1.out R2.out HLI.out).mono ?_
    rintro e w1 ⟨q5, d5, q6, d6, rfl, nw, p⟩
    have B1 := hideT (BA.out.trans (p.mono BA.out.size))
    have HB1 := hideT (HB.out.below B1.out)
    have HW1 := hideT (HW.out.trans (B1.out.mono HW.out.size))
    have hge : w.heap.size + 1 ≤ (wr.alloc (.cells #[.string x0, .int .i64 x1, .string x2, .bool x3, .int .i64 x4, .slice p5 x5.length c5, .slice p6 x6.length c6] 29)).heap.size + 2 := by have := BW.out.size; omega
    have NW := hideT (nw.low hge)
    clear nw hge
    dsimp only at NW
    obtain ⟨⟨u0, e0⟩, f0⟩ := HB1.out.cells hlt 0 (by omega)
    obtain ⟨⟨u1, e1⟩, f1⟩ := HB1.out.cells hlt 1 (by omega)
    obtain ⟨⟨u2, e2⟩, f2⟩ := HB1.out.cells hlt 2 (by omega)
    obtain ⟨⟨u3, e3⟩, f3⟩ := HB1.out.cells hlt 3 (by omega)
    obtain ⟨⟨u4, e4⟩, f4⟩ := HB1.out.cells hlt 4 (by omega)
    obtain ⟨⟨u5, e5⟩, f5⟩ := HB1.out.cells hlt 5 (by omega)
    obtain ⟨⟨u6, e6⟩, f6⟩ := HB1.out.cells hlt 6 (by omega)
    rw [Nat.add_zero] at e0 f0
    have HB2 := hideT (HB1.out.put hlt [.string x0, .int .i64 x1, .string x2, .bool x3, .int .i64 x4, .slice q5 x5.length d5, .slice q6 x6.length d6] rfl ⟨x0, x1, x2, x3, x4, x5, x6⟩ HX.out NW.out)
    have HW2 := hideT (setAll_below (Nat.le_refl _) [.string x0, .int .i64 x1, .string x2, .bool x3, .int .i64 x4, .slice q5 x5.length d5, .slice q6 x6.length d6] _ (k * 7) HW1.out)
    clear p d0 d1 d2 d3 d4 d5' d6'
    dsimp only
    go_wp2_with fail
    refine ⟨⟨k + 1, by omega, by go_num, HB2, HW2⟩, ?_⟩
    first | omega | (simp [intOf]; omega)
end Go.Proofs.Ytlgcaklhceekiaa
