/-
  heavy: what is looked at is light.
-/
import Derived.Test.YtpipjkbgbhefcaaGreatMSmall
import Derived.Deep.QuietTactic
import Derived.BigQuiet
set_option linter.unusedSimpArgs false
set_option linter.unusedVariables false
namespace Go.Proofs.YtpipjkbgbhefcaaGreat
open Go.RowKit
set_option maxRecDepth 100000
def lightS (s : Mp.Sent) : Prop := s.1.length < 400 ∧ s.2.length < 400
def lightI (x : Mp.Item) : Prop := x.entry.length < 400 ∧ x.exit.length < 400 ∧ (∀ s ∈ x.entry, lightS s) ∧ ∀ s ∈ x.exit, lightS s
def light (m : Mp.Model) : Prop := m.files.length < 400 ∧ m.items.length < 400 ∧ ∀ x ∈ m.items, lightI x
/-- The count so far: below 400 all that was counted is light. -/
def LI (m : Mp.Model) (k N : Nat) : Prop := N < 400 → m.files.length < 400 ∧ m.items.length < 400 ∧ ∀ (j : Nat) x, j < k → m.items[j]? = some x → lightI x
def LE (m : Mp.Model) (k : Nat) (x : Mp.Item) (l : List Mp.Sent) (i N : Nat) : Prop := N < 400 → LI m k 0 ∧ x.entry.length < 400 ∧ x.exit.length < 400 ∧ ∀ (j : Nat) s, j < i → l[j]? = some s → lightS s
/-- What heavy answers: some bool; where it is false the model is light. -/
def HvPost (m : Mp.Model) (w : World) (e : Ending) (w' : World) : Prop := ∃ b, e = .returned (.bool b) ∧ (b = false → light m) ∧ Below w.heap.size w w'
theorem LI.mono {m : Mp.Model} {k N M : Nat} (h : LI m k N) (hm : N ≤ M) : LI m k M := fun h' => h (by omega)
set_option maxHeartbeats 8000000 in
set_option maxRecDepth 100000 in
theorem heavyD (w : World) (m : Mp.Model) (af ai : Option Addr) (cf ci : Nat) (hm : ModelAt w af cf ai ci m) :
    Calls Tryz.prog 8 #[.agg #[.slice af m.files.length cf, .slice ai m.items.length ci]] w (HvPost m w) := by
  obtain ⟨_, hfl, _, _⟩ := frow_at hm.files
  obtain ⟨_, hil, hicap, b, o, ha, hc⟩ := irow_at hm.items
  have HC := hideT hc
  have HA := hideT ha
  clear hc ha hm
  go_enter Tryz.func8, Tryz.ntmps8
  go_wp2_with fail
  go_loopw [3, 4] (fun n i wr => ∃ k N : Nat, k ≤ m.items.length ∧ N ≤ 1000000000000000 ∧ i = .int .i64 k ∧ n = .int .i64 N ∧ Hid (LI m k N) ∧ Hid (Below w.heap.size w wr ∧ Lies wr w.heap.size 25 #[.slice af m.files.length cf, .slice ai m.items.length ci])) (fun _ i _ => m.items.length - (intOf i).toNat)
  case atStart => exact ⟨0, m.files.length + m.items.length, by omega, by omega, rfl, by first | rfl | go_num, (fun h => ⟨by omega, by omega, fun j x hj => absurd hj (by omega)⟩), (Below.refl _ _).alloc (Nat.le_refl _) _, Lies.new _ _ _⟩
  case round =>
    obtain ⟨k, N, hk, hN, rfl, rfl, HL, HW⟩ := hrel
    have x0 : wr.cell? ⟨w.heap.size, 0, none⟩ = some (.slice af m.files.length cf) := HW.out.2.cell 0
    have x1 : wr.cell? ⟨w.heap.size, 1, none⟩ = some (.slice ai m.items.length ci) := HW.out.2.cell 1
    have hsz := HW.out.2.lt
    by_cases hlt : k < m.items.length
    · by_cases h400 : N < 400
      · obtain ⟨x, hx⟩ := Mp.at_lt (l := m.items) (k := k) hlt
        obtain ⟨a5, c5, a6, c6, I0⟩ := HC.out k _ hx
        have I1 := I0.turn (below_cell HW.out.1)
        have d0 := I1.c0
        have d1 := I1.c1
        have d2 := I1.c2
        have d3 := I1.c3
        have d4 := I1.c4
        have d5 := I1.c5
        have d6 := I1.c6
        obtain rfl := HA.out (by omega)
        have hz1 := I0.zid
        have hz2 := I0.zpa
        obtain ⟨_, hl5, _, b5, o5, ha5, hc5⟩ := srow_at I0.entry
        obtain ⟨_, hl6, _, b6, o6, ha6, hc6⟩ := srow_at I0.exit
        have HX := hideT hx
        have HA5 := hideT ha5
        have HC5 := hideT hc5
        have HA6 := hideT ha6
        have HC6 := hideT hc6
        clear hx I1 ha5 hc5 ha6 hc6
        have BA := hideT ((Below.refl wr.heap.size wr).alloc (Nat.le_refl _) (.cells #[.string x.id, .int .i64 x.kind, .string x.parent, .bool x.req, .int .i64 x.ticks, .slice a5 x.entry.length c5, .slice a6 x.exit.length c6] 48))
        have LA := hideT (Lies.new wr 48 #[.string x.id, .int .i64 x.kind, .string x.parent, .bool x.req, .int .i64 x.ticks, .slice a5 x.entry.length c5, .slice a6 x.exit.length c6])
        have BW := hideT (HW.out.1.trans (BA.out.mono HW.out.1.size))
        have LW := hideT (HW.out.2.below BA.out)
        have HLk : Hid (LI m k 0) := fun _ => HL.out h400
        clear d0 d1 d2 d3 d4 d5 d6 x0 x1
        obtain ⟨W0, hW0⟩ : ∃ W0, W0 = wr := ⟨wr, rfl⟩
        subst hW0
        have I1 := I0.turn (below_cell HW.out.1)
        have d0 := I1.c0
        have d1 := I1.c1
        have d2 := I1.c2
        have d3 := I1.c3
        have d4 := I1.c4
        have d5 := I1.c5
        have d6 := I1.c6
        have x0 : W0.cell? ⟨w.heap.size, 0, none⟩ = some (.slice af m.files.length cf) := HW.out.2.cell 0
        have x1 : W0.cell? ⟨w.heap.size, 1, none⟩ = some (.slice (some ⟨b, o, none⟩) m.items.length ci) := HW.out.2.cell 1
        clear I0 I1
        go_wp2_with fail
        clear d0 d1 d2 d3 d4 d5 d6 x0 x1
        go_loopw [3, 6] (fun n i ws => ∃ j M : Nat, j ≤ x.entry.length ∧ M ≤ 1000000000000000 ∧ i = .int .i64 j ∧ n = .int .i64 M ∧ Hid (LE m k x x.entry j M) ∧ Hid (Below w.heap.size w ws ∧ Lies ws w.heap.size 25 #[.slice af m.files.length cf, .slice (some ⟨b, o, none⟩) m.items.length ci] ∧ Lies ws W0.heap.size 48 #[.string x.id, .int .i64 x.kind, .string x.parent, .bool x.req, .int .i64 x.ticks, .slice a5 x.entry.length c5, .slice a6 x.exit.length c6])) (fun _ i _ => x.entry.length - (intOf i).toNat)
        case atStart => exact ⟨0, N + x.entry.length + x.exit.length + x.id.size / 50 + x.parent.size / 50, by omega, by omega, rfl, by first | rfl | go_num, (fun h => ⟨HLk.out, by omega, by omega, fun j s hj => absurd hj (by omega)⟩), BW.out, LW.out, LA.out⟩
        case round =>
          obtain ⟨j, M, hj, hM, rfl, rfl, HE, HV⟩ := hrel
          have y5 : wr.cell? ⟨W0.heap.size, 5, none⟩ = some (.slice a5 x.entry.length c5) := HV.out.2.2.cell 5
          by_cases hgo : j < x.entry.length ∧ M < 400
          · obtain ⟨hj1, hj2⟩ := hgo
            obtain ⟨s, hs⟩ := Mp.at_lt (l := x.entry) (k := j) hj1
            obtain ⟨e1, f1, e2, f2, r1, r2, g0, g1⟩ := HC5.out j s hs
            have g0 := below_cell HV.out.1 _ _ g0
            have g1 := below_cell HV.out.1 _ _ g1
            have ht1 := (orow_at r1).2.1
            have ht2 := (crow_at r2).2.1
            obtain rfl := HA5.out (by omega)
            have HS := hideT hs
            clear r1 r2 hs
            have t0 : (0 : Int) ≤ (j : Int) := by omega
            have t1 : (j : Int) < (x.entry.length : Int) := by omega
            go_wp2_with fail
            go_quiet (fail)
            go_wp2_with fail
            refine ⟨⟨j + 1, M + s.1.length + s.2.length, by omega, by omega, by go_num, by first | rfl | go_num, ?_, below_drewN HV.out.1 _, HV.out.2.1.below (below_drewN (Below.refl _ _) _), HV.out.2.2.below (below_drewN (Below.refl _ _) _)⟩, ?_⟩
            · intro h
              obtain ⟨q1, q2, q3, q4⟩ := HE.out (by omega)
              refine ⟨q1, q2, q3, fun i t hi ht => ?_⟩
              by_cases hij : i < j
              · exact q4 i t hij ht
              · obtain rfl : i = j := by omega
                rw [HS.out] at ht
                cases ht
                exact ⟨by omega, by omega⟩
            · first | omega | (simp [intOf]; omega)
          · have HEX : Hid (M < 400 → LI m k 0 ∧ x.entry.length < 400 ∧ x.exit.length < 400 ∧ ∀ s ∈ x.entry, lightS s) := by
              intro h
              obtain ⟨q1, q2, q3, q4⟩ := HE.out h
              refine ⟨q1, q2, q3, fun s hs => ?_⟩
              obtain ⟨i, hi⟩ := List.getElem?_of_mem hs
              exact q4 i s (by have := (List.getElem?_eq_some_iff.1 hi).1; omega) hi
            have hway : ¬ j < x.entry.length ∨ (j < x.entry.length ∧ ¬ M < 400) := by omega
            obtain ⟨W1, hW1⟩ : ∃ W1, W1 = wr := ⟨wr, rfl⟩
            subst hW1
            clear hgo HE
            rcases hway with hway | ⟨hway1, hway2⟩
            all_goals
              go_wp2_with fail
              clear y5
              go_loopw [3, 7] (fun n i ws => ∃ j2 M2 : Nat, j2 ≤ x.exit.length ∧ M2 ≤ 1000000000000000 ∧ i = .int .i64 j2 ∧ n = .int .i64 M2 ∧ Hid (M2 < 400 → M < 400 ∧ ∀ (j : Nat) s, j < j2 → x.exit[j]? = some s → lightS s) ∧ Hid (Below w.heap.size w ws ∧ Lies ws w.heap.size 25 #[.slice af m.files.length cf, .slice (some ⟨b, o, none⟩) m.items.length ci] ∧ Lies ws W0.heap.size 48 #[.string x.id, .int .i64 x.kind, .string x.parent, .bool x.req, .int .i64 x.ticks, .slice a5 x.entry.length c5, .slice a6 x.exit.length c6])) (fun _ i _ => x.exit.length - (intOf i).toNat)
              case atStart => exact ⟨0, M, by omega, by omega, rfl, rfl, (fun h => ⟨h, fun j s hj => absurd hj (by omega)⟩), HV.out⟩
              case round =>
                obtain ⟨j2, M2, hj2, hM2, rfl, rfl, HE2, HV2⟩ := hrel
                have y6 : wr.cell? ⟨W0.heap.size, 6, none⟩ = some (.slice a6 x.exit.length c6) := HV2.out.2.2.cell 6
                by_cases hgo : j2 < x.exit.length ∧ M2 < 400
                · obtain ⟨hg1, hg2⟩ := hgo
                  obtain ⟨s, hs⟩ := Mp.at_lt (l := x.exit) (k := j2) hg1
                  obtain ⟨e1, f1, e2, f2, r1, r2, g0, g1⟩ := HC6.out j2 s hs
                  have g0 := below_cell HV2.out.1 _ _ g0
                  have g1 := below_cell HV2.out.1 _ _ g1
                  have ht1 := (orow_at r1).2.1
                  have ht2 := (crow_at r2).2.1
                  obtain rfl := HA6.out (by omega)
                  have HS := hideT hs
                  clear r1 r2 hs
                  have t0 : (0 : Int) ≤ (j2 : Int) := by omega
                  have t1 : (j2 : Int) < (x.exit.length : Int) := by omega
                  go_wp2_with fail
                  go_quiet (fail)
                  go_wp2_with fail
                  refine ⟨⟨j2 + 1, M2 + s.1.length + s.2.length, by omega, by omega, by go_num, by first | rfl | go_num, ?_, below_drewN HV2.out.1 _, HV2.out.2.1.below (below_drewN (Below.refl _ _) _), HV2.out.2.2.below (below_drewN (Below.refl _ _) _)⟩, ?_⟩
                  · intro h
                    obtain ⟨q1, q4⟩ := HE2.out (by omega)
                    refine ⟨q1, fun i t hi ht => ?_⟩
                    by_cases hij : i < j2
                    · exact q4 i t hij ht
                    · obtain rfl : i = j2 := by omega
                      rw [HS.out] at ht
                      cases ht
                      exact ⟨by omega, by omega⟩
                  · first | omega | (simp [intOf]; omega)
                · have hway : ¬ j2 < x.exit.length ∨ (j2 < x.exit.length ∧ ¬ M2 < 400) := by omega
                  have HLI : Hid (LI m (k + 1) M2) := by
                    intro h
                    obtain ⟨q0, q4⟩ := HE2.out h
                    obtain ⟨q1, q2, q3, q5⟩ := HEX.out q0
                    obtain ⟨u1, u2, u3⟩ := q1 (by omega)
                    refine ⟨u1, u2, fun i t hi ht => ?_⟩
                    by_cases hik : i < k
                    · exact u3 i t hik ht
                    · obtain rfl : i = k := by omega
                      rw [HX.out] at ht
                      cases ht
                      refine ⟨q2, q3, q5, fun s hs => ?_⟩
                      obtain ⟨i, hi⟩ := List.getElem?_of_mem hs
                      exact q4 i s (by have := (List.getElem?_eq_some_iff.1 hi).1; omega) hi
                  clear hgo HE2
                  rcases hway with hway | ⟨hway1, hway2⟩
                  all_goals
                    go_wp2_with fail
                    refine ⟨⟨k + 1, M2, by omega, by omega, by go_num, rfl, HLI, HV2.out.1, HV2.out.2.1⟩, ?_⟩
                    first | omega | (simp [intOf]; omega)
      · have t4 : ¬ (N : Int) < 400 := by omega
        go_wp2_with fail
        go_ret
        exact ⟨true, rfl, fun h => (by cases h), HW.out.1⟩
    · have HLF : Hid (N < 400 → light m) := by
        intro h
        obtain ⟨u1, u2, u3⟩ := HL.out h
        refine ⟨u1, u2, fun x hx => ?_⟩
        obtain ⟨i, hi⟩ := List.getElem?_of_mem hx
        exact u3 i x (by have := (List.getElem?_eq_some_iff.1 hi).1; omega) hi
      go_wp2_with fail
      go_ret
      exact ⟨decide (400 ≤ (N : Int)), rfl, fun h => HLF.out (by have := of_decide_eq_false h; omega), HW.out.1⟩
end Go.Proofs.YtpipjkbgbhefcaaGreat
