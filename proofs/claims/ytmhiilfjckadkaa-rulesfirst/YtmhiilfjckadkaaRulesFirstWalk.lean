/-
  RulesFirst's walk. (Written by RulesFirstWalk.py.)
-/
import Derived.Test.YtmhiilfjckadkaaRKnown
set_option linter.unusedSimpArgs false
set_option linter.unusedVariables false
namespace Go.Proofs.Ytmhiilfjckadkaa
open Go.RowKit
set_option maxRecDepth 100000
def pF (l : List Int) (q : Int) : Rp.Prog := ⟨50, q, l, [], 1, [], [], [], [], []⟩
def pO (l : List Int) (q : Int) : Rp.Prog := ⟨50, q, [], l, 1, [], [], [], [], []⟩
theorem ris_nil (q : Int) : Rp.RisP q [] := fun i x h => by simp at h
theorem isF {l : List Int} {q : Int} (h0 : 0 ≤ q) (h5 : q ≤ 50) : Rp.IsP (pF l q) ↔ Rp.RisP q l := by
  refine ⟨fun H => H.1.2.2.2.1, fun H => ⟨⟨h0, h5, by show (50 : Int) ≤ 800; decide, H, ris_nil q⟩, ⟨by show (1 : Int) ≤ 1; decide, by show (1 : Int) ≤ 20; decide⟩, ⟨by simp [pF], fun i j s _ h => by simp [pF] at h⟩, ⟨by simp [pF], fun i r h => by simp [pF] at h⟩, fun c h => by simp [pF] at h, fun c h => by simp [pF] at h, fun c h => by simp [pF] at h⟩⟩
theorem isO {l : List Int} {q : Int} (h0 : 0 ≤ q) (h5 : q ≤ 50) : Rp.IsP (pO l q) ↔ Rp.RisP q l := by
  refine ⟨fun H => H.1.2.2.2.2, fun H => ⟨⟨h0, h5, by show (50 : Int) ≤ 800; decide, ris_nil q, H⟩, ⟨by show (1 : Int) ≤ 1; decide, by show (1 : Int) ≤ 20; decide⟩, ⟨by simp [pO], fun i j s _ h => by simp [pO] at h⟩, ⟨by simp [pO], fun i r h => by simp [pO] at h⟩, fun c h => by simp [pO] at h, fun c h => by simp [pO] at h, fun c h => by simp [pO] at h⟩⟩
def OkF (q : Int) (l : List Int) (i : Nat) (x : Int) : Prop := Rp.InP x q ∧ ∀ (j : Nat) y, i = j + 1 → l[j]? = some y → y < x
def OkTo (bb : Bool) (q : Int) (l : List Int) (k : Nat) : Prop := bb = true ↔ ∀ (i : Nat) x, i < k → l[i]? = some x → OkF q l i x
set_option maxHeartbeats 4000000 in
theorem rulesFirst_walk {w : World} (v : Value) (l : List Int) (hz : ZRow w v l) (q : Int) : Calls Try.prog 7 #[v, .int .i64 q] w fun e w' => e = .returned (.bool true) ∧ Below w.heap.size w w' := by
  obtain ⟨a, c, rfl⟩ := zrow_val hz
  obtain ⟨n, hln⟩ : ∃ n, l.length = n := ⟨_, rfl⟩
  rw [hln] at hz ⊢
  obtain ⟨hn, hl, _, b, o, ha, hc⟩ := zrow_at hz
  have HN := hideT hn
  have HC := hideT hc
  have HA := hideT ha
  have HZ : Hid (ZRow w (.slice a l.length c) l) := by show ZRow _ _ _; rw [hln]; exact hz
  clear hn hc ha hz
  by_cases h50 : n ≤ 50
  rotate_left
  · go_enter Try.func7, Try.ntmps7
    go_wp2_with fail
    go_ret
    exact ⟨rfl, Below.refl _ _⟩
  by_cases hq0 : 0 ≤ q
  rotate_left
  · go_enter Try.func7, Try.ntmps7
    go_wp2_with fail
    go_ret
    exact ⟨rfl, Below.refl _ _⟩
  by_cases hq50 : q ≤ 50
  rotate_left
  · go_enter Try.func7, Try.ntmps7
    go_wp2_with fail
    go_ret
    exact ⟨rfl, Below.refl _ _⟩
  clear hln
  go_enter Try.func7, Try.ntmps7
  go_wp2_with fail
  go_loopw [5, 6] (fun z i wr => ∃ (k : Nat) (bb : Bool), k ≤ n ∧ i = .int .i64 k ∧ z = .bool bb ∧ Hid (OkTo bb q l k) ∧ Hid (Below w.heap.size w wr)) (fun _ i _ => n - (intOf i).toNat)
  case atStart => exact ⟨0, true, by omega, rfl, rfl, ⟨fun _ j x hj => absurd hj (by omega), fun _ => rfl⟩, Below.refl _ _⟩
  case round =>
    obtain ⟨k, bb, hk, rfl, rfl, HB, HW⟩ := hrel
    by_cases hlt : k < n
    rotate_left
    · have HRis : bb = true ↔ Rp.RisP q l := (show bb = true ↔ _ from HB.out).trans ⟨fun H => Rp.all_done H (by have := HN.out; omega), fun H j x _ hx => H j x hx⟩
      obtain rfl : n = l.length := HN.out
      cases bb
      · have HR : ¬ Rp.RisP q l := fun h => by cases HRis.2 h
        clear HRis HB
        have H1 : Hid (¬ Rp.IsP (pF l q)) := by
          show ¬ _
          rw [isF hq0 hq50]
          exact HR
        have H2 : Hid (¬ Rp.IsP (pO l q)) := by
          show ¬ _
          rw [isO hq0 hq50]
          exact HR
        clear HR
        go_wp2_with fail
        refine (isD _ ⟨a, c, none, 0, none, 0, none, 0, none, 0, none, 0, none, 0⟩ (pF l q) ⟨zrow_below HZ.out HW.out, zrow_nil _, rowR_nil _, rowR_nil _, rowR_nil _, rowR_nil _, rowR_nil _⟩).mono ?_
        rintro e w1 k1
        obtain ⟨rfl, b1⟩ := k1.no H1.out
        have B1 := hideT (HW.out.trans (b1.mono HW.out.size))
        clear k1 b1
        go_wp2_with fail
        refine (isD _ ⟨none, 0, a, c, none, 0, none, 0, none, 0, none, 0, none, 0⟩ (pO l q) ⟨zrow_nil _, zrow_below HZ.out B1.out, rowR_nil _, rowR_nil _, rowR_nil _, rowR_nil _, rowR_nil _⟩).mono ?_
        rintro e w2 k1
        obtain ⟨rfl, b1⟩ := k1.no H2.out
        have B2 := hideT (B1.out.trans (b1.mono B1.out.size))
        clear k1 b1
        go_wp2_with fail
        refine (known10 w2).mono ?_
        rintro e w3 ⟨rfl, b1⟩
        have B3 := hideT (B2.out.trans (b1.mono B2.out.size))
        clear b1
        go_wp2_with fail
        go_ret
        exact ⟨rfl, B3.out⟩
      · have HR : Rp.RisP q l := HRis.1 rfl
        clear HRis HB
        have H1 : Hid (Rp.IsP (pF l q)) := by
          show _
          rw [isF hq0 hq50]
          exact HR
        have H2 : Hid (Rp.IsP (pO l q)) := by
          show _
          rw [isO hq0 hq50]
          exact HR
        clear HR
        go_wp2_with fail
        refine (isD _ ⟨a, c, none, 0, none, 0, none, 0, none, 0, none, 0, none, 0⟩ (pF l q) ⟨zrow_below HZ.out HW.out, zrow_nil _, rowR_nil _, rowR_nil _, rowR_nil _, rowR_nil _, rowR_nil _⟩).mono ?_
        rintro e w1 k1
        obtain ⟨rfl, b1⟩ := k1.yes H1.out
        have B1 := hideT (HW.out.trans (b1.mono HW.out.size))
        clear k1 b1
        go_wp2_with fail
        refine (isD _ ⟨none, 0, a, c, none, 0, none, 0, none, 0, none, 0, none, 0⟩ (pO l q) ⟨zrow_nil _, zrow_below HZ.out B1.out, rowR_nil _, rowR_nil _, rowR_nil _, rowR_nil _, rowR_nil _⟩).mono ?_
        rintro e w2 k1
        obtain ⟨rfl, b1⟩ := k1.yes H2.out
        have B2 := hideT (B1.out.trans (b1.mono B1.out.size))
        clear k1 b1
        go_wp2_with fail
        refine (known10 w2).mono ?_
        rintro e w3 ⟨rfl, b1⟩
        have B3 := hideT (B2.out.trans (b1.mono B2.out.size))
        clear b1
        go_wp2_with fail
        go_ret
        exact ⟨rfl, B3.out⟩
    obtain ⟨x, hx⟩ := Mp.at_lt (l := l) (k := k) (by have := HN.out; omega)
    have d0 := below_cell HW.out _ _ (HC.out k x hx)
    obtain rfl := HA.out (by omega)
    have HX := hideT hx
    clear hx
    have t0 : (0 : Int) ≤ (k : Int) := by omega
    have t1 : (k : Int) < (n : Int) := by omega
    cases bb
    · have HR : Hid (OkTo false q l (k + 1)) := ⟨fun h => (by cases h), fun H => HB.out.2 fun i x hi hx => H i x (by omega) hx⟩
      go_wp2_with fail
      go_quiet (fail)
      go_wp2_with fail
      refine ⟨⟨k + 1, false, by omega, by go_num, rfl, HR, below_drewN HW.out _⟩, ?_⟩
      first | omega | (simp [intOf]; omega)
    have HB1 : Hid (∀ (i : Nat) x, i < k → l[i]? = some x → OkF q l i x) := HB.out.1 rfl
    have HNO : Hid (¬ OkF q l k x → OkTo false q l (k + 1)) := fun h => ⟨fun h => (by cases h), fun H => (h (H k x (by omega) HX.out)).elim⟩
    by_cases h1 : 0 ≤ x
    rotate_left
    · have HR := hideT (HNO.out fun H => h1 H.1.1)
      have h1' : x < 0 := by omega
      have h1'' : decide (0 ≤ x) = false := decide_eq_false h1
      go_wp2_with fail
      go_quiet (fail)
      go_wp2_with fail
      refine ⟨⟨k + 1, false, by omega, by go_num, rfl, HR, below_drewN HW.out _⟩, ?_⟩
      first | omega | (simp [intOf]; omega)
    by_cases h2 : x < q
    rotate_left
    · have HR := hideT (HNO.out fun H => h2 H.1.2)
      have h2' : decide (x < q) = false := decide_eq_false h2
      go_wp2_with fail
      go_quiet (fail)
      go_wp2_with fail
      refine ⟨⟨k + 1, false, by omega, by go_num, rfl, HR, below_drewN HW.out _⟩, ?_⟩
      first | omega | (simp [intOf]; omega)
    have HIN : Hid (Rp.InP x q) := ⟨h1, h2⟩
    by_cases h0 : k = 0
    · have HR : Hid (OkTo true q l (k + 1)) := ⟨fun _ => Rp.all_step HB1.out HX.out ⟨HIN.out, fun j y hj => absurd hj (by omega)⟩, fun _ => rfl⟩
      have t3 : ((k : Int) == 0) = true := by simp [h0]
      clear h0
      go_wp2_with fail
      go_quiet (fail)
      go_wp2_with fail
      refine ⟨⟨k + 1, true, by omega, by go_num, rfl, HR, below_drewN HW.out _⟩, ?_⟩
      first | omega | (simp [intOf]; omega)
    have t3 : ((k : Int) == 0) = false := beq_eq_false_iff_ne.2 (by omega)
    obtain ⟨j, hj⟩ : ∃ j, k = j + 1 := ⟨k - 1, by omega⟩
    obtain ⟨y, hy⟩ := Mp.at_lt (l := l) (k := j) (by have := HN.out; omega)
    have e0 := below_cell HW.out _ _ (HC.out j y hy)
    have HY := hideT hy
    have t4 : (0 : Int) ≤ (j : Int) := by omega
    have t5 : (j : Int) < (n : Int) := by omega
    have t6 : IntKind.i64.wrap ((k : Int) - 1) = (j : Int) := by rw [show (k : Int) - 1 = (j : Int) by omega]; rw [IntKind.wrap_i64]; omega
    have HJ := hideT hj
    clear hy hj h0
    by_cases h3 : y < x
    · have HR : Hid (OkTo true q l (k + 1)) := ⟨fun _ => Rp.all_step HB1.out HX.out ⟨HIN.out, fun j' y' hj' hy' => by
        obtain rfl : j' = j := by have := HJ.out; omega
        rw [HY.out] at hy'
        cases hy'
        exact h3⟩, fun _ => rfl⟩
      go_wp2_with fail
      go_quiet (fail)
      go_wp2_with fail
      refine ⟨⟨k + 1, true, by omega, by go_num, rfl, HR, below_drewN HW.out _⟩, ?_⟩
      first | omega | (simp [intOf]; omega)
    · have HR := hideT (HNO.out fun H => h3 (H.2 j y HJ.out HY.out))
      have h3' : decide (y < x) = false := decide_eq_false h3
      go_wp2_with fail
      go_quiet (fail)
      go_wp2_with fail
      refine ⟨⟨k + 1, false, by omega, by go_num, rfl, HR, below_drewN HW.out _⟩, ?_⟩
      first | omega | (simp [intOf]; omega)
end Go.Proofs.Ytmhiilfjckadkaa
