/-
  The laws' own digits, by its contract.
-/
import Derived.Test.YtbcommnnnfilkaaDoorKnown
import Derived.Test.YtbcommnnnfilkaaDoorPlain12
import Derived.Deep.RegionWith
set_option linter.unusedSimpArgs false
namespace Go.Proofs.YtbcommnnnfilkaaDoor
open Go.RowKit
theorem Sp.hex_cut (m : Int) (h0 : 0 ≤ m) (h1 : m < 16) : (⟨#[48, 49, 50, 51, 52, 53, 54, 55, 56, 57, 97, 66, 99, 68, 101, 70]⟩ : ByteArray).extract m.toNat (m + 1).toNat = ⟨[Sp.hexl.getD m.toNat 0].toArray⟩ := by
  have hm : m = 0 ∨ m = 1 ∨ m = 2 ∨ m = 3 ∨ m = 4 ∨ m = 5 ∨ m = 6 ∨ m = 7 ∨ m = 8 ∨ m = 9 ∨ m = 10 ∨ m = 11 ∨ m = 12 ∨ m = 13 ∨ m = 14 ∨ m = 15 := by omega
  rcases hm with rfl | rfl | rfl | rfl | rfl | rfl | rfl | rfl | rfl | rfl | rfl | rfl | rfl | rfl | rfl | rfl <;> rfl
theorem Sp.ret_ba2 {t u : ByteArray} (h : t = u) : Ending.returned (.string t) = .returned (.string u) := by rw [h]

set_option maxHeartbeats 1000000 in
set_option maxRecDepth 100000 in
theorem digits_10 : ∀ (f : Nat) (m : Int) (w : World), 0 ≤ m → m < f → m ≤ 33554431 →
    Calls Tryd.prog 23 #[.int .i64 m, .int .i64 10] w fun e w' => e = .returned (.string ⟨(Sp.digs 10 f m.toNat).toArray⟩) ∧ Below w.heap.size w w' := by
  intro f
  induction f with
  | zero => intro m w h0 h1; omega
  | succ f ih =>
    intro m w h0 h1 h2
    by_cases hlt : m < 10
    · have HF : Hid ((⟨#[48, 49, 50, 51, 52, 53, 54, 55, 56, 57, 97, 66, 99, 68, 101, 70]⟩ : ByteArray).extract m.toNat (m + 1).toNat = ⟨(Sp.digs 10 (f + 1) m.toNat).toArray⟩) := by
        show _ = (⟨(Sp.digs 10 (f + 1) m.toNat).toArray⟩ : ByteArray)
        rw [Sp.digs, if_pos (by omega)]
        exact Sp.hex_cut m h0 (by omega)
      clear ih
      go_enter Tryd.func23, Tryd.ntmps23
      go_wp2_with fail
      go_ret
      exact ⟨Sp.ret_ba2 HF.out, Below.refl _ _⟩
    · have IH : Hid (∀ (m : Int) (w : World), 0 ≤ m → m < f → m ≤ 33554431 → Calls Tryd.prog 23 #[.int .i64 m, .int .i64 10] w fun e w' => e = .returned (.string ⟨(Sp.digs 10 f m.toNat).toArray⟩) ∧ Below w.heap.size w w') := ih
      clear ih
      obtain ⟨q, HQ⟩ : ∃ q : Int, Hid (q = m / 10) := ⟨m / 10, rfl⟩
      obtain ⟨r, HR⟩ : ∃ r : Int, Hid (r = m % 10) := ⟨m % 10, rfl⟩
      have hq0 : 0 ≤ q := by rw [HQ.out]; omega
      have hq1 : q < f := by rw [HQ.out]; omega
      have hq2 : q ≤ 33554431 := by rw [HQ.out]; omega
      have hr0 : 0 ≤ r := by rw [HR.out]; omega
      have hr1 : r < 10 := by rw [HR.out]; omega
      have e1 : IntKind.i64.wrap (m.tdiv 10) = q := by
        rw [Int.tdiv_eq_ediv_of_nonneg h0, ← HQ.out, IntKind.wrap_i64]
        omega
      have e2 : m.tmod 10 = r := by rw [Int.tmod_eq_emod_of_nonneg h0, ← HR.out]
      have e3 : IntKind.i64.wrap (r + 1) = r + 1 := by
        rw [IntKind.wrap_i64]
        omega
      obtain ⟨t, HT⟩ : ∃ t : ByteArray, Hid (t = ⟨(Sp.digs 10 f q.toNat).toArray⟩) := ⟨(⟨(Sp.digs 10 f q.toNat).toArray⟩ : ByteArray), rfl⟩
      have IH2 : Hid (∀ w : World, Calls Tryd.prog 23 #[.int .i64 q, .int .i64 10] w fun e w' => e = .returned (.string t) ∧ Below w.heap.size w w') := by
        intro w
        rw [HT.out]
        exact IH.out q w hq0 hq1 hq2
      clear IH
      have htz : t.size ≤ 100000000 := by
        have h1 := Sp.digs_len 10 (by omega) f q.toNat
        rw [← Sp.len_byte t, Sp.ba_eq HT.out]
        omega
      have HF : Hid (t ++ (⟨#[48, 49, 50, 51, 52, 53, 54, 55, 56, 57, 97, 66, 99, 68, 101, 70]⟩ : ByteArray).extract r.toNat (r + 1).toNat = ⟨(Sp.digs 10 (f + 1) m.toNat).toArray⟩) := by
        apply Sp.ba_of
        rw [Sp.cat_data, Sp.hex_cut r hr0 (by omega), Sp.ba_eq HT.out, Sp.digs, if_neg (by omega), show m.toNat / 10 = q.toNat from by rw [HQ.out]; omega, show m.toNat % 10 = r.toNat from by rw [HR.out]; omega]
      go_enter Tryd.func23, Tryd.ntmps23
      go_wp2_with fail
      go_region_with (go_at_call 23; refine (IH2.out _).mono ?_; rintro e w2 ⟨rfl, b2⟩)
      all_goals go_wp2_with fail
      all_goals go_ret
      all_goals exact ⟨Sp.ret_ba2 HF.out, (Below.refl w.heap.size w).drew.trans b2⟩

set_option maxHeartbeats 1000000 in
set_option maxRecDepth 100000 in
theorem digits_16 : ∀ (f : Nat) (m : Int) (w : World), 0 ≤ m → m < f → m ≤ 33554431 →
    Calls Tryd.prog 23 #[.int .i64 m, .int .i64 16] w fun e w' => e = .returned (.string ⟨(Sp.digs 16 f m.toNat).toArray⟩) ∧ Below w.heap.size w w' := by
  intro f
  induction f with
  | zero => intro m w h0 h1; omega
  | succ f ih =>
    intro m w h0 h1 h2
    by_cases hlt : m < 16
    · have HF : Hid ((⟨#[48, 49, 50, 51, 52, 53, 54, 55, 56, 57, 97, 66, 99, 68, 101, 70]⟩ : ByteArray).extract m.toNat (m + 1).toNat = ⟨(Sp.digs 16 (f + 1) m.toNat).toArray⟩) := by
        show _ = (⟨(Sp.digs 16 (f + 1) m.toNat).toArray⟩ : ByteArray)
        rw [Sp.digs, if_pos (by omega)]
        exact Sp.hex_cut m h0 (by omega)
      clear ih
      go_enter Tryd.func23, Tryd.ntmps23
      go_wp2_with fail
      go_ret
      exact ⟨Sp.ret_ba2 HF.out, Below.refl _ _⟩
    · have IH : Hid (∀ (m : Int) (w : World), 0 ≤ m → m < f → m ≤ 33554431 → Calls Tryd.prog 23 #[.int .i64 m, .int .i64 16] w fun e w' => e = .returned (.string ⟨(Sp.digs 16 f m.toNat).toArray⟩) ∧ Below w.heap.size w w') := ih
      clear ih
      obtain ⟨q, HQ⟩ : ∃ q : Int, Hid (q = m / 16) := ⟨m / 16, rfl⟩
      obtain ⟨r, HR⟩ : ∃ r : Int, Hid (r = m % 16) := ⟨m % 16, rfl⟩
      have hq0 : 0 ≤ q := by rw [HQ.out]; omega
      have hq1 : q < f := by rw [HQ.out]; omega
      have hq2 : q ≤ 33554431 := by rw [HQ.out]; omega
      have hr0 : 0 ≤ r := by rw [HR.out]; omega
      have hr1 : r < 16 := by rw [HR.out]; omega
      have e1 : IntKind.i64.wrap (m.tdiv 16) = q := by
        rw [Int.tdiv_eq_ediv_of_nonneg h0, ← HQ.out, IntKind.wrap_i64]
        omega
      have e2 : m.tmod 16 = r := by rw [Int.tmod_eq_emod_of_nonneg h0, ← HR.out]
      have e3 : IntKind.i64.wrap (r + 1) = r + 1 := by
        rw [IntKind.wrap_i64]
        omega
      obtain ⟨t, HT⟩ : ∃ t : ByteArray, Hid (t = ⟨(Sp.digs 16 f q.toNat).toArray⟩) := ⟨(⟨(Sp.digs 16 f q.toNat).toArray⟩ : ByteArray), rfl⟩
      have IH2 : Hid (∀ w : World, Calls Tryd.prog 23 #[.int .i64 q, .int .i64 16] w fun e w' => e = .returned (.string t) ∧ Below w.heap.size w w') := by
        intro w
        rw [HT.out]
        exact IH.out q w hq0 hq1 hq2
      clear IH
      have htz : t.size ≤ 100000000 := by
        have h1 := Sp.digs_len 16 (by omega) f q.toNat
        rw [← Sp.len_byte t, Sp.ba_eq HT.out]
        omega
      have HF : Hid (t ++ (⟨#[48, 49, 50, 51, 52, 53, 54, 55, 56, 57, 97, 66, 99, 68, 101, 70]⟩ : ByteArray).extract r.toNat (r + 1).toNat = ⟨(Sp.digs 16 (f + 1) m.toNat).toArray⟩) := by
        apply Sp.ba_of
        rw [Sp.cat_data, Sp.hex_cut r hr0 (by omega), Sp.ba_eq HT.out, Sp.digs, if_neg (by omega), show m.toNat / 16 = q.toNat from by rw [HQ.out]; omega, show m.toNat % 16 = r.toNat from by rw [HR.out]; omega]
      go_enter Tryd.func23, Tryd.ntmps23
      go_wp2_with fail
      go_region_with (go_at_call 23; refine (IH2.out _).mono ?_; rintro e w2 ⟨rfl, b2⟩)
      all_goals go_wp2_with fail
      all_goals go_ret
      all_goals exact ⟨Sp.ret_ba2 HF.out, (Below.refl w.heap.size w).drew.trans b2⟩
end Go.Proofs.YtbcommnnnfilkaaDoor
