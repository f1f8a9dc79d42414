/-
  ModelMany: so many items there may be, so many numbers of the file.
-/
import Derived.Test.YtfbnlplafkangabMConv
set_option linter.unusedSimpArgs false
set_option linter.unusedVariables false
namespace Go.Proofs.Ytfbnlplafkangab
open Go.RowKit
def tId (k : Nat) : ByteArray := ⟨#[116, UInt8.ofNat (97 + k)]⟩
def fId (k : Nat) : ByteArray := ⟨#[102, UInt8.ofNat (97 + k)]⟩
def mI (k : Nat) : Mp.Item := ⟨tId k, 2, ⟨#[112]⟩, false, 0, [], []⟩
def manyL : Nat → List Mp.Item
  | 0 => [pI]
  | k + 1 => manyL k ++ [mI k]
def manyF : Nat → List ByteArray
  | 0 => []
  | k + 1 => manyF k ++ [fId k]
theorem manyL_len (k : Nat) : (manyL k).length = k + 1 := by
  induction k with
  | zero => rfl
  | succ k ih => rw [manyL, List.length_append, ih]; rfl
theorem manyF_len (k : Nat) : (manyF k).length = k := by
  induction k with
  | zero => rfl
  | succ k ih => rw [manyF, List.length_append, ih]; rfl
theorem manyL_fine (k : Nat) : ∀ x ∈ manyL k, x.id.size ≤ 1000 ∧ x.parent.size ≤ 1000 ∧ x.entry = [] ∧ x.exit = [] := by
  induction k with
  | zero => intro x hx; rw [List.mem_singleton.1 hx]; exact ⟨by decide, by decide, rfl, rfl⟩
  | succ k ih =>
    intro x hx
    rcases List.mem_append.1 hx with hx | hx
    · exact ih x hx
    · rw [List.mem_singleton.1 hx]
      exact ⟨show 2 ≤ 1000 by decide, show 1 ≤ 1000 by decide, rfl, rfl⟩
theorem manyF_fine (k : Nat) : ∀ s ∈ manyF k, s.size ≤ 1000 := by
  induction k with
  | zero => intro x hx; cases hx
  | succ k ih =>
    intro x hx
    rcases List.mem_append.1 hx with hx | hx
    · exact ih x hx
    · rw [List.mem_singleton.1 hx]
      exact (show 2 ≤ 1000 by decide)
theorem manyA : (List.range 21).all (fun i => (List.range 11).all fun f => Mp.isB ⟨manyF f, manyL i⟩ == (decide (i + 1 ≤ 16) && decide (f ≤ 6))) = true := by kernel_rfl
theorem many_is (i f : Nat) (hi : i ≤ 20) (hf : f ≤ 10) : Mp.isB ⟨manyF f, manyL i⟩ = (decide (i + 1 ≤ 16) && decide (f ≤ 6)) :=
  beq_iff_eq.1 (List.all_eq_true.1 (List.all_eq_true.1 manyA i (List.mem_range.2 (by omega))) f (List.mem_range.2 (by omega)))
set_option maxHeartbeats 8000000 in
theorem modelMany_walk (n : Int) (hn : (Lit.int .i64 n).wf = true) (fi : Int) (hw : (Lit.int .i64 fi).wf = true) (w : World) :
    Calls Try.prog 5 #[.int .i64 n, .int .i64 fi] w fun e w' => e = .returned (.bool true) ∧ Below w.heap.size w w' := by
  clear hn hw
  by_cases hr : n < 0 ∨ 20 < n ∨ fi < 0 ∨ 10 < fi
  · go_enter Try.func5, Try.ntmps5
    go_wp2_with (go_at_call 12; exfalso; omega)
    all_goals go_ret
    all_goals exact ⟨rfl, Below.refl _ _⟩
  obtain ⟨nn, rfl⟩ : ∃ k : Nat, n = k := ⟨n.toNat, by omega⟩
  obtain ⟨ff, rfl⟩ : ∃ k : Nat, fi = k := ⟨fi.toNat, by omega⟩
  have h2 : (nn : Int) ≤ 20 := by omega
  have h4 : (ff : Int) ≤ 10 := by omega
  have h5 : 0 ≤ (nn : Int) := by omega
  have h6 : 0 ≤ (ff : Int) := by omega
  clear hr
  go_enter Try.func5, Try.ntmps5
  go_wp2_with fail
  refine (plan0D w).mono ?_
  rintro e w1 ⟨p1, fb, ib, rfl, OF, OI⟩
  have B1 := hideT (p1.alloc p1.size (.cells #[.slice none 0 0, .slice (some ⟨ib, 0, none⟩) 1 1] 25))
  have M1 : Hid (MB (w1.alloc (.cells #[.slice none 0 0, .slice (some ⟨ib, 0, none⟩) 1 1] 25)) w.heap.size w1.heap.size (.slice none 0 0) (.slice (some ⟨ib, 0, none⟩) 1 1) (manyF 0) (manyL 0)) := ⟨Lies.new _ _ _, World.ownsRow_nil _ _ _ _, OI.alloc _⟩
  have hB := p1.size
  clear OF OI p1
  obtain ⟨i0, hi0, hz0, hz1, hz2⟩ := info_parts infoI
  obtain ⟨s0, si0, sz0, sz1, sz2⟩ := info_parts infoS
  go_wp2_with fail
  go_loopw [6] (fun i wr => ∃ (k : Nat) (iv : Value), k ≤ nn ∧ i = .int .i64 k ∧ Hid (Below w.heap.size w wr) ∧ Hid (MB wr w.heap.size w1.heap.size (.slice none 0 0) iv (manyF 0) (manyL k))) (fun i _ => nn - (intOf i).toNat)
  case atStart => exact ⟨0, _, by omega, rfl, B1, M1⟩
  case round =>
    obtain ⟨k, iv, hk, rfl, HW, HM⟩ := hrel
    obtain ⟨ia, ic, hiv⟩ := slice_form HM.out.items
    rw [manyL_len] at hiv
    subst hiv
    obtain ⟨x0, x1, f0, f1⟩ := HM.out.c0
    have hBl := HM.out.lies.lt
    by_cases hlt : k < nn
    · obtain ⟨c, HC⟩ : ∃ c : UInt8, Hid (c = UInt8.ofNat (97 + k)) := ⟨_, rfl⟩
      have hcv := conv_byteZ (97 + (k : Int)) c (by rw [HC.out]; simp only [UInt8.toNat_ofNat']; omega) wr
      obtain ⟨id, HI⟩ : ∃ id : ByteArray, Hid ((⟨#[116]⟩ : ByteArray) ++ ⟨#[c]⟩ = id) := ⟨_, rfl⟩
      have HID : Hid (id = tId k) := by show _ = _; rw [← HI.out, cat_ba, HC.out]; rfl
      have hib := HI.out
      have hnx : Hid (flatI (manyL (k + 1)) = flatI (manyL k) ++ [.string id, .int .i64 2, .string ⟨#[112]⟩, .bool false, .int .i64 0, .slice none 0 0, .slice none 0 0]) := by
        show _ = _
        rw [manyL, flatI_app, HID.out]
        rfl
      have BA := hideT ((Below.refl wr.heap.size wr).alloc (Nat.le_refl _) (.cells #[.int .u8 (97 + (k : Int))] 5))
      have BA2 := hideT (BA.out.alloc (by simp) (.cells #[.string id, .int .i64 2, .string ⟨#[112]⟩, .bool false, .int .i64 0, .slice none 0 0, .slice none 0 0] 29))
      go_wp2_with (first | (at_builtin; refine wpList_append_lies _ (by rfl) _ _ _ (by rfl) w.heap.size 29 i0 _ 7 104 Try.underlying23 hi0 hz0 hz1 hz2 rfl (by omega) (.slice ia (k + 1) ic) (k + 1) (flatI (manyL k)) (by rfl) (by have := (HM.out.items.alloc (.cells #[.int .u8 (97 + (k : Int))] 5)).alloc (.cells #[.string id, .int .i64 2, .string ⟨#[112]⟩, .bool false, .int .i64 0, .slice none 0 0, .slice none 0 0] 29); rw [manyL_len] at this; exact this) ⟨wr.heap.size + 1, 0, none⟩ 1 1 [.string id, .int .i64 2, .string ⟨#[112]⟩, .bool false, .int .i64 0, .slice none 0 0, .slice none 0 0] (by rfl) (by rfl) (news2 wr _ #[.string id, .int .i64 2, .string ⟨#[112]⟩, .bool false, .int .i64 0, .slice none 0 0, .slice none 0 0] 29) (by simp [Value.oneCell']) (by omega) (by unfold maxLen; omega) (by omega) (by have := HW.out.size; simp; omega) (wr.heap.size + 2) (by simp) ?_; intro gb cap2 w3 hown hgrow hat hlt3; obtain ⟨G1, G2⟩ := HM.out.grewI BA2.out hgrow; have y1 : w3.cell? ⟨w1.heap.size, 1, none⟩ = some (.slice ia (k + 1) ic) := G1.cell 1; have y2 : w3.frozen? ⟨w1.heap.size, 1, none⟩ = false := G1.free 1) | fail)
      have hb3 : Below w.heap.size w w3 := Keep.below (HW.out.trans (BA2.out.mono HW.out.size)) (Keep.grown hgrow) (fun i hi e => by have := (own_lt HM.out.items e).2; omega)
      refine ⟨⟨k + 1, _, by omega, by go_num, hb3.setCell (by exact hB) _, MB.putI G1 G2 hown (by rw [manyL_len]) hnx.out.symm⟩, ?_⟩
      first | omega | (simp [intOf]; omega)
    · obtain rfl : k = nn := by omega
      have B2 := HW
      have M2 := HM
      clear hlt HW HM x0 x1 f0 f1 hBl
      go_wp2_with fail
      go_loopw [7] (fun i ws => ∃ (j : Nat) (fv : Value), j ≤ ff ∧ i = .int .i64 j ∧ Hid (Below w.heap.size w ws) ∧ Hid (MB ws w.heap.size w1.heap.size fv (.slice ia (k + 1) ic) (manyF j) (manyL k))) (fun i _ => ff - (intOf i).toNat)
      case atStart => exact ⟨0, _, by omega, rfl, B2, M2⟩
      case round =>
        obtain ⟨j, fv, hj, rfl, HW, HM⟩ := hrel
        obtain ⟨fa, fc, hfv⟩ := slice_form HM.out.files
        rw [manyF_len] at hfv
        subst hfv
        obtain ⟨x0, x1, f0, f1⟩ := HM.out.c0
        have hBl := HM.out.lies.lt
        by_cases hlt : j < ff
        · obtain ⟨c, HC⟩ : ∃ c : UInt8, Hid (c = UInt8.ofNat (97 + j)) := ⟨_, rfl⟩
          have hcv := conv_byteZ (97 + (j : Int)) c (by rw [HC.out]; simp only [UInt8.toNat_ofNat']; omega) wr
          obtain ⟨id, HI⟩ : ∃ id : ByteArray, Hid ((⟨#[102]⟩ : ByteArray) ++ ⟨#[c]⟩ = id) := ⟨_, rfl⟩
          have HID : Hid (id = fId j) := by show _ = _; rw [← HI.out, cat_ba, HC.out]; rfl
          have hib := HI.out
          have hnx : Hid ((manyF (j + 1)).map Value.string = (manyF j).map Value.string ++ [.string id]) := by
            show _ = _
            rw [manyF, List.map_append, HID.out]
            rfl
          have BA := hideT ((Below.refl wr.heap.size wr).alloc (Nat.le_refl _) (.cells #[.int .u8 (97 + (j : Int))] 5))
          have BA2 := hideT (BA.out.alloc (by simp) (.cells #[.string id] 9))
          go_wp2_with (first | (at_builtin; refine wpList_append_lies _ (by rfl) _ _ _ (by rfl) w.heap.size 9 s0 _ 1 16 Try.underlying22 si0 sz0 sz1 sz2 rfl (by omega) (.slice fa j fc) j ((manyF j).map Value.string) (by rfl) (by have := (HM.out.files.alloc (.cells #[.int .u8 (97 + (j : Int))] 5)).alloc (.cells #[.string id] 9); rw [manyF_len] at this; exact this) ⟨wr.heap.size + 1, 0, none⟩ 1 1 [.string id] (by rfl) (by rfl) (news2 wr _ #[.string id] 9) (by simp [Value.oneCell']) (by omega) (by unfold maxLen; omega) (by omega) (by have := HW.out.size; simp; omega) (wr.heap.size + 2) (by simp) ?_; intro gb cap2 w3 hown hgrow hat hlt3; obtain ⟨G1, G2⟩ := HM.out.grewF BA2.out hgrow; have y1 : w3.cell? ⟨w1.heap.size, 0, none⟩ = some (.slice fa j fc) := G1.cell 0; have y2 : w3.frozen? ⟨w1.heap.size, 0, none⟩ = false := G1.free 0) | fail)
          have hb3 : Below w.heap.size w w3 := Keep.below (HW.out.trans (BA2.out.mono HW.out.size)) (Keep.grown hgrow) (fun i hi e => by have := (own_lt HM.out.files e).2; omega)
          refine ⟨⟨j + 1, _, by omega, by go_num, hb3.setCell (by exact hB) _, MB.putF G1 G2 hown (by rw [manyF_len]) hnx.out.symm⟩, ?_⟩
          first | omega | (simp [intOf]; omega)
        · obtain rfl : j = ff := by omega
          obtain ⟨e1, e2, A4⟩ := HM.out.at (by rw [manyF_len]; omega) (by rw [manyL_len]; omega) (manyF_fine j) (manyL_fine k)
          have E1 := hideT e1
          have E2 := hideT e2
          have HA4 := hideT A4
          have HB0 := hideT (many_is k j (by omega) (by omega))
          clear e1 e2 hlt A4
          by_cases hi : k + 1 ≤ 16
          · by_cases hf : j ≤ 6
            · have hB0 := HB0.out
              rw [decide_eq_true hi, decide_eq_true hf] at hB0
              have HB1 := hideT hB0
              clear hB0
              go_wp2_with fail
              refine (isVV _ _ _ _ _ _ _ _ HA4.out E1.out.symm E2.out.symm true HB1).mono ?_
              rintro e w5 ⟨rfl, p5⟩
              have B5 := hideT (HW.out.trans (p5.mono HW.out.size))
              clear p5
              go_wp2_with fail
              refine (knownD _).mono ?_
              rintro e w6 ⟨rfl, p6⟩
              go_wp2_with fail
              go_ret
              exact ⟨rfl, B5.out.trans (p6.mono B5.out.size)⟩
            · have hB0 := HB0.out
              rw [decide_eq_false hf, Bool.and_false] at hB0
              have HB1 := hideT hB0
              clear hB0
              go_wp2_with fail
              refine (isVV _ _ _ _ _ _ _ _ HA4.out E1.out.symm E2.out.symm false HB1).mono ?_
              rintro e w5 ⟨rfl, p5⟩
              have B5 := hideT (HW.out.trans (p5.mono HW.out.size))
              clear p5
              go_wp2_with fail
              refine (knownD _).mono ?_
              rintro e w6 ⟨rfl, p6⟩
              go_wp2_with fail
              go_ret
              exact ⟨ret_b (a := !decide ((j : Int) ≤ 6)) (by rw [decide_eq_false (by omega)]; rfl), B5.out.trans (p6.mono B5.out.size)⟩
          · have hB0 := HB0.out
            rw [decide_eq_false hi, Bool.false_and] at hB0
            have HB1 := hideT hB0
            clear hB0
            go_wp2_with fail
            refine (isVV _ _ _ _ _ _ _ _ HA4.out E1.out.symm E2.out.symm false HB1).mono ?_
            rintro e w5 ⟨rfl, p5⟩
            have B5 := hideT (HW.out.trans (p5.mono HW.out.size))
            clear p5
            go_wp2_with fail
            refine (knownD _).mono ?_
            rintro e w6 ⟨rfl, p6⟩
            go_wp2_with fail
            go_ret
            exact ⟨rfl, B5.out.trans (p6.mono B5.out.size)⟩
end Go.Proofs.Ytfbnlplafkangab
