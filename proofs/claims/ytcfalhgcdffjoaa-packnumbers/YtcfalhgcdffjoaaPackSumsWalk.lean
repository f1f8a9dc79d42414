/-
  PackSums: a sum hangs on each byte.
-/
import Derived.Test.YtcfalhgcdffjoaaPartU
set_option linter.unusedSimpArgs false
set_option linter.unusedVariables false
namespace Go.Proofs.Ytcfalhgcdffjoaa
open Go.RowKit
set_option maxRecDepth 100000
theorem and16 (x : Int) : bits .and .i64 x 65535 = x % 65536 := by
  have e : BitVec.ofInt IntKind.i64.bits x = BitVec.ofNat IntKind.i64.bits (x % 18446744073709551616).toNat := by
    apply BitVec.eq_of_toNat_eq
    rw [BitVec.toNat_ofInt, BitVec.toNat_ofNat]
    show (x % 18446744073709551616).toNat = (x % 18446744073709551616).toNat % 18446744073709551616
    omega
  have e2 : (65535 : Int) = ((65535 : Nat) : Int) := rfl
  rw [e2]
  simp only [bits, e, BitVec.ofInt_natCast, BitVec.toNat_and, BitVec.toNat_ofNat]
  show IntKind.i64.wrap (((x % 18446744073709551616).toNat % 18446744073709551616 &&& (2 ^ 16 - 1) : Nat) : Int) = _
  rw [Nat.and_two_pow_sub_one_eq_mod, IntKind.wrap_i64]
  omega
theorem xor8 (a b : Nat) (ha : a < 256) (hb : b < 256) : bits .xor .u8 (a : Int) (b : Int) = ((a ^^^ b : Nat) : Int) ∧ a ^^^ b < 256 := by
  have h : a ^^^ b < 2 ^ 8 := Nat.xor_lt_two_pow ha hb
  refine ⟨?_, h⟩
  simp only [bits, BitVec.ofInt_natCast, BitVec.toNat_xor, BitVec.toNat_ofNat]
  show IntKind.u8.wrap ((a % 256 ^^^ b % 256 : Nat) : Int) = _
  rw [Nat.mod_eq_of_lt ha, Nat.mod_eq_of_lt hb, IntKind.wrap_u8]
  omega
theorem xor_ne (a b : Nat) (hb : b ≠ 0) : a ^^^ b ≠ a := by
  intro h
  have : a ^^^ (a ^^^ b) = 0 := by rw [h, Nat.xor_self]
  rw [← Nat.xor_assoc, Nat.xor_self, Nat.zero_xor] at this
  exact hb this
/-- A byte that is turned. -/
theorem turned (y : UInt8) (z : Int) (h0 : 0 < z) (h1 : z < 256) : ∃ c : UInt8, bits .xor .u8 (y.toNat : Int) z = c.toNat ∧ c ≠ y := by
  obtain ⟨n, rfl⟩ : ∃ n : Nat, z = n := ⟨z.toNat, by omega⟩
  obtain ⟨e, hl⟩ := xor8 y.toNat n y.toNat_lt (by omega)
  refine ⟨UInt8.ofNat (y.toNat ^^^ n), ?_, fun h => ?_⟩
  · rw [e, UInt8.toNat_ofNat', Nat.mod_eq_of_lt hl]
  · have := congrArg UInt8.toNat h
    rw [UInt8.toNat_ofNat', Nat.mod_eq_of_lt hl] at this
    exact xor_ne _ _ (by omega) this
theorem bytes_set (l : List UInt8) (k : Nat) (c : UInt8) : Lib.byteCells (l.set k c) = (Lib.byteCells l).set k (.int .u8 c.toNat) := by
  unfold Lib.byteCells
  rw [List.map_set]
theorem brow_nil (w : World) : BRow w (.slice none 0 0) [] := ⟨0, 0, none, 0, rfl, Nat.le_refl _, fun h => absurd h (Nat.lt_irrefl 0), Nat.zero_le _, fun i x hx => by simp at hx⟩
set_option maxHeartbeats 4000000 in
theorem packSums_walk (v0 : Value) (l : List UInt8) {w : World} (hb : BRow w v0 l) (at_ : Int) (h1 : (Lit.int .i64 at_).wf = true) (by_ : Int) (h2 : (Lit.int .u8 by_).wf = true) :
    Calls Try.prog 5 #[v0, .int .i64 at_, .int .u8 by_] w fun e w' => e = .returned (.bool true) ∧ Below w.heap.size w w' := by
  have hy : 0 ≤ by_ ∧ by_ < 256 := by
    simp [Lit.wf] at h2
    have a : IntKind.u8.min = 0 := by decide
    have b : IntKind.u8.max = 255 := by decide
    omega
  obtain ⟨hy0, hy1⟩ := hy
  clear h1 h2
  have HV := hideT hb
  obtain ⟨b, o, ao, cap, rfl, g2, g3, g4, g5⟩ := hb
  have HA := hideT g3
  have HC := hideT g5
  clear g3 g5
  by_cases r1 : l.length < 1
  · go_enter Try.func5, Try.ntmps5
    go_wp2_with fail
    all_goals go_ret
    all_goals exact ⟨rfl, Below.refl _ _⟩
  by_cases r2 : 3000 < l.length
  · go_enter Try.func5, Try.ntmps5
    go_wp2_with fail
    all_goals go_ret
    all_goals exact ⟨rfl, Below.refl _ _⟩
  by_cases r3 : by_ = 0
  · go_enter Try.func5, Try.ntmps5
    go_wp2_with fail
    all_goals go_ret
    all_goals exact ⟨rfl, Below.refl _ _⟩
  obtain rfl := HA.out (by omega)
  obtain ⟨i0, hi0, hz0, hz1, hz2⟩ := info_parts infoB
  have hbl : (Lib.byteCells l).length = l.length * 1 := by rw [Lib.byteCells_length, Nat.mul_one]
  obtain ⟨W1, hW1⟩ : ∃ W1, w.alloc (.cells #[] 5) = W1 := ⟨_, rfl⟩
  obtain ⟨B1, L1, z1⟩ := of_alloc hW1
  have HB1 := hideT B1
  have HO1 : Hid (W1.ownsRow w.heap.size 5 1 (.slice (some ⟨w.heap.size, 0, none⟩) 0 0) 0 []) := own_of_lies (z := 1) (n := 0) L1 (Nat.le_refl _) rfl (by decide)
  have HCX : Hid (∀ (j : Nat) v, (Lib.byteCells l)[j]? = some v → W1.cell? ((⟨b, o, none⟩ : Addr).add j) = some v) := by
    intro j v hj
    unfold Lib.byteCells at hj
    rw [List.getElem?_map] at hj
    cases hlj : l[j]? with
    | none => rw [hlj] at hj; cases hj
    | some x =>
      rw [hlj] at hj
      obtain rfl := Option.some.inj hj
      rw [show (⟨b, o, none⟩ : Addr).add j = ⟨b, o + j, none⟩ by unfold Addr.add; split <;> simp_all]
      exact below_cell B1 _ _ (HC.out j x hlj)
  have hz := B1.size
  have HW1 := hideT hW1
  have ha16 := and16 at_
  obtain ⟨k, ek⟩ : ∃ k : Nat, at_ % 65536 % (l.length : Int) = k := ⟨(at_ % 65536 % (l.length : Int)).toNat, by
    have := Int.emod_nonneg (at_ % 65536) (show (l.length : Int) ≠ 0 by omega)
    omega⟩
  have hk : k < l.length := by
    have := Int.emod_lt_of_pos (at_ % 65536) (show (0 : Int) < l.length by omega)
    omega
  obtain ⟨x, hx⟩ := Mp.at_lt hk
  have HX := hideT hx
  obtain ⟨c, ec, hcx⟩ := turned x by_ (by omega) hy1
  have HCX2 := hideT hcx
  have HNE := hideT (Kp.sum_set hx hcx)
  have q1 : ¬ ((l.length : Int) < 1) := by omega
  have q2 : ¬ (3000 < (l.length : Int)) := by omega
  have HYK : Hid ((Lib.byteCells l)[k]? = some (.int .u8 x.toNat)) := by
    show _ = _
    unfold Lib.byteCells
    rw [List.getElem?_map, hx]
    rfl
  obtain ⟨s1, ES1⟩ : ∃ s1, Hid (Kp.sum (l.set k c) = s1) := ⟨_, rfl⟩
  obtain ⟨s2, ES2⟩ : ∃ s2, Hid (Kp.sum l = s2) := ⟨_, rfl⟩
  have hne : ¬ (s1 : Int) = s2 := by
    have := HNE.out
    rw [ES1.out, ES2.out] at this
    omega
  have hsl : (l.set k c).length = l.length := List.length_set
  clear hW1 B1 L1 hx hcx HCX2 HNE
  go_enter Try.func5, Try.ntmps5
  go_wp2_with (first | (at_builtin; rw [HW1.out]; refine wpList_append_lies _ (by rfl) _ _ _ (by rfl) w.heap.size 5 i0 _ 1 1 Try.underlying27 hi0 hz0 hz1 hz2 rfl (by omega) (.slice (some ⟨w.heap.size, 0, none⟩) 0 0) 0 [] (by rfl) HO1.out ⟨b, o, none⟩ l.length cap (Lib.byteCells l) (by rfl) hbl HCX.out (Lib.byteCells_one l) (by omega) (by unfold maxLen; omega) (by omega) hz W1.heap.size rfl ?_; intro gb cap2 w3 hown hgrow hat hlt3; have hown2 : w3.ownsRow w.heap.size 5 1 (.slice (some ⟨gb, 0, none⟩) l.length cap2) l.length (Lib.byteCells l) := (by have h := hown; rw [Nat.zero_add] at h; exact h); have y0 := own_cell hown2 HYK.out; have y1 := own_free hown2 k) | fail)
  have b3 : Below w.heap.size w w3 := ⟨hgrow.os.trans HB1.out.os, hgrow.tape.trans HB1.out.tape, hgrow.output.trans HB1.out.output, Nat.le_trans hz hgrow.size, fun i hi => (hgrow.block i (by omega) (fun e => by have : w.heap.size = i := Option.some.inj e.symm; omega)).trans (HB1.out.block i hi)⟩
  have hgb : w.heap.size ≤ gb := (own_lt hown2 rfl).2
  obtain ⟨W4, hW4⟩ : ∃ W4, w3.setCell ⟨gb, k, none⟩ (.int .u8 c.toNat) = W4 := ⟨_, rfl⟩
  have B4 : Hid (Below w.heap.size w W4) := by rw [← hW4]; exact b3.setCell hgb _
  have R4 : Hid (BRow W4 (.slice (some ⟨gb, 0, none⟩) l.length cap2) (l.set k c)) := by
    have h1 := own_set hown2 k (.int .u8 c.toNat)
    rw [hW4, ← bytes_set, ← hsl] at h1
    rw [← hsl]
    exact brow_own h1 (by omega)
  rw [hW4]
  refine (sumD W4 _ _ R4.out s1 ES1).mono ?_
  rintro e w5 ⟨rfl, rfl⟩
  have V4 := hideT (brow_below HV.out B4.out)
  clear y0 y1 hown hown2 hgrow hat hlt3 hW4 b3
  go_wp2_with fail
  refine (sumD _ _ _ V4.out s2 ES2).mono ?_
  rintro e w6 ⟨rfl, rfl⟩
  go_wp2_with fail
  refine (sumD _ _ _ (brow_nil _) 1 (by show _ = _; rfl)).mono ?_
  rintro e w7 ⟨rfl, rfl⟩
  go_wp2_with fail
  refine (known6 _).mono ?_
  rintro e w8 ⟨rfl, b8⟩
  have B8 := hideT (B4.out.trans (b8.mono B4.out.size))
  clear b8
  go_wp2_with fail
  go_ret
  exact ⟨ret_b (a := ((s1 : Int) != s2)) (bne_iff_ne.2 hne), B8.out⟩
end Go.Proofs.Ytcfalhgcdffjoaa
