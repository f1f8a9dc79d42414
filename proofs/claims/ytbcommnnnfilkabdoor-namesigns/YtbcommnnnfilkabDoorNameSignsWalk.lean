/-
  The law NameSigns, walked.
-/
import Derived.Test.YtbcommnnnfilkabDoorKnown
import Derived.Test.YtbcommnnnfilkabDoorSigns
import Derived.Test.YtbcommnnnfilkabDoorPlain11
import Derived.OpenShut
set_option linter.unusedSimpArgs false
namespace Go.Proofs.YtbcommnnnfilkabDoor
open Go.RowKit

theorem signsS_v (s : ByteArray) (w : World) (hs : s.size ≤ 1000000) (hw : Ok w) (b : Bool) (h : Hid (Sp.signsB s.data.toList = b)) :
    Calls Tryd.prog 6 #[.string s] w fun e w' => e = .returned (.bool b) ∧ Below w.heap.size w w' := by
  have := signs_any s w hs hw
  rw [h.out] at this
  exact this

/-- 'string([]byte{c})'. -/
theorem conv_byte (c : UInt8) (w : World) : (convert 31 9 (.slice (some ⟨w.heap.size, 0, none⟩) 1 1)).run Tryd.prog (w.alloc (.cells #[.int .u8 c.toNat] 5)) = .ok (.string ⟨#[c]⟩) (w.alloc (.cells #[.int .u8 c.toNat] 5)) := by
  refine run_convert_bytes_back (P := Tryd.prog) (w.alloc (.cells #[.int .u8 c.toNat] 5)) 31 9 5 ⟨w.heap.size, 0, none⟩ 1 [c] Tryd.underlying31 Tryd.underlying5 Tryd.underlying9 ?_
  intro j hj
  obtain rfl : j = 0 := by simpa using hj
  show (w.alloc (.cells #[.int .u8 c.toNat] 5)).cell? ⟨w.heap.size, 0, none⟩ = _
  rw [cell_new]
  rfl

set_option maxHeartbeats 1000000 in
set_option maxRecDepth 100000 in
theorem nameSigns_in (a : ByteArray) (c : UInt8) (w : World) (hw : Ok w) (hs : a.size ≤ 100) (ha : Sp.signsB a.data.toList = true) :
    Calls Tryd.prog 5 #[.string a, .int .u8 c.toNat] w fun e w' => e = .returned (.bool true) ∧ Below w.heap.size w w' := by
  have HW : Hid (Ok w) := hw
  have HA : Hid (Sp.signsB a.data.toList = true) := ha
  clear hw ha
  have hc := UInt8.toNat_lt c
  obtain ⟨z, HZ⟩ : ∃ z : ByteArray, Hid (a ++ ⟨#[c]⟩ = z) := ⟨a ++ (⟨#[c]⟩ : ByteArray), rfl⟩
  have HZL : Hid (z.data.toList = a.data.toList ++ [c]) := by
    show z.data.toList = _
    rw [← HZ.out, Sp.cat_data]
  have hz : z.size ≤ 101 := by
    rw [← Sp.len_byte, HZL.out, List.length_append, Sp.len_byte]
    simp
    omega
  obtain ⟨x, HX⟩ : ∃ x : ByteArray, Hid (x = ⟨(Sp.esc false z.data.toList).toArray⟩) := ⟨(⟨(Sp.esc false z.data.toList).toArray⟩ : ByteArray), rfl⟩
  have HXL : Hid (x.data.toList = Sp.esc false z.data.toList) := Sp.ba_eq HX.out
  have hx : x.size ≤ 1000000 := by
    have := Sp.esc_le false z.data.toList
    rw [← HXL.out, Sp.len_byte, Sp.len_byte] at this
    omega
  obtain ⟨t, b, HU⟩ : ∃ t b, Hid (Sp.textV (Sp.unesc x.data.toList) = .tuple #[.string t, .bool b]) := ⟨_, _, rfl⟩
  have HB : Hid (b = Sp.okByte c) := by
    show b = Sp.okByte c
    rw [← Sp.unesc_byte a.data.toList c HA.out, ← HZL.out, ← HXL.out]
    have := HU.out
    simp only [Sp.textV, Value.tuple.injEq, Array.mk.injEq, List.cons.injEq, Value.bool.injEq, and_true] at this
    exact this.2.symm
  have hcs : (b = true ∧ 32 ≤ c.toNat ∧ c.toNat < 128) ∨ (b = true ∧ c.toNat < 32 ∧ c.toNat = 9) ∨ (b = true ∧ c.toNat < 32 ∧ c.toNat = 10) ∨ (b = true ∧ c.toNat < 32 ∧ c.toNat = 13) ∨ (b = false ∧ c.toNat < 32 ∧ c.toNat ≠ 9 ∧ c.toNat ≠ 10 ∧ c.toNat ≠ 13) ∨ (b = false ∧ 128 ≤ c.toNat) := by
    have e := HB.out
    by_cases h : (32 ≤ c.toNat ∧ c.toNat < 128) ∨ c.toNat = 9 ∨ c.toNat = 10 ∨ c.toNat = 13
    · have e2 : b = true := by rw [e, Sp.okByte, decide_eq_true h]
      rcases h with h | h | h | h
      · exact Or.inl ⟨e2, h.1, h.2⟩
      · exact Or.inr (Or.inl ⟨e2, by omega, h⟩)
      · exact Or.inr (Or.inr (Or.inl ⟨e2, by omega, h⟩))
      · exact Or.inr (Or.inr (Or.inr (Or.inl ⟨e2, by omega, h⟩)))
    · have e2 : b = false := by rw [e, Sp.okByte, decide_eq_false h]
      by_cases h2 : c.toNat < 32
      · exact Or.inr (Or.inr (Or.inr (Or.inr (Or.inl ⟨e2, by omega, by omega, by omega, by omega⟩))))
      · exact Or.inr (Or.inr (Or.inr (Or.inr (Or.inr ⟨e2, by omega⟩))))
  go_enter Tryd.func5, Tryd.ntmps5
  go_wp2_with fail
  refine (signsS_v a _ (by omega) HW.out true HA).mono ?_
  rintro e w1 ⟨rfl, b1⟩
  have z1 := b1.size
  have W1 : Hid (Ok w1) := HW.out.below b1
  have hcv := conv_byte c w1
  rcases hcs with ⟨rfl, c1, c2⟩ | ⟨rfl, c1, c2⟩ | ⟨rfl, c1, c2⟩ | ⟨rfl, c1, c2⟩ | ⟨rfl, c1, c2, c3, c4⟩ | ⟨rfl, c1⟩
  case' inr.inl => have t1 : ((c.toNat : Int) == 9) = true := by rw [beq_iff_eq]; omega
  case' inr.inr.inl =>
    have t1 : ((c.toNat : Int) == 9) = false := by rw [beq_eq_false_iff_ne]; omega
    have t2 : ((c.toNat : Int) == 10) = true := by rw [beq_iff_eq]; omega
  case' inr.inr.inr.inl =>
    have t1 : ((c.toNat : Int) == 9) = false := by rw [beq_eq_false_iff_ne]; omega
    have t2 : ((c.toNat : Int) == 10) = false := by rw [beq_eq_false_iff_ne]; omega
    have t3 : ((c.toNat : Int) == 13) = true := by rw [beq_iff_eq]; omega
  case' inr.inr.inr.inr.inl =>
    have t1 : ((c.toNat : Int) == 9) = false := by rw [beq_eq_false_iff_ne]; omega
    have t2 : ((c.toNat : Int) == 10) = false := by rw [beq_eq_false_iff_ne]; omega
    have t3 : ((c.toNat : Int) == 13) = false := by rw [beq_eq_false_iff_ne]; omega
  case' inr.inr.inr.inr.inr =>
    have t1 : ((c.toNat : Int) == 9) = false := by rw [beq_eq_false_iff_ne]; omega
    have t2 : ((c.toNat : Int) == 10) = false := by rw [beq_eq_false_iff_ne]; omega
    have t3 : ((c.toNat : Int) == 13) = false := by rw [beq_eq_false_iff_ne]; omega
  case' inr.inl => clear c2
  case' inr.inr.inl => clear c2
  case' inr.inr.inr.inl => clear c2
  all_goals go_wp2_with fail
  all_goals rw [HZ.out]
  all_goals refine (escape_v z _ _ (by omega) x HX).mono ?_
  all_goals rintro e w2 ⟨rfl, b2⟩
  all_goals have z2 := b2.size
  all_goals simp only [World.size_alloc] at z2 b2
  all_goals have W2 : Hid (Ok w2) := (W1.out.below ((Below.refl _ _).alloc (Nat.le_refl _) _)).below (by simpa using b2)
  all_goals go_wp2_with fail
  all_goals refine (unescape_v x _ hx W2.out t _ HU).mono ?_
  all_goals rintro e w3 ⟨rfl, b3⟩
  all_goals have z3 := b3.size
  all_goals have W3 : Hid (Ok w3) := W2.out.below b3
  all_goals go_wp2_with fail
  all_goals refine (known_any _ W3.out).mono ?_
  all_goals rintro e w4 ⟨rfl, b4⟩
  all_goals go_wp2_with fail
  all_goals go_ret
  all_goals exact ⟨Sp.ret_bool (by first | rfl | (simp; omega)), ((((b1.alloc (by omega) _).trans (b2.mono (by omega))).trans (b3.mono (by omega))).trans (b4.mono (by omega)))⟩

theorem nameSigns_walk (a : ByteArray) (_ma : a.size ≤ maxLen) (c : Int) (hc : (Lit.int .u8 c).wf = true) (w : World) (hw : Ok w) :
    Calls Tryd.prog 5 #[.string a, .int .u8 c] w fun e w' => e = .returned (.bool true) ∧ Below w.heap.size w w' := by
  have hb := bounds_u8 hc
  have hcc : c = ((c.toNat.toUInt8).toNat : Int) := by rw [Sp.byte_toNat c (by omega) (by omega)]; omega
  rw [hcc]
  generalize c.toNat.toUInt8 = d
  clear hcc hb hc
  by_cases h1 : 100 < a.size
  · clear hw
    go_enter Tryd.func5, Tryd.ntmps5
    go_wp2
    go_ret
    exact ⟨rfl, Below.refl _ _⟩
  cases ha : Sp.signsB a.data.toList
  · have HW : Hid (Ok w) := hw
    have HA : Hid (Sp.signsB a.data.toList = false) := ha
    clear hw ha
    go_enter Tryd.func5, Tryd.ntmps5
    go_wp2_with fail
    refine (signsS_v a _ (by omega) HW.out false HA).mono ?_
    rintro e w1 ⟨rfl, b1⟩
    go_wp2_with fail
    go_ret
    exact ⟨rfl, b1⟩
  exact nameSigns_in a d w hw (by omega) ha
end Go.Proofs.YtbcommnnnfilkabDoor
