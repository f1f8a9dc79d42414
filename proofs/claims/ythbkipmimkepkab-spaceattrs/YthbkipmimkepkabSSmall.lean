/-
  Small parts of package space: a copy of a text, an attribute, which prefixes may be; name.Split.
-/
import Derived.Test.YthbkipmimkepkabSMap
import Derived.Test.YthbkipmimkepkabShelf
import Derived.Test.YthbkipmimkepkabShelfT
import Derived.Test.YthbkipmimkepkabPlain7
import Derived.Deep.RegionHeld3
import Derived.Deep.RegionWith
set_option linter.unusedSimpArgs false
set_option linter.unusedVariables false
namespace Go.Proofs.Ythbkipmimkepkab
open Go.RowKit
/-- What the library's variable holds: whatever number internal/bytealg.MaxLen is. -/
def OkS (w : World) : Prop := ∃ m, w.cell? ⟨0, 0, none⟩ = some (.int .i64 m)
theorem OkS.lt {w : World} (h : OkS w) : 0 < w.heap.size := by
  obtain ⟨m, h⟩ := h
  exact cell_lt h
theorem OkS.below {w w' : World} {B : Nat} (h : OkS w) (hb : Below B w w') (hB : 0 < B) : OkS w' := by
  obtain ⟨m, h⟩ := h
  exact ⟨m, by rw [hb.cell hB]; exact h⟩
theorem ret_b {a v : Bool} (h : a = v) : Ending.returned (.bool a) = .returned (.bool v) := by rw [h]
theorem cloneD (s : ByteArray) (w : World) (hs : s.size ≤ 140000000000000) :
    Calls Try.prog 14 #[.string s] w fun e w' => e = .returned (.string s) ∧ Below w.heap.size w w' := by
  go_enter Try.func14, Try.ntmps14
  go_wp2_with fail
  refine (Try.stringslite_Clone s _ (by omega)).mono ?_
  rintro e w1 ⟨rfl, b1⟩
  go_wp2_with fail
  go_ret
  exact ⟨rfl, b1⟩
theorem newAttrD (a b : ByteArray) (w : World) (ha : a.size ≤ 140000000000000) (hb : b.size ≤ 140000000000000) :
    Calls Try.prog 17 #[.string a, .string b] w fun e w' => e = .returned (.agg #[.string a, .string b]) ∧ Below w.heap.size w w' := by
  go_enter Try.func17, Try.ntmps17
  go_wp2_with fail
  refine (cloneD a _ ha).mono ?_
  rintro e w1 ⟨rfl, b1⟩
  have z1 : w.heap.size < w1.heap.size := by have := b1.size; simp at this; omega
  have B1 : Hid (Below w.heap.size w w1) := ((Below.refl _ w).alloc (Nat.le_refl _) _).trans (b1.mono (by simp))
  have L1 : Hid (Lies w1 w.heap.size 24 #[.string ⟨#[]⟩, .string ⟨#[]⟩]) := (Lies.new w 24 #[.string ⟨#[]⟩, .string ⟨#[]⟩]).below b1
  clear b1
  go_wp2_with fail
  refine (cloneD b _ hb).mono ?_
  rintro e w2 ⟨rfl, b2⟩
  have z2 : w.heap.size < w2.heap.size := by have := b2.size; omega
  have B2 : Hid (Below w.heap.size w w2) := B1.out.trans (b2.mono (by omega))
  have L2 := hideT (L1.out.below b2)
  have x0 : w2.cell? ⟨w.heap.size, 0, none⟩ = some (.string ⟨#[]⟩) := L2.out.cell 0
  have x1 : w2.cell? ⟨w.heap.size, 1, none⟩ = some (.string ⟨#[]⟩) := L2.out.cell 1
  have f0 : w2.frozen? ⟨w.heap.size, 0, none⟩ = false := L2.out.free 0
  have f1 : w2.frozen? ⟨w.heap.size, 1, none⟩ = false := L2.out.free 1
  clear b2
  obtain ⟨X, hX, bX, lX⟩ : ∃ X, (w2.setCell ⟨w.heap.size, 0, none⟩ (.string a)).setCell ⟨w.heap.size, 1, none⟩ (.string b) = X ∧ Below w.heap.size w X ∧ Lies X w.heap.size 24 #[.string a, .string b] :=
    ⟨_, rfl, (B2.out.setCell (Nat.le_refl _) _).setCell (Nat.le_refl _) _, (L2.out.set 0 _).set 1 _⟩
  go_wp2_with fail
  try rw [hX]
  have r0 : X.cell? ⟨w.heap.size, 0, none⟩ = some (.string a) := lX.cell 0
  have r1 : X.cell? ⟨w.heap.size, 1, none⟩ = some (.string b) := lX.cell 1
  refine bodyPost_ret (v := .agg #[.string a, .string b]) (by simp [results, Try.results17, go_sem, r0, r1]) rfl ⟨rfl, bX⟩
theorem toList_inj {a b : ByteArray} (h : a.toList = b.toList) : a = b := by
  rw [Lib.toList_data, Lib.toList_data] at h
  exact Xp.ba_inj h
theorem tl_ne {a : ByteArray} (b : ByteArray) (l : List UInt8) (h : a ≠ b) (hb : b.data.toList = l) : ¬ a.toList = l := fun e => h (Xp.ba_inj (by rw [hb, ← e, Lib.toList_data]))
theorem tl_beq {a : ByteArray} (b : ByteArray) (l : List UInt8) (h : a ≠ b) (hb : b.data.toList = l) : (a.toList == l) = false := beq_eq_false_iff_ne.2 (tl_ne b l h hb)
theorem tl_empty {a : ByteArray} (h : a ≠ e0) : ¬ a.toList = [] ∧ a.toList.isEmpty = false := by
  have h1 : ¬ a.toList = [] := tl_ne e0 [] h rfl
  exact ⟨h1, by cases h2 : a.toList with | nil => exact absurd h2 h1 | cons _ _ => rfl⟩
abbrev xmlB : ByteArray := ⟨#[120, 109, 108]⟩
abbrev xmlnsB : ByteArray := ⟨#[120, 109, 108, 110, 115]⟩
def mayB (p s : ByteArray) : Bool := !decide (s = e0) && !decide (p = xmlB) && !decide (p = xmlnsB)
theorem mayD (p s : ByteArray) (w : World) :
    Calls Try.prog 18 #[.string p, .string s] w fun e w' => e = .returned (.bool (mayB p s)) ∧ w' = w := by
  by_cases h1 : s = e0
  · have HM : Hid (mayB p s = false) := by show _ = _; simp [mayB, h1]
    subst h1
    go_enter Try.func18, Try.ntmps18
    go_wp2_with fail
    go_ret
    exact ⟨ret_b HM.out.symm, rfl⟩
  by_cases h2 : p = xmlB
  · have HM : Hid (mayB p s = false) := by show _ = _; simp [mayB, h2]
    obtain ⟨t1, t2⟩ := tl_empty h1
    clear h1
    subst h2
    go_enter Try.func18, Try.ntmps18
    go_wp2_with fail
    go_ret
    exact ⟨ret_b HM.out.symm, rfl⟩
  by_cases h3 : p = xmlnsB
  · have HM : Hid (mayB p s = false) := by show _ = _; simp [mayB, h3]
    obtain ⟨t1, t2⟩ := tl_empty h1
    clear h1 h2
    subst h3
    go_enter Try.func18, Try.ntmps18
    go_wp2_with fail
    go_ret
    exact ⟨ret_b HM.out.symm, rfl⟩
  have HM : Hid (mayB p s = true) := by show _ = _; simp [mayB, h1, h2, h3]
  obtain ⟨t1, t2⟩ := tl_empty h1
  have u1 : ¬ p.toList = [120, 109, 108] := tl_ne xmlB _ h2 rfl
  have u2 : (p.toList == [120, 109, 108]) = false := tl_beq xmlB _ h2 rfl
  have v1 : ¬ p.toList = [120, 109, 108, 110, 115] := tl_ne xmlnsB _ h3 rfl
  have v2 : (p.toList == [120, 109, 108, 110, 115]) = false := tl_beq xmlnsB _ h3 rfl
  clear h1 h2 h3
  go_enter Try.func18, Try.ntmps18
  go_wp2_with fail
  go_ret
  refine ⟨ret_b ?_, rfl⟩
  try rw [HM.out]
  try first | rfl | (simp [t1, t2, u1, u2, v1, v2]; done)
/-- name.Split. -/
def splitB (s : ByteArray) : ByteArray × ByteArray := (⟨(Sp.splitL s.data.toList).1.toArray⟩, ⟨(Sp.splitL s.data.toList).2.toArray⟩)
theorem cut_yesS (s : ByteArray) (w : World) (hs : s.size ≤ 1000000) (hw : OkS w) (n : Nat) (h : Hid (Lib.indexByte s.data.toList 58 = n)) (p q : ByteArray) (hp : Hid (p = ⟨(s.data.toList.take n).toArray⟩)) (hq : Hid (q = ⟨(s.data.toList.drop (n + 1)).toArray⟩)) :
    Calls Try.prog 19 #[.string s, .string ⟨#[58]⟩] w fun e w' => e = .returned (.tuple #[.string p, .string q, .bool true]) ∧ Below w.heap.size w w' := by
  obtain ⟨m, hm⟩ := hw
  have := Try.strings_Cut s ⟨#[58]⟩ m w (by omega) hm
  rw [show (⟨#[58]⟩ : ByteArray).data.toList = [58] from rfl, Sp.cut_found _ n h.out, ← hp.out, ← hq.out] at this
  refine this.mono ?_
  rintro e w' ⟨rfl, k, rfl⟩
  exact ⟨rfl, below_drewN (Below.refl _ _) k⟩
theorem cut_noS (s : ByteArray) (w : World) (hs : s.size ≤ 1000000) (hw : OkS w) (h : Hid (Lib.indexByte s.data.toList 58 < 0)) :
    Calls Try.prog 19 #[.string s, .string ⟨#[58]⟩] w fun e w' => e = .returned (.tuple #[.string s, .string ⟨#[]⟩, .bool false]) ∧ Below w.heap.size w w' := by
  obtain ⟨m, hm⟩ := hw
  have := Try.strings_Cut s ⟨#[58]⟩ m w (by omega) hm
  rw [show (⟨#[58]⟩ : ByteArray).data.toList = [58] from rfl, Sp.cut_none _ h.out] at this
  refine this.mono ?_
  rintro e w' ⟨rfl, k, rfl⟩
  exact ⟨rfl, below_drewN (Below.refl _ _) k⟩
theorem split_any0 (s : ByteArray) (w : World) (hs : s.size ≤ 1000000) (hw : OkS w) :
    Calls Try.prog 13 #[.string s] w fun e w' => e = .returned (Sp.twoV (Sp.splitL s.data.toList)) ∧ Below w.heap.size w w' := by
  have HW : Hid (OkS w) := hw
  clear hw
  by_cases hneg : Lib.indexByte s.data.toList 58 < 0
  · have HN : Hid (Lib.indexByte s.data.toList 58 < 0) := hneg
    have HF : Hid (Ending.returned (.tuple #[.string ⟨#[]⟩, .string s]) = .returned (Sp.twoV (Sp.splitL s.data.toList))) := by
      show Ending.returned (.tuple #[.string ⟨#[]⟩, .string s]) = .returned (Sp.twoV (Sp.splitL s.data.toList))
      rw [Sp.splitL_none _ hneg]
      rfl
    clear hneg
    go_enter Try.func13, Try.ntmps13
    go_wp2_with fail
    refine (cut_noS s _ hs HW.out HN).mono ?_
    rintro e w1 ⟨rfl, hb1⟩
    go_wp2_with fail
    go_ret2
    exact ⟨HF.out, hb1⟩
  · obtain ⟨n, hn⟩ := Int.eq_ofNat_of_zero_le (show 0 ≤ Lib.indexByte s.data.toList 58 by omega)
    have HN : Hid (Lib.indexByte s.data.toList 58 = n) := hn
    obtain ⟨p, HP⟩ : ∃ p : ByteArray, Hid (p = ⟨(s.data.toList.take n).toArray⟩) := ⟨(⟨(s.data.toList.take n).toArray⟩ : ByteArray), rfl⟩
    obtain ⟨q, HQ⟩ : ∃ q : ByteArray, Hid (q = ⟨(s.data.toList.drop (n + 1)).toArray⟩) := ⟨(⟨(s.data.toList.drop (n + 1)).toArray⟩ : ByteArray), rfl⟩
    have HF : Hid (Ending.returned (.tuple #[.string p, .string q]) = .returned (Sp.twoV (Sp.splitL s.data.toList))) := by
      show Ending.returned (.tuple #[.string p, .string q]) = .returned (Sp.twoV (Sp.splitL s.data.toList))
      rw [Sp.splitL_found _ n hn, HP.out, HQ.out]
      rfl
    clear hneg hn
    go_enter Try.func13, Try.ntmps13
    go_wp2_with fail
    refine (cut_yesS s _ hs HW.out n HN p q HP HQ).mono ?_
    rintro e w1 ⟨rfl, hb1⟩
    go_wp2_with fail
    go_ret2
    exact ⟨HF.out, hb1⟩

theorem splitD (s : ByteArray) (w : World) (hs : s.size ≤ 1000000) (hw : OkS w) (p q : ByteArray) (h : Hid (splitB s = (p, q))) :
    Calls Try.prog 13 #[.string s] w fun e w' => e = .returned (.tuple #[.string p, .string q]) ∧ Below w.heap.size w w' := by
  have h1 := h.out
  simp only [splitB, Prod.mk.injEq] at h1
  have := split_any0 s w hs hw
  unfold Sp.twoV at this
  rw [h1.1, h1.2] at this
  exact this
end Go.Proofs.Ythbkipmimkepkab
