/-
  What the calls ask of the world; name.Split, name.IsQual: each by its contract.
-/
import Derived.Test.YtbcommnnnfilkaaDoorIs
import Derived.Test.YtbcommnnnfilkaaDoorEscape
import Derived.Test.YtbcommnnnfilkaaDoorPlain6
set_option linter.unusedSimpArgs false
namespace Go.Proofs.YtbcommnnnfilkaaDoor
open Go.RowKit

/-- What the library's variables hold: the two tables of unicode/utf8, and whatever number internal/bytealg.MaxLen is. -/
def Ok (w : World) : Prop := Lib.Utf8Tabs 0 1 w ∧ ∃ m, w.cell? ⟨2, 0, none⟩ = some (.int .i64 m)
theorem cell_lt {w : World} {a : Addr} {v : Value} (h : w.cell? a = some v) : a.block < w.heap.size := by
  rcases Nat.lt_or_ge a.block w.heap.size with h' | h'
  · exact h'
  · unfold World.cell? at h
    rw [Array.getElem?_eq_none h'] at h
    cases h
theorem Ok.below {w w' : World} (h : Ok w) (hb : Below w.heap.size w w') : Ok w' := by
  obtain ⟨h1, m, h2⟩ := h
  refine ⟨Utf8Tabs_below h1 hb, m, ?_⟩
  rw [hb.cell (cell_lt h2)]
  exact h2

theorem cut_yes (s : ByteArray) (w : World) (hs : s.size ≤ 1000000) (hw : Ok w) (n : Nat) (h : Hid (Lib.indexByte s.data.toList 58 = n)) (p q : ByteArray) (hp : Hid (p = ⟨(s.data.toList.take n).toArray⟩)) (hq : Hid (q = ⟨(s.data.toList.drop (n + 1)).toArray⟩)) :
    Calls Tryd.prog 24 #[.string s, .string ⟨#[58]⟩] w fun e w' => e = .returned (.tuple #[.string p, .string q, .bool true]) ∧ Below w.heap.size w w' := by
  obtain ⟨_, m, hm⟩ := hw
  have := Tryd.strings_Cut s ⟨#[58]⟩ m w (by omega) hm
  rw [show (⟨#[58]⟩ : ByteArray).data.toList = [58] from rfl, Sp.cut_found _ n h.out, ← hp.out, ← hq.out] at this
  refine this.mono ?_
  rintro e w' ⟨rfl, k, rfl⟩
  exact ⟨rfl, below_drewN (Below.refl _ _) k⟩
theorem cut_no (s : ByteArray) (w : World) (hs : s.size ≤ 1000000) (hw : Ok w) (h : Hid (Lib.indexByte s.data.toList 58 < 0)) :
    Calls Tryd.prog 24 #[.string s, .string ⟨#[58]⟩] w fun e w' => e = .returned (.tuple #[.string s, .string ⟨#[]⟩, .bool false]) ∧ Below w.heap.size w w' := by
  obtain ⟨_, m, hm⟩ := hw
  have := Tryd.strings_Cut s ⟨#[58]⟩ m w (by omega) hm
  rw [show (⟨#[58]⟩ : ByteArray).data.toList = [58] from rfl, Sp.cut_none _ h.out] at this
  refine this.mono ?_
  rintro e w' ⟨rfl, k, rfl⟩
  exact ⟨rfl, below_drewN (Below.refl _ _) k⟩
theorem is_v (s : ByteArray) (w : World) (hs : s.size ≤ 1000000) (b : Bool) (h : Hid (Sp.isB s.data.toList = b)) :
    Calls Tryd.prog 13 #[.string s] w fun e w' => e = .returned (.bool b) ∧ w' = w := by
  have := is_any s w (by unfold maxLen; omega)
  rw [h.out] at this
  exact this

theorem split_any (s : ByteArray) (w : World) (hs : s.size ≤ 1000000) (hw : Ok w) :
    Calls Tryd.prog 9 #[.string s] w fun e w' => e = .returned (Sp.twoV (Sp.splitL s.data.toList)) ∧ Below w.heap.size w w' := by
  have HW : Hid (Ok w) := hw
  clear hw
  by_cases hneg : Lib.indexByte s.data.toList 58 < 0
  · have HN : Hid (Lib.indexByte s.data.toList 58 < 0) := hneg
    have HF : Hid (Ending.returned (.tuple #[.string ⟨#[]⟩, .string s]) = .returned (Sp.twoV (Sp.splitL s.data.toList))) := by
      show Ending.returned (.tuple #[.string ⟨#[]⟩, .string s]) = .returned (Sp.twoV (Sp.splitL s.data.toList))
      rw [Sp.splitL_none _ hneg]
      rfl
    clear hneg
    go_enter Tryd.func9, Tryd.ntmps9
    go_wp2_with fail
    refine (cut_no s _ hs HW.out HN).mono ?_
    rintro e w1 ⟨rfl, hb1⟩
    go_wp2_with fail
    go_ret2
    exact ⟨HF.out, hb1⟩
  · obtain ⟨n, hn⟩ := Int.eq_ofNat_of_zero_le (show 0 ≤ Lib.indexByte s.data.toList 58 by omega)
    have HN : Hid (Lib.indexByte s.data.toList 58 = n) := hn
    obtain ⟨p, HP⟩ : ∃ p : ByteArray, Hid (p = ⟨(s.data.toList.take n).toArray⟩) := ⟨(⟨(s.data.toList.take n).toArray⟩ : ByteArray), rfl⟩
    obtain ⟨q, HQ⟩ : ∃ q : ByteArray, Hid (q = ⟨(s.data.toList.drop (n + 1)).toArray⟩) := ⟨(⟨(s.data.toList.drop (n + 1)).toArray⟩ : ByteArray), rfl⟩
    have HF : Hid (Ending.returned (.tuple #[.string p, .string q]) = .returned (Sp.twoV (Sp.splitL s.data.toList))) := by
      show Ending.returned (.tuple #[.string p, .string q]) = .returned (Sp.twoV (Sp.splitL s.data.toList))
      rw [Sp.splitL_found _ n hn, HP.out, HQ.out]
      rfl
    clear hneg hn
    go_enter Tryd.func9, Tryd.ntmps9
    go_wp2_with fail
    refine (cut_yes s _ hs HW.out n HN p q HP HQ).mono ?_
    rintro e w1 ⟨rfl, hb1⟩
    go_wp2_with fail
    go_ret2
    exact ⟨HF.out, hb1⟩

theorem isQual_any (s : ByteArray) (w : World) (hs : s.size ≤ 1000000) (hw : Ok w) :
    Calls Tryd.prog 15 #[.string s] w fun e w' => e = .returned (.bool (Sp.qualB s.data.toList)) ∧ Below w.heap.size w w' := by
  have HW : Hid (Ok w) := hw
  clear hw
  by_cases hneg : Lib.indexByte s.data.toList 58 < 0
  · have HN : Hid (Lib.indexByte s.data.toList 58 < 0) := hneg
    obtain ⟨b, HB⟩ : ∃ b, Hid (Sp.isB s.data.toList = b) := ⟨Sp.isB s.data.toList, rfl⟩
    have HF : Hid (b = Sp.qualB s.data.toList) := by
      show b = Sp.qualB s.data.toList
      rw [Sp.qualB_none _ hneg, HB.out]
    clear hneg
    go_enter Tryd.func15, Tryd.ntmps15
    go_wp2_with fail
    refine (cut_no s _ hs HW.out HN).mono ?_
    rintro e w1 ⟨rfl, hb1⟩
    go_wp2_with fail
    refine (is_v s _ hs b HB).mono ?_
    rintro e w2 ⟨rfl, rfl⟩
    go_wp2_with fail
    go_ret
    exact ⟨Sp.ret_bool HF.out, hb1⟩
  · obtain ⟨n, hn⟩ := Int.eq_ofNat_of_zero_le (show 0 ≤ Lib.indexByte s.data.toList 58 by omega)
    have HN : Hid (Lib.indexByte s.data.toList 58 = n) := hn
    obtain ⟨p, HP⟩ : ∃ p : ByteArray, Hid (p = ⟨(s.data.toList.take n).toArray⟩) := ⟨(⟨(s.data.toList.take n).toArray⟩ : ByteArray), rfl⟩
    obtain ⟨q, HQ⟩ : ∃ q : ByteArray, Hid (q = ⟨(s.data.toList.drop (n + 1)).toArray⟩) := ⟨(⟨(s.data.toList.drop (n + 1)).toArray⟩ : ByteArray), rfl⟩
    have hp : p.size ≤ 1000000 := by
      rw [← Sp.len_byte p, Sp.ba_eq HP.out, List.length_take, Sp.len_byte]
      omega
    have hq : q.size ≤ 1000000 := by
      rw [← Sp.len_byte q, Sp.ba_eq HQ.out, List.length_drop, Sp.len_byte]
      omega
    obtain ⟨b, HB⟩ : ∃ b, Hid (Sp.isB p.data.toList = b) := ⟨Sp.isB p.data.toList, rfl⟩
    obtain ⟨c, HC⟩ : ∃ c, Hid (Sp.isB q.data.toList = c) := ⟨Sp.isB q.data.toList, rfl⟩
    have HF : Hid (Sp.qualB s.data.toList = (b && c)) := by
      show Sp.qualB s.data.toList = (b && c)
      rw [Sp.qualB_found _ n hn, ← HB.out, ← HC.out, Sp.ba_eq HP.out, Sp.ba_eq HQ.out]
    clear hneg hn
    cases b
    · go_enter Tryd.func15, Tryd.ntmps15
      go_wp2_with fail
      refine (cut_yes s _ hs HW.out n HN p q HP HQ).mono ?_
      rintro e w1 ⟨rfl, hb1⟩
      go_wp2_with fail
      refine (is_v p _ hp false HB).mono ?_
      rintro e w2 ⟨rfl, rfl⟩
      go_wp2_with fail
      go_ret
      exact ⟨Sp.ret_bool HF.out.symm, hb1⟩
    · go_enter Tryd.func15, Tryd.ntmps15
      go_wp2_with fail
      refine (cut_yes s _ hs HW.out n HN p q HP HQ).mono ?_
      rintro e w1 ⟨rfl, hb1⟩
      go_wp2_with fail
      refine (is_v p _ hp true HB).mono ?_
      rintro e w2 ⟨rfl, rfl⟩
      go_wp2_with fail
      refine (is_v q _ hq c HC).mono ?_
      rintro e w2 ⟨rfl, rfl⟩
      go_wp2_with fail
      go_ret
      exact ⟨Sp.ret_bool (by rw [HF.out]; simp), hb1⟩
end Go.Proofs.YtbcommnnnfilkaaDoor
