/-
  PLAIN: qualified names. No program in this text.
-/
import Derived.Test.YthbkipmimkepkabPlain5
import Derived.Lib.IndexMore
import Derived.Lib.IndexLaws
namespace Go.Proofs.Ythbkipmimkepkab
namespace Sp
open Go.Lib (indexByte)
def splitL (l : List UInt8) : List UInt8 × List UInt8 := if 0 ≤ indexByte l 58 then (l.take (indexByte l 58).toNat, l.drop ((indexByte l 58).toNat + 1)) else ([], l)
def qualB (l : List UInt8) : Bool := if 0 ≤ indexByte l 58 then isB (l.take (indexByte l 58).toNat) && isB (l.drop ((indexByte l 58).toNat + 1)) else isB l
theorem cut_found (l : List UInt8) (n : Nat) (h : indexByte l 58 = n) : Lib.cut l [58] = (l.take n, l.drop (n + 1), true) := by
  unfold Lib.cut
  rw [Lib.index_one, h, if_pos (by omega)]
  rfl
theorem cut_none (l : List UInt8) (h : indexByte l 58 < 0) : Lib.cut l [58] = (l, [], false) := by
  unfold Lib.cut
  rw [Lib.index_one, if_neg (by omega)]
theorem splitL_found (l : List UInt8) (n : Nat) (h : indexByte l 58 = n) : splitL l = (l.take n, l.drop (n + 1)) := by
  unfold splitL
  rw [h, if_pos (by omega)]
  rfl
theorem splitL_none (l : List UInt8) (h : indexByte l 58 < 0) : splitL l = ([], l) := by
  unfold splitL
  rw [if_neg (by omega)]
theorem qualB_found (l : List UInt8) (n : Nat) (h : indexByte l 58 = n) : qualB l = (isB (l.take n) && isB (l.drop (n + 1))) := by
  unfold qualB
  rw [h, if_pos (by omega)]
  rfl
theorem qualB_none (l : List UInt8) (h : indexByte l 58 < 0) : qualB l = isB l := by
  unfold qualB
  rw [if_neg (by omega)]
def twoV (p : List UInt8 × List UInt8) : Value := .tuple #[.string ⟨p.1.toArray⟩, .string ⟨p.2.toArray⟩]
theorem ba_eq {t : ByteArray} {l : List UInt8} (h : t = ⟨l.toArray⟩) : t.data.toList = l := by rw [h]
theorem ba_of {t : ByteArray} {l : List UInt8} (h : t.data.toList = l) : t = ⟨l.toArray⟩ := by
  obtain ⟨⟨x⟩⟩ := t
  simp at h
  rw [h]
end Sp
end Go.Proofs.Ythbkipmimkepkab
