/-
  Models that a law has built: rows by the blocks that hold them; what a user's act comes to.
-/
import Derived.Test.YtpipjkbgbhefcaaCActs
set_option linter.unusedSimpArgs false
set_option linter.unusedVariables false
namespace Go.Proofs.Ytpipjkbgbhefcaa
open Go.RowKit
set_option maxRecDepth 100000
theorem rowL {α : Type} {z : Nat} {R : World → List Value → α → Prop} {w : World} {b : Nat} {t : TypeId} {n : Nat} (CS : List (List Value)) (l : List α) (h : Lies w b t CS.flatten.toArray) (hl : l.length = n) (hc : CS.length = n) (hz : ∀ x ∈ CS, x.length = z) (hf : CS.flatten.length = n * z) (hn : n ≤ 1000) (hR : ∀ (i : Nat) x cs, l[i]? = some x → CS[i]? = some cs → R w cs x) :
    RowR z R w (.slice (some ⟨b, 0, none⟩) n n) l := by
  subst hl
  have ho := own_of_lies (H := 0) (z := z) (n := l.length) h (Nat.zero_le _) (by simpa using hf) (by omega)
  exact rowR_of_own (CS := CS) (by simpa using ho) (by omega) hc hz hR
theorem row1 {α : Type} {z : Nat} {R : World → List Value → α → Prop} {w : World} {b : Nat} {t : TypeId} (cs : List Value) (x : α) (h : Lies w b t cs.toArray) (hz : cs.length = z) (hR : R w cs x) : RowR z R w (.slice (some ⟨b, 0, none⟩) 1 1) [x] := by
  refine rowL [cs] [x] (by simpa using h) rfl rfl (fun y hy => by rw [List.mem_singleton.1 hy]; exact hz) (by simpa using hz) (by decide) (fun i y ds hy hd => ?_)
  have hi : i = 0 := by
    have := (List.getElem?_eq_some_iff.1 hy).1
    simpa using this
  subst hi
  simp only [List.getElem?_cons_zero, Option.some.injEq] at hy hd
  subst hy
  subst hd
  exact hR
abbrev bK : ByteArray := ⟨#[107]⟩
abbrev bX : ByteArray := ⟨#[120]⟩
namespace Cp
theorem user_none {m : Mp.Model} {st : St} {id f : ByteArray} {ev n : Int} (ho : overB st = false) (hp : Mp.placeO m.items id = none) : doP m st ⟨1, id, ev, f, n⟩ = (1, st) := by
  unfold doP userP
  simp [ho, hp]
theorem user_plan {m : Mp.Model} {st : St} {id f : ByteArray} {ev n : Int} (ho : overB st = false) (hp : Mp.placeO m.items id = some 0) : doP m st ⟨1, id, ev, f, n⟩ = (1, st) := by
  unfold doP userP
  simp [ho, hp]
theorem user_no {m : Mp.Model} {st : St} {id f : ByteArray} {ev n : Int} {k : Nat} (ho : overB st = false) (hp : Mp.placeO m.items id = some (k + 1)) (hm : mayU (itm m (k + 1)).kind (at0 st.s (k + 1)) ev = false) : doP m st ⟨1, id, ev, f, n⟩ = (8, st) := by
  unfold doP userP
  simp [ho, hp, hm]
theorem may_other {k s ev : Int} (h3 : ev ≠ 3) (h4 : ev ≠ 4) (h5 : ev ≠ 5) : mayU k s ev = false := by
  unfold mayU
  rw [if_neg h3, if_neg h4, if_neg h5]
end Cp
end Go.Proofs.Ytpipjkbgbhefcaa
