/-
  Rows of numbers, whether they are one: the document's SameInts, slices.Equal.
-/
import Derived.Test.YtmhiilfjckadkaaRFlags
import Derived.Deep.QuietTactic
import Derived.BigQuiet
set_option linter.unusedSimpArgs false
set_option linter.unusedVariables false
namespace Go.Proofs.Ytmhiilfjckadkaa
open Go.RowKit
set_option maxRecDepth 100000
theorem list_all {α : Type} {a b : List α} {n : Nat} (h1 : n = a.length) (h2 : n = b.length) (h : ∀ (j : Nat), j < n → a[j]? = b[j]?) : a = b := by
  refine List.ext_getElem? fun j => ?_
  by_cases hj : j < n
  · exact h j hj
  · rw [List.getElem?_eq_none (by omega), List.getElem?_eq_none (by omega)]
theorem list_at {α : Type} {a b : List α} {k : Nat} {x y : α} (h1 : a[k]? = some x) (h2 : b[k]? = some y) (h : x ≠ y) : a ≠ b := fun e => by rw [e, h2] at h1; exact h (Option.some.inj h1).symm
theorem list_len {α : Type} {a b : List α} (h : a.length ≠ b.length) : a ≠ b := fun e => h (by rw [e])
set_option maxHeartbeats 2000000 in
theorem sameIntsR (w : World) (a1 a2 : Option Addr) (n1 n2 c1 c2 : Nat) (la lb : List Int) (h1 : ZRow w (.slice a1 n1 c1) la) (h2 : ZRow w (.slice a2 n2 c2) lb) :
    Calls Try.prog 11 #[.slice a1 n1 c1, .slice a2 n2 c2] w (BPost (la = lb) w) := by
  obtain ⟨hn1, hl1, _, b1, o1, ha1, hc1⟩ := zrow_at h1
  obtain ⟨hn2, hl2, _, b2, o2, ha2, hc2⟩ := zrow_at h2
  have HN1 := hideT hn1
  have HN2 := hideT hn2
  have HC1 := hideT hc1
  have HA1 := hideT ha1
  have HC2 := hideT hc2
  have HA2 := hideT ha2
  clear hc1 ha1 hc2 ha2 h1 h2
  by_cases hne : n1 = n2
  rotate_left
  · have HF : Hid (¬ la = lb) := list_len (by omega)
    have t2 : ((n1 : Int) != (n2 : Int)) = true := bne_iff_ne.2 (by omega)
    clear hn1 hn2
    go_enter Try.func11, Try.ntmps11
    go_wp2_with fail
    go_ret
    exact bpost_no HF.out (Below.refl _ _)
  subst hne
  clear hn1 hn2
  go_enter Try.func11, Try.ntmps11
  go_wp2_with fail
  go_loopw [5] (fun i wr => ∃ k : Nat, k ≤ n1 ∧ i = .int .i64 k ∧ Hid (∀ (j : Nat), j < k → la[j]? = lb[j]?) ∧ Hid (Below w.heap.size w wr)) (fun i _ => n1 - (intOf i).toNat)
  case atStart => exact ⟨0, by omega, rfl, (fun j hj => absurd hj (by omega)), Below.refl _ _⟩
  case round =>
    obtain ⟨k, hk, rfl, HB, HW⟩ := hrel
    by_cases hlt : k < n1
    rotate_left
    · have HF : Hid (la = lb) := list_all HN1.out HN2.out (fun j hj => HB.out j (by omega))
      go_wp2_with fail
      go_ret
      exact bpost_yes HF.out HW.out
    obtain ⟨x0, hx⟩ := Mp.at_lt (l := la) (k := k) (by have := HN1.out; omega)
    obtain ⟨y0, hy⟩ := Mp.at_lt (l := lb) (k := k) (by have := HN2.out; omega)
    have d0 := below_cell HW.out _ _ (HC1.out k _ hx)
    have e0 := below_cell HW.out _ _ (HC2.out k _ hy)
    obtain rfl := HA1.out (by omega)
    obtain rfl := HA2.out (by omega)
    have HX := hideT hx
    have HY := hideT hy
    clear hx hy
    have t0 : (0 : Int) ≤ (k : Int) := by omega
    have t1 : (k : Int) < (n1 : Int) := by omega
    by_cases q0 : x0 = y0
    rotate_left
    · have HF : Hid (¬ la = lb) := list_at HX.out HY.out q0
      have q3' : (x0 != y0) = true := bne_iff_ne.2 q0
      clear q0
      go_wp2_with fail
      go_quiet (fail)
      go_wp2_with fail
      go_ret
      exact bpost_no HF.out (below_drewN HW.out _)
    subst q0
    have HR : Hid (∀ (j : Nat), j < k + 1 → la[j]? = lb[j]?) := by
      intro j hj
      by_cases hj' : j < k
      · exact HB.out j hj'
      · obtain rfl : j = k := by omega
        rw [HX.out, HY.out]
    go_wp2_with fail
    go_quiet (fail)
    go_wp2_with fail
    refine ⟨⟨k + 1, by omega, by go_num, HR, below_drewN HW.out _⟩, ?_⟩
    first | omega | (simp [intOf]; omega)
set_option maxHeartbeats 2000000 in
theorem equalZ (w : World) (a1 a2 : Option Addr) (n1 n2 c1 c2 : Nat) (la lb : List Int) (h1 : ZRow w (.slice a1 n1 c1) la) (h2 : ZRow w (.slice a2 n2 c2) lb) :
    Calls Try.prog 40 #[.slice a1 n1 c1, .slice a2 n2 c2] w (BPost (la = lb) w) := by
  obtain ⟨hn1, hl1, _, b1, o1, ha1, hc1⟩ := zrow_at h1
  obtain ⟨hn2, hl2, _, b2, o2, ha2, hc2⟩ := zrow_at h2
  have HN1 := hideT hn1
  have HN2 := hideT hn2
  have HC1 := hideT hc1
  have HA1 := hideT ha1
  have HC2 := hideT hc2
  have HA2 := hideT ha2
  clear hc1 ha1 hc2 ha2 h1 h2
  by_cases hne : n1 = n2
  rotate_left
  · have HF : Hid (¬ la = lb) := list_len (by omega)
    have t2 : ((n1 : Int) != (n2 : Int)) = true := bne_iff_ne.2 (by omega)
    clear hn1 hn2
    go_enter Try.func40, Try.ntmps40
    go_wp2_with fail
    go_ret
    exact bpost_no HF.out (Below.refl _ _)
  subst hne
  clear hn1 hn2
  go_enter Try.func40, Try.ntmps40
  go_wp2_with fail
  go_loopw [13] (fun i wr => ∃ k : Nat, k ≤ n1 ∧ i = .int .i64 k ∧ Hid (∀ (j : Nat), j < k → la[j]? = lb[j]?) ∧ Hid (Below w.heap.size w wr)) (fun i _ => n1 - (intOf i).toNat)
  case atStart => exact ⟨0, by omega, rfl, (fun j hj => absurd hj (by omega)), Below.refl _ _⟩
  case round =>
    obtain ⟨k, hk, rfl, HB, HW⟩ := hrel
    by_cases hlt : k < n1
    rotate_left
    · have HF : Hid (la = lb) := list_all HN1.out HN2.out (fun j hj => HB.out j (by omega))
      go_wp2_with fail
      go_ret
      exact bpost_yes HF.out HW.out
    obtain ⟨x0, hx⟩ := Mp.at_lt (l := la) (k := k) (by have := HN1.out; omega)
    obtain ⟨y0, hy⟩ := Mp.at_lt (l := lb) (k := k) (by have := HN2.out; omega)
    have d0 := below_cell HW.out _ _ (HC1.out k _ hx)
    have e0 := below_cell HW.out _ _ (HC2.out k _ hy)
    obtain rfl := HA1.out (by omega)
    obtain rfl := HA2.out (by omega)
    have HX := hideT hx
    have HY := hideT hy
    clear hx hy
    have t0 : (0 : Int) ≤ (k : Int) := by omega
    have t1 : (k : Int) < (n1 : Int) := by omega
    by_cases q0 : x0 = y0
    rotate_left
    · have HF : Hid (¬ la = lb) := list_at HX.out HY.out q0
      have q3' : (x0 != y0) = true := bne_iff_ne.2 q0
      clear q0
      go_wp2_with fail
      go_quiet (fail)
      go_wp2_with fail
      go_ret
      exact bpost_no HF.out (below_drewN HW.out _)
    subst q0
    have HR : Hid (∀ (j : Nat), j < k + 1 → la[j]? = lb[j]?) := by
      intro j hj
      by_cases hj' : j < k
      · exact HB.out j hj'
      · obtain rfl : j = k := by omega
        rw [HX.out, HY.out]
    go_wp2_with fail
    go_quiet (fail)
    go_wp2_with fail
    refine ⟨⟨k + 1, by omega, by go_num, HR, below_drewN HW.out _⟩, ?_⟩
    first | omega | (simp [intOf]; omega)
end Go.Proofs.Ytmhiilfjckadkaa
