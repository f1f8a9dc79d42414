/-
  What holds a stage up; whether it completes.
-/
import Derived.Test.YtpipjkbgbhefcaaGreatCAsk
set_option linter.unusedSimpArgs false
set_option linter.unusedVariables false
namespace Go.Proofs.YtpipjkbgbhefcaaGreat
open Go.RowKit
open Qp
set_option maxRecDepth 100000
namespace Cp
theorem kids_lt {l : List Mp.Item} {s : ByteArray} {n y : Nat} (h : y ∈ Mp.kidsN l s n) : y < n := by
  unfold Mp.kidsN at h
  exact List.mem_range.1 (List.mem_filter.1 h).1
end Cp
section
variable {w : World} {H : Nat} {K : Kc} {m : Mp.Model} {v : Value} {L : List Thing} {N : Nat} {st : Cp.St}
set_option maxHeartbeats 4000000 in
theorem holdsUpD (h : CIn w H K m v L N st) (hl : OkM m) (i : Nat) (hi : i < m.items.length) :
    Calls Tryz.prog 116 #[cP K, iP i] w (AnyPost (Cp.holdsUp m st i) w) := by
  have c1 := h.c1
  have c2 := h.c2
  have cs := h.cs hi
  obtain ⟨a5, k5, a6, k6, I⟩ := h.item hi
  have d3 := I.c3
  have HC := hideT h
  have HL := hideT hl
  have HI := hideT hi
  have t1 : (0 : Int) ≤ (i : Int) := by omega
  have t2 : (i : Int) < (m.items.length : Int) := by omega
  obtain ⟨s, hs⟩ : ∃ s, Cp.at0 st.s i = s := ⟨_, rfl⟩
  obtain ⟨rq, hq⟩ : ∃ s, (Cp.itm m i).req = s := ⟨_, rfl⟩
  obtain ⟨z, hz⟩ : ∃ z, Cp.startsI m st i = z := ⟨_, rfl⟩
  obtain ⟨b, hb⟩ : ∃ b, Cp.pastB s = b := ⟨_, rfl⟩
  have HX : Hid (Cp.holdsUp m st i = if s = 1 then rq || !decide (z = 0) else !b) := by show _ = _; unfold Cp.holdsUp; rw [hs, hq, hz, hb]
  have HZ := hideT hz
  have HB := hideT hb
  rw [hs] at cs
  rw [hq] at d3
  clear h I hs hq hz hb hl hi
  by_cases h1 : s = 1
  · subst h1
    cases rq with
    | true =>
      go_enter Tryz.func116, Tryz.ntmps116
      go_wp2_with fail
      go_ret
      exact ⟨ret_b (by rw [HX.out]; rfl), Below.refl _ _⟩
    | false =>
      go_enter Tryz.func116, Tryz.ntmps116
      go_wp2_with fail
      refine (startsD HC.out HL.out i HI.out z HZ).mono ?_
      rintro e w1 ⟨rfl, b1⟩
      have HB1 := hideT b1
      clear b1
      by_cases h2 : z = 0
      · subst h2
        go_wp2_with fail
        go_ret
        exact ⟨ret_b (by rw [HX.out]; rfl), HB1.out⟩
      · have t3 : (z != (0 : Int)) = true := bne_iff_ne.2 h2
        have HX2 : Hid (Cp.holdsUp m st i = true) := by show _ = _; rw [HX.out, decide_eq_false h2]; rfl
        clear h2 HX
        go_wp2_with fail
        go_ret
        exact ⟨ret_b HX2.out.symm, HB1.out⟩
  · have t3 : (s == (1 : Int)) = false := beq_eq_false_iff_ne.2 h1
    have HX2 : Hid (Cp.holdsUp m st i = !b) := by show _ = _; rw [HX.out, if_neg h1]
    clear h1 HX
    go_enter Tryz.func116, Tryz.ntmps116
    go_wp2_with fail
    refine (isPastD s _ b HB).mono ?_
    rintro e w1 ⟨rfl, hw⟩
    obtain rfl := hw.symm
    go_wp2_with fail
    go_ret
    exact ⟨ret_b (by rw [HX2.out]), Below.refl _ _⟩
end
end Go.Proofs.YtpipjkbgbhefcaaGreat
