/-
  The law's own 'known': the least due comes out.
-/
import Derived.Test.YtjibkhljihnhiaaQQueue
set_option linter.unusedSimpArgs false
set_option linter.unusedVariables false
namespace Go.Proofs.Ytjibkhljihnhiaa
open Go.RowKit
open Qp
theorem lt_total {a b : Thing} (h1 : lt a b = false) (h2 : lt b a = false) : a = b := by
  rw [lt_no] at h1 h2
  obtain ⟨a1, a2⟩ := a
  obtain ⟨b1, b2⟩ := b
  simp only at h1 h2
  have : a1 = b1 := by omega
  have : a2 = b2 := by omega
  subst_vars
  rfl
theorem at_mem {L : List Thing} {k : Nat} (h : k < L.length) : at_ L k ∈ L := List.mem_of_getElem? (at_get h)
theorem least_eq {L : List Thing} (h : HeapN L L.length) {m : Thing} (hm : m ∈ L) (hmin : ∀ x ∈ L, lt x m = false) : at_ L 0 = m := by
  obtain ⟨k, hk, _⟩ := mem_at hm
  exact lt_total (hmin _ (at_mem (by omega))) (least_mem h hm)
theorem popI (w : World) (H b : Nat) (v : Value) (L : List Thing) (h : QH w H b v L) (n : Nat) (hL : L.length = n + 1) (m : Thing) (hm : at_ L 0 = m) :
    Calls Try.prog 12 #[.pointer (some ⟨b, 0, none⟩)] w fun e w' => e = .returned (.tuple #[.int .i64 m.1, .int .i64 m.2, .bool true]) ∧ ∃ v' L', QTo w w' H b v v' L' ∧ (m :: L').Perm L ∧ L'.length = n := by
  subst hm
  exact popQ w H b v L h n hL
theorem QTo.below {w w' : World} {B H b : Nat} {v v' : Value} {L L' : List Thing} (hq : QH w H b v L) (h : QTo w w' H b v v' L') (hB : B ≤ H) (hw : B ≤ w.heap.size) : Below B w w' :=
  ⟨h.keep.os, h.keep.tape, h.keep.output, h.keep.size, fun k hk => h.keep.block k (by omega) (fun e => by have := (hq.q.lt e).2; omega)⟩
set_option maxHeartbeats 4000000 in
theorem knownQ (w : World) :
    Calls Try.prog 18 #[] w fun e w' => e = .returned (.bool true) ∧ Below w.heap.size w w' := by
  go_enter Try.func18, Try.ntmps18
  go_wp2_with (first
    | (go_at_call 9; refine (newQ w.heap.size w (Nat.le_refl _)).mono ?_; rintro e w1 ⟨b, rfl, hb, Q1, B1⟩; have HB := hideT hb; have HQ1 := hideT Q1; have HB1 := hideT B1; clear hb Q1 B1)
    | (go_at_call_of 10 (Value.pointer (some ⟨b, 0, none⟩)); refine (pushQ w1 w.heap.size b _ [] 5 1 HQ1.out HB1.out.size (by simp)).mono ?_; rintro e w2 ⟨rfl, v2, L2, T2, P2⟩; have HT2 := hideT T2; have HP2 := hideT P2; have HS2 := hideT (HB1.out.trans (QTo.below HQ1.out T2 (Nat.le_refl _) HB1.out.size)); clear T2 P2 HQ1)
    | (go_at_call_of 10 (Value.pointer (some ⟨b, 0, none⟩)); refine (pushQ w2 w.heap.size b v2 L2 3 9 HT2.out.h HS2.out.size (by have := HP2.out.length_eq; simp at this; omega)).mono ?_; rintro e w3 ⟨rfl, v3, L3, T3, P3⟩; have HT3 := hideT T3; have HP3 := hideT (P3.trans (List.Perm.cons _ HP2.out)); have HS3 := hideT (HS2.out.trans (QTo.below HT2.out.h T3 (Nat.le_refl _) HS2.out.size)); clear T3 P3 HT2)
    | (go_at_call 17; refine (lenQQ w3 w.heap.size b v3 L3 HT3.out.h).mono ?_; rintro e w3' ⟨rfl, hw⟩; obtain rfl := hw.symm; have e3 : (L3.length : Int) = 2 := (by have := HP3.out.length_eq; simp at this; omega))
    | (go_at_call 12; refine (popI w3 w.heap.size b v3 L3 HT3.out.h 1 (by omega) (3, 9) (least_eq HT3.out.h.heap (HP3.out.mem_iff.2 (by simp)) (fun x hx => (by have := HP3.out.mem_iff.1 hx; simp at this; rcases this with rfl | rfl <;> decide)))).mono ?_; rintro e w4 ⟨rfl, v4, L4, T4, P4, N4⟩; have HT4 := hideT T4; have HS4 := hideT (HS3.out.trans (QTo.below HT3.out.h T4 (Nat.le_refl _) HS3.out.size)); have e4 : (L4.length : Int) = 1 := (by omega); clear T4 P4 N4 HT3)
    | (go_at_call 17; refine (lenQQ w4 w.heap.size b v4 L4 HT4.out.h).mono ?_; rintro e w4' ⟨rfl, hw⟩; obtain rfl := hw.symm))
  go_ret
  exact ⟨rfl, HS4.out⟩
end Go.Proofs.Ytjibkhljihnhiaa
