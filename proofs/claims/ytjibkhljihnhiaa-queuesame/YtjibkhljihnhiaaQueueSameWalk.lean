/-
  The law QueueSame, walked.
-/
import Derived.Test.YtjibkhljihnhiaaQLaw
set_option linter.unusedSimpArgs false
set_option linter.unusedVariables false
namespace Go.Proofs.Ytjibkhljihnhiaa
open Go.RowKit
open Qp
/-- What was put in up to k. -/
def sameF (d : Int) (k : Nat) : Thing := (d, ((k : Int) * 37) % 101)
theorem same_nodup (d : Int) (k : Nat) (hk : k ≤ 100) : ((List.range k).map (sameF d)).Nodup := by
  unfold List.Nodup
  rw [List.pairwise_map]
  refine List.pairwise_lt_range.imp_of_mem fun {i j} hi hj hij e => ?_
  have hi' := List.mem_range.1 hi
  have hj' := List.mem_range.1 hj
  have e1 : ((i : Int) * 37) % 101 = ((j : Int) * 37) % 101 := congrArg Prod.snd e
  omega
theorem same_next {d last : Int} {m : Thing} {L L' : List Thing} (hN : L.Nodup) (hL : ∀ x ∈ L, x.1 = d ∧ last < x.2) (hm : m ∈ L ∧ ∀ x ∈ L, lt x m = false) (hp : (m :: L').Perm L) : m.1 = d ∧ last < m.2 ∧ L'.Nodup ∧ ∀ x ∈ L', x.1 = d ∧ m.2 < x.2 := by
  have h1 := hL m hm.1
  have h2 := (hp.nodup_iff.2 hN)
  rw [List.nodup_cons] at h2
  refine ⟨h1.1, h1.2, h2.2, fun x hx => ?_⟩
  have hxL : x ∈ L := hp.mem_iff.1 (List.mem_cons_of_mem _ hx)
  have h3 := hL x hxL
  have h4 := hm.2 x hxL
  refine ⟨h3.1, ?_⟩
  rw [lt_no] at h4
  have hne : x ≠ m := fun e => h2.1 (e ▸ hx)
  have : x.2 ≠ m.2 := fun e => hne (Prod.ext (h3.1.trans h1.1.symm) e)
  omega
set_option maxHeartbeats 4000000 in
theorem queueSame_walk (d : Int) (hd : (Lit.int .i64 d).wf = true) (n : Int) (hw : (Lit.int .i64 n).wf = true) {w : World} :
    Calls Try.prog 8 #[.int .i64 d, .int .i64 n] w fun e w' => e = .returned (.bool true) ∧ Below w.heap.size w w' := by
  by_cases h0 : n < 0
  · go_enter Try.func8, Try.ntmps8
    go_wp2_with fail
    go_ret
    exact ⟨rfl, Below.refl _ _⟩
  by_cases h1 : 100 < n
  · go_enter Try.func8, Try.ntmps8
    go_wp2_with fail
    go_ret
    exact ⟨rfl, Below.refl _ _⟩
  obtain ⟨m, rfl⟩ : ∃ m : Nat, n = m := ⟨n.toNat, by omega⟩
  have h2 : m ≤ 100 := by omega
  clear hw h0 h1 hd
  go_enter Try.func8, Try.ntmps8
  go_wp2_with (go_at_call 9; refine (newL w).mono ?_; rintro e w1 ⟨b, rfl, Q1⟩)
  have HQ1 := hideT Q1
  clear Q1
  go_loopw [6] (fun s wr => ∃ (k : Nat) (v : Value) (L : List Thing), s = .int .i64 k ∧ k ≤ m ∧ Hid (LQ w wr b v L) ∧ Hid (L.Perm ((List.range k).map (sameF d)))) (fun s _ => m - (intOf s).toNat)
  case atStart => exact ⟨0, _, [], rfl, by omega, HQ1, List.Perm.refl _⟩
  case round =>
    obtain ⟨k, v, L, rfl, hk, HL, HN⟩ := hrel
    by_cases hlt : k < m
    · have hlen : L.length = k := by have := HN.out.length_eq; simpa using this
      have HLen := hideT hlen
      clear hlen
      go_wp2_with (go_at_call 10; refine (HL.out.push _ _ (by have := HLen.out; omega)).mono ?_; rintro e w2 ⟨rfl, v2, L2, Q2, P2⟩; have HQ2 := hideT Q2; have HP2 := hideT P2; clear Q2 P2)
      go_roundw
      case rel => exact ⟨k + 1, v2, L2, by go_num, by omega, HQ2, by
        unfold Hid
        rw [List.range_succ, List.map_append]
        exact (HP2.out.trans (List.Perm.cons _ HN.out)).trans (List.perm_append_singleton _ _).symm⟩
      case measure => simp [intOf]; omega
    · have hkm : k = m := by omega
      subst hkm
      have hlen : L.length = k := by have := HN.out.length_eq; simpa using this
      have HLen := hideT hlen
      have HND : Hid L.Nodup := HN.out.nodup_iff.2 (same_nodup d k h2)
      have HA : Hid (∀ x ∈ L, x.1 = d ∧ -1 < x.2) := fun x hx => by
        obtain ⟨i, _, rfl⟩ := List.mem_map.1 (HN.out.mem_iff.1 hx)
        exact ⟨rfl, show -1 < ((i : Int) * 37) % 101 by omega⟩
      clear hlen
      go_wp2_with fail
      go_loopw [7, 8] (fun la s wr => ∃ (j : Nat) (last : Int) (v : Value) (M : List Thing), s = .int .i64 j ∧ la = .int .i64 last ∧ j ≤ k ∧ Hid (LQ w wr b v M) ∧ Hid (M.length + j = k ∧ M.Nodup ∧ ∀ x ∈ M, x.1 = d ∧ last < x.2)) (fun _ s _ => k - (intOf s).toNat)
      case atStart => exact ⟨0, -1, v, L, rfl, rfl, by omega, HL, HLen.out, HND.out, HA.out⟩
      case round =>
        obtain ⟨j, last, v2, M, rfl, rfl, hj, HM, HR⟩ := hrel
        by_cases hlt2 : j < k
        · go_wp2_with (go_at_call 12; refine (HM.out.pop (k - j - 1) (by have := HR.out.1; omega)).mono ?_; rintro e w3 ⟨mm, rfl, hmm, v3, M3, Q3, P3, N3⟩; obtain ⟨g1, g2, g3, g4⟩ := same_next HR.out.2.1 HR.out.2.2 hmm P3; have HQ3 := hideT Q3; have HG := hideT (And.intro g3 g4); have HN3 := hideT N3; have g2' : ¬ (mm.2 ≤ last) := (by omega); clear Q3 P3 N3 hmm g3 g4)
          go_roundw
          case rel => exact ⟨j + 1, mm.2, v3, M3, by go_num, rfl, by omega, HQ3, by have := HN3.out; omega, HG.out.1, HG.out.2⟩
          case measure => simp [intOf]; omega
        · go_wp2_with (first
            | (go_at_call 17; refine (HM.out.len 0 (by have := HR.out.1; omega)).mono ?_; rintro e w2 ⟨rfl, Q2⟩; have HQ2 := hideT Q2; clear Q2)
            | (go_at_call 18; refine HQ2.out.known.mono ?_; rintro e w3 ⟨rfl, B3⟩))
          go_ret
          exact ⟨rfl, B3⟩
end Go.Proofs.Ytjibkhljihnhiaa
