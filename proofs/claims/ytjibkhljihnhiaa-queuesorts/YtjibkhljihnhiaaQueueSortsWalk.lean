/-
  The law QueueSorts, walked.
-/
import Derived.Test.YtjibkhljihnhiaaQLaw
set_option linter.unusedSimpArgs false
set_option linter.unusedVariables false
namespace Go.Proofs.Ytjibkhljihnhiaa
open Go.RowKit
open Qp
theorem RowQ.at1s {w : World} {v : Value} {l : List Int} (h : RowQ 1 intE w v l) : ∃ b o ao cap, v = .slice ao l.length cap ∧ l.length ≤ cap ∧ (0 < l.length → ao = some ⟨b, o, none⟩) ∧ ∀ (i : Nat) x, l[i]? = some x → w.cell? ⟨b, o + i, none⟩ = some (.int .i64 x) := by
  obtain ⟨b, o, ⟨ao, cap, h1, h2, h3⟩, h4⟩ := h
  refine ⟨b, o, ao, cap, h1, h2, h3, fun i x hx => ?_⟩
  have := h4 i x hx 0 _ rfl
  rw [Nat.mul_one, Nat.add_zero] at this
  exact this
theorem below_getS {w0 w : World} (h : Below w0.heap.size w0 w) {a : Addr} {c : Value} (hc : w0.cell? a = some c) : w.cell? a = some c := by
  rw [h.cell (cell_lt hc)]
  exact hc
/-- What was put in up to k. -/
def sortF (l : List Int) (k : Nat) : Thing := ((l[k]?).getD 0, (k : Int) % 3)
def tot (l : List Int) : Int := l.foldr (· + ·) 0
theorem tot_cons (a : Int) (l : List Int) : tot (a :: l) = a + tot l := rfl
theorem tot_perm {l m : List Int} (h : l.Perm m) : tot l = tot m := by
  induction h with
  | nil => rfl
  | cons x _ ih => rw [tot_cons, tot_cons, ih]
  | swap x y l => simp only [tot_cons]; omega
  | trans _ _ h1 h2 => exact h1.trans h2
theorem tot_snoc (l : List Int) (a : Int) : tot (l ++ [a]) = tot l + a := by
  induction l with
  | nil => simp [tot]
  | cons b l ih => rw [List.cons_append, tot_cons, tot_cons, ih]; omega
theorem wrap_add (s a : Int) : wrap64 (wrap64 s + a) = wrap64 (s + a) := by unfold wrap64; omega
theorem tot_take {l : List Int} {k : Nat} {x : Int} (h : l[k]? = some x) : wrap64 (wrap64 (tot (l.take k)) + x) = wrap64 (tot (l.take (k + 1))) := by
  obtain ⟨hk, rfl⟩ := List.getElem?_eq_some_iff.1 h
  rw [wrap_add, List.take_succ_eq_append_getElem hk, tot_snoc]
theorem fst_sortF (l : List Int) : ((List.range l.length).map (sortF l)).map Prod.fst = l := by
  rw [List.map_map]
  refine List.ext_getElem? fun i => ?_
  rw [List.getElem?_map]
  by_cases hi : i < l.length
  · rw [List.getElem?_range hi, List.getElem?_eq_getElem hi]
    simp [sortF, List.getElem?_eq_getElem hi]
  · rw [List.getElem?_eq_none (by simpa using hi), List.getElem?_eq_none (by simpa using hi)]
    rfl
/-- The least one is not ahead of what came before it. -/
theorem rise_ok {m la : Thing} (h : lt m la = false) : ¬ (m.1 < la.1) ∧ (m.1 = la.1 → ¬ (m.2 < la.2)) := by
  rw [lt_no] at h
  omega
theorem LQ.popAt {w0 w : World} {b : Nat} {v : Value} {L : List Thing} (h : LQ w0 w b v L) (n : Nat) (hL : L.length = n + 1) (m : Thing) (hm : at_ L 0 = m) :
    Calls Try.prog 12 #[.pointer (some ⟨b, 0, none⟩)] w fun e w' => e = .returned (.tuple #[.int .i64 m.1, .int .i64 m.2, .bool true]) ∧ ∃ v' L', LQ w0 w' b v' L' ∧ (m :: L').Perm L ∧ L'.length = n := by
  subst hm
  exact (popQ w w0.heap.size b v L h.q n hL).mono fun e w' ⟨h1, v', L', h2, h3, h4⟩ => ⟨h1, v', L', h.to h2, h3, h4⟩
theorem LQ.first {w0 w : World} {b : Nat} {v : Value} {L : List Thing} (h : LQ w0 w b v L) (h0 : 0 < L.length) : ∃ m, at_ L 0 = m ∧ m ∈ L ∧ ∀ x ∈ L, lt x m = false := ⟨_, rfl, at_mem h0, fun x hx => least_mem h.q.heap hx⟩
/-- What stands behind one more round. -/
theorem sort_next {l S : List Int} {m : Thing} {M M' : List Thing} (hp : (m :: M').Perm M) (hS : (S ++ M.map Prod.fst).Perm l) (hm : ∀ x ∈ M, lt x m = false) : ((S ++ [m.1]) ++ M'.map Prod.fst).Perm l ∧ ∀ x ∈ M', lt x m = false := by
  refine ⟨?_, fun x hx => hm x (hp.mem_iff.1 (List.mem_cons_of_mem _ hx))⟩
  have h1 : (m.1 :: M'.map Prod.fst).Perm (M.map Prod.fst) := hp.map Prod.fst
  rw [List.append_assoc]
  exact (List.Perm.append_left S h1).trans hS
set_option maxHeartbeats 4000000 in
theorem queueSorts_walk (v0 : Value) (l : List Int) {w : World} (hr : RowQ 1 intE w v0 l) (hI : ∀ x ∈ l, I64 x) :
    Calls Try.prog 4 #[v0] w fun e w' => e = .returned (.bool true) ∧ Below w.heap.size w w' := by
  obtain ⟨lb, lo, ao, cap, rfl, hcap, hao, hcell⟩ := hr.at1s
  clear hr hI
  by_cases h0 : 100 < l.length
  · go_enter Try.func4, Try.ntmps4
    have h0z : (100 : Int) < (l.length : Int) := by omega
    go_wp2_with fail
    go_ret
    exact ⟨rfl, Below.refl _ _⟩
  have HC := hideT hcell
  have HA := hideT hao
  clear hcell hao
  obtain ⟨N, hN⟩ : ∃ N, l.length = N := ⟨_, rfl⟩
  have HN := hideT hN
  rw [hN] at h0 hcap
  rw [hN]
  clear hN
  have h0z : ¬ ((100 : Int) < (N : Int)) := by omega
  go_enter Try.func4, Try.ntmps4
  go_wp2_with (go_at_call 9; refine (newL w).mono ?_; rintro e w1 ⟨b, rfl, Q1⟩)
  have HQ1 := hideT Q1
  clear Q1
  go_loopw [4] (fun s wr => ∃ (k : Nat) (v : Value) (L : List Thing), s = .int .i64 k ∧ k ≤ N ∧ Hid (LQ w wr b v L) ∧ Hid (L.Perm ((List.range k).map (sortF l)))) (fun s _ => N - (intOf s).toNat)
  case atStart => exact ⟨0, _, [], rfl, by omega, HQ1, List.Perm.refl _⟩
  case round =>
    obtain ⟨k, v, L, rfl, hk, HL, HR⟩ := hrel
    have hlen : L.length = k := by have := HR.out.length_eq; simpa using this
    have HLen := hideT hlen
    clear hlen
    by_cases hlt : k < N
    · obtain ⟨x, hx⟩ : ∃ x, l[k]? = some x := ⟨_, List.getElem?_eq_getElem (by have := HN.out; omega)⟩
      have hlt2 : (k : Int) < (N : Int) := by omega
      have e0 := HA.out (by have := HN.out; omega)
      subst e0
      have c1 := below_getS HL.out.below (HC.out k x hx)
      have HX := hideT hx
      clear hx
      go_wp2_with (go_at_call 10; refine (HL.out.push x ((k : Int) % 3) (by have := HLen.out; omega)).mono ?_; rintro e w2 ⟨rfl, v2, L2, Q2, P2⟩; have HQ2 := hideT Q2; have HP2 := hideT P2; clear Q2 P2 HL)
      go_roundw
      case rel => exact ⟨k + 1, v2, L2, by go_num, by omega, HQ2, by
        unfold Hid
        rw [List.range_succ, List.map_append]
        have e : sortF l k = (x, (k : Int) % 3) := by unfold sortF; rw [HX.out]; rfl
        rw [List.map_singleton, e]
        exact (HP2.out.trans (List.Perm.cons _ HR.out)).trans (List.perm_append_singleton _ _).symm⟩
      case measure => simp [intOf]; omega
    · have hkN : k = N := by omega
      subst hkN
      have hlt2 : ¬ ((k : Int) < (k : Int)) := by omega
      go_wp2_with fail
      go_loopw [5, 7] (fun u s wr2 => ∃ (j : Nat), s = .int .i64 j ∧ u = .int .i64 (wrap64 (tot (l.take j))) ∧ j ≤ k ∧ Hid (LQ w wr2 b v L)) (fun _ s _ => k - (intOf s).toNat)
      case atStart => exact ⟨0, rfl, by simp [tot, wrap64], by omega, HL⟩
      case round =>
        obtain ⟨j, rfl, rfl, hj, HM⟩ := hrel
        by_cases hlt3 : j < k
        · obtain ⟨x, hx⟩ : ∃ x, l[j]? = some x := ⟨_, List.getElem?_eq_getElem (by have := HN.out; omega)⟩
          have hlt4 : (j : Int) < (k : Int) := by omega
          have e0 := HA.out (by have := HN.out; omega)
          subst e0
          have c1 := below_getS HM.out.below (HC.out j x hx)
          have HX := hideT (tot_take hx)
          clear hx
          go_wp2_with fail
          go_roundw
          case rel => exact ⟨j + 1, by go_num, by rw [← HX.out], by omega, HM⟩
          case measure => simp [intOf]; omega
        · have hjk : j = k := by omega
          subst hjk
          have hS : Hid (wrap64 (tot (l.take j)) = wrap64 (tot l)) := by
            unfold Hid
            rw [List.take_of_length_le (by have := HN.out; omega)]
          have hlt4 : ¬ ((j : Int) < (j : Int)) := by omega
          go_wp2_with fail
          go_loopw [6, 8, 9, 10] (fun u la lw s wr3 => ∃ (p : Nat) (t : Thing) (v3 : Value) (M : List Thing) (S : List Int), s = .int .i64 p ∧ u = .int .i64 (wrap64 (tot S)) ∧ la = .int .i64 t.1 ∧ lw = .int .i64 t.2 ∧ p ≤ j ∧ Hid (LQ w wr3 b v3 M) ∧ Hid (M.length + p = j) ∧ Hid ((S ++ M.map Prod.fst).Perm l) ∧ Hid (0 < p → ∀ x ∈ M, lt x t = false)) (fun _ _ _ s _ => j - (intOf s).toNat)
          case atStart => exact ⟨0, (0, 0), v, L, [], rfl, by simp [tot, wrap64], rfl, rfl, by omega, HM, HLen.out, by
            have h1 := (HR.out.map Prod.fst)
            have h2 := fst_sortF l
            rw [HN.out] at h2
            rw [h2] at h1
            exact h1, fun h => by omega⟩
          case round =>
            obtain ⟨p, t, v3, M, S, rfl, rfl, rfl, rfl, hp, HM3, HE3, HS3, HT3⟩ := hrel
            by_cases hlt5 : p < j
            · have hlt6 : (p : Int) < (j : Int) := by omega
              obtain ⟨m, hm0, hm1, hm2⟩ := HM3.out.first (by have := HE3.out; omega)
              have HM0 := hideT hm0
              have HM2 := hideT hm2
              have HT4 : Hid (0 < p → lt m t = false) := fun h => HT3.out h m hm1
              clear hm0 hm1 hm2
              obtain ⟨m1, m2⟩ := m
              obtain ⟨t1, t2⟩ := t
              have fin : ∀ (wx : World) (v4 : Value) (M4 : List Thing), ((m1, m2) :: M4).Perm M → ((S ++ [m1]) ++ M4.map Prod.fst).Perm l ∧ ∀ x ∈ M4, lt x (m1, m2) = false := fun _ _ M4 P => sort_next P HS3.out HM2.out
              have FIN := hideT fin
              clear fin
              by_cases hp0 : p = 0
              · subst hp0
                go_wp2_with (go_at_call 12; refine (HM3.out.popAt (j - 0 - 1) (by have := HE3.out; omega) (m1, m2) HM0.out).mono ?_; rintro e w5 ⟨rfl, v4, M4, Q4, P4, N4⟩; have HQ4 := hideT Q4; have HN4 := hideT N4; have HF4 := hideT (FIN.out w5 v4 M4 P4); clear Q4 P4 N4)
                go_roundw
                case rel => exact ⟨0 + 1, (m1, m2), v4, M4, S ++ [m1], by go_num, by rw [wrap_add, tot_snoc], rfl, rfl, by omega, HQ4, by have := HN4.out; unfold Hid; omega, HF4.out.1, fun _ => HF4.out.2⟩
                case measure => simp [intOf]; omega
              · have hp1 : (0 : Int) < (p : Int) := by omega
                obtain ⟨r1, r2⟩ := rise_ok (HT4.out (by omega))
                simp only at r1 r2
                by_cases hE : m1 = t1
                · have r3 := r2 hE
                  clear r2
                  subst hE
                  go_wp2_with (go_at_call 12; refine (HM3.out.popAt (j - p - 1) (by have := HE3.out; omega) (m1, m2) HM0.out).mono ?_; rintro e w5 ⟨rfl, v4, M4, Q4, P4, N4⟩; have HQ4 := hideT Q4; have HN4 := hideT N4; have HF4 := hideT (FIN.out w5 v4 M4 P4); clear Q4 P4 N4)
                  go_roundw
                  case rel => exact ⟨p + 1, (m1, m2), v4, M4, S ++ [m1], by go_num, by rw [wrap_add, tot_snoc], rfl, rfl, by omega, HQ4, by have := HN4.out; unfold Hid; omega, HF4.out.1, fun _ => HF4.out.2⟩
                  case measure => simp [intOf]; omega
                · clear r2
                  have r3 : (m1 == t1) = false := beq_eq_false_iff_ne.2 hE
                  clear hE
                  go_wp2_with (go_at_call 12; refine (HM3.out.popAt (j - p - 1) (by have := HE3.out; omega) (m1, m2) HM0.out).mono ?_; rintro e w5 ⟨rfl, v4, M4, Q4, P4, N4⟩; have HQ4 := hideT Q4; have HN4 := hideT N4; have HF4 := hideT (FIN.out w5 v4 M4 P4); clear Q4 P4 N4)
                  go_roundw
                  case rel => exact ⟨p + 1, (m1, m2), v4, M4, S ++ [m1], by go_num, by rw [wrap_add, tot_snoc], rfl, rfl, by omega, HQ4, by have := HN4.out; unfold Hid; omega, HF4.out.1, fun _ => HF4.out.2⟩
                  case measure => simp [intOf]; omega
            · have hpj : p = j := by omega
              subst hpj
              have hlt6 : ¬ ((p : Int) < (p : Int)) := by omega
              have hM0 : M = [] := List.eq_nil_of_length_eq_zero (by have := HE3.out; omega)
              subst hM0
              have hsum : wrap64 (tot S) = wrap64 (tot l) := by
                have h1 := HS3.out
                rw [List.map_nil, List.append_nil] at h1
                rw [tot_perm h1]
              have hs2 := hS.out
              rw [hs2, hsum]
              clear hs2 hsum
              go_wp2_with (first
                | (go_at_call 12; refine HM3.out.popN.mono ?_; rintro e w6 ⟨rfl, Q6⟩; have HQ6 := hideT Q6; clear Q6)
                | (go_at_call 18; refine HQ6.out.known.mono ?_; rintro e w7 ⟨rfl, B7⟩))
              go_ret
              exact ⟨rfl, B7⟩
end Go.Proofs.Ytjibkhljihnhiaa
