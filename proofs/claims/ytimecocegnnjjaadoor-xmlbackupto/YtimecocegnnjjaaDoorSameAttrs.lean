/-
  The document's SameAttrs, by its contract.
-/
import Derived.Test.YtimecocegnnjjaaDoorPartC
set_option linter.unusedSimpArgs false
set_option linter.unusedVariables false
namespace Go.Proofs.YtimecocegnnjjaaDoor
open Go.RowKit
theorem ret_boolX {a b : Bool} (h : a = b) : Ending.returned (.bool a) = .returned (.bool b) := by rw [h]
theorem toList_inj {a b : ByteArray} (h : a.toList = b.toList) : a = b := by
  rw [ByteArray.toList_eq, ByteArray.toList_eq] at h
  obtain ⟨⟨x⟩⟩ := a
  obtain ⟨⟨y⟩⟩ := b
  have : x = y := h
  rw [this]

theorem sameAttrs_len (w : World) (ao1 ao2 : Option Addr) (n1 n2 cap1 cap2 : Nat) (h : n1 ≠ n2) (h1 : n1 ≤ 1000000000000) (h2 : n2 ≤ 1000000000000) :
    Calls Tryd.prog 18 #[.slice ao1 n1 cap1, .slice ao2 n2 cap2] w fun e w' => e = .returned (.bool false) ∧ Below w.heap.size w w' := by
  have t1 : ((n1 : Int) != (n2 : Int)) = true := by rw [bne_iff_ne]; omega
  go_enter Tryd.func18, Tryd.ntmps18
  go_wp2_with fail
  go_ret
  exact ⟨rfl, Below.refl _ _⟩
theorem sameAttrs_zero (w : World) (ao1 ao2 : Option Addr) (cap1 cap2 : Nat) :
    Calls Tryd.prog 18 #[.slice ao1 0 cap1, .slice ao2 0 cap2] w fun e w' => e = .returned (.bool true) ∧ Below w.heap.size w w' := by
  go_enter Tryd.func18, Tryd.ntmps18
  go_wp2_with fail
  refine wp_loop_rounds 1 ?_
  rw [rounds_succ]
  go_wp2_with fail
  go_ret
  exact ⟨rfl, Below.refl _ _⟩

theorem sameAttrs_any (w : World) (va vb : Value) (la lb : List (ByteArray × ByteArray)) (ha : ARow w va la) (hb : ARow w vb lb) :
    Calls Tryd.prog 18 #[va, vb] w fun e w' => e = .returned (.bool (decide (la = lb))) ∧ Below w.heap.size w w' := by
  obtain ⟨b1, o1, ⟨ao1, cap1, rfl, hao1⟩, ⟨hl1, _⟩, hc1⟩ := ha
  obtain ⟨b2, o2, ⟨ao2, cap2, rfl, hao2⟩, ⟨hl2, _⟩, hc2⟩ := hb
  by_cases hne : la.length = lb.length
  · by_cases h0 : 0 < la.length
    · obtain rfl := hao1 h0
      obtain rfl := hao2 (by omega)
      have HC1 : Hid (∀ i p, la[i]? = some p → w.cell? ⟨b1, o1 + 2 * i, none⟩ = some (.string p.1) ∧ w.cell? ⟨b1, o1 + 2 * i + 1, none⟩ = some (.string p.2)) := hc1
      have HC2 : Hid (∀ i p, lb[i]? = some p → w.cell? ⟨b2, o2 + 2 * i, none⟩ = some (.string p.1) ∧ w.cell? ⟨b2, o2 + 2 * i + 1, none⟩ = some (.string p.2)) := hc2
      clear hc1 hc2 hao1 hao2
      have HL : Hid (la.length = lb.length) := hne
      obtain ⟨n, hn⟩ : ∃ n, n = la.length := ⟨_, rfl⟩
      have HN : Hid (n = la.length) := hn
      rw [← hne, ← hn]
      rw [← hn] at hl1 h0
      clear hne hn hl2
      go_enter Tryd.func18, Tryd.ntmps18
      go_wp2_with fail
      go_loopw [5] (fun i wr => ∃ k : Nat, k ≤ n ∧ i = .int .i64 k ∧ Hid (Below w.heap.size w wr) ∧ Hid (∀ j, j < k → la[j]? = lb[j]?)) (fun i _ => n - (intOf i).toNat)
      case atStart => exact ⟨0, by omega, rfl, Below.refl _ _, fun j hj => absurd hj (by omega)⟩
      case round =>
        obtain ⟨k, hk, rfl, HB, HA⟩ := hrel
        by_cases hlt : k < n
        · obtain ⟨⟨pa, pb⟩, hp⟩ : ∃ p, la[k]? = some p := ⟨la[k]'(by have := HN.out; omega), List.getElem?_eq_getElem _⟩
          obtain ⟨⟨qa, qb⟩, hq⟩ : ∃ q, lb[k]? = some q := ⟨lb[k]'(by have := HN.out; have := HL.out; omega), List.getElem?_eq_getElem _⟩
          have HP : Hid (la[k]? = some (pa, pb)) := hp
          have HQ : Hid (lb[k]? = some (qa, qb)) := hq
          obtain ⟨p1, p2⟩ := HC1.out k _ hp
          obtain ⟨q1, q2⟩ := HC2.out k _ hq
          rw [← HB.out.cell (cell_lt p1), Nat.mul_comm] at p1
          rw [← HB.out.cell (cell_lt p2), Nat.mul_comm] at p2
          rw [← HB.out.cell (cell_lt q1), Nat.mul_comm] at q1
          rw [← HB.out.cell (cell_lt q2), Nat.mul_comm] at q2
          clear hp hq
          by_cases e1 : pa = qa
          · subst e1
            by_cases e2 : pb = qb
            · subst e2
              have HA2 : Hid (∀ j, j < k + 1 → la[j]? = lb[j]?) := by
                intro j hj
                by_cases hj' : j < k
                · exact HA.out j hj'
                · obtain rfl : j = k := by omega
                  rw [HP.out, HQ.out]
              go_wp2_with fail
              go_region
              go_wp2_with fail
              go_roundw
              case rel => exact ⟨k + 1, by omega, by go_num, HB.out.drew, HA2⟩
              case measure => simp [intOf]; omega
            · have e2' : ¬ pb.toList = qb.toList := fun h => e2 (toList_inj h)
              have HF : Hid (decide (la = lb) = false) := decide_eq_false fun h => by
                have := HQ.out
                rw [← h, HP.out] at this
                cases this
                exact e2 rfl
              clear e2
              go_wp2_with fail
              go_region
              go_wp2_with fail
              go_ret
              exact ⟨ret_boolX HF.out.symm, HB.out.drew⟩
          · have e1' : ¬ pa.toList = qa.toList := fun h => e1 (toList_inj h)
            have HF : Hid (decide (la = lb) = false) := decide_eq_false fun h => by
              have := HQ.out
              rw [← h, HP.out] at this
              cases this
              exact e1 rfl
            clear e1
            go_wp2_with fail
            go_region
            go_wp2_with fail
            go_ret
            exact ⟨ret_boolX HF.out.symm, HB.out.drew⟩
        · have HF : Hid (decide (la = lb) = true) := decide_eq_true (by
            apply List.ext_getElem?
            intro j
            by_cases hj : j < n
            · exact HA.out j (by omega)
            · have h1 := HN.out
              have h2 := HL.out
              rw [List.getElem?_eq_none (by omega), List.getElem?_eq_none (by omega)])
          go_wp2_with fail
          go_ret
          exact ⟨ret_boolX HF.out.symm, HB.out⟩
    · have e1 : la = [] := List.eq_nil_of_length_eq_zero (by omega)
      have e2 : lb = [] := List.eq_nil_of_length_eq_zero (by omega)
      subst e1
      subst e2
      exact sameAttrs_zero w ao1 ao2 cap1 cap2
  · have HF : decide (la = lb) = false := decide_eq_false fun h => hne (by rw [h])
    rw [HF]
    exact sameAttrs_len w ao1 ao2 _ _ cap1 cap2 hne hl1 hl2
end Go.Proofs.YtimecocegnnjjaaDoor
