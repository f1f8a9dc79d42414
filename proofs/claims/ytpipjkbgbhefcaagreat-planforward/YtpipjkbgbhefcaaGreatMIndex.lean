/-
  slices.Index and slices.Contains, of texts and of events.
-/
import Derived.Test.YtpipjkbgbhefcaaGreatMSmall
import Derived.BigQuiet
set_option linter.unusedSimpArgs false
set_option linter.unusedVariables false
namespace Go.Proofs.YtpipjkbgbhefcaaGreat
open Go.RowKit
theorem ret_i {k : IntKind} {a v : Int} (h : a = v) : Ending.returned (.int k a) = .returned (.int k v) := by rw [h]
def idxZ {α : Type} [DecidableEq α] (l : List α) (s : α) : Int := match Mp.idx l s with
  | some k => k
  | none => -1
theorem idxZ_some {α : Type} [DecidableEq α] {l : List α} {s : α} {k : Nat} (h : l[k]? = some s) (hb : ∀ (j : Nat) y, j < k → l[j]? = some y → y ≠ s) : idxZ l s = k := by
  unfold idxZ Mp.idx
  rw [Mp.find_some h (decide_eq_true rfl) (fun j y hj hy => decide_eq_false (hb j y hj hy))]
theorem idxZ_none {α : Type} [DecidableEq α] {l : List α} {s : α} (hb : ∀ (j : Nat) y, l[j]? = some y → y ≠ s) : idxZ l s = -1 := by
  unfold idxZ Mp.idx
  rw [Mp.find_none (fun j y hy => decide_eq_false (hb j y hy))]
theorem idxZ_has {α : Type} [DecidableEq α] (l : List α) (s : α) : decide (0 ≤ idxZ l s) = Mp.has l s := by
  unfold idxZ Mp.has
  cases Mp.idx l s with
  | none => rfl
  | some k => exact decide_eq_true (by show (0 : Int) ≤ k; omega)
theorem idxZ_ge {α : Type} [DecidableEq α] (l : List α) (s : α) : -1 ≤ idxZ l s := by
  unfold idxZ
  cases Mp.idx l s with
  | none => exact Int.le_refl _
  | some k => show (-1 : Int) ≤ k; omega
theorem indexS (w : World) (ao : Option Addr) (n cap : Nat) (l : List ByteArray) (s : ByteArray) (h : FRow w (.slice ao n cap) l) :
    Calls Tryz.prog 60 #[.slice ao n cap, .string s] w fun e w' => e = .returned (.int .i64 (idxZ l s)) ∧ w' = w := by
  obtain ⟨hn, hl, hcap, b, o, ha, hc⟩ := frow_at h
  have HN := hideT hn
  have HC := hideT hc
  have HA := hideT ha
  clear hn hc ha h
  go_enter Tryz.func60, Tryz.ntmps60
  go_wp2_with fail
  go_loop [8] (fun i => ∃ k : Nat, k ≤ n ∧ i = .int .i64 k ∧ Hid (∀ (j : Nat) y, j < k → l[j]? = some y → y ≠ s)) (fun i => n - (intOf i).toNat)
  case atStart => exact ⟨0, by omega, rfl, fun j y hj => absurd hj (by omega)⟩
  case round =>
    obtain ⟨k, hk, rfl, HB⟩ := hrel
    by_cases hlt : k < n
    · obtain ⟨t, ht⟩ := Mp.at_lt (l := l) (k := k) (by have := HN.out; omega)
      obtain ⟨hz, c0⟩ := HC.out k t ht
      obtain rfl := HA.out (by omega)
      have HT := hideT ht
      clear ht
      by_cases e : s = t
      · subst e
        have HF := hideT (idxZ_some HT.out HB.out)
        go_wp2_with fail
        go_ret
        exact ⟨ret_i HF.out.symm, rfl⟩
      · have e1 : (s.toList == t.toList) = false := beq_eq_false_iff_ne.2 fun h => e (toList_inj h)
        have HE := hideT e
        clear e
        go_wp2_with fail
        go_round
        case rel =>
          refine ⟨k + 1, by omega, by go_num, fun j y hj hy => ?_⟩
          by_cases hj' : j < k
          · exact HB.out j y hj' hy
          · obtain rfl : j = k := by omega
            rw [HT.out] at hy
            cases hy
            exact fun h => HE.out h.symm
        case measure => simp [intOf]; omega
    · have HF := hideT (idxZ_none (l := l) (s := s) (fun j y hy => HB.out j y (by have := HN.out; have := (List.getElem?_eq_some_iff.1 hy).1; omega) hy))
      go_wp2_with fail
      go_ret
      exact ⟨ret_i HF.out.symm, rfl⟩
theorem containsS (w : World) (ao : Option Addr) (n cap : Nat) (l : List ByteArray) (s : ByteArray) (h : FRow w (.slice ao n cap) l) :
    Calls Tryz.prog 104 #[.slice ao n cap, .string s] w fun e w' => e = .returned (.bool (Mp.has l s)) ∧ w' = w := by
  have H := hideT h
  clear h
  go_enter Tryz.func104, Tryz.ntmps104
  go_wp2_with fail
  refine (indexS w ao n cap l s H.out).mono ?_
  rintro e w1 ⟨rfl, rfl⟩
  go_wp2_with fail
  go_ret
  exact ⟨ret_b (idxZ_has l s), rfl⟩
theorem indexO (w : World) (ao : Option Addr) (n cap : Nat) (l : List Mp.On) (s : Mp.On) (h : ORow w (.slice ao n cap) l) :
    Calls Tryz.prog 126 #[.slice ao n cap, .agg #[.string s.1, .int .i64 s.2]] w fun e w' => e = .returned (.int .i64 (idxZ l s)) ∧ Below w.heap.size w w' := by
  obtain ⟨hn, hl, hcap, b, o, ha, hc⟩ := orow_at h
  obtain ⟨s1, s2⟩ := s
  have HN := hideT hn
  have HC := hideT hc
  have HA := hideT ha
  clear hn hc ha h
  dsimp only
  go_enter Tryz.func126, Tryz.ntmps126
  go_wp2_with fail
  go_loopw [8] (fun i wr => ∃ k : Nat, k ≤ n ∧ i = .int .i64 k ∧ Hid (∀ (j : Nat) y, j < k → l[j]? = some y → y ≠ (s1, s2)) ∧ Hid (Below w.heap.size w wr ∧ Lies wr w.heap.size 101 #[.string s1, .int .i64 s2])) (fun i _ => n - (intOf i).toNat)
  case atStart => exact ⟨0, by omega, rfl, fun j y hj => absurd hj (by omega), (Below.refl _ _).alloc (Nat.le_refl _) _, Lies.new _ _ _⟩
  case round =>
    obtain ⟨k, hk, rfl, HB, HW⟩ := hrel
    have x0 := HW.out.2.cell 0
    have x1 := HW.out.2.cell 1
    simp only [List.getElem?_toArray, List.getElem?_cons_zero, List.getElem?_cons_succ] at x0 x1
    by_cases hlt : k < n
    · obtain ⟨⟨t1, t2⟩, ht⟩ := Mp.at_lt (l := l) (k := k) (by have := HN.out; omega)
      obtain ⟨hz, c0, c1⟩ := HC.out k _ ht
      have c0' := below_cell HW.out.1 _ _ c0
      have c1' := below_cell HW.out.1 _ _ c1
      dsimp only at c0' c1'
      obtain rfl := HA.out (by omega)
      have HT := hideT ht
      clear ht c0 c1
      by_cases e : (s1, s2) = (t1, t2)
      · have e1 : s1 = t1 := congrArg Prod.fst e
        have e2 : s2 = t2 := congrArg Prod.snd e
        subst e1
        subst e2
        have HF := hideT (idxZ_some HT.out HB.out)
        clear e
        go_wp2_with fail
        go_region
        go_wp2_with fail
        go_ret
        exact ⟨ret_i HF.out.symm, HW.out.1.drew⟩
      · have HR : Hid (∀ (j : Nat) y, j < k + 1 → l[j]? = some y → y ≠ (s1, s2)) := by
          intro j y hj hy
          by_cases hj' : j < k
          · exact HB.out j y hj' hy
          · obtain rfl : j = k := by omega
            rw [HT.out] at hy
            cases hy
            exact fun h => e h.symm
        by_cases e1 : s1 = t1
        · have e2 : ¬ s2 = t2 := fun h => e (by rw [e1, h])
          subst e1
          clear e
          go_wp2_with fail
          go_region
          go_wp2_with fail
          go_roundw
          case rel => exact ⟨k + 1, by omega, by go_num, HR, HW.out.1.drew, HW.out.2⟩
          case measure => simp [intOf]; omega
        · have e2 : ¬ s1.toList = t1.toList := fun h => e1 (toList_inj h)
          clear e e1
          go_wp2_with fail
          go_region
          go_wp2_with fail
          go_roundw
          case rel => exact ⟨k + 1, by omega, by go_num, HR, HW.out.1.drew, HW.out.2⟩
          case measure => simp [intOf]; omega
    · have HF := hideT (idxZ_none (l := l) (s := (s1, s2)) (fun j y hy => HB.out j y (by have := HN.out; have := (List.getElem?_eq_some_iff.1 hy).1; omega) hy))
      go_wp2_with fail
      go_ret
      exact ⟨ret_i HF.out.symm, HW.out.1⟩
theorem containsO (w : World) (ao : Option Addr) (n cap : Nat) (l : List Mp.On) (s : Mp.On) (h : ORow w (.slice ao n cap) l) :
    Calls Tryz.prog 121 #[.slice ao n cap, .agg #[.string s.1, .int .i64 s.2]] w fun e w' => e = .returned (.bool (Mp.has l s)) ∧ Below w.heap.size w w' := by
  have H := hideT h
  clear h
  obtain ⟨s1, s2⟩ := s
  dsimp only
  go_enter Tryz.func121, Tryz.ntmps121
  go_wp2_with fail
  generalize hW1 : w.alloc _ = W1
  have B1 : Below w.heap.size w W1 := by rw [← hW1]; exact (Below.refl _ _).alloc (Nat.le_refl _) _
  refine (indexO W1 ao n cap l (s1, s2) (orow_below H.out B1)).mono ?_
  rintro e w1 ⟨rfl, b1⟩
  go_wp2_with fail
  go_ret
  exact ⟨ret_b (idxZ_has l _), B1.trans (b1.mono B1.size)⟩
end Go.Proofs.YtpipjkbgbhefcaaGreat
