/-
  Which sentries and items may be.
-/
import Derived.Test.YtlgcaklhceekiaaMOn
set_option linter.unusedSimpArgs false
set_option linter.unusedVariables false
namespace Go.Proofs.Ytlgcaklhceekiaa
open Go.RowKit
set_option maxRecDepth 100000
theorem onMayV (w : World) (m : Mp.Model) (af ai : Option Addr) (cf ci : Nat) (hm : ModelAt w af cf ai ci m) (ao : Option Addr) (n cap : Nat) (l : List Mp.On) (h : ORow w (.slice ao n cap) l) (b : Bool) (hb : Hid (Mp.onB m l = b)) :
    Calls Try.prog 50 #[.agg #[.slice af m.files.length cf, .slice ai m.items.length ci], .slice ao n cap] w fun e w' => e = .returned (.bool b) ∧ Below w.heap.size w w' := by
  rw [← hb.out]
  exact onMayD w m af ai cf ci hm ao n cap l h
theorem ifMayV (w : World) (m : Mp.Model) (af ai : Option Addr) (cf ci : Nat) (hm : ModelAt w af cf ai ci m) (ao : Option Addr) (n cap : Nat) (l : List Mp.Cond) (h : CRow w (.slice ao n cap) l) (b : Bool) (hb : Hid (Mp.ifB m l = b)) :
    Calls Try.prog 51 #[.agg #[.slice af m.files.length cf, .slice ai m.items.length ci], .slice ao n cap] w fun e w' => e = .returned (.bool b) ∧ Below w.heap.size w w' := by
  rw [← hb.out]
  exact ifMayD w m af ai cf ci hm ao n cap l h
theorem sentB_ne (m : Mp.Model) (s1 : List Mp.On) (s2 : List Mp.Cond) (h : s1 ≠ [] ∨ s2 ≠ []) : Mp.sentB m (s1, s2) = (Mp.onB m s1 && Mp.ifB m s2) := by
  unfold Mp.sentB
  have : (decide (s1.length = 0) && decide (s2.length = 0)) = false := by
    rw [Bool.and_eq_false_iff]
    rcases h with h | h
    · exact .inl (decide_eq_false fun e => h (List.eq_nil_of_length_eq_zero e))
    · exact .inr (decide_eq_false fun e => h (List.eq_nil_of_length_eq_zero e))
  dsimp only
  rw [this]
  rfl
set_option maxHeartbeats 2000000 in
theorem sentriesD (w : World) (m : Mp.Model) (af ai : Option Addr) (cf ci : Nat) (hm : ModelAt w af cf ai ci m) (ao : Option Addr) (n cap : Nat) (l : List Mp.Sent) (h : SRow w (.slice ao n cap) l) :
    Calls Try.prog 47 #[.agg #[.slice af m.files.length cf, .slice ai m.items.length ci], .slice ao n cap] w fun e w' => e = .returned (.bool (Mp.sentsB m l)) ∧ Below w.heap.size w w' := by
  obtain ⟨hn, hl, hcap, b, o, ha, hc⟩ := srow_at h
  have HN := hideT hn
  have HC := hideT hc
  have HA := hideT ha
  have HM := hideT hm
  clear hn hc ha h hm
  by_cases h2 : 3 < n
  · have HF : Hid (Mp.sentsB m l = false) := by show _ = _; unfold Mp.sentsB; rw [decide_eq_false (by have := HN.out; omega)]; rfl
    go_enter Try.func47, Try.ntmps47
    go_wp2_with fail
    go_ret
    exact ⟨ret_b HF.out.symm, (Below.refl _ _).alloc (Nat.le_refl _) _⟩
  have HF : Hid (Mp.sentsB m l = l.all (Mp.sentB m)) := by show _ = _; unfold Mp.sentsB; rw [decide_eq_true (by have := HN.out; omega)]; rfl
  go_enter Try.func47, Try.ntmps47
  go_wp2_with fail
  go_loopw [12] (fun i wr => ∃ k : Nat, k ≤ n ∧ i = .int .i64 k ∧ Hid ((l.drop k).all (Mp.sentB m) = l.all (Mp.sentB m)) ∧ Hid (Below w.heap.size w wr ∧ Lies wr w.heap.size 25 #[.slice af m.files.length cf, .slice ai m.items.length ci])) (fun i _ => n - (intOf i).toNat)
  case atStart => exact ⟨0, by omega, rfl, rfl, (Below.refl _ _).alloc (Nat.le_refl _) _, Lies.new _ _ _⟩
  case round =>
    obtain ⟨k, hk, rfl, HB, HW⟩ := hrel
    have x0 : wr.cell? ⟨w.heap.size, 0, none⟩ = some (.slice af m.files.length cf) := HW.out.2.cell 0
    have x1 : wr.cell? ⟨w.heap.size, 1, none⟩ = some (.slice ai m.items.length ci) := HW.out.2.cell 1
    have hsz := HW.out.2.lt
    by_cases hlt : k < n
    · obtain ⟨⟨s1, s2⟩, hx⟩ := Mp.at_lt (l := l) (k := k) (by have := HN.out; omega)
      obtain ⟨a1, c1, a2, c2, r1, r2, d0, d1⟩ := HC.out k _ hx
      have d0 := below_cell HW.out.1 _ _ d0
      have d1 := below_cell HW.out.1 _ _ d1
      obtain rfl := HA.out (by omega)
      dsimp only at d0 d1 r1 r2
      have hl1 := (orow_at r1).2.1
      have hl2 := (crow_at r2).2.1
      have hB2 := HB.out
      rw [Mp.drop_at hx, List.all_cons] at hB2
      have HB2 := hideT hB2
      clear hB2
      clear hx
      have BA := hideT ((Below.refl wr.heap.size wr).alloc (Nat.le_refl _) (.cells #[.slice a1 s1.length c1, .slice a2 s2.length c2] 38))
      have LA := hideT (Lies.new wr 38 #[.slice a1 s1.length c1, .slice a2 s2.length c2])
      have BW := hideT (HW.out.1.trans (BA.out.mono HW.out.1.size))
      have LW := hideT (HW.out.2.below BA.out)
      have HMW := hideT (HM.out.below BW.out)
      have R1 := hideT (orow_below r1 BW.out)
      have R2 := hideT r2
      clear r1 r2
      obtain ⟨b1, H1⟩ : ∃ y, Hid (Mp.onB m s1 = y) := ⟨_, rfl⟩
      obtain ⟨b2, H2⟩ : ∃ y, Hid (Mp.ifB m s2 = y) := ⟨_, rfl⟩
      have hpart : (s1 = [] ∧ s2 = []) ∨ (s1 = [] ∧ ((s2.length : Int) == 0) = false ∧ s2 ≠ []) ∨ (((s1.length : Int) == 0) = false ∧ s1 ≠ []) := by
        cases s1 with
        | nil => cases s2 with
          | nil => exact .inl ⟨rfl, rfl⟩
          | cons a t => exact .inr (.inl ⟨rfl, beq_eq_false_iff_ne.2 (by simp only [List.length_cons]; omega), by simp⟩)
        | cons a t => exact .inr (.inr ⟨beq_eq_false_iff_ne.2 (by simp only [List.length_cons]; omega), by simp⟩)
      rcases hpart with ⟨rfl, rfl⟩ | ⟨rfl, ht, hne⟩ | ⟨ht, hne⟩
      · have HR : Hid (l.all (Mp.sentB m) = false) := by show _ = _; rw [← HB2.out]; rfl
        go_wp2_with fail
        go_ret
        exact ⟨ret_b (by rw [HF.out, HR.out]), BW.out⟩
      · have hB3 := HB2.out
        rw [sentB_ne m _ _ (.inr hne)] at hB3
        have HB3 := hideT hB3
        clear hne hB3
        cases b1
        · have HR : Hid (l.all (Mp.sentB m) = false) := by show _ = _; rw [← HB3.out, H1.out]; rfl
          go_wp2_with fail
          refine (onMayV _ m af ai cf ci HMW.out a1 _ c1 _ R1.out false H1).mono ?_
          rintro e w1 ⟨rfl, p1⟩
          go_wp2_with fail
          go_ret
          exact ⟨ret_b (by rw [HF.out, HR.out]), BW.out.trans (p1.mono BW.out.size)⟩
        go_wp2_with fail
        refine (onMayV _ m af ai cf ci HMW.out a1 _ c1 _ R1.out true H1).mono ?_
        rintro e w1 ⟨rfl, p1⟩
        have BW1 := hideT (BW.out.trans (p1.mono BW.out.size))
        have LW1 := hideT (LW.out.below p1)
        have HMW1 := hideT (HM.out.below BW1.out)
        have R2' := hideT (crow_below R2.out BW1.out)
        have y0 : w1.cell? ⟨w.heap.size, 0, none⟩ = some (.slice af m.files.length cf) := LW1.out.cell 0
        have y1 : w1.cell? ⟨w.heap.size, 1, none⟩ = some (.slice ai m.items.length ci) := LW1.out.cell 1
        have y2 : w1.cell? ⟨wr.heap.size, 1, none⟩ = some (.slice a2 s2.length c2) := (LA.out.below p1).cell 1
        clear p1 d0 d1 x0 x1
        cases b2
        · have HR : Hid (l.all (Mp.sentB m) = false) := by show _ = _; rw [← HB3.out, H1.out, H2.out]; rfl
          go_wp2_with fail
          refine (ifMayV _ m af ai cf ci HMW1.out a2 _ c2 s2 R2'.out false H2).mono ?_
          rintro e w2 ⟨rfl, p2⟩
          go_wp2_with fail
          go_ret
          exact ⟨ret_b (by rw [HF.out, HR.out]), BW1.out.trans (p2.mono BW1.out.size)⟩
        have HR : Hid ((l.drop (k + 1)).all (Mp.sentB m) = l.all (Mp.sentB m)) := by show _ = _; rw [← HB3.out, H1.out, H2.out]; rfl
        go_wp2_with fail
        refine (ifMayV _ m af ai cf ci HMW1.out a2 _ c2 s2 R2'.out true H2).mono ?_
        rintro e w2 ⟨rfl, p2⟩
        have BW2 := hideT (BW1.out.trans (p2.mono BW1.out.size))
        have LW2 := hideT (LW1.out.below p2)
        clear p2 y0 y1 y2
        go_wp2_with fail
        go_roundw
        case rel => exact ⟨k + 1, by omega, by go_num, HR, BW2.out, LW2.out⟩
        case measure => simp [intOf]; omega
      · have hB3 := HB2.out
        rw [sentB_ne m _ _ (.inl hne)] at hB3
        have HB3 := hideT hB3
        clear hne hB3
        cases b1
        · have HR : Hid (l.all (Mp.sentB m) = false) := by show _ = _; rw [← HB3.out, H1.out]; rfl
          go_wp2_with fail
          refine (onMayV _ m af ai cf ci HMW.out a1 _ c1 _ R1.out false H1).mono ?_
          rintro e w1 ⟨rfl, p1⟩
          go_wp2_with fail
          go_ret
          exact ⟨ret_b (by rw [HF.out, HR.out]), BW.out.trans (p1.mono BW.out.size)⟩
        go_wp2_with fail
        refine (onMayV _ m af ai cf ci HMW.out a1 _ c1 _ R1.out true H1).mono ?_
        rintro e w1 ⟨rfl, p1⟩
        have BW1 := hideT (BW.out.trans (p1.mono BW.out.size))
        have LW1 := hideT (LW.out.below p1)
        have HMW1 := hideT (HM.out.below BW1.out)
        have R2' := hideT (crow_below R2.out BW1.out)
        have y0 : w1.cell? ⟨w.heap.size, 0, none⟩ = some (.slice af m.files.length cf) := LW1.out.cell 0
        have y1 : w1.cell? ⟨w.heap.size, 1, none⟩ = some (.slice ai m.items.length ci) := LW1.out.cell 1
        have y2 : w1.cell? ⟨wr.heap.size, 1, none⟩ = some (.slice a2 s2.length c2) := (LA.out.below p1).cell 1
        clear p1 d0 d1 x0 x1
        cases b2
        · have HR : Hid (l.all (Mp.sentB m) = false) := by show _ = _; rw [← HB3.out, H1.out, H2.out]; rfl
          go_wp2_with fail
          refine (ifMayV _ m af ai cf ci HMW1.out a2 _ c2 s2 R2'.out false H2).mono ?_
          rintro e w2 ⟨rfl, p2⟩
          go_wp2_with fail
          go_ret
          exact ⟨ret_b (by rw [HF.out, HR.out]), BW1.out.trans (p2.mono BW1.out.size)⟩
        have HR : Hid ((l.drop (k + 1)).all (Mp.sentB m) = l.all (Mp.sentB m)) := by show _ = _; rw [← HB3.out, H1.out, H2.out]; rfl
        go_wp2_with fail
        refine (ifMayV _ m af ai cf ci HMW1.out a2 _ c2 s2 R2'.out true H2).mono ?_
        rintro e w2 ⟨rfl, p2⟩
        have BW2 := hideT (BW1.out.trans (p2.mono BW1.out.size))
        have LW2 := hideT (LW1.out.below p2)
        clear p2 y0 y1 y2
        go_wp2_with fail
        go_roundw
        case rel => exact ⟨k + 1, by omega, by go_num, HR, BW2.out, LW2.out⟩
        case measure => simp [intOf]; omega
    · have HR : Hid (l.all (Mp.sentB m) = true) := by show _ = _; rw [← HB.out, Mp.drop_all (by have := HN.out; omega)]; rfl
      go_wp2_with fail
      go_ret
      exact ⟨ret_b (by rw [HF.out, HR.out]), HW.out.1⟩
end Go.Proofs.Ytlgcaklhceekiaa
