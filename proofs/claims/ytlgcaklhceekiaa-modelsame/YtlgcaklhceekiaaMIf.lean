/-
  Which conditions, events, sentries may be.
-/
import Derived.Test.YtlgcaklhceekiaaMIds
set_option linter.unusedSimpArgs false
set_option linter.unusedVariables false
namespace Go.Proofs.Ytlgcaklhceekiaa
open Go.RowKit
set_option maxRecDepth 100000
theorem isOpV (s : ByteArray) (w : World) (b : Bool) (h : Hid (Mp.opB s = b)) :
    Calls Try.prog 56 #[.string s] w fun e w' => e = .returned (.bool b) ∧ w' = w := by
  rw [← h.out]
  exact isOpD s w
set_option maxHeartbeats 1000000 in
theorem ifMayD (w : World) (m : Mp.Model) (af ai : Option Addr) (cf ci : Nat) (hm : ModelAt w af cf ai ci m) (ao : Option Addr) (n cap : Nat) (l : List Mp.Cond) (h : CRow w (.slice ao n cap) l) :
    Calls Try.prog 51 #[.agg #[.slice af m.files.length cf, .slice ai m.items.length ci], .slice ao n cap] w fun e w' => e = .returned (.bool (Mp.ifB m l)) ∧ Below w.heap.size w w' := by
  obtain ⟨hn, hl, hcap, b, o, ha, hc⟩ := crow_at h
  have HN := hideT hn
  have HC := hideT hc
  have HA := hideT ha
  have HM := hideT hm
  clear hn hc ha h hm
  by_cases h2 : 2 < n
  · have HF : Hid (Mp.ifB m l = false) := by show _ = _; unfold Mp.ifB; rw [decide_eq_false (by have := HN.out; omega)]; rfl
    go_enter Try.func51, Try.ntmps51
    go_wp2_with fail
    go_ret
    exact ⟨ret_b HF.out.symm, (Below.refl _ _).alloc (Nat.le_refl _) _⟩
  have HF : Hid (Mp.ifB m l = l.all (Mp.condB m.files)) := by show _ = _; unfold Mp.ifB; rw [decide_eq_true (by have := HN.out; omega)]; rfl
  go_enter Try.func51, Try.ntmps51
  go_wp2_with fail
  go_loopw [12] (fun i wr => ∃ k : Nat, k ≤ n ∧ i = .int .i64 k ∧ Hid ((l.drop k).all (Mp.condB m.files) = l.all (Mp.condB m.files)) ∧ Hid (Below w.heap.size w wr ∧ Lies wr w.heap.size 25 #[.slice af m.files.length cf, .slice ai m.items.length ci])) (fun i _ => n - (intOf i).toNat)
  case atStart => exact ⟨0, by omega, rfl, rfl, (Below.refl _ _).alloc (Nat.le_refl _) _, Lies.new _ _ _⟩
  case round =>
    obtain ⟨k, hk, rfl, HB, HW⟩ := hrel
    have x0 : wr.cell? ⟨w.heap.size, 0, none⟩ = some (.slice af m.files.length cf) := HW.out.2.cell 0
    have x1 : wr.cell? ⟨w.heap.size, 1, none⟩ = some (.slice ai m.items.length ci) := HW.out.2.cell 1
    have hsz := HW.out.2.lt
    by_cases hlt : k < n
    · obtain ⟨⟨c1, c2, c3⟩, hx⟩ := Mp.at_lt (l := l) (k := k) (by have := HN.out; omega)
      obtain ⟨hz, d0, d1, d2⟩ := HC.out k _ hx
      have d0 := below_cell HW.out.1 _ _ d0
      have d1 := below_cell HW.out.1 _ _ d1
      have d2 := below_cell HW.out.1 _ _ d2
      obtain rfl := HA.out (by omega)
      dsimp only at d0 d1 d2 hz
      have hB2 := HB.out
      rw [Mp.drop_at hx, List.all_cons] at hB2
      have HB2 := hideT hB2
      clear hB2
      clear hx
      have BA := hideT ((Below.refl wr.heap.size wr).alloc (Nat.le_refl _) (.cells #[.string c1, .string c2, .int .i64 c3] 42))
      have BW := hideT (HW.out.1.trans (BA.out.mono HW.out.1.size))
      have LW := hideT (HW.out.2.below BA.out)
      have HFR := hideT (frow_below HM.out.files BW.out)
      obtain ⟨b1, H1⟩ : ∃ x, Hid (Mp.has m.files c1 = x) := ⟨_, rfl⟩
      obtain ⟨b2, H2⟩ : ∃ x, Hid (Mp.opB c2 = x) := ⟨_, rfl⟩
      cases b1
      · have HR : Hid (l.all (Mp.condB m.files) = false) := by show _ = _; rw [← HB2.out]; unfold Mp.condB; rw [H1.out]; rfl
        go_wp2_with fail
        refine (containsSV _ af m.files.length cf m.files c1 HFR.out false H1).mono ?_
        rintro e w1 ⟨rfl, rfl⟩
        go_wp2_with fail
        go_ret
        exact ⟨ret_b (by rw [HF.out, HR.out]), BW.out⟩
      cases b2
      · have HR : Hid (l.all (Mp.condB m.files) = false) := by show _ = _; rw [← HB2.out]; unfold Mp.condB; rw [H1.out, H2.out]; rfl
        go_wp2_with fail
        refine (containsSV _ af m.files.length cf m.files c1 HFR.out true H1).mono ?_
        rintro e w1 ⟨rfl, rfl⟩
        go_wp2_with fail
        refine (isOpV c2 _ false H2).mono ?_
        rintro e w1 ⟨rfl, rfl⟩
        go_wp2_with fail
        go_ret
        exact ⟨ret_b (by rw [HF.out, HR.out]), BW.out⟩
      by_cases h3 : c3 < -1000000
      · have HR : Hid (l.all (Mp.condB m.files) = false) := by show _ = _; rw [← HB2.out]; unfold Mp.condB; rw [H1.out, H2.out, decide_eq_false (p := -1000000 ≤ (c1, c2, c3).2.2) (by show ¬ _ ≤ c3; omega)]; rfl
        go_wp2_with fail
        refine (containsSV _ af m.files.length cf m.files c1 HFR.out true H1).mono ?_
        rintro e w1 ⟨rfl, rfl⟩
        go_wp2_with fail
        refine (isOpV c2 _ true H2).mono ?_
        rintro e w1 ⟨rfl, rfl⟩
        go_wp2_with fail
        go_ret
        exact ⟨ret_b (by rw [HF.out, HR.out]), BW.out⟩
      by_cases h4 : 1000000 < c3
      · have HR : Hid (l.all (Mp.condB m.files) = false) := by show _ = _; rw [← HB2.out]; unfold Mp.condB; rw [H1.out, H2.out, decide_eq_false (p := (c1, c2, c3).2.2 ≤ 1000000) (by show ¬ c3 ≤ _; omega)]; simp
        go_wp2_with fail
        refine (containsSV _ af m.files.length cf m.files c1 HFR.out true H1).mono ?_
        rintro e w1 ⟨rfl, rfl⟩
        go_wp2_with fail
        refine (isOpV c2 _ true H2).mono ?_
        rintro e w1 ⟨rfl, rfl⟩
        go_wp2_with fail
        go_ret
        exact ⟨ret_b (by rw [HF.out, HR.out]), BW.out⟩
      have HR : Hid ((l.drop (k + 1)).all (Mp.condB m.files) = l.all (Mp.condB m.files)) := by
        show _ = _
        rw [← HB2.out]
        unfold Mp.condB
        rw [H1.out, H2.out, decide_eq_true (p := -1000000 ≤ (c1, c2, c3).2.2) (by show _ ≤ c3; omega), decide_eq_true (p := (c1, c2, c3).2.2 ≤ 1000000) (by show c3 ≤ _; omega)]
        rfl
      go_wp2_with fail
      refine (containsSV _ af m.files.length cf m.files c1 HFR.out true H1).mono ?_
      rintro e w1 ⟨rfl, rfl⟩
      go_wp2_with fail
      refine (isOpV c2 _ true H2).mono ?_
      rintro e w1 ⟨rfl, rfl⟩
      go_wp2_with fail
      go_roundw
      case rel => exact ⟨k + 1, by omega, by go_num, HR, BW.out, LW.out⟩
      case measure => simp [intOf]; omega
    · have HR : Hid (l.all (Mp.condB m.files) = true) := by show _ = _; rw [← HB.out, Mp.drop_all (by have := HN.out; omega)]; rfl
      go_wp2_with fail
      go_ret
      exact ⟨ret_b (by rw [HF.out, HR.out]), HW.out.1⟩
end Go.Proofs.Ytlgcaklhceekiaa
