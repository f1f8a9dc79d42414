/-
  An act.
-/
import Derived.Test.YtkjekohncfhbiabGUser
import Derived.Test.YtkjekohncfhbiabGTick
set_option linter.unusedSimpArgs false
set_option linter.unusedVariables false
namespace Go.Proofs.Ytkjekohncfhbiab
open Go.RowKit
set_option maxRecDepth 100000
namespace Gp
theorem restS_cnts (K : KP) (s t : St) : (restS K s t).2.cnts = t.cnts ∨ (restS K s t).2.cnts = s.cnts := by
  unfold restS
  split
  · exact .inl rfl
  · exact .inr rfl
theorem cntsT_in {fl : List Bool} : ∀ {cs : List Rp.Ctr} {ns : List Int}, (∀ c ∈ cs, 1 ≤ c.2.1 ∧ c.2.1 ≤ 100) → CntIn ns → CntIn (cntsT fl cs ns)
  | [], _, _, _ => fun x hx => by simp [cntsT] at hx
  | c :: cs, [], _, _ => fun x hx => by simp [cntsT] at hx
  | c :: cs, n :: ns, h, hn => fun x hx => by
    have ih := cntsT_in (fl := fl) (cs := cs) (ns := ns) (fun d hd => h d (List.mem_cons_of_mem _ hd)) (fun y hy => hn y (List.mem_cons_of_mem _ hy))
    unfold cntsT at hx
    rcases List.mem_cons.1 hx with e | e
    · rw [e]
      unfold cntT
      have h1 := h c List.mem_cons_self
      have h2 := hn n List.mem_cons_self
      split <;> omega
    · exact ih x e
theorem cnts_do {K : KP} {F : Nat} {s : St} (hok : KOk K F) (h : CntIn s.cnts) (a : Act) : CntIn (doS K s a).2.cnts := by
  have hl : ∀ c ∈ K.ctrs, 1 ≤ c.2.1 ∧ c.2.1 ≤ 100 := fun c hc => (hok.ctrs c hc).2.1
  have hr : ∀ t : St, CntIn t.cnts → CntIn (restS K s t).2.cnts := fun t ht => by
    rcases restS_cnts K s t with e | e
    · rw [e]; exact ht
    · rw [e]; exact h
  have hf : ∀ (t : St) fs, CntIn t.cnts → CntIn (fromS K s t fs).2.cnts := fun t fs ht => hr _ ht
  unfold doS
  split
  · exact h
  split
  · exact h
  split
  · unfold userS
    split
    · exact hf _ _ h
    · exact h
  split
  · unfold writeS
    split
    · exact h
    · exact hr _ h
  · unfold tickS
    split
    · exact hf _ _ (cntsT_in hl h)
    · exact hr _ (cntsT_in hl h)
end Gp
abbrev actG (a : Gp.Act) : Value := .agg #[.int .i64 a.kind, .string a.item, .int .i64 a.event, .string a.file, .int .i64 a.n]
theorem doNil (a : Gp.Act) (w : World) : Calls Try.prog 8 #[.pointer none, actG a] w (fun e w' => e = .returned (.int .i64 1) ∧ Below w.heap.size w w') := by
  have BA := hideT ((Below.refl w.heap.size w).alloc (Nat.le_refl _) (.cells #[.int .i64 a.kind, .string a.item, .int .i64 a.event, .string a.file, .int .i64 a.n] 23))
  go_enter Try.func8, Try.ntmps8
  go_wp2_with fail
  go_ret
  exact ⟨rfl, BA.out⟩
section
variable {w w' : World} {b : Nat} {A : KA} {K : Gp.KP} {S : Nat → Prop} {fb nb cb F N C : Nat} {st t : Gp.St}
theorem ActPost.under {w0 : World} {r : Int × Gp.St} {e : Ending} (h : ActPost w b A K S F N C r e w') (h0 : Below w0.heap.size w0 w) : ActPost w0 b A K S F N C r e w' := by
  obtain ⟨h1, fb, nb, cb, m, k⟩ := h
  exact ⟨h1, fb, nb, cb, m, (Keep.of_below h0).trans k⟩
set_option maxHeartbeats 4000000 in
theorem doD11 (h : MIn w b A K S fb nb cb F N C st) (hci : Gp.CntIn st.cnts) (a : Gp.Act) : Calls Try.prog 8 #[.pointer (some ⟨b, 0, none⟩), actG a] w (ActPost w b A K S F N C (Gp.doS K st a)) := by
  obtain ⟨kd, it, ev, fi, n⟩ := a
  dsimp only [actG]
  obtain ⟨V, hV⟩ : ∃ V, w.alloc (.cells #[.int .i64 kd, .string it, .int .i64 ev, .string fi, .int .i64 n] 23) = V := ⟨_, rfl⟩
  have BV : Below w.heap.size w V := by rw [← hV]; exact (Below.refl _ w).alloc (Nat.le_refl _) _
  have LV : Lies V w.heap.size 23 #[.int .i64 kd, .string it, .int .i64 ev, .string fi, .int .i64 n] := by rw [← hV]; exact Lies.new _ _ _
  have HM := hideT (h.below BV)
  have HCI := hideT hci
  have HB := hideT BV
  have HL := hideT LV
  have HV := hideT hV
  have HSAME : Hid (∀ r : Int, ∀ W, Below V.heap.size V W → ActPost w b A K S F N C (r, st) (.returned (.int .i64 r)) W) := fun r W hW => ⟨rfl, fb, nb, cb, (h.below BV).below hW, Keep.of_below (BV.trans (hW.mono BV.size))⟩
  clear h hci BV LV hV
  by_cases hk1 : kd < 1
  · have HR : Hid (Gp.doS K st ⟨kd, it, ev, fi, n⟩ = (1, st)) := by show _ = _; unfold Gp.doS; rw [if_pos (Or.inl hk1)]
    go_enter Try.func8, Try.ntmps8
    go_wp2_with fail
    rw [HV.out]
    go_ret
    rw [HR.out]
    exact HSAME.out 1 V (Below.refl _ _)
  by_cases hk3 : 3 < kd
  · have HR : Hid (Gp.doS K st ⟨kd, it, ev, fi, n⟩ = (1, st)) := by show _ = _; unfold Gp.doS; rw [if_pos (Or.inr hk3)]
    have hk3' : kd > 3 := hk3
    go_enter Try.func8, Try.ntmps8
    go_wp2_with fail
    rw [HV.out]
    go_ret
    rw [HR.out]
    exact HSAME.out 1 V (Below.refl _ _)
  have hk3' : ¬ kd > 3 := hk3
  have HK : Hid (¬ (kd < 1 ∨ 3 < kd)) := fun e => e.elim hk1 hk3
  have x0 : V.cell? ⟨w.heap.size, 0, none⟩ = some (.int .i64 kd) := HL.out.cell 0
  obtain ⟨ov, hov⟩ : ∃ ov, Hid (Gp.overS K st = ov) := ⟨_, rfl⟩
  cases ov
  rotate_left
  · have HR : Hid (Gp.doS K st ⟨kd, it, ev, fi, n⟩ = (9, st)) := by show _ = _; unfold Gp.doS; rw [if_neg HK.out, if_pos hov.out]
    go_enter Try.func8, Try.ntmps8
    go_wp2_with fail
    rw [HV.out]
    refine (isOverD HM.out true hov).mono ?_
    rintro e w1 ⟨rfl, b1⟩
    have HB1 := hideT b1
    clear b1 x0
    go_wp2_with fail
    go_ret
    rw [HR.out]
    exact HSAME.out 9 w1 HB1.out
  have HOV : Hid (¬ Gp.overS K st = true) := fun e => by rw [hov.out] at e; cases e
  by_cases h1 : kd = 1
  · subst h1
    have HR : Hid (Gp.doS K st ⟨1, it, ev, fi, n⟩ = Gp.userS K st it ev) := by show _ = _; unfold Gp.doS; rw [if_neg HK.out, if_neg HOV.out, if_pos rfl]
    go_enter Try.func8, Try.ntmps8
    go_wp2_with fail
    rw [HV.out]
    refine (isOverD HM.out false hov).mono ?_
    rintro e w1 ⟨rfl, b1⟩
    have HB1 := hideT (HB.out.trans (b1.mono HB.out.size))
    have HM1 := hideT (HM.out.below b1)
    have L1 := HL.out.below b1
    have y0 : w1.cell? ⟨w.heap.size, 0, none⟩ = some (.int .i64 1) := L1.cell 0
    have y1 : w1.cell? ⟨w.heap.size, 1, none⟩ = some (.string it) := L1.cell 1
    have y2 : w1.cell? ⟨w.heap.size, 2, none⟩ = some (.int .i64 ev) := L1.cell 2
    clear b1 x0 L1
    go_wp2_with fail
    refine (userD11 HM1.out it ev).mono ?_
    intro e w2 hp
    have HP := hideT (hp.under HB1.out)
    obtain ⟨rfl, hrest⟩ := hp
    clear hrest
    go_wp2_with fail
    go_ret
    rw [HR.out]
    exact HP.out
  have h1' : (kd == 1) = false := beq_eq_false_iff_ne.2 h1
  by_cases h2 : kd = 2
  · subst h2
    have HR : Hid (Gp.doS K st ⟨2, it, ev, fi, n⟩ = Gp.writeS K st fi n) := by show _ = _; unfold Gp.doS; rw [if_neg HK.out, if_neg HOV.out, if_neg (show ¬ (2 : Int) = 1 by decide), if_pos rfl]
    go_enter Try.func8, Try.ntmps8
    go_wp2_with fail
    rw [HV.out]
    refine (isOverD HM.out false hov).mono ?_
    rintro e w1 ⟨rfl, b1⟩
    have HB1 := hideT (HB.out.trans (b1.mono HB.out.size))
    have HM1 := hideT (HM.out.below b1)
    have L1 := HL.out.below b1
    have y0 : w1.cell? ⟨w.heap.size, 0, none⟩ = some (.int .i64 2) := L1.cell 0
    have y1 : w1.cell? ⟨w.heap.size, 3, none⟩ = some (.string fi) := L1.cell 3
    have y2 : w1.cell? ⟨w.heap.size, 4, none⟩ = some (.int .i64 n) := L1.cell 4
    clear b1 x0 L1
    go_wp2_with fail
    refine (writeD11 HM1.out fi n).mono ?_
    intro e w2 hp
    have HP := hideT (hp.under HB1.out)
    obtain ⟨rfl, hrest⟩ := hp
    clear hrest
    go_wp2_with fail
    go_ret
    rw [HR.out]
    exact HP.out
  have h2' : (kd == 2) = false := beq_eq_false_iff_ne.2 h2
  have HR : Hid (Gp.doS K st ⟨kd, it, ev, fi, n⟩ = Gp.tickS K st) := by show _ = _; unfold Gp.doS; rw [if_neg HK.out, if_neg HOV.out, if_neg h1, if_neg h2]
  go_enter Try.func8, Try.ntmps8
  go_wp2_with fail
  rw [HV.out]
  refine (isOverD HM.out false hov).mono ?_
  rintro e w1 ⟨rfl, b1⟩
  have HB1 := hideT (HB.out.trans (b1.mono HB.out.size))
  have HM1 := hideT (HM.out.below b1)
  have L1 := HL.out.below b1
  have y0 : w1.cell? ⟨w.heap.size, 0, none⟩ = some (.int .i64 kd) := L1.cell 0
  clear b1 x0 L1
  go_wp2_with fail
  refine (tickD11 HM1.out HCI.out).mono ?_
  intro e w2 hp
  have HP := hideT (hp.under HB1.out)
  obtain ⟨rfl, hrest⟩ := hp
  clear hrest
  go_wp2_with fail
  go_ret
  rw [HR.out]
  exact HP.out
end
end Go.Proofs.Ytkjekohncfhbiab
