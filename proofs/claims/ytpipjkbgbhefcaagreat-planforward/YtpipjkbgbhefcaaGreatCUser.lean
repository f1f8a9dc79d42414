/-
  What a user has an item do; a number of the file is written.
-/
import Derived.Test.YtpipjkbgbhefcaaGreatCGo
set_option linter.unusedSimpArgs false
set_option linter.unusedVariables false
namespace Go.Proofs.YtpipjkbgbhefcaaGreat
open Go.RowKit
open Qp
set_option maxRecDepth 100000
namespace Cp
theorem may_fit {k s e : Int} (h : mayU k s e = true) : fit k s e ∧ e ≠ 0 := by
  unfold mayU at h
  unfold fit
  by_cases h3 : e = 3
  · rw [if_pos h3] at h
    simp only [Bool.and_eq_true, decide_eq_true_eq] at h
    omega
  rw [if_neg h3] at h
  by_cases h4 : e = 4
  · rw [if_pos h4] at h
    simp only [Bool.and_eq_true, decide_eq_true_eq] at h
    omega
  rw [if_neg h4] at h
  by_cases h5 : e = 5
  · rw [if_pos h5] at h
    have := there_iff.1 h
    omega
  · rw [if_neg h5] at h
    cases h
theorem fits_one {m : Mp.Model} {st : St} {i : Nat} {e : Int} (h : fit (itm m i).kind (at0 st.s i) e) (hi : i < m.items.length) : Fits m st (oneD m.items.length i e) := by
  refine ⟨by unfold oneD; simp, fun j hj => ?_⟩
  unfold oneD
  rw [at0_set (by simpa using hi), at0_rep]
  split
  · rename_i e'
    subst e'
    exact h
  · exact .inl rfl
theorem good_f {m : Mp.Model} {st : St} (g : Good m st) (i : Nat) (n : Int) : Good m { st with f := st.f.set i n } := ⟨g.ns, g.rng, by show (st.f.set i n).length = _; rw [List.length_set]; exact g.nf, g.r0, g.few⟩
end Cp
/-- What Do answers, and leaves. -/
def DoPost (w : World) (H : Nat) (K : Kc) (m : Mp.Model) (v : Value) (p : Int × Cp.St) (e : Ending) (w' : World) : Prop :=
  e = .returned (.int .i64 p.1) ∧ ∃ v' L' N', RTo w w' H K m v v' L' N' p.2 (CS K v)
section
variable {w w' : World} {H : Nat} {K : Kc} {m : Mp.Model} {v : Value} {L : List Thing} {N : Nat} {st : Cp.St}
theorem isOverD (h : CAll w H K m v L N st noP) (b : Bool) (hb : Hid (Cp.overB st = b)) :
    Calls Tryz.prog 30 #[cP K] w fun e w' => e = .returned (.bool b) ∧ w' = w := by
  have h16 := items16 h.ok.1
  have c2 := h.c.c2
  have cs := h.c.cs (i := 0) (by omega)
  have t1 : (0 : Int) < (m.items.length : Int) := by omega
  have HB : Hid (Cp.pastB (Cp.at0 st.s 0) = b) := hb
  clear h hb h16
  go_enter Tryz.func30, Tryz.ntmps30
  go_wp2_with fail
  refine (isPastD _ w b HB).mono ?_
  rintro e w1 ⟨rfl, hw⟩
  obtain rfl := hw.symm
  go_wp2_with fail
  go_ret
  exact ⟨rfl, rfl⟩
set_option maxHeartbeats 4000000 in
theorem userMayD (h : CIn w H K m v L N st) (i : Nat) (hi : i < m.items.length) (e : Int) (b : Bool) (hb : Hid (Cp.mayU (Cp.itm m i).kind (Cp.at0 st.s i) e = b)) :
    Calls Tryz.prog 62 #[cP K, iP i, .int .i64 e] w (AnyPost b w) := by
  have c1 := h.c1
  have c2 := h.c2
  have cs := h.cs hi
  obtain ⟨a5, k5, a6, k6, I⟩ := h.item hi
  have d1 := I.c1
  have t1 : (0 : Int) ≤ (i : Int) := by omega
  have t2 : (i : Int) < (m.items.length : Int) := by omega
  obtain ⟨k, hk⟩ : ∃ k, (Cp.itm m i).kind = k := ⟨_, rfl⟩
  obtain ⟨s, hs⟩ : ∃ s, Cp.at0 st.s i = s := ⟨_, rfl⟩
  rw [hk] at d1 hb
  rw [hs] at cs hb
  have HB := hideT ((Below.refl w.heap.size w))
  clear h I hk hs hi
  go_enter Tryz.func62, Tryz.ntmps62
  go_wp2_with fail
  go_quiet (fail)
  have HD := hideT (below_drewN HB.out)
  by_cases h3 : e = 3
  · subst h3
    have HX : Hid (b = (decide (k = 2) && decide (s = 2))) := hb.out.symm
    by_cases k2 : k = 2
    · subst k2
      go_wp2_with fail
      go_ret
      exact ⟨ret_b (by rw [HX.out]; simp; rfl), HD.out _⟩
    · have e2 : (k == (2 : Int)) = false := beq_eq_false_iff_ne.2 k2
      have HX2 : Hid (b = false) := by show _ = _; rw [HX.out, decide_eq_false k2]; rfl
      clear k2 HX
      go_wp2_with fail
      go_ret
      exact ⟨ret_b HX2.out.symm, HD.out _⟩
  have e3 : (e == (3 : Int)) = false := beq_eq_false_iff_ne.2 h3
  by_cases h4 : e = 4
  · subst h4
    have HX : Hid (b = (decide (k = 4) && decide (s = 1))) := hb.out.symm
    by_cases k2 : k = 4
    · subst k2
      go_wp2_with fail
      go_ret
      exact ⟨ret_b (by rw [HX.out]; simp; rfl), HD.out _⟩
    · have e2 : (k == (4 : Int)) = false := beq_eq_false_iff_ne.2 k2
      have HX2 : Hid (b = false) := by show _ = _; rw [HX.out, decide_eq_false k2]; rfl
      clear k2 HX
      go_wp2_with fail
      go_ret
      exact ⟨ret_b HX2.out.symm, HD.out _⟩
  have e4 : (e == (4 : Int)) = false := beq_eq_false_iff_ne.2 h4
  by_cases h5 : e = 5
  · subst h5
    have HX : Hid (Cp.thereB s = b) := hb.out
    go_wp2_with fail
    refine (isThereD s _ b HX).mono ?_
    rintro e w1 ⟨rfl, hw⟩
    obtain rfl := hw.symm
    go_wp2_with fail
    go_ret
    exact ⟨rfl, HD.out _⟩
  · have e5 : (e == (5 : Int)) = false := beq_eq_false_iff_ne.2 h5
    have HX : Hid (b = false) := by show _ = _; rw [← hb.out]; unfold Cp.mayU; rw [if_neg h3, if_neg h4, if_neg h5]
    clear h3 h4 h5
    go_wp2_with fail
    go_ret
    exact ⟨ret_b HX.out.symm, HD.out _⟩
theorem actR {d : List Int} {db : Nat} {w1 : World} (h : CAll w H K m v L N st noP) (hd : IR w' db d) (hdb : w.heap.size ≤ db) (hb : Below w.heap.size w w') (hH : H ≤ w.heap.size) (hf : Cp.Fits m st d) :
    Calls Tryz.prog 53 #[cP K, sliceN db m.items.length] w' (RoundPost w' H K m v st d db) :=
  roundD d ((h.below hb).weak (fun k _ _ e => e.elim)) db hd hf (h.c.fresh hdb) (Nat.le_trans hH hb.size)
set_option maxHeartbeats 8000000 in
theorem userD (h : CAll w H K m v L N st noP) (hH : H ≤ w.heap.size) (s : ByteArray) (ev : Int) :
    Calls Tryz.prog 31 #[cP K, .string s, .int .i64 ev] w (DoPost w H K m v (Cp.userP m st s ev)) := by
  have HA := hideT h
  have HHH := hideT hH
  have c0 := h.c.c0
  have c1 := h.c.c1
  have HP := hideT (placeD w (.slice K.af m.files.length K.cf) (some ⟨K.ib, K.io, none⟩) _ K.ci m.items s h.c.at.items)
  clear h hH
  rcases placeN_cases m.items s with ⟨e1, e2⟩ | ⟨k, x, e1, e2, hx, _⟩
  · have HS : Hid (Cp.userP m st s ev = (1, st)) := by show _ = _; unfold Cp.userP; rw [e1]
    clear e1
    go_enter Tryz.func31, Tryz.ntmps31
    go_wp2_with fail
    refine HP.out.mono ?_
    rintro e w1 ⟨rfl, b1⟩
    have HB := hideT (HA.out.below b1)
    have HB1 := hideT b1
    rw [e2]
    clear b1 e2
    go_wp2_with fail
    go_ret
    rw [HS.out]
    exact ⟨rfl, v, L, N, ⟨HB.out, Keep.of_below HB1.out, Grew.refl _ _⟩⟩
  have hk := (List.getElem?_eq_some_iff.1 hx).1
  by_cases h0 : k = 0
  · subst h0
    have HS : Hid (Cp.userP m st s ev = (1, st)) := by show _ = _; unfold Cp.userP; rw [e1]; rfl
    clear e1 hx
    go_enter Tryz.func31, Tryz.ntmps31
    go_wp2_with fail
    refine HP.out.mono ?_
    rintro e w1 ⟨rfl, b1⟩
    have HB := hideT (HA.out.below b1)
    have HB1 := hideT b1
    rw [e2]
    clear b1 e2
    go_wp2_with fail
    go_ret
    rw [HS.out]
    exact ⟨rfl, v, L, N, ⟨HB.out, Keep.of_below HB1.out, Grew.refl _ _⟩⟩
  have t1 : (0 : Int) < (k : Int) := by omega
  have t2 : (k : Int) < (m.items.length : Int) := by omega
  obtain ⟨b, hb⟩ : ∃ b, Cp.mayU (Cp.itm m k).kind (Cp.at0 st.s k) ev = b := ⟨_, rfl⟩
  have HK := hideT hk
  have HBb := hideT hb
  cases b with
  | false =>
    have HS : Hid (Cp.userP m st s ev = (8, st)) := by show _ = _; unfold Cp.userP; rw [e1]; simp only; rw [if_neg h0, hb]; rfl
    clear e1 hx hb h0 hk
    go_enter Tryz.func31, Tryz.ntmps31
    go_wp2_with fail
    refine HP.out.mono ?_
    rintro e w1 ⟨rfl, b1⟩
    have HB := hideT (HA.out.below b1)
    have HB1 := hideT b1
    rw [e2]
    clear b1 e2
    go_wp2_with fail
    refine (userMayD HB.out.c k HK.out ev false HBb).mono ?_
    rintro e w2 ⟨rfl, b2⟩
    have HB2 := hideT (HB1.out.trans (b2.mono HB1.out.size))
    clear b2
    go_wp2_with fail
    go_ret
    rw [HS.out]
    exact ⟨rfl, v, L, N, ⟨HA.out.below HB2.out, Keep.of_below HB2.out, Grew.refl _ _⟩⟩
  | true =>
    have HS : Hid (Cp.userP m st s ev = (0, Cp.goes m st (Cp.oneD m.items.length k ev))) := by show _ = _; unfold Cp.userP; rw [e1]; simp only; rw [if_neg h0, hb]; rfl
    have HF := hideT (Cp.fits_one (m := m) (st := st) (Cp.may_fit hb).1 hk)
    have t3 : (0 : Int) ≤ (k : Int) := by omega
    clear e1 hx hb h0 hk
    go_enter Tryz.func31, Tryz.ntmps31
    go_wp2_with fail
    refine HP.out.mono ?_
    rintro e w1 ⟨rfl, b1⟩
    have HB := hideT (HA.out.below b1)
    have HB1 := hideT b1
    rw [e2]
    clear b1 e2 c0 c1
    go_wp2_with fail
    refine (userMayD HB.out.c k HK.out ev true HBb).mono ?_
    rintro e w2 ⟨rfl, b2⟩
    have HB2 := hideT (HB1.out.trans (b2.mono HB1.out.size))
    clear b2
    go_wp2_with fail
    refine (nothingD (HA.out.below HB2.out).c HA.out.ok).mono ?_
    rintro e w3 ⟨db, rfl, ir, hdb, b3⟩
    have HB3 := hideT (HB2.out.trans (b3.mono HB2.out.size))
    have dk := ir.cell (i := k) (by rw [List.length_replicate]; exact HK.out)
    have fk := ir.free k
    have HDB : Hid (w.heap.size ≤ db) := Nat.le_trans HB2.out.size hdb
    obtain ⟨X, hX⟩ : ∃ X, w3.setCell ⟨db, k, none⟩ (.int .i64 ev) = X := ⟨_, rfl⟩
    have HI : Hid (IR X db (Cp.oneD m.items.length k ev)) := by rw [← hX]; exact ir.set k ev
    have HBX : Hid (Below w.heap.size w X) := by rw [← hX]; exact HB3.out.setCell HDB.out _
    clear ir hdb b3
    go_wp2_with fail
    refine (actR (w1 := X) HA.out HI.out HDB.out HBX.out HHH.out HF.out).mono ?_
    rintro e w4 ⟨rfl, v4, L4, N4, T4⟩
    have HT := hideT (RTo.fresh (w0 := w) HBX.out HDB.out T4)
    clear T4 dk fk
    go_wp2_with fail
    refine (goOnD HT.out.a (Nat.le_trans HHH.out HT.out.keep.size)).mono ?_
    rintro e w5 ⟨rfl, v5, L5, N5, T5⟩
    have HT5 := hideT (HT.out.trans T5)
    clear T5
    go_wp2_with fail
    go_ret
    rw [HS.out]
    exact ⟨rfl, v5, L5, N5, HT5.out⟩
set_option maxHeartbeats 8000000 in
theorem writeD (h : CAll w H K m v L N st noP) (hH : H ≤ w.heap.size) (s : ByteArray) (n : Int) :
    Calls Tryz.prog 32 #[cP K, .string s, .int .i64 n] w (DoPost w H K m v (Cp.writeP m st s n)) := by
  have HA := hideT h
  have HHH := hideT hH
  have c0 := h.c.c0
  have c3 := h.c.c3
  have HP := hideT (indexS w K.af _ K.cf m.files s h.c.at.files)
  have HR := hideT (RTo.refl h)
  rcases idx_cases m.files s with ⟨e1, e2⟩ | ⟨k, e1, e2, hk⟩
  · have HS : Hid (Cp.writeP m st s n = (1, st)) := by show _ = _; unfold Cp.writeP; rw [e1]
    clear h hH e1
    go_enter Tryz.func32, Tryz.ntmps32
    go_wp2_with fail
    refine HP.out.mono ?_
    rintro e w1 ⟨rfl, hw⟩
    obtain rfl := hw.symm
    rw [e2]
    clear e2
    go_wp2_with fail
    go_ret
    rw [HS.out]
    exact ⟨rfl, v, L, N, HR.out⟩
  have t1 : (0 : Int) ≤ (k : Int) := by omega
  have t2 : (k : Int) < (m.files.length : Int) := by omega
  by_cases h1 : n < -1000000
  · have HS : Hid (Cp.writeP m st s n = (1, st)) := by show _ = _; unfold Cp.writeP; rw [e1]; simp only; rw [if_pos (.inl h1)]
    clear h hH e1 hk
    go_enter Tryz.func32, Tryz.ntmps32
    go_wp2_with fail
    refine HP.out.mono ?_
    rintro e w1 ⟨rfl, hw⟩
    obtain rfl := hw.symm
    rw [e2]
    clear e2
    go_wp2_with fail
    go_ret
    rw [HS.out]
    exact ⟨rfl, v, L, N, HR.out⟩
  by_cases h2 : 1000000 < n
  · have HS : Hid (Cp.writeP m st s n = (1, st)) := by show _ = _; unfold Cp.writeP; rw [e1]; simp only; rw [if_pos (.inr h2)]
    clear h hH e1 hk
    have h1' : -1000000 ≤ n := by omega
    go_enter Tryz.func32, Tryz.ntmps32
    go_wp2_with fail
    refine HP.out.mono ?_
    rintro e w1 ⟨rfl, hw⟩
    obtain rfl := hw.symm
    rw [e2]
    clear e2
    go_wp2_with fail
    go_ret
    rw [HS.out]
    exact ⟨rfl, v, L, N, HR.out⟩
  have HS : Hid (Cp.writeP m st s n = (0, Cp.rest m { st with f := st.f.set k n })) := by show _ = _; unfold Cp.writeP; rw [e1]; simp only; rw [if_neg (by omega)]
  have dk := h.c.cn hk
  have fk := h.c.nn.free k
  obtain ⟨X, hX⟩ : ∃ X, w.setCell ⟨K.nb, k, none⟩ (.int .i64 n) = X := ⟨_, rfl⟩
  have hp := h.c.putN k n
  rw [hX] at hp
  have HX : Hid (CAll X H K m v L N { st with f := st.f.set k n } noP) := ⟨hp.1, Cp.good_f h.good k n, h.few, ⟨h.tq.nd, h.tq.mem, h.tq.all⟩, h.clock, h.ok⟩
  have HK := hideT hp.2
  have h1' : -1000000 ≤ n := by omega
  have h2' : n ≤ 1000000 := by omega
  clear h hH e1 hk hp h1 h2
  go_enter Tryz.func32, Tryz.ntmps32
  go_wp2_with fail
  refine HP.out.mono ?_
  rintro e w1 ⟨rfl, hw⟩
  obtain rfl := hw.symm
  rw [e2]
  clear e2
  go_wp2_with fail
  refine (goOnD HX.out (Nat.le_trans HHH.out HK.out.size)).mono ?_
  rintro e w5 ⟨rfl, v5, L5, N5, T5⟩
  have HT : Hid (RTo w w5 H K m v v5 L5 N5 (Cp.rest m { st with f := st.f.set k n }) (CS K v)) := ⟨T5.a, HK.out.trans T5.keep, T5.grew.mono' HK.out.size⟩
  clear T5
  go_wp2_with fail
  go_ret
  rw [HS.out]
  exact ⟨rfl, v5, L5, N5, HT.out⟩
end
end Go.Proofs.YtpipjkbgbhefcaaGreat
