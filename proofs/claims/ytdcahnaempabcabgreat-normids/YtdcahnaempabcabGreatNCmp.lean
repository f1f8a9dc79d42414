/-
  The program's orders: of texts, numbers, events, conditions, by cmp.Or.
-/
import Derived.Test.YtdcahnaempabcabGreatPartA
import Derived.Test.YtdcahnaempabcabGreatMIndex
import Derived.Deep.RegionHeld3
import Derived.Test.YtdcahnaempabcabGreatShelfN
import Derived.Sort.Grow
set_option linter.unusedSimpArgs false
set_option linter.unusedVariables false
namespace Go.Proofs.YtdcahnaempabcabGreat
open Go.RowKit
/-- What a call leaves that only makes blocks and draws. -/
def Gr (w w' : World) : Prop := Below w.heap.size w w' ∧ w.drawn ≤ w'.drawn
theorem Gr.refl (w : World) : Gr w w := ⟨Below.refl _ _, Nat.le_refl _⟩
theorem Gr.trans {a b c : World} (h : Gr a b) (k : Gr b c) : Gr a c := ⟨h.1.trans (k.1.mono h.1.size), Nat.le_trans h.2 k.2⟩
theorem Gr.drewN {a w : World} (h : Gr a w) (n : Nat) : Gr a (w.drewN n) := ⟨below_drewN h.1 n, Nat.le_trans h.2 (Nat.le_add_right _ _)⟩
theorem Gr.alloc {a w : World} (h : Gr a w) (o : Obj) : Gr a (w.alloc o) := ⟨h.1.alloc h.1.size o, h.2⟩
theorem Gr.eq {w w' : World} (h : Gr w w') : ∃ q os, w' = Sort.grow (w.drewN q) os := by
  obtain ⟨⟨h1, h2, h3, h4, h5⟩, h6⟩ := h
  refine ⟨w'.drawn - w.drawn, w'.heap.extract w.heap.size w'.heap.size, ?_⟩
  obtain ⟨hp, tp, dr, os, ot⟩ := w
  obtain ⟨hp', tp', dr', os', ot'⟩ := w'
  simp only [Sort.grow, World.drewN] at *
  subst h1 h2 h3
  have e1 : dr' = dr + (dr' - dr) := by omega
  have e2 : hp' = hp ++ hp'.extract hp.size hp'.size := by
    refine Array.ext_getElem? fun i => ?_
    rw [Array.getElem?_append]
    by_cases hi : i < hp.size
    · rw [if_pos hi]
      exact h5 i hi
    · rw [if_neg hi, Array.getElem?_extract]
      by_cases hj : i < hp'.size
      · rw [if_pos (by omega), show hp.size + (i - hp.size) = i by omega]
      · rw [if_neg (by omega), Array.getElem?_eq_none (by omega)]
  rw [← e2, ← e1]
theorem cmpStrD (a b : ByteArray) (w : World) :
    Calls Tryz.prog 102 #[.string a, .string b] w fun e w' => e = .returned (.int .i64 (Np.cmpS a b)) ∧ w' = w := Tryz.strings_Compare a b w
theorem isNaND (x : Int) (w : World) :
    Calls Tryz.prog 137 #[.int .i64 x] w fun e w' => e = .returned (.bool false) ∧ w' = w := by
  go_enter Tryz.func137, Tryz.ntmps137
  go_wp2_with fail
  go_ret
  exact ⟨ret_b (by simp), rfl⟩
theorem cmpIntD (x y : Int) (w : World) :
    Calls Tryz.prog 103 #[.int .i64 x, .int .i64 y] w fun e w' => e = .returned (.int .i64 (Lib.compareInt x y)) ∧ w' = w := by
  go_enter Tryz.func103, Tryz.ntmps103
  go_wp2_with (go_at_call 137; refine (isNaND _ _).mono ?_; rintro e w' ⟨rfl, rfl⟩)
  all_goals go_ret
  all_goals refine ⟨ret_i ?_, rfl⟩
  all_goals unfold Lib.compareInt
  · rw [if_pos (by assumption)]
  · rw [if_neg (by omega), if_pos (by omega)]
  · rw [if_neg (by omega), if_neg (by omega)]
/-- The first that is not nought. -/
def orL : List Int → Int
  | [] => 0
  | x :: r => Np.or2 x (orL r)
theorem orL_at {l : List Int} {k : Nat} {x : Int} (h : l[k]? = some x) : orL (l.drop k) = if x = 0 then orL (l.drop (k + 1)) else x := by
  rw [Mp.drop_at h, orL, Np.or2]
theorem orD (l : List Int) (b n : Nat) (w : World) (hn : n = l.length) (hl : n ≤ 1000) (hc : ∀ (i : Nat) x, l[i]? = some x → w.cell? ⟨b, i, none⟩ = some (.int .i64 x)) :
    Calls Tryz.prog 55 #[.slice (some ⟨b, 0, none⟩) n n] w fun e w' => e = .returned (.int .i64 (orL l)) ∧ w' = w := by
  have HN := hideT hn
  have HC := hideT hc
  clear hc hn
  go_enter Tryz.func55, Tryz.ntmps55
  go_wp2_with fail
  go_loop [8] (fun i => ∃ k : Nat, k ≤ n ∧ i = .int .i64 k ∧ Hid (orL l = orL (l.drop k))) (fun i => n - (intOf i).toNat)
  case atStart => exact ⟨0, by omega, rfl, rfl⟩
  case round =>
    obtain ⟨k, hk, rfl, HO⟩ := hrel
    by_cases hlt : k < n
    · obtain ⟨x, hx⟩ := Mp.at_lt (l := l) (k := k) (by have := HN.out; omega)
      have x0 := HC.out k x hx
      have HR := hideT (orL_at hx)
      clear hx
      have t1 : (k : Int) < (n : Int) := by omega
      by_cases h0 : x = 0
      · subst h0
        have HS : Hid (orL l = orL (l.drop (k + 1))) := HO.out.trans (HR.out.trans (if_pos rfl))
        go_wp2_with fail
        go_round
        case rel => exact ⟨k + 1, by omega, by go_num, HS⟩
        case measure => simp [intOf]; omega
      · have HS : Hid (orL l = x) := HO.out.trans (HR.out.trans (if_neg h0))
        have h1 : (x != 0) = true := bne_iff_ne.2 h0
        go_wp2_with fail
        go_ret
        exact ⟨ret_i HS.out.symm, rfl⟩
    · have HS : Hid (orL l = 0) := by
        have := HO.out
        rw [Mp.drop_all (by have := HN.out; omega)] at this
        exact this
      go_wp2_with fail
      go_ret
      exact ⟨ret_i HS.out.symm, rfl⟩
theorem cmpStrG (a b : ByteArray) (w : World) :
    Calls Tryz.prog 102 #[.string a, .string b] w fun e w' => e = .returned (.int .i64 (Np.cmpS a b)) ∧ Gr w w' := (cmpStrD a b w).mono fun _ _ ⟨h1, h2⟩ => ⟨h1, by rw [h2]; exact Gr.refl _⟩
theorem cmpIntG (x y : Int) (w : World) :
    Calls Tryz.prog 103 #[.int .i64 x, .int .i64 y] w fun e w' => e = .returned (.int .i64 (Lib.compareInt x y)) ∧ Gr w w' := (cmpIntD x y w).mono fun _ _ ⟨h1, h2⟩ => ⟨h1, by rw [h2]; exact Gr.refl _⟩
theorem or2G (x y : Int) (w : World) :
    Calls Tryz.prog 55 #[.slice (some ⟨w.heap.size, 0, none⟩) 2 2] (w.alloc (.cells #[.int .i64 x, .int .i64 y] 3)) fun e w' => e = .returned (.int .i64 (Np.or2 x y)) ∧ Gr w w' := by
  have LN := Lies.new w 3 #[.int .i64 x, .int .i64 y]
  refine (orD [x, y] w.heap.size 2 _ rfl (by omega) fun i z hz => ?_).mono ?_
  · match i with
    | 0 => obtain rfl : x = z := Option.some.inj hz; exact LN.cell 0
    | 1 => obtain rfl : y = z := Option.some.inj hz; exact LN.cell 1
    | i + 2 => simp at hz
  · rintro e w' ⟨rfl, rfl⟩
    refine ⟨ret_i ?_, (Gr.refl w).alloc _⟩
    unfold orL orL orL Np.or2
    split
    · split <;> omega
    · rfl
theorem or3G (x y z : Int) (w : World) :
    Calls Tryz.prog 55 #[.slice (some ⟨w.heap.size, 0, none⟩) 3 3] (w.alloc (.cells #[.int .i64 x, .int .i64 y, .int .i64 z] 3)) fun e w' => e = .returned (.int .i64 (Np.or2 x (Np.or2 y z))) ∧ Gr w w' := by
  have LN := Lies.new w 3 #[.int .i64 x, .int .i64 y, .int .i64 z]
  refine (orD [x, y, z] w.heap.size 3 _ rfl (by omega) fun i u hu => ?_).mono ?_
  · match i with
    | 0 => obtain rfl : x = u := Option.some.inj hu; exact LN.cell 0
    | 1 => obtain rfl : y = u := Option.some.inj hu; exact LN.cell 1
    | 2 => obtain rfl : z = u := Option.some.inj hu; exact LN.cell 2
    | i + 3 => simp at hu
  · rintro e w' ⟨rfl, rfl⟩
    refine ⟨ret_i ?_, (Gr.refl w).alloc _⟩
    unfold orL orL orL orL Np.or2
    split
    · split
      · split <;> omega
      · rfl
    · rfl
/-- Two boxes. -/
theorem two_newG (w : World) (t : TypeId) (C D : Array Value) : ∃ V, (w.alloc (.cells C t)).alloc (.cells D t) = V ∧ Gr w V ∧ Lies V w.heap.size t C ∧ Lies V (w.heap.size + 1) t D ∧ V.heap.size = w.heap.size + 2 := by
  refine ⟨_, rfl, ((Gr.refl w).alloc _).alloc _, (Lies.new w t C).below ((Below.refl _ _).alloc (Nat.le_refl _) _), ?_, by simp⟩
  have := Lies.new (w.alloc (.cells C t)) t D
  rwa [show (w.alloc (.cells C t)).heap.size = w.heap.size + 1 by simp] at this
set_option maxHeartbeats 4000000 in
theorem onCmpD (x y : Mp.On) (w : World) :
    Calls Tryz.prog 57 #[.agg #[.string x.1, .int .i64 x.2], .agg #[.string y.1, .int .i64 y.2]] w fun e w' => e = .returned (.int .i64 (Np.onC x y)) ∧ Gr w w' := by
  obtain ⟨x1, x2⟩ := x
  obtain ⟨y1, y2⟩ := y
  go_enter Tryz.func57, Tryz.ntmps57
  go_wp2_with fail
  obtain ⟨V, hV, BV, LA, LR, VS⟩ := two_newG w 84 #[.string x1, .int .i64 x2] #[.string y1, .int .i64 y2]
  rw [hV]
  have HB := hideT BV
  have HS := hideT VS
  have y0 : V.cell? ⟨w.heap.size, 0, none⟩ = some (.string x1) := LA.cell 0
  have y1' : V.cell? ⟨w.heap.size, 1, none⟩ = some (.int .i64 x2) := LA.cell 1
  have y2' : V.cell? ⟨w.heap.size + 1, 0, none⟩ = some (.string y1) := LR.cell 0
  have y3 : V.cell? ⟨w.heap.size + 1, 1, none⟩ = some (.int .i64 y2) := LR.cell 1
  clear BV LA LR hV VS
  go_region_held3 (fun w' => w'.cell? ⟨w.heap.size, 0, none⟩ = some (.string x1) ∧ w'.cell? ⟨w.heap.size, 1, none⟩ = some (.int .i64 x2) ∧ w'.cell? ⟨w.heap.size + 1, 0, none⟩ = some (.string y1) ∧ w'.cell? ⟨w.heap.size + 1, 1, none⟩ = some (.int .i64 y2)) (go_keep) (first
    | (go_at_call_of 102 (Value.string x1); refine (cmpStrG x1 y1 _).mono ?_; rintro e w1 ⟨rfl, b1⟩; have bV1 : Gr V w1 := ((Gr.refl V).drewN 1).trans b1; have z1_0 := below_cell bV1.1 _ _ y0; have z1_1 := below_cell bV1.1 _ _ y1'; have z1_2 := below_cell bV1.1 _ _ y2'; have z1_3 := below_cell bV1.1 _ _ y3)
    | (go_at_call_of 103 (Value.int .i64 x2); refine (cmpIntG x2 y2 _).mono ?_; rintro e w2 ⟨rfl, b2⟩; have bV2 : Gr V w2 := bV1.trans b2; have z2_0 := below_cell bV2.1 _ _ y0; have z2_1 := below_cell bV2.1 _ _ y1'; have z2_2 := below_cell bV2.1 _ _ y2'; have z2_3 := below_cell bV2.1 _ _ y3)
    | (go_at_call 55; refine (or2G _ _ _).mono ?_; rintro e w3 ⟨rfl, b3⟩; have bV3 : Gr V w3 := bV2.trans b3; have z3_0 := below_cell bV3.1 _ _ y0; have z3_1 := below_cell bV3.1 _ _ y1'; have z3_2 := below_cell bV3.1 _ _ y2'; have z3_3 := below_cell bV3.1 _ _ y3))
  go_wp2_with fail
  go_ret
  exact ⟨rfl, HB.out.trans bV3⟩
set_option maxHeartbeats 4000000 in
theorem condCmpD (x y : Mp.Cond) (w : World) :
    Calls Tryz.prog 59 #[.agg #[.string x.1, .string x.2.1, .int .i64 x.2.2], .agg #[.string y.1, .string y.2.1, .int .i64 y.2.2]] w fun e w' => e = .returned (.int .i64 (Np.condC x y)) ∧ Gr w w' := by
  obtain ⟨x1, x2, x3⟩ := x
  obtain ⟨y1, y2, y3⟩ := y
  go_enter Tryz.func59, Tryz.ntmps59
  go_wp2_with fail
  obtain ⟨V, hV, BV, LA, LR, VS⟩ := two_newG w 89 #[.string x1, .string x2, .int .i64 x3] #[.string y1, .string y2, .int .i64 y3]
  rw [hV]
  have HB := hideT BV
  have HS := hideT VS
  have s0 : V.cell? ⟨w.heap.size, 0, none⟩ = some (.string x1) := LA.cell 0
  have s1 : V.cell? ⟨w.heap.size, 1, none⟩ = some (.string x2) := LA.cell 1
  have s2 : V.cell? ⟨w.heap.size, 2, none⟩ = some (.int .i64 x3) := LA.cell 2
  have r0 : V.cell? ⟨w.heap.size + 1, 0, none⟩ = some (.string y1) := LR.cell 0
  have r1 : V.cell? ⟨w.heap.size + 1, 1, none⟩ = some (.string y2) := LR.cell 1
  have r2 : V.cell? ⟨w.heap.size + 1, 2, none⟩ = some (.int .i64 y3) := LR.cell 2
  clear BV LA LR hV VS
  go_region_held3 (fun w' => w'.cell? ⟨w.heap.size, 0, none⟩ = some (.string x1) ∧ w'.cell? ⟨w.heap.size, 1, none⟩ = some (.string x2) ∧ w'.cell? ⟨w.heap.size, 2, none⟩ = some (.int .i64 x3) ∧ w'.cell? ⟨w.heap.size + 1, 0, none⟩ = some (.string y1) ∧ w'.cell? ⟨w.heap.size + 1, 1, none⟩ = some (.string y2) ∧ w'.cell? ⟨w.heap.size + 1, 2, none⟩ = some (.int .i64 y3)) (go_keep) (first
    | (go_at_call_of 102 (Value.string x1); refine (cmpStrG x1 y1 _).mono ?_; rintro e w1 ⟨rfl, b1⟩; have bV1 : Gr V w1 := ((Gr.refl V).drewN 1).trans b1; have z1_s0 := below_cell bV1.1 _ _ s0; have z1_s1 := below_cell bV1.1 _ _ s1; have z1_s2 := below_cell bV1.1 _ _ s2; have z1_r0 := below_cell bV1.1 _ _ r0; have z1_r1 := below_cell bV1.1 _ _ r1; have z1_r2 := below_cell bV1.1 _ _ r2)
    | (go_at_call_of 102 (Value.string x2); refine (cmpStrG x2 y2 _).mono ?_; rintro e w2 ⟨rfl, b2⟩; have bV2 : Gr V w2 := bV1.trans b2; have z2_s0 := below_cell bV2.1 _ _ s0; have z2_s1 := below_cell bV2.1 _ _ s1; have z2_s2 := below_cell bV2.1 _ _ s2; have z2_r0 := below_cell bV2.1 _ _ r0; have z2_r1 := below_cell bV2.1 _ _ r1; have z2_r2 := below_cell bV2.1 _ _ r2)
    | (go_at_call_of 103 (Value.int .i64 x3); refine (cmpIntG x3 y3 _).mono ?_; rintro e w3 ⟨rfl, b3⟩; have bV3 : Gr V w3 := bV2.trans b3; have z3_s0 := below_cell bV3.1 _ _ s0; have z3_s1 := below_cell bV3.1 _ _ s1; have z3_s2 := below_cell bV3.1 _ _ s2; have z3_r0 := below_cell bV3.1 _ _ r0; have z3_r1 := below_cell bV3.1 _ _ r1; have z3_r2 := below_cell bV3.1 _ _ r2)
    | (go_at_call 55; refine (or3G _ _ _ _).mono ?_; rintro e w4 ⟨rfl, b4⟩; have bV4 : Gr V w4 := bV3.trans b4; have z4_s0 := below_cell bV4.1 _ _ s0; have z4_s1 := below_cell bV4.1 _ _ s1; have z4_s2 := below_cell bV4.1 _ _ s2; have z4_r0 := below_cell bV4.1 _ _ r0; have z4_r1 := below_cell bV4.1 _ _ r1; have z4_r2 := below_cell bV4.1 _ _ r2))
  go_wp2_with fail
  go_ret
  exact ⟨rfl, HB.out.trans bV4⟩
theorem rowC_at {α : Type} {c : α → α → Int} {a b : List α} {k : Nat} {x y : α} (h1 : a[k]? = some x) (h2 : b[k]? = some y) : Np.rowC c (a.drop k) (b.drop k) = if c x y = 0 then Np.rowC c (a.drop (k + 1)) (b.drop (k + 1)) else c x y := by
  rw [Mp.drop_at h1, Mp.drop_at h2, Np.rowC, Np.or2]
theorem rowC_end {α : Type} {c : α → α → Int} {a b : List α} {k : Nat} (h1 : a.length ≤ k) : Np.rowC c (a.drop k) (b.drop k) = if k < b.length then -1 else 0 := by
  rw [Mp.drop_all h1]
  by_cases h : k < b.length
  · obtain ⟨y, hy⟩ := Mp.at_lt h
    rw [if_pos h, Mp.drop_at hy, Np.rowC]
  · rw [if_neg h, Mp.drop_all (by omega), Np.rowC]
theorem rowC_more {α : Type} {c : α → α → Int} {a b : List α} {k : Nat} {x : α} (h1 : a[k]? = some x) (h2 : b.length ≤ k) : Np.rowC c (a.drop k) (b.drop k) = 1 := by
  rw [Mp.drop_at h1, Mp.drop_all h2, Np.rowC]
set_option maxHeartbeats 4000000 in
theorem compareO (w : World) (a1 a2 : Option Addr) (n1 n2 c1 c2 : Nat) (la lb : List Mp.On) (h1 : ORow w (.slice a1 n1 c1) la) (h2 : ORow w (.slice a2 n2 c2) lb) :
    Calls Tryz.prog 56 #[.slice a1 n1 c1, .slice a2 n2 c2, .func (.func 57) #[] #[]] w fun e w' => e = .returned (.int .i64 (Np.rowC Np.onC la lb)) ∧ Gr w w' := by
  obtain ⟨hn1, hl1, _, b1, o1, ha1, hc1⟩ := orow_at h1
  obtain ⟨hn2, hl2, _, b2, o2, ha2, hc2⟩ := orow_at h2
  have HN1 := hideT hn1
  have HN2 := hideT hn2
  have HC1 := hideT hc1
  have HA1 := hideT ha1
  have HC2 := hideT hc2
  have HA2 := hideT ha2
  clear hc1 ha1 hc2 ha2 h1 h2 hn1 hn2
  go_enter Tryz.func56, Tryz.ntmps56
  go_wp2_with fail
  go_loopw [13] (fun i wr => ∃ k : Nat, k ≤ n1 ∧ i = .int .i64 k ∧ Hid (Np.rowC Np.onC la lb = Np.rowC Np.onC (la.drop k) (lb.drop k)) ∧ Hid (Gr w wr)) (fun i _ => n1 - (intOf i).toNat)
  case atStart => exact ⟨0, by omega, rfl, rfl, Gr.refl _⟩
  case round =>
    obtain ⟨k, hk, rfl, HB, HW⟩ := hrel
    by_cases hlt : k < n1
    rotate_left
    · have HF : Hid (Np.rowC Np.onC la lb = if k < n2 then -1 else 0) := by
        rw [HN2.out]
        exact HB.out.trans (rowC_end (by have := HN1.out; omega))
      have hkn : k = n1 := by omega
      subst hkn
      by_cases h2 : k < n2
      · have HF' := hideT (HF.out.trans (if_pos h2))
        have t2 : (k : Int) < (n2 : Int) := by omega
        go_wp2_with fail
        go_ret
        exact ⟨ret_i HF'.out.symm, HW.out⟩
      · have HF' := hideT (HF.out.trans (if_neg h2))
        have t2 : ¬ (k : Int) < (n2 : Int) := by omega
        go_wp2_with fail
        go_ret
        exact ⟨ret_i HF'.out.symm, HW.out⟩
    · obtain ⟨⟨x0, x1⟩, hx⟩ := Mp.at_lt (l := la) (k := k) (by have := HN1.out; omega)
      obtain ⟨_, d0, d1⟩ := HC1.out k _ hx
      have d0 := below_cell HW.out.1 _ _ d0
      have d1 := below_cell HW.out.1 _ _ d1
      dsimp only at d0 d1
      obtain rfl := HA1.out (by omega)
      have HX := hideT hx
      clear hx
      have t1 : (k : Int) < (n1 : Int) := by omega
      have t0 : (0 : Int) ≤ (k : Int) := by omega
      have BA := hideT ((Gr.refl wr).alloc (.cells #[.string x0, .int .i64 x1] 84))
      by_cases h2 : k < n2
      rotate_left
      · have HF := hideT (HB.out.trans (rowC_more HX.out (by have := HN2.out; omega)))
        have t2 : (n2 : Int) ≤ (k : Int) := by omega
        go_wp2_with fail
        go_ret
        exact ⟨ret_i HF.out.symm, HW.out.trans BA.out⟩
      · obtain ⟨⟨y0, y1⟩, hy⟩ := Mp.at_lt (l := lb) (k := k) (by have := HN2.out; omega)
        obtain ⟨_, e0, e1⟩ := HC2.out k _ hy
        have e0 := below_cell (HW.out.trans BA.out).1 _ _ e0
        have e1 := below_cell (HW.out.trans BA.out).1 _ _ e1
        dsimp only at e0 e1
        obtain rfl := HA2.out (by omega)
        have HY := hideT hy
        clear hy
        have t2 : ¬ (n2 : Int) ≤ (k : Int) := by omega
        have t3 : (k : Int) < (n2 : Int) := by omega
        go_wp2_with fail
        refine (onCmpD (x0, x1) (y0, y1) _).mono ?_
        rintro e w1 ⟨rfl, g1⟩
        have HG := hideT ((HW.out.trans BA.out).trans (((Gr.refl _).alloc (.cells #[.string y0, .int .i64 y1] 84)).trans g1))
        have HR := hideT (HB.out.trans (rowC_at HX.out HY.out))
        clear g1 d0 d1 e0 e1
        obtain ⟨z, hz⟩ : ∃ z, Np.onC (x0, x1) (y0, y1) = z := ⟨_, rfl⟩
        rw [hz] at HR ⊢
        by_cases h0 : z = 0
        · have HS := hideT (HR.out.trans (if_pos h0))
          subst h0
          go_wp2_with fail
          refine ⟨⟨k + 1, by omega, by go_num, HS, HG⟩, ?_⟩
          first | omega | (simp [intOf]; omega)
        · have HS := hideT (HR.out.trans (if_neg h0))
          have t4 : (z != 0) = true := bne_iff_ne.2 h0
          go_wp2_with fail
          go_ret
          exact ⟨ret_i HS.out.symm, HG.out⟩
set_option maxHeartbeats 4000000 in
theorem compareC (w : World) (a1 a2 : Option Addr) (n1 n2 c1 c2 : Nat) (la lb : List Mp.Cond) (h1 : CRow w (.slice a1 n1 c1) la) (h2 : CRow w (.slice a2 n2 c2) lb) :
    Calls Tryz.prog 58 #[.slice a1 n1 c1, .slice a2 n2 c2, .func (.func 59) #[] #[]] w fun e w' => e = .returned (.int .i64 (Np.rowC Np.condC la lb)) ∧ Gr w w' := by
  obtain ⟨hn1, hl1, _, b1, o1, ha1, hc1⟩ := crow_at h1
  obtain ⟨hn2, hl2, _, b2, o2, ha2, hc2⟩ := crow_at h2
  have HN1 := hideT hn1
  have HN2 := hideT hn2
  have HC1 := hideT hc1
  have HA1 := hideT ha1
  have HC2 := hideT hc2
  have HA2 := hideT ha2
  clear hc1 ha1 hc2 ha2 h1 h2 hn1 hn2
  go_enter Tryz.func58, Tryz.ntmps58
  go_wp2_with fail
  go_loopw [13] (fun i wr => ∃ k : Nat, k ≤ n1 ∧ i = .int .i64 k ∧ Hid (Np.rowC Np.condC la lb = Np.rowC Np.condC (la.drop k) (lb.drop k)) ∧ Hid (Gr w wr)) (fun i _ => n1 - (intOf i).toNat)
  case atStart => exact ⟨0, by omega, rfl, rfl, Gr.refl _⟩
  case round =>
    obtain ⟨k, hk, rfl, HB, HW⟩ := hrel
    by_cases hlt : k < n1
    rotate_left
    · have HF : Hid (Np.rowC Np.condC la lb = if k < n2 then -1 else 0) := by
        rw [HN2.out]
        exact HB.out.trans (rowC_end (by have := HN1.out; omega))
      have hkn : k = n1 := by omega
      subst hkn
      by_cases h2 : k < n2
      · have HF' := hideT (HF.out.trans (if_pos h2))
        have t2 : (k : Int) < (n2 : Int) := by omega
        go_wp2_with fail
        go_ret
        exact ⟨ret_i HF'.out.symm, HW.out⟩
      · have HF' := hideT (HF.out.trans (if_neg h2))
        have t2 : ¬ (k : Int) < (n2 : Int) := by omega
        go_wp2_with fail
        go_ret
        exact ⟨ret_i HF'.out.symm, HW.out⟩
    · obtain ⟨⟨x0, x1, x2⟩, hx⟩ := Mp.at_lt (l := la) (k := k) (by have := HN1.out; omega)
      obtain ⟨_, d0, d1, d2⟩ := HC1.out k _ hx
      have d0 := below_cell HW.out.1 _ _ d0
      have d1 := below_cell HW.out.1 _ _ d1
      have d2 := below_cell HW.out.1 _ _ d2
      dsimp only at d0 d1 d2
      obtain rfl := HA1.out (by omega)
      have HX := hideT hx
      clear hx
      have t1 : (k : Int) < (n1 : Int) := by omega
      have t0 : (0 : Int) ≤ (k : Int) := by omega
      have BA := hideT ((Gr.refl wr).alloc (.cells #[.string x0, .string x1, .int .i64 x2] 89))
      by_cases h2 : k < n2
      rotate_left
      · have HF := hideT (HB.out.trans (rowC_more HX.out (by have := HN2.out; omega)))
        have t2 : (n2 : Int) ≤ (k : Int) := by omega
        go_wp2_with fail
        go_ret
        exact ⟨ret_i HF.out.symm, HW.out.trans BA.out⟩
      · obtain ⟨⟨y0, y1, y2⟩, hy⟩ := Mp.at_lt (l := lb) (k := k) (by have := HN2.out; omega)
        obtain ⟨_, e0, e1, e2⟩ := HC2.out k _ hy
        have e0 := below_cell (HW.out.trans BA.out).1 _ _ e0
        have e1 := below_cell (HW.out.trans BA.out).1 _ _ e1
        have e2 := below_cell (HW.out.trans BA.out).1 _ _ e2
        dsimp only at e0 e1 e2
        obtain rfl := HA2.out (by omega)
        have HY := hideT hy
        clear hy
        have t2 : ¬ (n2 : Int) ≤ (k : Int) := by omega
        have t3 : (k : Int) < (n2 : Int) := by omega
        go_wp2_with fail
        refine (condCmpD (x0, x1, x2) (y0, y1, y2) _).mono ?_
        rintro e w1 ⟨rfl, g1⟩
        have HG := hideT ((HW.out.trans BA.out).trans (((Gr.refl _).alloc (.cells #[.string y0, .string y1, .int .i64 y2] 89)).trans g1))
        have HR := hideT (HB.out.trans (rowC_at HX.out HY.out))
        clear g1 d0 d1 d2 e0 e1 e2
        obtain ⟨z, hz⟩ : ∃ z, Np.condC (x0, x1, x2) (y0, y1, y2) = z := ⟨_, rfl⟩
        rw [hz] at HR ⊢
        by_cases h0 : z = 0
        · have HS := hideT (HR.out.trans (if_pos h0))
          subst h0
          go_wp2_with fail
          refine ⟨⟨k + 1, by omega, by go_num, HS, HG⟩, ?_⟩
          first | omega | (simp [intOf]; omega)
        · have HS := hideT (HR.out.trans (if_neg h0))
          have t4 : (z != 0) = true := bne_iff_ne.2 h0
          go_wp2_with fail
          go_ret
          exact ⟨ret_i HS.out.symm, HG.out⟩
theorem less_row : ∀ (a b : List UInt8), Op.bytesLess a b = decide (Np.rowC Np.byteC a b < 0)
  | [], [] => by simp [Op.bytesLess, Np.rowC]
  | [], _ :: _ => by simp [Op.bytesLess, Np.rowC]
  | _ :: _, [] => by simp [Op.bytesLess, Np.rowC]
  | a :: xs, b :: ys => by
    rw [Op.bytesLess, less_row xs ys, Np.rowC]
    unfold Np.or2 Np.byteC
    by_cases h : a < b
    · simp [h]
    · by_cases h2 : b < a
      · simp [h, h2]
        try (intro e; subst e; exact absurd h2 (UInt8.lt_irrefl _))
      · have : a = b := UInt8.le_antisymm (UInt8.not_lt.1 h2) (UInt8.not_lt.1 h)
        subst this
        simp [UInt8.lt_irrefl]
theorem less_cmp (a b : ByteArray) : Op.bytesLess a.toList b.toList = decide (Np.cmpS a b < 0) := by
  rw [less_row, ByteArray.toList_eq, ByteArray.toList_eq]
  unfold Np.cmpS
  rw [Np.bytes_row]
theorem isNaNS (x : ByteArray) (w : World) :
    Calls Tryz.prog 121 #[.string x] w fun e w' => e = .returned (.bool false) ∧ w' = w := by
  go_enter Tryz.func121, Tryz.ntmps121
  go_wp2_with fail
  go_ret
  exact ⟨ret_b (by simp), rfl⟩
theorem cmpStr2 (x y : ByteArray) (w : World) :
    Calls Tryz.prog 96 #[.string x, .string y] w fun e w' => e = .returned (.int .i64 (Np.cmpS x y)) ∧ w' = w := by
  go_enter Tryz.func96, Tryz.ntmps96
  go_wp2_with (go_at_call 121; refine (isNaNS _ _).mono ?_; rintro e w' ⟨rfl, rfl⟩)
  all_goals go_ret
  all_goals refine ⟨ret_i ?_, rfl⟩
  all_goals (have hl := less_cmp x y)
  all_goals (have ht := Np.cmpS_tot.vals x y)
  · rename_i h
    rw [hl] at h
    have := of_decide_eq_true h
    omega
  · rename_i h1 _ _ h
    rw [hl] at h1
    have h2 := of_decide_eq_false h1
    have h0 : Np.cmpS x y ≠ 0 := fun e => by
      have := (Np.cmpS_tot.eq0 x y).1 e
      subst this
      simp at h
    omega
  · have h0 : x = y := toList_inj (by simp at *; assumption)
    exact ((Np.cmpS_tot.eq0 x y).2 h0).symm
end Go.Proofs.YtdcahnaempabcabGreat
