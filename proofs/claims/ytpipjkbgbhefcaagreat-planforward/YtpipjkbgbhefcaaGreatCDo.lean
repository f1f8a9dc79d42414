/-
  Do; what a case tells.
-/
import Derived.Test.YtpipjkbgbhefcaaGreatCTick
set_option linter.unusedSimpArgs false
set_option linter.unusedVariables false
namespace Go.Proofs.YtpipjkbgbhefcaaGreat
open Go.RowKit
open Qp
set_option maxRecDepth 100000
abbrev actV (a : Cp.ActP) : Value := .agg #[.int .i64 a.kind, .string a.item, .int .i64 a.ev, .string a.file, .int .i64 a.n]
section
variable {w w' : World} {H : Nat} {K : Kc} {m : Mp.Model} {v : Value} {L : List Thing} {N : Nat} {st : Cp.St}
theorem DoPost.on {w1 : World} {p : Int × Cp.St} (hb : Below w.heap.size w w1) {e : Ending} {w2 : World} (h : DoPost w1 H K m v p e w2) : DoPost w H K m v p e w2 := by
  obtain ⟨he, v', L', N', T⟩ := h
  exact ⟨he, v', L', N', T.a, (Keep.of_below hb).trans T.keep, T.grew.mono' hb.size⟩
set_option maxHeartbeats 8000000 in
theorem doD (h : CAll w H K m v L N st noP) (hH : H ≤ w.heap.size) (hnow : st.now < 1000000000000) (a : Cp.ActP) :
    Calls Tryz.prog 14 #[cP K, actV a] w (DoPost w H K m v (Cp.doP m st a)) := by
  obtain ⟨ak, ai, ae, af, an⟩ := a
  obtain ⟨W, hW⟩ : ∃ W, w.alloc (.cells #[.int .i64 ak, .string ai, .int .i64 ae, .string af, .int .i64 an] 40) = W := ⟨_, rfl⟩
  obtain ⟨B1, L1, z1⟩ := of_alloc hW
  have x0 : W.cell? ⟨w.heap.size, 0, none⟩ = some (.int .i64 ak) := L1.cell 0
  have x1 : W.cell? ⟨w.heap.size, 1, none⟩ = some (.string ai) := L1.cell 1
  have x2 : W.cell? ⟨w.heap.size, 2, none⟩ = some (.int .i64 ae) := L1.cell 2
  have x3 : W.cell? ⟨w.heap.size, 3, none⟩ = some (.string af) := L1.cell 3
  have x4 : W.cell? ⟨w.heap.size, 4, none⟩ = some (.int .i64 an) := L1.cell 4
  have HA := hideT (h.below B1)
  have HB := hideT B1
  have HH : Hid (H ≤ W.heap.size) := Nat.le_trans hH B1.size
  have HNOW := hideT hnow
  clear h B1 L1 z1 hH hnow
  by_cases h1 : ak < 1
  · have HS : Hid (Cp.doP m st ⟨ak, ai, ae, af, an⟩ = (1, st)) := by show _ = _; unfold Cp.doP; simp only; rw [if_pos (.inl h1)]
    go_enter Tryz.func14, Tryz.ntmps14
    go_wp2_with fail
    go_ret
    rw [HS.out]
    exact ⟨rfl, v, L, N, HA.out, Keep.of_below HB.out, Grew.refl _ _⟩
  have h1' : 1 ≤ ak := by omega
  by_cases h3 : 3 < ak
  · have HS : Hid (Cp.doP m st ⟨ak, ai, ae, af, an⟩ = (1, st)) := by show _ = _; unfold Cp.doP; simp only; rw [if_pos (.inr h3)]
    clear h1
    go_enter Tryz.func14, Tryz.ntmps14
    go_wp2_with fail
    go_ret
    rw [HS.out]
    exact ⟨rfl, v, L, N, HA.out, Keep.of_below HB.out, Grew.refl _ _⟩
  have h3' : ak ≤ 3 := by omega
  obtain ⟨b, hb⟩ : ∃ b, Cp.overB st = b := ⟨_, rfl⟩
  have HO := hideT hb
  have HS0 : Hid (Cp.doP m st ⟨ak, ai, ae, af, an⟩ = if b = true then (9, st) else if ak = 1 then Cp.userP m st ai ae else if ak = 2 then Cp.writeP m st af an else Cp.tickP m st) := by
    show _ = _
    unfold Cp.doP
    simp only
    rw [if_neg (by omega), hb]
  clear h1 h3 hb
  cases b with
  | true =>
    have HS : Hid (Cp.doP m st ⟨ak, ai, ae, af, an⟩ = (9, st)) := by show _ = _; rw [HS0.out]; rfl
    clear HS0
    go_enter Tryz.func14, Tryz.ntmps14
    go_wp2_with fail
    refine (isOverD HA.out true HO).mono ?_
    rintro e w1 ⟨rfl, hw⟩
    obtain rfl := hw.symm
    go_wp2_with fail
    go_ret
    rw [HS.out]
    exact ⟨rfl, v, L, N, HA.out, Keep.of_below HB.out, Grew.refl _ _⟩
  | false =>
    by_cases k1 : ak = 1
    · subst k1
      have HS : Hid (Cp.doP m st ⟨1, ai, ae, af, an⟩ = Cp.userP m st ai ae) := by show _ = _; rw [HS0.out]; rfl
      clear HS0
      go_enter Tryz.func14, Tryz.ntmps14
      go_wp2_with fail
      refine (isOverD HA.out false HO).mono ?_
      rintro e w1 ⟨rfl, hw⟩
      obtain rfl := hw.symm
      go_wp2_with fail
      refine (userD HA.out HH.out ai ae).mono ?_
      rintro e w2 hp
      have hp' := hp.on HB.out
      obtain ⟨rfl, T⟩ := hp'
      rw [← HS.out] at T
      have HT := hideT T
      have HS1 : Hid ((Cp.userP m st ai ae).1 = (Cp.doP m st ⟨1, ai, ae, af, an⟩).1) := by show _ = _; rw [HS.out]
      clear T hp
      go_wp2_with fail
      go_ret
      exact ⟨ret_i HS1.out, HT.out⟩
    have e1 : (ak == (1 : Int)) = false := beq_eq_false_iff_ne.2 k1
    by_cases k2 : ak = 2
    · subst k2
      have HS : Hid (Cp.doP m st ⟨2, ai, ae, af, an⟩ = Cp.writeP m st af an) := by show _ = _; rw [HS0.out]; rfl
      clear HS0
      go_enter Tryz.func14, Tryz.ntmps14
      go_wp2_with fail
      refine (isOverD HA.out false HO).mono ?_
      rintro e w1 ⟨rfl, hw⟩
      obtain rfl := hw.symm
      go_wp2_with fail
      refine (writeD HA.out HH.out af an).mono ?_
      rintro e w2 hp
      have hp' := hp.on HB.out
      obtain ⟨rfl, T⟩ := hp'
      rw [← HS.out] at T
      have HT := hideT T
      have HS1 : Hid ((Cp.writeP m st af an).1 = (Cp.doP m st ⟨2, ai, ae, af, an⟩).1) := by show _ = _; rw [HS.out]
      clear T hp
      go_wp2_with fail
      go_ret
      exact ⟨ret_i HS1.out, HT.out⟩
    have e2 : (ak == (2 : Int)) = false := beq_eq_false_iff_ne.2 k2
    have HS : Hid (Cp.doP m st ⟨ak, ai, ae, af, an⟩ = Cp.tickP m st) := by show _ = _; rw [HS0.out, if_neg (by decide), if_neg k1, if_neg k2]
    clear HS0 k1 k2
    go_enter Tryz.func14, Tryz.ntmps14
    go_wp2_with fail
    refine (isOverD HA.out false HO).mono ?_
    rintro e w1 ⟨rfl, hw⟩
    obtain rfl := hw.symm
    go_wp2_with fail
    refine (tickD HA.out HH.out HNOW.out).mono ?_
    rintro e w2 hp
    have hp' := hp.on HB.out
    obtain ⟨rfl, T⟩ := hp'
    rw [← HS.out] at T
    have HT := hideT T
    have HS1 : Hid ((Cp.tickP m st).1 = (Cp.doP m st ⟨ak, ai, ae, af, an⟩).1) := by show _ = _; rw [HS.out]
    clear T hp
    go_wp2_with fail
    go_ret
    exact ⟨ret_i HS1.out, HT.out⟩
theorem nowD (h : CIn w H K m v L N st) : Calls Tryz.prog 26 #[cP K] w fun e w' => e = .returned (.int .i64 st.now) ∧ w' = w := by
  have c6 := h.c6
  clear h
  go_enter Tryz.func26, Tryz.ntmps26
  go_wp2_with fail
  go_ret
  exact ⟨rfl, rfl⟩
theorem roundsD (h : CIn w H K m v L N st) : Calls Tryz.prog 27 #[cP K] w fun e w' => e = .returned (.int .i64 st.rounds) ∧ w' = w := by
  have c7 := h.c7
  clear h
  go_enter Tryz.func27, Tryz.ntmps27
  go_wp2_with fail
  go_ret
  exact ⟨rfl, rfl⟩
/-- The sentries of an item, by its ID. -/
def sentL (m : Mp.Model) (s : ByteArray) (ex : Bool) : List Mp.Sent := match Mp.placeO m.items s with
  | none => []
  | some k => if ex then (Cp.itm m k).exit else (Cp.itm m k).entry
def SentPost (l : List Mp.Sent) (w : World) (e : Ending) (w' : World) : Prop := ∃ a c, e = .returned (.slice a l.length c) ∧ SRow w' (.slice a l.length c) l ∧ Below w.heap.size w w'
set_option maxHeartbeats 4000000 in
theorem sentsCD (h : CIn w H K m v L N st) (s : ByteArray) (ex : Bool) : Calls Tryz.prog 42 #[cP K, .string s, .bool ex] w (SentPost (sentL m s ex) w) := by
  have HC := hideT h
  have c0 := h.c0
  have c1 := h.c1
  have HP := hideT (placeD w (.slice K.af m.files.length K.cf) (some ⟨K.ib, K.io, none⟩) _ K.ci m.items s h.at.items)
  clear h
  rcases placeN_cases m.items s with ⟨e1, e2⟩ | ⟨k, x, e1, e2, hx, _⟩
  · have HS : Hid (sentL m s ex = []) := by show _ = _; unfold sentL; rw [e1]
    clear e1
    go_enter Tryz.func42, Tryz.ntmps42
    go_wp2_with fail
    refine HP.out.mono ?_
    rintro e w1 ⟨rfl, b1⟩
    have HB1 := hideT b1
    rw [e2]
    clear b1 e2
    go_wp2_with fail
    go_ret
    rw [HS.out]
    exact ⟨none, 0, rfl, rowR_nil _, HB1.out⟩
  have hk := (List.getElem?_eq_some_iff.1 hx).1
  have t1 : (0 : Int) ≤ (k : Int) := by omega
  have t2 : (k : Int) < (m.items.length : Int) := by omega
  have HK := hideT hk
  cases ex with
  | true =>
    have HS : Hid (sentL m s true = (Cp.itm m k).exit) := by show _ = _; unfold sentL; rw [e1]; rfl
    clear e1 hx hk
    go_enter Tryz.func42, Tryz.ntmps42
    go_wp2_with fail
    refine HP.out.mono ?_
    rintro e w1 ⟨rfl, b1⟩
    have HB1 := hideT b1
    have HC1 := hideT (HC.out.below b1)
    obtain ⟨a5, k5, a6, k6, I⟩ := HC1.out.item HK.out
    have d6 := I.c6
    have HR := hideT I.exit
    have f1 := HC1.out.c1
    rw [e2]
    clear b1 e2 I c0 c1
    go_wp2_with fail
    go_ret
    rw [HS.out]
    exact ⟨a6, k6, rfl, HR.out, HB1.out⟩
  | false =>
    have HS : Hid (sentL m s false = (Cp.itm m k).entry) := by show _ = _; unfold sentL; rw [e1]; rfl
    clear e1 hx hk
    go_enter Tryz.func42, Tryz.ntmps42
    go_wp2_with fail
    refine HP.out.mono ?_
    rintro e w1 ⟨rfl, b1⟩
    have HB1 := hideT b1
    have HC1 := hideT (HC.out.below b1)
    obtain ⟨a5, k5, a6, k6, I⟩ := HC1.out.item HK.out
    have d5 := I.c5
    have HR := hideT I.entry
    have f1 := HC1.out.c1
    rw [e2]
    clear b1 e2 I c0 c1
    go_wp2_with fail
    go_ret
    rw [HS.out]
    exact ⟨a5, k5, rfl, HR.out, HB1.out⟩
def metP (m : Mp.Model) (st : Cp.St) (s : ByteArray) (ex : Bool) (i : Int) : Bool := decide (0 ≤ i) && match (sentL m s ex)[i.toNat]? with
  | some x => Cp.hold m st x
  | none => false
theorem sentL_ok {m : Mp.Model} (hl : OkM m) {s : ByteArray} {ex : Bool} {x : Mp.Sent} (hx : x ∈ sentL m s ex) : ∀ o ∈ x.1, OnOk o := by
  unfold sentL at hx
  cases h : Mp.placeO m.items s with
  | none => rw [h] at hx; cases hx
  | some k =>
    rw [h] at hx
    obtain ⟨y, hy, _, _⟩ := Mp.find_some_inv h
    have hk := (List.getElem?_eq_some_iff.1 hy).1
    refine hl.2 k hk x ?_
    cases ex with
    | true => exact .inr hx
    | false => exact .inl hx
set_option maxHeartbeats 4000000 in
theorem metD (h : CIn w H K m v L N st) (hl : OkM m) (s : ByteArray) (ex : Bool) (i : Int) : Calls Tryz.prog 19 #[cP K, .string s, .bool ex, .int .i64 i] w (AnyPost (metP m st s ex i) w) := by
  have HC := hideT h
  have HL := hideT hl
  have HP := hideT (sentsCD h s ex)
  obtain ⟨l, hll⟩ : ∃ l, sentL m s ex = l := ⟨_, rfl⟩
  have HM : Hid (metP m st s ex i = (decide (0 ≤ i) && match l[i.toNat]? with | some x => Cp.hold m st x | none => false)) := by show _ = _; unfold metP; rw [hll]
  have HO : Hid (∀ x ∈ l, ∀ o ∈ x.1, OnOk o) := fun x hx => sentL_ok hl (by rw [hll]; exact hx)
  rw [hll] at HP
  clear h hl hll
  by_cases h0 : 0 ≤ i
  rotate_left
  · have h0' : i < 0 := by omega
    have HX : Hid (metP m st s ex i = false) := by show _ = _; rw [HM.out, decide_eq_false h0]; rfl
    clear h0 HM
    go_enter Tryz.func19, Tryz.ntmps19
    go_wp2_with fail
    refine HP.out.mono ?_
    rintro e w1 ⟨a, c, rfl, r1, b1⟩
    have HB1 := hideT b1
    clear b1 r1
    go_wp2_with fail
    go_ret
    exact ⟨ret_b HX.out.symm, HB1.out⟩
  obtain ⟨k, rfl⟩ : ∃ k : Nat, i = (k : Int) := ⟨i.toNat, by omega⟩
  by_cases hk : k < l.length
  rotate_left
  · have HX : Hid (metP m st s ex (k : Int) = false) := by
      show _ = _
      rw [HM.out, Int.toNat_natCast, List.getElem?_eq_none (by omega)]
      simp
    have t2 : (l.length : Int) ≤ (k : Int) := by omega
    clear hk HM
    go_enter Tryz.func19, Tryz.ntmps19
    go_wp2_with fail
    refine HP.out.mono ?_
    rintro e w1 ⟨a, c, rfl, r1, b1⟩
    have HB1 := hideT b1
    clear b1 r1
    go_wp2_with fail
    go_ret
    exact ⟨ret_b HX.out.symm, HB1.out⟩
  obtain ⟨x, hx⟩ := Mp.at_lt hk
  have HX : Hid (metP m st s ex (k : Int) = Cp.hold m st x) := by
    show _ = _
    rw [HM.out, Int.toNat_natCast, hx, decide_eq_true h0]
    rfl
  have HXX := hideT hx
  have HKK := hideT hk
  have t2 : (k : Int) < (l.length : Int) := by omega
  clear hx hk HM
  go_enter Tryz.func19, Tryz.ntmps19
  go_wp2_with fail
  refine HP.out.mono ?_
  rintro e w1 ⟨a, c, rfl, r1, b1⟩
  have HB1 := hideT b1
  have HC1 := hideT (HC.out.below b1)
  obtain ⟨_, _, _, b, o, ha, hc⟩ := srow_at r1
  obtain ⟨a1, c1, a2, c2, q1, q2, d0, d1⟩ := hc k x HXX.out
  obtain rfl := ha (by have := HKK.out; omega)
  have HH := hideT (holdsD HC1.out HL.out.1 x a1 a2 c1 c2 q1 q2 (HO.out x (List.mem_of_getElem? HXX.out)))
  clear b1 r1 hc q1 q2 ha
  go_wp2_with fail
  refine HH.out.mono ?_
  rintro e w2 ⟨rfl, b2⟩
  have HB2 := hideT (HB1.out.trans (b2.mono HB1.out.size))
  clear b2
  go_wp2_with fail
  go_ret
  exact ⟨ret_b HX.out.symm, HB2.out⟩
end
end Go.Proofs.YtpipjkbgbhefcaaGreat
