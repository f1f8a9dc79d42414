/-
  What a round asks of an item: exits, starts, creates.
-/
import Derived.Test.YtpipjkbgbhefcaaGreatCHold
set_option linter.unusedSimpArgs false
set_option linter.unusedVariables false
namespace Go.Proofs.YtpipjkbgbhefcaaGreat
open Go.RowKit
open Qp
set_option maxRecDepth 100000
/-- The events that a model's sentries name are such as can be looked up. -/
def OkM (m : Mp.Model) : Prop := Mp.isB m = true ∧ ∀ i, i < m.items.length → ∀ s, (s ∈ (Cp.itm m i).entry ∨ s ∈ (Cp.itm m i).exit) → ∀ o ∈ s.1, OnOk o
abbrev iP (i : Nat) : Value := .int .i64 (i : Int)
def IntPost (x : Int) (w : World) (e : Ending) (w' : World) : Prop := e = .returned (.int .i64 x) ∧ Below w.heap.size w w'
section
variable {w : World} {H : Nat} {K : Kc} {m : Mp.Model} {v : Value} {L : List Thing} {N : Nat} {st : Cp.St}
theorem anySD (h : CIn w H K m v L N st) (hl : OkM m) {i : Nat} (hi : i < m.items.length) (l : List Mp.Sent) (hin : ∀ s ∈ l, s ∈ (Cp.itm m i).entry ∨ s ∈ (Cp.itm m i).exit) (a : Option Addr) (c : Nat) (hr : SRow w (.slice a l.length c) l) (b : Bool) (hb : Hid (l.any (Cp.hold m st) = b)) :
    Calls Tryz.prog 113 #[.slice a l.length c, methC 43 (cP K)] w (AnyPost b w) :=
  containsCS w a _ c l 43 (cP K) (Cp.hold m st) hr (enters_of Tryz.func43 (by kernel_rfl) rfl) (fun x hx w' hw' a1 c1 a2 c2 r1 r2 => holdsD (h.below hw') hl.1 x a1 a2 c1 c2 r1 r2 (hl.2 i hi x (hin x hx))) b hb
set_option maxHeartbeats 4000000 in
theorem exitsD (h : CIn w H K m v L N st) (hl : OkM m) (i : Nat) (hi : i < m.items.length) (x : Int) (hx : Hid (Cp.exitsI m st i = x)) :
    Calls Tryz.prog 88 #[cP K, iP i] w (IntPost x w) := by
  obtain ⟨t, ht⟩ : ∃ t, Cp.thereB (Cp.at0 st.s i) = t := ⟨_, rfl⟩
  obtain ⟨b, hb⟩ : ∃ b, (Cp.itm m i).exit.any (Cp.hold m st) = b := ⟨_, rfl⟩
  have HX : Hid (x = if t && b then 5 else 0) := by show _ = _; rw [← hx.out]; unfold Cp.exitsI; rw [ht, hb]
  have c1 := h.c1
  have c2 := h.c2
  have cs := h.cs hi
  obtain ⟨a5, k5, a6, k6, I⟩ := h.item hi
  have d6 := I.c6
  have HT := hideT ht
  have HA := hideT (anySD h hl hi _ (fun s hs => .inr hs) a6 k6 I.exit b hb)
  have t1 : (0 : Int) ≤ (i : Int) := by omega
  have t2 : (i : Int) < (m.items.length : Int) := by omega
  clear h I hb ht hx
  cases t with
  | false =>
    go_enter Tryz.func88, Tryz.ntmps88
    go_wp2_with fail
    refine (isThereD _ w false HT).mono ?_
    rintro e w1 ⟨rfl, hw⟩
    obtain rfl := hw.symm
    go_wp2_with fail
    go_ret
    exact ⟨ret_i HX.out.symm, Below.refl _ _⟩
  | true =>
    go_enter Tryz.func88, Tryz.ntmps88
    go_wp2_with fail
    refine (isThereD _ w true HT).mono ?_
    rintro e w1 ⟨rfl, hw⟩
    obtain rfl := hw.symm
    go_wp2_with fail
    refine HA.out.mono ?_
    rintro e w2 ⟨rfl, b2⟩
    have HB := hideT b2
    clear b2
    cases b with
    | true =>
      go_wp2_with fail
      go_ret
      exact ⟨ret_i HX.out.symm, HB.out⟩
    | false =>
      go_wp2_with fail
      go_ret
      exact ⟨ret_i HX.out.symm, HB.out⟩
set_option maxHeartbeats 4000000 in
theorem createsD (h : CIn w H K m v L N st) (i : Nat) (hi : i < m.items.length) (x : Int) (hx : Hid (Cp.createsI m st i = x)) :
    Calls Tryz.prog 90 #[cP K, iP i] w (IntPost x w) := by
  have c1 := h.c1
  have c2 := h.c2
  have cs := h.cs hi
  obtain ⟨a5, k5, a6, k6, I⟩ := h.item hi
  have d2 := I.c2
  have HC := hideT h
  have t1 : (0 : Int) ≤ (i : Int) := by omega
  have t2 : (i : Int) < (m.items.length : Int) := by omega
  have HX : Hid (x = if Cp.at0 st.s i = 0 ∧ Cp.stateN m st (Cp.itm m i).parent = 2 then 1 else 0) := hx.out.symm
  clear h I hx
  obtain ⟨s, hs⟩ : ∃ s, Cp.at0 st.s i = s := ⟨_, rfl⟩
  rw [hs] at cs HX
  by_cases h0 : s = 0
  · subst h0
    clear hs
    go_enter Tryz.func90, Tryz.ntmps90
    go_wp2_with fail
    refine (stateD HC.out (Cp.itm m i).parent).mono ?_
    rintro e w1 ⟨rfl, b1⟩
    have HB := hideT b1
    clear b1
    obtain ⟨p, hp⟩ : ∃ p, Cp.stateN m st (Cp.itm m i).parent = p := ⟨_, rfl⟩
    rw [hp] at HX
    rw [hp]
    by_cases h2 : p = 2
    · subst h2
      clear hp
      go_wp2_with fail
      go_ret
      exact ⟨ret_i HX.out.symm, HB.out⟩
    · have t3 : (p == (2 : Int)) = false := beq_eq_false_iff_ne.2 h2
      have HX2 : Hid (x = 0) := by show _ = _; rw [HX.out, if_neg (fun e => h2 e.2)]
      clear hp h2 HX
      go_wp2_with fail
      go_ret
      exact ⟨ret_i HX2.out.symm, HB.out⟩
  · have t3 : (s == (0 : Int)) = false := beq_eq_false_iff_ne.2 h0
    have HX2 : Hid (x = 0) := by show _ = _; rw [HX.out, if_neg (fun e => h0 e.1)]
    clear hs h0 HX
    go_enter Tryz.func90, Tryz.ntmps90
    go_wp2_with fail
    go_ret
    exact ⟨ret_i HX2.out.symm, Below.refl _ _⟩
set_option maxHeartbeats 8000000 in
theorem startsD (h : CIn w H K m v L N st) (hl : OkM m) (i : Nat) (hi : i < m.items.length) (x : Int) (hx : Hid (Cp.startsI m st i = x)) :
    Calls Tryz.prog 89 #[cP K, iP i] w (IntPost x w) := by
  obtain ⟨a5, k5, a6, k6, I⟩ := h.item hi
  obtain ⟨W, hW⟩ : ∃ W, w.alloc (.cells #[.string (Cp.itm m i).id, .int .i64 (Cp.itm m i).kind, .string (Cp.itm m i).parent, .bool (Cp.itm m i).req, .int .i64 (Cp.itm m i).ticks, .slice a5 (Cp.itm m i).entry.length k5, .slice a6 (Cp.itm m i).exit.length k6] 48) = W := ⟨_, rfl⟩
  obtain ⟨B1, L1, z1⟩ := of_alloc hW
  have HB1 := hideT B1
  have HC := hideT (h.below B1)
  have c1 := h.c1
  have d0 := I.c0
  have d1 := I.c1
  have d2 := I.c2
  have d3 := I.c3
  have d4 := I.c4
  have d5 := I.c5
  have d6 := I.c6
  have y1 : W.cell? ⟨w.heap.size, 1, none⟩ = some (.int .i64 (Cp.itm m i).kind) := L1.cell 1
  have y5 : W.cell? ⟨w.heap.size, 5, none⟩ = some (.slice a5 (Cp.itm m i).entry.length k5) := L1.cell 5
  have g1 := HC.out.c1
  have g2 := HC.out.c2
  have gs := HC.out.cs hi
  have RE := hideT (srow_below I.entry B1)
  have t1 : (0 : Int) ≤ (i : Int) := by omega
  have t2 : (i : Int) < (m.items.length : Int) := by omega
  obtain ⟨s, hs⟩ : ∃ s, Cp.at0 st.s i = s := ⟨_, rfl⟩
  obtain ⟨ex, hex⟩ : ∃ z, Cp.exitsI m st i = z := ⟨_, rfl⟩
  obtain ⟨b, hb⟩ : ∃ b, (Cp.itm m i).entry.any (Cp.hold m st) = b := ⟨_, rfl⟩
  have HM : Hid (Cp.mayB m st i = (decide (s = 1) && decide (ex = 0) && (decide ((Cp.itm m i).entry.length = 0) || b))) := by show _ = _; unfold Cp.mayB; rw [hs, hex, hb]
  have HX : Hid (x = if Cp.mayB m st i then (if (Cp.itm m i).kind = 1 ∨ (Cp.itm m i).kind = 2 then 2 else if (Cp.itm m i).kind = 3 then 4 else 0) else 0) := hx.out.symm
  have HE := hideT hex
  have HBb := hideT hb
  have HL := hideT hl
  rw [hs] at gs
  obtain ⟨n, hn⟩ : ∃ n, (Cp.itm m i).entry.length = n := ⟨_, rfl⟩
  have RE' : Hid (SRow W (.slice a5 n k5) (Cp.itm m i).entry) := by have := RE.out; rw [hn] at this; exact this
  rw [hn] at y5 d5 HM hW
  have HN := hideT hn
  have hWi := hideT hi
  clear h I hx hs hex hb hl B1 L1 hn RE hi
  by_cases h1 : s = 1
  rotate_left
  · have t3 : (s != (1 : Int)) = true := bne_iff_ne.2 h1
    have HX2 : Hid (x = 0) := by show _ = _; rw [HX.out, HM.out, decide_eq_false h1]; rfl
    clear h1 HX HM
    go_enter Tryz.func89, Tryz.ntmps89
    go_wp2_with fail
    go_ret
    exact ⟨ret_i HX2.out.symm, HB1.out⟩
  subst h1
  go_enter Tryz.func89, Tryz.ntmps89
  go_wp2_with fail
  refine (exitsD HC.out HL.out i hWi.out ex HE).mono ?_
  rintro e w1 ⟨rfl, b1⟩
  have HR := hideT (HB1.out.trans (b1.mono HB1.out.size))
  have HC1 := hideT (HC.out.below b1)
  have RE1 := hideT (srow_below RE'.out b1)
  have y1 := below_cell b1 _ _ y1
  have y5 := below_cell b1 _ _ y5
  clear b1 c1 d0 d1 d2 d3 d4 d5 d6 g1 g2 gs RE'
  by_cases h2 : ex = 0
  rotate_left
  · have t3 : (ex != (0 : Int)) = true := bne_iff_ne.2 h2
    have HX2 : Hid (x = 0) := by show _ = _; rw [HX.out, HM.out, decide_eq_false h2]; rfl
    clear h2 HX HM
    go_wp2_with fail
    go_ret
    exact ⟨ret_i HX2.out.symm, HR.out⟩
  subst h2
  obtain ⟨k, hk⟩ : ∃ k, (Cp.itm m i).kind = k := ⟨_, rfl⟩
  rw [hk] at y1 HX
  clear hk hW
  by_cases h3 : n = 0
  · subst h3
    have HY : Hid (x = if k = 1 ∨ k = 2 then 2 else if k = 3 then 4 else 0) := by show _ = _; rw [HX.out, HM.out]; rfl
    clear HX HM
    by_cases k1 : k = 1
    · subst k1
      go_wp2_with fail
      go_ret
      exact ⟨ret_i HY.out.symm, HR.out⟩
    have e1 : (k == (1 : Int)) = false := beq_eq_false_iff_ne.2 k1
    by_cases k2 : k = 2
    · subst k2
      go_wp2_with fail
      go_ret
      exact ⟨ret_i HY.out.symm, HR.out⟩
    have e2 : (k == (2 : Int)) = false := beq_eq_false_iff_ne.2 k2
    by_cases k3 : k = 3
    · subst k3
      go_wp2_with fail
      go_ret
      exact ⟨ret_i HY.out.symm, HR.out⟩
    have e3 : (k == (3 : Int)) = false := beq_eq_false_iff_ne.2 k3
    have HZ : Hid (x = 0) := by show _ = _; rw [HY.out, if_neg (by omega), if_neg k3]
    clear k1 k2 k3 HY
    go_wp2_with fail
    go_ret
    exact ⟨ret_i HZ.out.symm, HR.out⟩
  have t4 : (0 : Int) < (n : Int) := by omega
  have HA : Hid (Calls Tryz.prog 113 #[.slice a5 n k5, methC 43 (cP K)] w1 (AnyPost b w1)) := by
    have := HN.out
    subst this
    exact anySD HC1.out HL.out hWi.out _ (fun s hs => .inl hs) a5 k5 RE1.out b HBb
  have HM2 : Hid (Cp.mayB m st i = b) := by show _ = _; rw [HM.out, decide_eq_false h3]; rfl
  clear HM h3
  go_wp2_with fail
  refine HA.out.mono ?_
  rintro e w2 ⟨rfl, b2⟩
  have HR2 := hideT (HR.out.trans (b2.mono HR.out.size))
  have y1 := below_cell b2 _ _ y1
  clear b2 y5
  cases b with
  | false =>
    have HZ : Hid (x = 0) := by show _ = _; rw [HX.out, HM2.out]; rfl
    clear HX HM2
    go_wp2_with fail
    go_ret
    exact ⟨ret_i HZ.out.symm, HR2.out⟩
  | true =>
    have HY : Hid (x = if k = 1 ∨ k = 2 then 2 else if k = 3 then 4 else 0) := by show _ = _; rw [HX.out, HM2.out]; rfl
    clear HX HM2
    by_cases k1 : k = 1
    · subst k1
      go_wp2_with fail
      go_ret
      exact ⟨ret_i HY.out.symm, HR2.out⟩
    have e1 : (k == (1 : Int)) = false := beq_eq_false_iff_ne.2 k1
    by_cases k2 : k = 2
    · subst k2
      go_wp2_with fail
      go_ret
      exact ⟨ret_i HY.out.symm, HR2.out⟩
    have e2 : (k == (2 : Int)) = false := beq_eq_false_iff_ne.2 k2
    by_cases k3 : k = 3
    · subst k3
      go_wp2_with fail
      go_ret
      exact ⟨ret_i HY.out.symm, HR2.out⟩
    have e3 : (k == (3 : Int)) = false := beq_eq_false_iff_ne.2 k3
    have HZ : Hid (x = 0) := by show _ = _; rw [HY.out, if_neg (by omega), if_neg k3]
    clear k1 k2 k3 HY
    go_wp2_with fail
    go_ret
    exact ⟨ret_i HZ.out.symm, HR2.out⟩
end
end Go.Proofs.YtpipjkbgbhefcaaGreat
