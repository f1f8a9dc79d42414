/-
  Is there one in a row of which a method value tells true: slices.ContainsFunc at four types. (Written by CFun.py.)
-/
import Derived.Test.YtpipjkbgbhefcaaGreatCCase
import Derived.Shelf.Abstract
set_option linter.unusedSimpArgs false
set_option linter.unusedVariables false
namespace Go.Proofs.YtpipjkbgbhefcaaGreat
open Go.RowKit
set_option maxRecDepth 100000
abbrev methC (f : Nat) (P : Value) : Value := .func (.func f) #[P] #[]
theorem any_take {α : Type} {l : List α} {p : α → Bool} {k : Nat} {x : α} (h : l[k]? = some x) (hb : (l.take k).any p = false) (hx : p x = false) : (l.take (k + 1)).any p = false := by
  rw [Mp.take_at h, List.any_append, hb]
  simp [hx]
theorem any_yes {α : Type} {l : List α} {p : α → Bool} {k : Nat} {x : α} (h : l[k]? = some x) (hx : p x = true) : l.any p = true := List.any_eq_true.2 ⟨x, List.mem_of_getElem? h, hx⟩
theorem any_all {α : Type} {l : List α} {p : α → Bool} {k : Nat} (hk : l.length ≤ k) (hb : (l.take k).any p = false) : l.any p = false := by rwa [List.take_of_length_le hk] at hb
theorem any_nil {α : Type} {l : List α} {p : α → Bool} : (l.take 0).any p = false := rfl
/-- What IndexFunc answers: a place just if there is one. -/
def IxPost {α : Type} (l : List α) (p : α → Bool) (w : World) (e : Ending) (w' : World) : Prop := ∃ z : Int, e = .returned (.int .i64 z) ∧ decide (0 ≤ z) = l.any p ∧ Below w.heap.size w w'
def AnyPost (b : Bool) (w : World) (e : Ending) (w' : World) : Prop := e = .returned (.bool b) ∧ Below w.heap.size w w'
set_option maxHeartbeats 1000000 in
theorem indexCO (w : World) (ao : Option Addr) (n cap : Nat) (l : List Mp.On) (F : Nat) (P : Value) (p : Mp.On → Bool) (h : ORow w (.slice ao n cap) l) (hE : Enters Tryz.prog F) (hp : ∀ x ∈ l, ∀ w', Below w.heap.size w w' → x.1.size ≤ 140737488355328 → Calls Tryz.prog F #[P, .agg #[.string x.1, .int .i64 x.2]] w' (AnyPost (p x) w')) :
    Calls Tryz.prog 100 #[.slice ao n cap, methC F P] w (IxPost l p w) := by
  obtain ⟨hn, hl, hcap, b, o, ha, hc⟩ := orow_at h
  have HN := hideT hn
  have HC := hideT hc
  have HA := hideT ha
  have HP := hideT hp
  unfold Enters at hE
  clear hn hc ha h hp
  go_enter Tryz.func100, Tryz.ntmps100
  go_wp2_with fail
  go_loopw [8] (fun i wr => ∃ k : Nat, k ≤ n ∧ i = .int .i64 k ∧ Hid ((l.take k).any p = false) ∧ Hid (Below w.heap.size w wr)) (fun i _ => n - (intOf i).toNat)
  case atStart => exact ⟨0, by omega, rfl, any_nil, Below.refl _ _⟩
  case round =>
    obtain ⟨k, hk, rfl, HB, HW⟩ := hrel
    by_cases hlt : k < n
    · obtain ⟨x, hx⟩ := Mp.at_lt (l := l) (k := k) (by have := HN.out; omega)
      obtain ⟨hz, d0, d1⟩ := HC.out k _ hx
      have d0 := below_cell HW.out _ _ d0
      have d1 := below_cell HW.out _ _ d1
      obtain rfl := HA.out (by omega)
      have HX := hideT hx
      have HCall := hideT (HP.out x (List.mem_of_getElem? hx) wr HW.out hz )
      have t1 : (0 : Int) ≤ (k : Int) := by omega
      have t2 : (k : Int) < (n : Int) := by omega
      clear hx
      go_wp2_with fail
      refine HCall.out.mono ?_
      rintro e w1 ⟨rfl, b1⟩
      have HW1 := hideT (HW.out.trans (b1.mono HW.out.size))
      clear b1 d0 d1 HCall
      cases hpx : p x with
      | true =>
        have HF : Hid (decide ((0 : Int) ≤ (k : Int)) = l.any p) := by
          show _ = _
          rw [any_yes HX.out hpx]
          exact decide_eq_true (by omega)
        clear hpx
        go_wp2_with fail
        go_ret
        exact ⟨k, rfl, HF.out, HW1.out⟩
      | false =>
        have HR := hideT (any_take HX.out HB.out hpx)
        clear hpx
        go_wp2_with fail
        refine ⟨⟨k + 1, by omega, by go_num, HR, HW1⟩, ?_⟩
        first | omega | (simp [intOf]; omega)
    · have HF : Hid (decide ((0 : Int) ≤ -1) = l.any p) := by
        show _ = _
        rw [any_all (by have := HN.out; omega) HB.out]
        rfl
      go_wp2_with fail
      go_ret
      exact ⟨-1, rfl, HF.out, HW.out⟩
theorem containsCO (w : World) (ao : Option Addr) (n cap : Nat) (l : List Mp.On) (F : Nat) (P : Value) (p : Mp.On → Bool) (h : ORow w (.slice ao n cap) l) (hE : Enters Tryz.prog F) (hp : ∀ x ∈ l, ∀ w', Below w.heap.size w w' → x.1.size ≤ 140737488355328 → Calls Tryz.prog F #[P, .agg #[.string x.1, .int .i64 x.2]] w' (AnyPost (p x) w')) (b : Bool) (hb : Hid (l.any p = b)) :
    Calls Tryz.prog 74 #[.slice ao n cap, methC F P] w (AnyPost b w) := by
  have HI := hideT (indexCO w ao n cap l F P p h hE hp)
  clear h hp
  go_enter Tryz.func74, Tryz.ntmps74
  go_wp2_with fail
  refine HI.out.mono ?_
  rintro e w1 ⟨z, rfl, hz, b1⟩
  rw [hb.out] at hz
  have HB1 := hideT b1
  clear b1
  cases b with
  | true =>
    have t : (0 : Int) ≤ z := of_decide_eq_true hz
    clear hz
    go_wp2_with fail
    go_ret
    exact ⟨ret_b (by first | (simp; done) | (simp; omega)), HB1.out⟩
  | false =>
    have t : z < 0 := by have := of_decide_eq_false hz; omega
    clear hz
    go_wp2_with fail
    go_ret
    exact ⟨ret_b (by first | (simp; done) | (simp; omega)), HB1.out⟩
set_option maxHeartbeats 1000000 in
theorem indexCC (w : World) (ao : Option Addr) (n cap : Nat) (l : List Mp.Cond) (F : Nat) (P : Value) (p : Mp.Cond → Bool) (h : CRow w (.slice ao n cap) l) (hE : Enters Tryz.prog F) (hp : ∀ x ∈ l, ∀ w', Below w.heap.size w w' → x.1.size ≤ 140737488355328 → Calls Tryz.prog F #[P, .agg #[.string x.1, .string x.2.1, .int .i64 x.2.2]] w' (AnyPost (p x) w')) :
    Calls Tryz.prog 101 #[.slice ao n cap, methC F P] w (IxPost l p w) := by
  obtain ⟨hn, hl, hcap, b, o, ha, hc⟩ := crow_at h
  have HN := hideT hn
  have HC := hideT hc
  have HA := hideT ha
  have HP := hideT hp
  unfold Enters at hE
  clear hn hc ha h hp
  go_enter Tryz.func101, Tryz.ntmps101
  go_wp2_with fail
  go_loopw [8] (fun i wr => ∃ k : Nat, k ≤ n ∧ i = .int .i64 k ∧ Hid ((l.take k).any p = false) ∧ Hid (Below w.heap.size w wr)) (fun i _ => n - (intOf i).toNat)
  case atStart => exact ⟨0, by omega, rfl, any_nil, Below.refl _ _⟩
  case round =>
    obtain ⟨k, hk, rfl, HB, HW⟩ := hrel
    by_cases hlt : k < n
    · obtain ⟨x, hx⟩ := Mp.at_lt (l := l) (k := k) (by have := HN.out; omega)
      obtain ⟨hz, d0, d1, d2⟩ := HC.out k _ hx
      have d0 := below_cell HW.out _ _ d0
      have d1 := below_cell HW.out _ _ d1
      have d2 := below_cell HW.out _ _ d2
      obtain rfl := HA.out (by omega)
      have HX := hideT hx
      have HCall := hideT (HP.out x (List.mem_of_getElem? hx) wr HW.out hz.1 )
      have t1 : (0 : Int) ≤ (k : Int) := by omega
      have t2 : (k : Int) < (n : Int) := by omega
      clear hx
      go_wp2_with fail
      refine HCall.out.mono ?_
      rintro e w1 ⟨rfl, b1⟩
      have HW1 := hideT (HW.out.trans (b1.mono HW.out.size))
      clear b1 d0 d1 d2 HCall
      cases hpx : p x with
      | true =>
        have HF : Hid (decide ((0 : Int) ≤ (k : Int)) = l.any p) := by
          show _ = _
          rw [any_yes HX.out hpx]
          exact decide_eq_true (by omega)
        clear hpx
        go_wp2_with fail
        go_ret
        exact ⟨k, rfl, HF.out, HW1.out⟩
      | false =>
        have HR := hideT (any_take HX.out HB.out hpx)
        clear hpx
        go_wp2_with fail
        refine ⟨⟨k + 1, by omega, by go_num, HR, HW1⟩, ?_⟩
        first | omega | (simp [intOf]; omega)
    · have HF : Hid (decide ((0 : Int) ≤ -1) = l.any p) := by
        show _ = _
        rw [any_all (by have := HN.out; omega) HB.out]
        rfl
      go_wp2_with fail
      go_ret
      exact ⟨-1, rfl, HF.out, HW.out⟩
theorem containsCC (w : World) (ao : Option Addr) (n cap : Nat) (l : List Mp.Cond) (F : Nat) (P : Value) (p : Mp.Cond → Bool) (h : CRow w (.slice ao n cap) l) (hE : Enters Tryz.prog F) (hp : ∀ x ∈ l, ∀ w', Below w.heap.size w w' → x.1.size ≤ 140737488355328 → Calls Tryz.prog F #[P, .agg #[.string x.1, .string x.2.1, .int .i64 x.2.2]] w' (AnyPost (p x) w')) (b : Bool) (hb : Hid (l.any p = b)) :
    Calls Tryz.prog 76 #[.slice ao n cap, methC F P] w (AnyPost b w) := by
  have HI := hideT (indexCC w ao n cap l F P p h hE hp)
  clear h hp
  go_enter Tryz.func76, Tryz.ntmps76
  go_wp2_with fail
  refine HI.out.mono ?_
  rintro e w1 ⟨z, rfl, hz, b1⟩
  rw [hb.out] at hz
  have HB1 := hideT b1
  clear b1
  cases b with
  | true =>
    have t : (0 : Int) ≤ z := of_decide_eq_true hz
    clear hz
    go_wp2_with fail
    go_ret
    exact ⟨ret_b (by first | (simp; done) | (simp; omega)), HB1.out⟩
  | false =>
    have t : z < 0 := by have := of_decide_eq_false hz; omega
    clear hz
    go_wp2_with fail
    go_ret
    exact ⟨ret_b (by first | (simp; done) | (simp; omega)), HB1.out⟩
set_option maxHeartbeats 1000000 in
theorem indexCS (w : World) (ao : Option Addr) (n cap : Nat) (l : List Mp.Sent) (F : Nat) (P : Value) (p : Mp.Sent → Bool) (h : SRow w (.slice ao n cap) l) (hE : Enters Tryz.prog F) (hp : ∀ x ∈ l, ∀ w', Below w.heap.size w w' → ∀ (a1 : Option Addr) (c1 : Nat) (a2 : Option Addr) (c2 : Nat), ORow w' (.slice a1 x.1.length c1) x.1 → CRow w' (.slice a2 x.2.length c2) x.2 → Calls Tryz.prog F #[P, .agg #[.slice a1 x.1.length c1, .slice a2 x.2.length c2]] w' (AnyPost (p x) w')) :
    Calls Tryz.prog 124 #[.slice ao n cap, methC F P] w (IxPost l p w) := by
  obtain ⟨hn, hl, hcap, b, o, ha, hc⟩ := srow_at h
  have HN := hideT hn
  have HC := hideT hc
  have HA := hideT ha
  have HP := hideT hp
  unfold Enters at hE
  clear hn hc ha h hp
  go_enter Tryz.func124, Tryz.ntmps124
  go_wp2_with fail
  go_loopw [8] (fun i wr => ∃ k : Nat, k ≤ n ∧ i = .int .i64 k ∧ Hid ((l.take k).any p = false) ∧ Hid (Below w.heap.size w wr)) (fun i _ => n - (intOf i).toNat)
  case atStart => exact ⟨0, by omega, rfl, any_nil, Below.refl _ _⟩
  case round =>
    obtain ⟨k, hk, rfl, HB, HW⟩ := hrel
    by_cases hlt : k < n
    · obtain ⟨x, hx⟩ := Mp.at_lt (l := l) (k := k) (by have := HN.out; omega)
      obtain ⟨a1, c1, a2, c2, r1, r2, d0, d1⟩ := HC.out k _ hx
      have d0 := below_cell HW.out _ _ d0
      have d1 := below_cell HW.out _ _ d1
      have R1 := hideT (orow_below r1 HW.out)
      have R2 := hideT (crow_below r2 HW.out)
      obtain rfl := HA.out (by omega)
      have HX := hideT hx
      have HCall := hideT (HP.out x (List.mem_of_getElem? hx) wr HW.out a1 c1 a2 c2 R1.out R2.out )
      have t1 : (0 : Int) ≤ (k : Int) := by omega
      have t2 : (k : Int) < (n : Int) := by omega
      clear hx
      go_wp2_with fail
      refine HCall.out.mono ?_
      rintro e w1 ⟨rfl, b1⟩
      have HW1 := hideT (HW.out.trans (b1.mono HW.out.size))
      clear b1 d0 d1 HCall
      cases hpx : p x with
      | true =>
        have HF : Hid (decide ((0 : Int) ≤ (k : Int)) = l.any p) := by
          show _ = _
          rw [any_yes HX.out hpx]
          exact decide_eq_true (by omega)
        clear hpx
        go_wp2_with fail
        go_ret
        exact ⟨k, rfl, HF.out, HW1.out⟩
      | false =>
        have HR := hideT (any_take HX.out HB.out hpx)
        clear hpx
        go_wp2_with fail
        refine ⟨⟨k + 1, by omega, by go_num, HR, HW1⟩, ?_⟩
        first | omega | (simp [intOf]; omega)
    · have HF : Hid (decide ((0 : Int) ≤ -1) = l.any p) := by
        show _ = _
        rw [any_all (by have := HN.out; omega) HB.out]
        rfl
      go_wp2_with fail
      go_ret
      exact ⟨-1, rfl, HF.out, HW.out⟩
theorem containsCS (w : World) (ao : Option Addr) (n cap : Nat) (l : List Mp.Sent) (F : Nat) (P : Value) (p : Mp.Sent → Bool) (h : SRow w (.slice ao n cap) l) (hE : Enters Tryz.prog F) (hp : ∀ x ∈ l, ∀ w', Below w.heap.size w w' → ∀ (a1 : Option Addr) (c1 : Nat) (a2 : Option Addr) (c2 : Nat), ORow w' (.slice a1 x.1.length c1) x.1 → CRow w' (.slice a2 x.2.length c2) x.2 → Calls Tryz.prog F #[P, .agg #[.slice a1 x.1.length c1, .slice a2 x.2.length c2]] w' (AnyPost (p x) w')) (b : Bool) (hb : Hid (l.any p = b)) :
    Calls Tryz.prog 113 #[.slice ao n cap, methC F P] w (AnyPost b w) := by
  have HI := hideT (indexCS w ao n cap l F P p h hE hp)
  clear h hp
  go_enter Tryz.func113, Tryz.ntmps113
  go_wp2_with fail
  refine HI.out.mono ?_
  rintro e w1 ⟨z, rfl, hz, b1⟩
  rw [hb.out] at hz
  have HB1 := hideT b1
  clear b1
  cases b with
  | true =>
    have t : (0 : Int) ≤ z := of_decide_eq_true hz
    clear hz
    go_wp2_with fail
    go_ret
    exact ⟨ret_b (by first | (simp; done) | (simp; omega)), HB1.out⟩
  | false =>
    have t : z < 0 := by have := of_decide_eq_false hz; omega
    clear hz
    go_wp2_with fail
    go_ret
    exact ⟨ret_b (by first | (simp; done) | (simp; omega)), HB1.out⟩
set_option maxHeartbeats 1000000 in
theorem indexCN (w : World) (ao : Option Addr) (n cap : Nat) (l : List Nat) (F : Nat) (P : Value) (p : Nat → Bool) (h : NRow w (.slice ao n cap) l) (hE : Enters Tryz.prog F) (hp : ∀ x ∈ l, ∀ w', Below w.heap.size w w' → Calls Tryz.prog F #[P, .int .i64 (x : Int)] w' (AnyPost (p x) w')) :
    Calls Tryz.prog 125 #[.slice ao n cap, methC F P] w (IxPost l p w) := by
  obtain ⟨hn, hl, hcap, b, o, ha, hc⟩ := nrow_at h
  have HN := hideT hn
  have HC := hideT hc
  have HA := hideT ha
  have HP := hideT hp
  unfold Enters at hE
  clear hn hc ha h hp
  go_enter Tryz.func125, Tryz.ntmps125
  go_wp2_with fail
  go_loopw [8] (fun i wr => ∃ k : Nat, k ≤ n ∧ i = .int .i64 k ∧ Hid ((l.take k).any p = false) ∧ Hid (Below w.heap.size w wr)) (fun i _ => n - (intOf i).toNat)
  case atStart => exact ⟨0, by omega, rfl, any_nil, Below.refl _ _⟩
  case round =>
    obtain ⟨k, hk, rfl, HB, HW⟩ := hrel
    by_cases hlt : k < n
    · obtain ⟨x, hx⟩ := Mp.at_lt (l := l) (k := k) (by have := HN.out; omega)
      have d0 := HC.out k _ hx
      have d0 := below_cell HW.out _ _ d0
      obtain rfl := HA.out (by omega)
      have HX := hideT hx
      have HCall := hideT (HP.out x (List.mem_of_getElem? hx) wr HW.out )
      have t1 : (0 : Int) ≤ (k : Int) := by omega
      have t2 : (k : Int) < (n : Int) := by omega
      clear hx
      go_wp2_with fail
      refine HCall.out.mono ?_
      rintro e w1 ⟨rfl, b1⟩
      have HW1 := hideT (HW.out.trans (b1.mono HW.out.size))
      clear b1 d0 HCall
      cases hpx : p x with
      | true =>
        have HF : Hid (decide ((0 : Int) ≤ (k : Int)) = l.any p) := by
          show _ = _
          rw [any_yes HX.out hpx]
          exact decide_eq_true (by omega)
        clear hpx
        go_wp2_with fail
        go_ret
        exact ⟨k, rfl, HF.out, HW1.out⟩
      | false =>
        have HR := hideT (any_take HX.out HB.out hpx)
        clear hpx
        go_wp2_with fail
        refine ⟨⟨k + 1, by omega, by go_num, HR, HW1⟩, ?_⟩
        first | omega | (simp [intOf]; omega)
    · have HF : Hid (decide ((0 : Int) ≤ -1) = l.any p) := by
        show _ = _
        rw [any_all (by have := HN.out; omega) HB.out]
        rfl
      go_wp2_with fail
      go_ret
      exact ⟨-1, rfl, HF.out, HW.out⟩
theorem containsCN (w : World) (ao : Option Addr) (n cap : Nat) (l : List Nat) (F : Nat) (P : Value) (p : Nat → Bool) (h : NRow w (.slice ao n cap) l) (hE : Enters Tryz.prog F) (hp : ∀ x ∈ l, ∀ w', Below w.heap.size w w' → Calls Tryz.prog F #[P, .int .i64 (x : Int)] w' (AnyPost (p x) w')) (b : Bool) (hb : Hid (l.any p = b)) :
    Calls Tryz.prog 114 #[.slice ao n cap, methC F P] w (AnyPost b w) := by
  have HI := hideT (indexCN w ao n cap l F P p h hE hp)
  clear h hp
  go_enter Tryz.func114, Tryz.ntmps114
  go_wp2_with fail
  refine HI.out.mono ?_
  rintro e w1 ⟨z, rfl, hz, b1⟩
  rw [hb.out] at hz
  have HB1 := hideT b1
  clear b1
  cases b with
  | true =>
    have t : (0 : Int) ≤ z := of_decide_eq_true hz
    clear hz
    go_wp2_with fail
    go_ret
    exact ⟨ret_b (by first | (simp; done) | (simp; omega)), HB1.out⟩
  | false =>
    have t : z < 0 := by have := of_decide_eq_false hz; omega
    clear hz
    go_wp2_with fail
    go_ret
    exact ⟨ret_b (by first | (simp; done) | (simp; omega)), HB1.out⟩
end Go.Proofs.YtpipjkbgbhefcaaGreat
