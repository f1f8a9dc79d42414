/-
  Is a flag in a row of a rule: the closures of Reads and Writes, slices.ContainsFunc over them. (Written by RFun.py.)
-/
import Derived.Test.YtmhiilfjckadkaaRFlags
import Derived.Shelf.Abstract
set_option linter.unusedSimpArgs false
set_option linter.unusedVariables false
namespace Go.Proofs.Ytmhiilfjckadkaa
open Go.RowKit
set_option maxRecDepth 100000
namespace Rp
def hasF (l : List Lit) (f : Int) : Bool := l.any fun x => decide (x.1 = f)
theorem hasF_iff (l : List Lit) (f : Int) : hasF l f = true ↔ ∃ x ∈ l, x.1 = f := by simp [hasF]
theorem any_takeR {α : Type} {l : List α} {p : α → Bool} {k : Nat} {x : α} (h : l[k]? = some x) (hb : (l.take k).any p = false) (hx : p x = false) : (l.take (k + 1)).any p = false := by
  rw [Mp.take_at h, List.any_append, hb]
  simp [hx]
theorem any_yesR {α : Type} {l : List α} {p : α → Bool} {k : Nat} {x : α} (h : l[k]? = some x) (hx : p x = true) : l.any p = true := List.any_eq_true.2 ⟨x, List.mem_of_getElem? h, hx⟩
theorem any_allR {α : Type} {l : List α} {p : α → Bool} {k : Nat} (hk : l.length ≤ k) (hb : (l.take k).any p = false) : l.any p = false := by rwa [List.take_of_length_le hk] at hb
theorem hasF_yes {l : List Lit} {f x : Int} {y : Bool} {k : Nat} (h : l[k]? = some (x, y)) (hx : decide (x = f) = true) : hasF l f = true := List.any_eq_true.2 ⟨(x, y), List.mem_of_getElem? h, hx⟩
theorem hasF_no {l : List Lit} {f : Int} {k : Nat} (hk : l.length ≤ k) (hb : (l.take k).any (fun x => decide (x.1 = f)) = false) : hasF l f = false := by rwa [List.take_of_length_le hk] at hb
end Rp
abbrev capF (f : Nat) (fb : Nat) : Value := .func (.func f) #[] #[.pointer (some ⟨fb, 0, none⟩)]
def BoolPost (b : Bool) (w : World) (e : Ending) (w' : World) : Prop := e = .returned (.bool b) ∧ Below w.heap.size w w'
def IxPostR (b : Bool) (w : World) (e : Ending) (w' : World) : Prop := ∃ z : Int, e = .returned (.int .i64 z) ∧ decide (0 ≤ z) = b ∧ Below w.heap.size w w'
theorem isFlagL (w : World) (x : Int) (y : Bool) (f : Int) (fb : Nat) (hc : w.cell? ⟨fb, 0, none⟩ = some (.int .i64 f)) (b : Bool) (hb : Hid (decide (x = f) = b)) :
    Calls Try.prog 35 #[.agg #[.int .i64 x, .bool y], .pointer (some ⟨fb, 0, none⟩)] w (BoolPost b w) := by
  have B0 := hideT ((Below.refl w.heap.size w).alloc (Nat.le_refl _) (.cells #[.int .i64 x, .bool y] 45))
  have hl := cell_lt hc
  cases b
  · have h1 : ¬ x = f := of_decide_eq_false hb.out
    have h2 : (x == f) = false := beq_eq_false_iff_ne.2 h1
    clear hb
    go_enter Try.func35, Try.ntmps35
    go_wp2_with fail
    go_ret
    exact ⟨ret_b (by first | rfl | (simp [h1]; done)), B0.out⟩
  · obtain rfl : x = f := of_decide_eq_true hb.out
    clear hb
    go_enter Try.func35, Try.ntmps35
    go_wp2_with fail
    go_ret
    exact ⟨ret_b (by first | rfl | (simp; done)), B0.out⟩
set_option maxHeartbeats 1000000 in
theorem indexFL (w : World) (ao : Option Addr) (n cap : Nat) (l : List Rp.Lit) (f : Int) (fb : Nat) (h : LRow w (.slice ao n cap) l) (hc : w.cell? ⟨fb, 0, none⟩ = some (.int .i64 f)) :
    Calls Try.prog 65 #[.slice ao n cap, capF 35 fb] w (IxPostR (Rp.hasF l f) w) := by
  obtain ⟨hn, hl, hcap, b, o, ha, hcc⟩ := lrow_at h
  have HN := hideT hn
  have HC := hideT hcc
  have HA := hideT ha
  have HF := hideT hc
  clear hn hcc ha h hc
  go_enter Try.func65, Try.ntmps65
  go_wp2_with fail
  go_loopw [8] (fun i wr => ∃ k : Nat, k ≤ n ∧ i = .int .i64 k ∧ Hid ((l.take k).any (fun x => decide (x.1 = f)) = false) ∧ Hid (Below w.heap.size w wr)) (fun i _ => n - (intOf i).toNat)
  case atStart => exact ⟨0, by omega, rfl, rfl, Below.refl _ _⟩
  case round =>
    obtain ⟨k, hk, rfl, HB, HW⟩ := hrel
    by_cases hlt : k < n
    · obtain ⟨⟨x, y⟩, hx⟩ := Mp.at_lt (l := l) (k := k) (by have := HN.out; omega)
      obtain ⟨d0, d1⟩ := HC.out k _ hx
      dsimp only at d0 d1
      have d0 := below_cell HW.out _ _ d0
      have d1 := below_cell HW.out _ _ d1
      obtain rfl := HA.out (by omega)
      have HX := hideT hx
      have t1 : (0 : Int) ≤ (k : Int) := by omega
      have t2 : (k : Int) < (n : Int) := by omega
      clear hx
      obtain ⟨bb, HBB⟩ : ∃ z, Hid (decide (x = f) = z) := ⟨_, rfl⟩
      go_wp2_with fail
      refine (isFlagL wr x y f fb (below_cell HW.out _ _ HF.out) bb HBB).mono ?_
      rintro e w1 ⟨rfl, b1⟩
      have HW1 := hideT (HW.out.trans (b1.mono HW.out.size))
      clear b1 d0 d1
      cases bb
      · have HR : Hid ((l.take (k + 1)).any (fun x => decide (x.1 = f)) = false) := Rp.any_takeR HX.out HB.out HBB.out
        go_wp2_with fail
        refine ⟨⟨k + 1, by omega, by go_num, HR, HW1⟩, ?_⟩
        first | omega | (simp [intOf]; omega)
      · have HR : Hid (decide ((0 : Int) ≤ (k : Int)) = Rp.hasF l f) := by
          show _ = _
          rw [Rp.hasF_yes HX.out HBB.out]
          exact decide_eq_true (by omega)
        go_wp2_with fail
        go_ret
        exact ⟨k, rfl, HR.out, HW1.out⟩
    · have HR : Hid (decide ((0 : Int) ≤ -1) = Rp.hasF l f) := by
        show _ = _
        rw [Rp.hasF_no (by have := HN.out; omega) HB.out]
        rfl
      go_wp2_with fail
      go_ret
      exact ⟨-1, rfl, HR.out, HW.out⟩
theorem containsFL (w : World) (ao : Option Addr) (n cap : Nat) (l : List Rp.Lit) (f : Int) (fb : Nat) (h : LRow w (.slice ao n cap) l) (hc : w.cell? ⟨fb, 0, none⟩ = some (.int .i64 f)) (b : Bool) (hb : Hid (Rp.hasF l f = b)) :
    Calls Try.prog 34 #[.slice ao n cap, capF 35 fb] w (BoolPost b w) := by
  have HI := hideT (indexFL w ao n cap l f fb h hc)
  clear h hc
  go_enter Try.func34, Try.ntmps34
  go_wp2_with fail
  refine HI.out.mono ?_
  rintro e w1 ⟨z, rfl, hz, b1⟩
  rw [hb.out] at hz
  have HB1 := hideT b1
  clear b1
  cases b with
  | true =>
    have t : (0 : Int) ≤ z := of_decide_eq_true hz
    clear hz
    go_wp2_with fail
    go_ret
    exact ⟨ret_b (by first | (simp; done) | (simp; omega)), HB1.out⟩
  | false =>
    have t : z < 0 := by have := of_decide_eq_false hz; omega
    clear hz
    go_wp2_with fail
    go_ret
    exact ⟨ret_b (by first | (simp; done) | (simp; omega)), HB1.out⟩
theorem hasFlagL (w : World) (s : Int) (l1 : List Rp.Lit) (l2 : List Mp.Cond) (l3 : List Rp.Lit) (i1 i2 i3 : Option Addr) (n1 n2 n3 : Nat) (f : Int) (fb : Nat) (h : LRow w (.slice i1 l1.length n1) l1) (hc : w.cell? ⟨fb, 0, none⟩ = some (.int .i64 f)) (b : Bool) (hb : Hid (Rp.hasF l1 f = b)) :
    Calls Try.prog 33 #[.agg #[.int .i64 s, .slice i1 l1.length n1, .slice i2 l2.length n2, .slice i3 l3.length n3], .pointer (some ⟨fb, 0, none⟩)] w (BoolPost b w) := by
  have B0 := hideT ((Below.refl w.heap.size w).alloc (Nat.le_refl _) (.cells #[.int .i64 s, .slice i1 l1.length n1, .slice i2 l2.length n2, .slice i3 l3.length n3] 42))
  have HR := hideT (lrow_below h B0.out)
  have HF := hideT (below_cell B0.out _ _ hc)
  clear h hc
  go_enter Try.func33, Try.ntmps33
  go_wp2_with fail
  refine (containsFL _ _ _ _ l1 f fb HR.out HF.out b hb).mono ?_
  rintro e w1 ⟨rfl, b1⟩
  go_wp2_with fail
  go_ret
  exact ⟨rfl, B0.out.trans (b1.mono B0.out.size)⟩
theorem isFlagS (w : World) (x : Int) (y : Bool) (f : Int) (fb : Nat) (hc : w.cell? ⟨fb, 0, none⟩ = some (.int .i64 f)) (b : Bool) (hb : Hid (decide (x = f) = b)) :
    Calls Try.prog 39 #[.agg #[.int .i64 x, .bool y], .pointer (some ⟨fb, 0, none⟩)] w (BoolPost b w) := by
  have B0 := hideT ((Below.refl w.heap.size w).alloc (Nat.le_refl _) (.cells #[.int .i64 x, .bool y] 37))
  have hl := cell_lt hc
  cases b
  · have h1 : ¬ x = f := of_decide_eq_false hb.out
    have h2 : (x == f) = false := beq_eq_false_iff_ne.2 h1
    clear hb
    go_enter Try.func39, Try.ntmps39
    go_wp2_with fail
    go_ret
    exact ⟨ret_b (by first | rfl | (simp [h1]; done)), B0.out⟩
  · obtain rfl : x = f := of_decide_eq_true hb.out
    clear hb
    go_enter Try.func39, Try.ntmps39
    go_wp2_with fail
    go_ret
    exact ⟨ret_b (by first | rfl | (simp; done)), B0.out⟩
set_option maxHeartbeats 1000000 in
theorem indexFS (w : World) (ao : Option Addr) (n cap : Nat) (l : List Rp.Lit) (f : Int) (fb : Nat) (h : LRow w (.slice ao n cap) l) (hc : w.cell? ⟨fb, 0, none⟩ = some (.int .i64 f)) :
    Calls Try.prog 66 #[.slice ao n cap, capF 39 fb] w (IxPostR (Rp.hasF l f) w) := by
  obtain ⟨hn, hl, hcap, b, o, ha, hcc⟩ := lrow_at h
  have HN := hideT hn
  have HC := hideT hcc
  have HA := hideT ha
  have HF := hideT hc
  clear hn hcc ha h hc
  go_enter Try.func66, Try.ntmps66
  go_wp2_with fail
  go_loopw [8] (fun i wr => ∃ k : Nat, k ≤ n ∧ i = .int .i64 k ∧ Hid ((l.take k).any (fun x => decide (x.1 = f)) = false) ∧ Hid (Below w.heap.size w wr)) (fun i _ => n - (intOf i).toNat)
  case atStart => exact ⟨0, by omega, rfl, rfl, Below.refl _ _⟩
  case round =>
    obtain ⟨k, hk, rfl, HB, HW⟩ := hrel
    by_cases hlt : k < n
    · obtain ⟨⟨x, y⟩, hx⟩ := Mp.at_lt (l := l) (k := k) (by have := HN.out; omega)
      obtain ⟨d0, d1⟩ := HC.out k _ hx
      dsimp only at d0 d1
      have d0 := below_cell HW.out _ _ d0
      have d1 := below_cell HW.out _ _ d1
      obtain rfl := HA.out (by omega)
      have HX := hideT hx
      have t1 : (0 : Int) ≤ (k : Int) := by omega
      have t2 : (k : Int) < (n : Int) := by omega
      clear hx
      obtain ⟨bb, HBB⟩ : ∃ z, Hid (decide (x = f) = z) := ⟨_, rfl⟩
      go_wp2_with fail
      refine (isFlagS wr x y f fb (below_cell HW.out _ _ HF.out) bb HBB).mono ?_
      rintro e w1 ⟨rfl, b1⟩
      have HW1 := hideT (HW.out.trans (b1.mono HW.out.size))
      clear b1 d0 d1
      cases bb
      · have HR : Hid ((l.take (k + 1)).any (fun x => decide (x.1 = f)) = false) := Rp.any_takeR HX.out HB.out HBB.out
        go_wp2_with fail
        refine ⟨⟨k + 1, by omega, by go_num, HR, HW1⟩, ?_⟩
        first | omega | (simp [intOf]; omega)
      · have HR : Hid (decide ((0 : Int) ≤ (k : Int)) = Rp.hasF l f) := by
          show _ = _
          rw [Rp.hasF_yes HX.out HBB.out]
          exact decide_eq_true (by omega)
        go_wp2_with fail
        go_ret
        exact ⟨k, rfl, HR.out, HW1.out⟩
    · have HR : Hid (decide ((0 : Int) ≤ -1) = Rp.hasF l f) := by
        show _ = _
        rw [Rp.hasF_no (by have := HN.out; omega) HB.out]
        rfl
      go_wp2_with fail
      go_ret
      exact ⟨-1, rfl, HR.out, HW.out⟩
theorem containsFS (w : World) (ao : Option Addr) (n cap : Nat) (l : List Rp.Lit) (f : Int) (fb : Nat) (h : LRow w (.slice ao n cap) l) (hc : w.cell? ⟨fb, 0, none⟩ = some (.int .i64 f)) (b : Bool) (hb : Hid (Rp.hasF l f = b)) :
    Calls Try.prog 38 #[.slice ao n cap, capF 39 fb] w (BoolPost b w) := by
  have HI := hideT (indexFS w ao n cap l f fb h hc)
  clear h hc
  go_enter Try.func38, Try.ntmps38
  go_wp2_with fail
  refine HI.out.mono ?_
  rintro e w1 ⟨z, rfl, hz, b1⟩
  rw [hb.out] at hz
  have HB1 := hideT b1
  clear b1
  cases b with
  | true =>
    have t : (0 : Int) ≤ z := of_decide_eq_true hz
    clear hz
    go_wp2_with fail
    go_ret
    exact ⟨ret_b (by first | (simp; done) | (simp; omega)), HB1.out⟩
  | false =>
    have t : z < 0 := by have := of_decide_eq_false hz; omega
    clear hz
    go_wp2_with fail
    go_ret
    exact ⟨ret_b (by first | (simp; done) | (simp; omega)), HB1.out⟩
theorem hasFlagS (w : World) (s : Int) (l1 : List Rp.Lit) (l2 : List Mp.Cond) (l3 : List Rp.Lit) (i1 i2 i3 : Option Addr) (n1 n2 n3 : Nat) (f : Int) (fb : Nat) (h : LRow w (.slice i3 l3.length n3) l3) (hc : w.cell? ⟨fb, 0, none⟩ = some (.int .i64 f)) (b : Bool) (hb : Hid (Rp.hasF l3 f = b)) :
    Calls Try.prog 37 #[.agg #[.int .i64 s, .slice i1 l1.length n1, .slice i2 l2.length n2, .slice i3 l3.length n3], .pointer (some ⟨fb, 0, none⟩)] w (BoolPost b w) := by
  have B0 := hideT ((Below.refl w.heap.size w).alloc (Nat.le_refl _) (.cells #[.int .i64 s, .slice i1 l1.length n1, .slice i2 l2.length n2, .slice i3 l3.length n3] 42))
  have HR := hideT (lrow_below h B0.out)
  have HF := hideT (below_cell B0.out _ _ hc)
  clear h hc
  go_enter Try.func37, Try.ntmps37
  go_wp2_with fail
  refine (containsFS _ _ _ _ l3 f fb HR.out HF.out b hb).mono ?_
  rintro e w1 ⟨rfl, b1⟩
  go_wp2_with fail
  go_ret
  exact ⟨rfl, B0.out.trans (b1.mono B0.out.size)⟩
end Go.Proofs.Ytmhiilfjckadkaa
