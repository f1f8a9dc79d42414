/-
  Several texts in one: each opens with its own word.
-/
import Derived.Test.YtmhiilfjckadkaaRFlags
import Derived.Shelf.Abstract
import Derived.Test.YtmhiilfjckadkaaShelfU
import Derived.Test.YtmhiilfjckadkaaShelfC
import Derived.Test.YtmhiilfjckadkaaMRows
import Derived.Sort.OwnSortedInts
/-
  Is a flag in a row of a rule: the closures of Reads and Writes, slices.ContainsFunc over them. (Written by RFun.py.)
-/
set_option linter.unusedSimpArgs false
set_option linter.unusedVariables false
namespace Go.Proofs.Ytmhiilfjckadkaa
open Go.RowKit
set_option maxRecDepth 100000
namespace Rp
def hasF (l : List Lit) (f : Int) : Bool := l.any fun x => decide (x.1 = f)
theorem hasF_iff (l : List Lit) (f : Int) : hasF l f = true ↔ ∃ x ∈ l, x.1 = f := by simp [hasF]
theorem any_takeR {α : Type} {l : List α} {p : α → Bool} {k : Nat} {x : α} (h : l[k]? = some x) (hb : (l.take k).any p = false) (hx : p x = false) : (l.take (k + 1)).any p = false := by
  rw [Mp.take_at h, List.any_append, hb]
  simp [hx]
theorem any_yesR {α : Type} {l : List α} {p : α → Bool} {k : Nat} {x : α} (h : l[k]? = some x) (hx : p x = true) : l.any p = true := List.any_eq_true.2 ⟨x, List.mem_of_getElem? h, hx⟩
theorem any_allR {α : Type} {l : List α} {p : α → Bool} {k : Nat} (hk : l.length ≤ k) (hb : (l.take k).any p = false) : l.any p = false := by rwa [List.take_of_length_le hk] at hb
theorem hasF_yes {l : List Lit} {f x : Int} {y : Bool} {k : Nat} (h : l[k]? = some (x, y)) (hx : decide (x = f) = true) : hasF l f = true := List.any_eq_true.2 ⟨(x, y), List.mem_of_getElem? h, hx⟩
theorem hasF_no {l : List Lit} {f : Int} {k : Nat} (hk : l.length ≤ k) (hb : (l.take k).any (fun x => decide (x.1 = f)) = false) : hasF l f = false := by rwa [List.take_of_length_le hk] at hb
end Rp
abbrev capF (f : Nat) (fb : Nat) : Value := .func (.func f) #[] #[.pointer (some ⟨fb, 0, none⟩)]
def BoolPost (b : Bool) (w : World) (e : Ending) (w' : World) : Prop := e = .returned (.bool b) ∧ Below w.heap.size w w'
def IxPostR (b : Bool) (w : World) (e : Ending) (w' : World) : Prop := ∃ z : Int, e = .returned (.int .i64 z) ∧ decide (0 ≤ z) = b ∧ Below w.heap.size w w'
theorem isFlagL (w : World) (x : Int) (y : Bool) (f : Int) (fb : Nat) (hc : w.cell? ⟨fb, 0, none⟩ = some (.int .i64 f)) (b : Bool) (hb : Hid (decide (x = f) = b)) :
    Calls Try.prog 35 #[.agg #[.int .i64 x, .bool y], .pointer (some ⟨fb, 0, none⟩)] w (BoolPost b w) := by
  have B0 := hideT ((Below.refl w.heap.size w).alloc (Nat.le_refl _) (.cells #[.int .i64 x, .bool y] 45))
  have hl := cell_lt hc
  cases b
  · have h1 : ¬ x = f := of_decide_eq_false hb.out
    have h2 : (x == f) = false := beq_eq_false_iff_ne.2 h1
    clear hb
    go_enter Try.func35, Try.ntmps35
    go_wp2_with fail
    go_ret
    exact ⟨ret_b (by first | rfl | (simp [h1]; done)), B0.out⟩
  · obtain rfl : x = f := of_decide_eq_true hb.out
    clear hb
    go_enter Try.func35, Try.ntmps35
    go_wp2_with fail
    go_ret
    exact ⟨ret_b (by first | rfl | (simp; done)), B0.out⟩
set_option maxHeartbeats 1000000 in
theorem indexFL (w : World) (ao : Option Addr) (n cap : Nat) (l : List Rp.Lit) (f : Int) (fb : Nat) (h : LRow w (.slice ao n cap) l) (hc : w.cell? ⟨fb, 0, none⟩ = some (.int .i64 f)) :
    Calls Try.prog 65 #[.slice ao n cap, capF 35 fb] w (IxPostR (Rp.hasF l f) w) := by
  obtain ⟨hn, hl, hcap, b, o, ha, hcc⟩ := lrow_at h
  have HN := hideT hn
  have HC := hideT hcc
  have HA := hideT ha
  have HF := hideT hc
  clear hn hcc ha h hc
  go_enter Try.func65, Try.ntmps65
  go_wp2_with fail
  go_loopw [8] (fun i wr => ∃ k : Nat, k ≤ n ∧ i = .int .i64 k ∧ Hid ((l.take k).any (fun x => decide (x.1 = f)) = false) ∧ Hid (Below w.heap.size w wr)) (fun i _ => n - (intOf i).toNat)
  case atStart => exact ⟨0, by omega, rfl, rfl, Below.refl _ _⟩
  case round =>
    obtain ⟨k, hk, rfl, HB, HW⟩ := hrel
    by_cases hlt : k < n
    · obtain ⟨⟨x, y⟩, hx⟩ := Mp.at_lt (l := l) (k := k) (by have := HN.out; omega)
      obtain ⟨d0, d1⟩ := HC.out k _ hx
      dsimp only at d0 d1
      have d0 := below_cell HW.out _ _ d0
      have d1 := below_cell HW.out _ _ d1
      obtain rfl := HA.out (by omega)
      have HX := hideT hx
      have t1 : (0 : Int) ≤ (k : Int) := by omega
      have t2 : (k : Int) < (n : Int) := by omega
      clear hx
      obtain ⟨bb, HBB⟩ : ∃ z, Hid (decide (x = f) = z) := ⟨_, rfl⟩
      go_wp2_with fail
      refine (isFlagL wr x y f fb (below_cell HW.out _ _ HF.out) bb HBB).mono ?_
      rintro e w1 ⟨rfl, b1⟩
      have HW1 := hideT (HW.out.trans (b1.mono HW.out.size))
      clear b1 d0 d1
      cases bb
      · have HR : Hid ((l.take (k + 1)).any (fun x => decide (x.1 = f)) = false) := Rp.any_takeR HX.out HB.out HBB.out
        go_wp2_with fail
        refine ⟨⟨k + 1, by omega, by go_num, HR, HW1⟩, ?_⟩
        first | omega | (simp [intOf]; omega)
      · have HR : Hid (decide ((0 : Int) ≤ (k : Int)) = Rp.hasF l f) := by
          show _ = _
          rw [Rp.hasF_yes HX.out HBB.out]
          exact decide_eq_true (by omega)
        go_wp2_with fail
        go_ret
        exact ⟨k, rfl, HR.out, HW1.out⟩
    · have HR : Hid (decide ((0 : Int) ≤ -1) = Rp.hasF l f) := by
        show _ = _
        rw [Rp.hasF_no (by have := HN.out; omega) HB.out]
        rfl
      go_wp2_with fail
      go_ret
      exact ⟨-1, rfl, HR.out, HW.out⟩
theorem containsFL (w : World) (ao : Option Addr) (n cap : Nat) (l : List Rp.Lit) (f : Int) (fb : Nat) (h : LRow w (.slice ao n cap) l) (hc : w.cell? ⟨fb, 0, none⟩ = some (.int .i64 f)) (b : Bool) (hb : Hid (Rp.hasF l f = b)) :
    Calls Try.prog 34 #[.slice ao n cap, capF 35 fb] w (BoolPost b w) := by
  have HI := hideT (indexFL w ao n cap l f fb h hc)
  clear h hc
  go_enter Try.func34, Try.ntmps34
  go_wp2_with fail
  refine HI.out.mono ?_
  rintro e w1 ⟨z, rfl, hz, b1⟩
  rw [hb.out] at hz
  have HB1 := hideT b1
  clear b1
  cases b with
  | true =>
    have t : (0 : Int) ≤ z := of_decide_eq_true hz
    clear hz
    go_wp2_with fail
    go_ret
    exact ⟨ret_b (by first | (simp; done) | (simp; omega)), HB1.out⟩
  | false =>
    have t : z < 0 := by have := of_decide_eq_false hz; omega
    clear hz
    go_wp2_with fail
    go_ret
    exact ⟨ret_b (by first | (simp; done) | (simp; omega)), HB1.out⟩
theorem hasFlagL (w : World) (s : Int) (l1 : List Rp.Lit) (l2 : List Mp.Cond) (l3 : List Rp.Lit) (i1 i2 i3 : Option Addr) (n1 n2 n3 : Nat) (f : Int) (fb : Nat) (h : LRow w (.slice i1 l1.length n1) l1) (hc : w.cell? ⟨fb, 0, none⟩ = some (.int .i64 f)) (b : Bool) (hb : Hid (Rp.hasF l1 f = b)) :
    Calls Try.prog 33 #[.agg #[.int .i64 s, .slice i1 l1.length n1, .slice i2 l2.length n2, .slice i3 l3.length n3], .pointer (some ⟨fb, 0, none⟩)] w (BoolPost b w) := by
  have B0 := hideT ((Below.refl w.heap.size w).alloc (Nat.le_refl _) (.cells #[.int .i64 s, .slice i1 l1.length n1, .slice i2 l2.length n2, .slice i3 l3.length n3] 42))
  have HR := hideT (lrow_below h B0.out)
  have HF := hideT (below_cell B0.out _ _ hc)
  clear h hc
  go_enter Try.func33, Try.ntmps33
  go_wp2_with fail
  refine (containsFL _ _ _ _ l1 f fb HR.out HF.out b hb).mono ?_
  rintro e w1 ⟨rfl, b1⟩
  go_wp2_with fail
  go_ret
  exact ⟨rfl, B0.out.trans (b1.mono B0.out.size)⟩
theorem isFlagS (w : World) (x : Int) (y : Bool) (f : Int) (fb : Nat) (hc : w.cell? ⟨fb, 0, none⟩ = some (.int .i64 f)) (b : Bool) (hb : Hid (decide (x = f) = b)) :
    Calls Try.prog 39 #[.agg #[.int .i64 x, .bool y], .pointer (some ⟨fb, 0, none⟩)] w (BoolPost b w) := by
  have B0 := hideT ((Below.refl w.heap.size w).alloc (Nat.le_refl _) (.cells #[.int .i64 x, .bool y] 37))
  have hl := cell_lt hc
  cases b
  · have h1 : ¬ x = f := of_decide_eq_false hb.out
    have h2 : (x == f) = false := beq_eq_false_iff_ne.2 h1
    clear hb
    go_enter Try.func39, Try.ntmps39
    go_wp2_with fail
    go_ret
    exact ⟨ret_b (by first | rfl | (simp [h1]; done)), B0.out⟩
  · obtain rfl : x = f := of_decide_eq_true hb.out
    clear hb
    go_enter Try.func39, Try.ntmps39
    go_wp2_with fail
    go_ret
    exact ⟨ret_b (by first | rfl | (simp; done)), B0.out⟩
set_option maxHeartbeats 1000000 in
theorem indexFS (w : World) (ao : Option Addr) (n cap : Nat) (l : List Rp.Lit) (f : Int) (fb : Nat) (h : LRow w (.slice ao n cap) l) (hc : w.cell? ⟨fb, 0, none⟩ = some (.int .i64 f)) :
    Calls Try.prog 66 #[.slice ao n cap, capF 39 fb] w (IxPostR (Rp.hasF l f) w) := by
  obtain ⟨hn, hl, hcap, b, o, ha, hcc⟩ := lrow_at h
  have HN := hideT hn
  have HC := hideT hcc
  have HA := hideT ha
  have HF := hideT hc
  clear hn hcc ha h hc
  go_enter Try.func66, Try.ntmps66
  go_wp2_with fail
  go_loopw [8] (fun i wr => ∃ k : Nat, k ≤ n ∧ i = .int .i64 k ∧ Hid ((l.take k).any (fun x => decide (x.1 = f)) = false) ∧ Hid (Below w.heap.size w wr)) (fun i _ => n - (intOf i).toNat)
  case atStart => exact ⟨0, by omega, rfl, rfl, Below.refl _ _⟩
  case round =>
    obtain ⟨k, hk, rfl, HB, HW⟩ := hrel
    by_cases hlt : k < n
    · obtain ⟨⟨x, y⟩, hx⟩ := Mp.at_lt (l := l) (k := k) (by have := HN.out; omega)
      obtain ⟨d0, d1⟩ := HC.out k _ hx
      dsimp only at d0 d1
      have d0 := below_cell HW.out _ _ d0
      have d1 := below_cell HW.out _ _ d1
      obtain rfl := HA.out (by omega)
      have HX := hideT hx
      have t1 : (0 : Int) ≤ (k : Int) := by omega
      have t2 : (k : Int) < (n : Int) := by omega
      clear hx
      obtain ⟨bb, HBB⟩ : ∃ z, Hid (decide (x = f) = z) := ⟨_, rfl⟩
      go_wp2_with fail
      refine (isFlagS wr x y f fb (below_cell HW.out _ _ HF.out) bb HBB).mono ?_
      rintro e w1 ⟨rfl, b1⟩
      have HW1 := hideT (HW.out.trans (b1.mono HW.out.size))
      clear b1 d0 d1
      cases bb
      · have HR : Hid ((l.take (k + 1)).any (fun x => decide (x.1 = f)) = false) := Rp.any_takeR HX.out HB.out HBB.out
        go_wp2_with fail
        refine ⟨⟨k + 1, by omega, by go_num, HR, HW1⟩, ?_⟩
        first | omega | (simp [intOf]; omega)
      · have HR : Hid (decide ((0 : Int) ≤ (k : Int)) = Rp.hasF l f) := by
          show _ = _
          rw [Rp.hasF_yes HX.out HBB.out]
          exact decide_eq_true (by omega)
        go_wp2_with fail
        go_ret
        exact ⟨k, rfl, HR.out, HW1.out⟩
    · have HR : Hid (decide ((0 : Int) ≤ -1) = Rp.hasF l f) := by
        show _ = _
        rw [Rp.hasF_no (by have := HN.out; omega) HB.out]
        rfl
      go_wp2_with fail
      go_ret
      exact ⟨-1, rfl, HR.out, HW.out⟩
theorem containsFS (w : World) (ao : Option Addr) (n cap : Nat) (l : List Rp.Lit) (f : Int) (fb : Nat) (h : LRow w (.slice ao n cap) l) (hc : w.cell? ⟨fb, 0, none⟩ = some (.int .i64 f)) (b : Bool) (hb : Hid (Rp.hasF l f = b)) :
    Calls Try.prog 38 #[.slice ao n cap, capF 39 fb] w (BoolPost b w) := by
  have HI := hideT (indexFS w ao n cap l f fb h hc)
  clear h hc
  go_enter Try.func38, Try.ntmps38
  go_wp2_with fail
  refine HI.out.mono ?_
  rintro e w1 ⟨z, rfl, hz, b1⟩
  rw [hb.out] at hz
  have HB1 := hideT b1
  clear b1
  cases b with
  | true =>
    have t : (0 : Int) ≤ z := of_decide_eq_true hz
    clear hz
    go_wp2_with fail
    go_ret
    exact ⟨ret_b (by first | (simp; done) | (simp; omega)), HB1.out⟩
  | false =>
    have t : z < 0 := by have := of_decide_eq_false hz; omega
    clear hz
    go_wp2_with fail
    go_ret
    exact ⟨ret_b (by first | (simp; done) | (simp; omega)), HB1.out⟩
theorem hasFlagS (w : World) (s : Int) (l1 : List Rp.Lit) (l2 : List Mp.Cond) (l3 : List Rp.Lit) (i1 i2 i3 : Option Addr) (n1 n2 n3 : Nat) (f : Int) (fb : Nat) (h : LRow w (.slice i3 l3.length n3) l3) (hc : w.cell? ⟨fb, 0, none⟩ = some (.int .i64 f)) (b : Bool) (hb : Hid (Rp.hasF l3 f = b)) :
    Calls Try.prog 37 #[.agg #[.int .i64 s, .slice i1 l1.length n1, .slice i2 l2.length n2, .slice i3 l3.length n3], .pointer (some ⟨fb, 0, none⟩)] w (BoolPost b w) := by
  have B0 := hideT ((Below.refl w.heap.size w).alloc (Nat.le_refl _) (.cells #[.int .i64 s, .slice i1 l1.length n1, .slice i2 l2.length n2, .slice i3 l3.length n3] 42))
  have HR := hideT (lrow_below h B0.out)
  have HF := hideT (below_cell B0.out _ _ hc)
  clear h hc
  go_enter Try.func37, Try.ntmps37
  go_wp2_with fail
  refine (containsFS _ _ _ _ l3 f fb HR.out HF.out b hb).mono ?_
  rintro e w1 ⟨rfl, b1⟩
  go_wp2_with fail
  go_ret
  exact ⟨rfl, B0.out.trans (b1.mono B0.out.size)⟩
end Go.Proofs.Ytmhiilfjckadkaa
/-
  A row of numbers, sorted, each once: slices.Sort, slices.Compact, slices.Clip.
-/
set_option linter.unusedSimpArgs false
set_option linter.unusedVariables false
namespace Go.Proofs.Ytmhiilfjckadkaa
open Go.RowKit Go.Sort
set_option maxRecDepth 100000
namespace Rp
theorem keeps_zero (d : Array Int) : Lib.keeps d 0 = true := Lib.keeps_lt_one d 0 (by omega)
theorem sorted_get {zs : List Int} (hs : zs.Pairwise (· ≤ ·)) {i j : Nat} {x y : Int} (hij : i ≤ j) (hx : zs[i]? = some x) (hy : zs[j]? = some y) : x ≤ y := by
  obtain ⟨hi, rfl⟩ := List.getElem?_eq_some_iff.1 hx
  obtain ⟨hj, rfl⟩ := List.getElem?_eq_some_iff.1 hy
  rcases Nat.lt_or_ge i j with h | h
  · exact List.pairwise_iff_getElem.1 hs i j hi hj h
  · obtain rfl : i = j := by omega
    exact Int.le_refl _
theorem get_bang {zs : List Int} {i : Nat} (hi : i < zs.length) : zs[i]? = some (zs.toArray[i]!) := by
  rw [getElem!_pos zs.toArray i (by simpa using hi), List.getElem?_eq_getElem hi]
  simp
theorem compact_sets (zs : List Int) (hs : zs.Pairwise (· ≤ ·)) : Sets (Lib.compact zs) (fun x => x ∈ zs) := by
  constructor
  · unfold Lib.compact Lib.compactUpTo
    rw [List.pairwise_map]
    have hp : ((List.range zs.length).filter (Lib.keeps zs.toArray)).Pairwise (· < ·) := List.Pairwise.filter _ List.pairwise_lt_range
    refine List.Pairwise.imp_of_mem ?_ hp
    intro i j hi hj hij
    rw [List.mem_filter, List.mem_range] at hi hj
    have h1 := sorted_get hs (show i ≤ j - 1 by omega) (get_bang hi.1) (get_bang (show j - 1 < zs.length by omega))
    have h2 := sorted_get hs (show j - 1 ≤ j by omega) (get_bang (show j - 1 < zs.length by omega)) (get_bang hj.1)
    have h3 : zs.toArray[j]! ≠ zs.toArray[j - 1]! := fun e => by
      have := Lib.keeps_neg (d := zs.toArray) (m := j) (by omega) e
      rw [hj.2] at this
      cases this
    omega
  · intro x
    unfold Lib.compact Lib.compactUpTo
    rw [List.mem_map]
    constructor
    · rintro ⟨i, hi, rfl⟩
      rw [List.mem_filter, List.mem_range] at hi
      exact List.mem_of_getElem? (get_bang hi.1)
    · intro hx
      obtain ⟨i, hi⟩ := List.getElem?_of_mem hx
      have hl := (List.getElem?_eq_some_iff.1 hi).1
      rw [get_bang hl] at hi
      obtain rfl := Option.some.inj hi
      clear hx hi
      induction i with
      | zero => exact ⟨0, List.mem_filter.2 ⟨List.mem_range.2 hl, keeps_zero _⟩, rfl⟩
      | succ i ih =>
        by_cases e : zs.toArray[i + 1]! = zs.toArray[i]!
        · rw [e]
          exact ih (by omega)
        · exact ⟨i + 1, List.mem_filter.2 ⟨List.mem_range.2 hl, Lib.keeps_pos (by simpa using e)⟩, rfl⟩
end Rp
theorem holds_cell {w : World} {g : Nat} {zs : List Int} (h : Holds (Value.int .i64) w g 0 zs.toArray) {i : Nat} {x : Int} (hx : zs[i]? = some x) : w.cell? ⟨g, i, none⟩ = some (.int .i64 x) := by
  have hi := (List.getElem?_eq_some_iff.1 hx).1
  have := (h i (by simpa using hi)).1
  rw [Nat.zero_add] at this
  rw [this]
  rw [Rp.get_bang hi] at hx
  rw [Option.some.inj hx]
theorem clipD (w : World) (a : Option Addr) (n c : Nat) (hnc : n ≤ c) : Calls Try.prog 63 #[.slice a n c] w fun e w' => e = .returned (.slice a n n) ∧ w' = w := by
  have t1 : (n : Int) ≤ (c : Int) := by omega
  go_enter Try.func63, Try.ntmps63
  go_wp2_with fail
  go_ret
  exact ⟨rfl, rfl⟩
/-- What the tail of strata answers. -/
def ZPost (S : Int → Prop) (w : World) (e : Ending) (w' : World) : Prop := ∃ a L, e = .returned (.slice a L.length L.length) ∧ ZRow w' (.slice a L.length L.length) L ∧ Rp.Sets L S ∧ Below w.heap.size w w'
end Go.Proofs.Ytmhiilfjckadkaa
/-
  The strata that read, that write a flag. (Written by RRead.py.)
-/
set_option linter.unusedSimpArgs false
set_option linter.unusedVariables false
namespace Go.Proofs.Ytmhiilfjckadkaa
open Go.RowKit Go.Sort
set_option maxRecDepth 100000
namespace Rp
def strK (p : Prog) (T : Rule → Bool) (k : Nat) : List Int := ((p.rules.take k).filter T).map fun r => r.1
theorem strK_len (p : Prog) (T : Rule → Bool) (k : Nat) : (strK p T k).length ≤ k := by
  unfold strK
  rw [List.length_map]
  have := List.length_filter_le T (p.rules.take k)
  rw [List.length_take] at this
  omega
theorem strK_yes {p : Prog} {T : Rule → Bool} {k : Nat} {r : Rule} (h : p.rules[k]? = some r) (hT : T r = true) : strK p T (k + 1) = strK p T k ++ [r.1] := by
  unfold strK
  rw [Mp.take_at h, List.filter_append, List.map_append, List.filter_cons_of_pos hT]
  rfl
theorem strK_no {p : Prog} {T : Rule → Bool} {k : Nat} {r : Rule} (h : p.rules[k]? = some r) (hT : T r = false) : strK p T (k + 1) = strK p T k := by
  unfold strK
  rw [Mp.take_at h, List.filter_append, List.map_append, List.filter_cons_of_neg (by simp [hT])]
  simp
theorem strK_mem {p : Prog} {T : Rule → Bool} {k : Nat} (hk : p.rules.length ≤ k) (x : Int) : x ∈ strK p T k ↔ ∃ r ∈ p.rules, r.1 = x ∧ T r = true := by
  unfold strK
  rw [List.take_of_length_le hk, List.mem_map]
  constructor
  · rintro ⟨r, hr, rfl⟩
    rw [List.mem_filter] at hr
    exact ⟨r, hr.1, rfl, hr.2⟩
  · rintro ⟨r, hr, hx, hT⟩
    exact ⟨r, List.mem_filter.2 ⟨hr, hT⟩, hx⟩
theorem compact_le (zs : List Int) : (Lib.compact zs).length ≤ zs.length := by
  unfold Lib.compact Lib.compactUpTo
  rw [List.length_map]
  have := List.length_filter_le (Lib.keeps zs.toArray) (List.range zs.length)
  rwa [List.length_range] at this
end Rp
abbrev zVr (x : Int) : Value := .int .i64 x
theorem compactE (w : World) (a : Option Addr) (cap : Nat) : Calls Try.prog 64 #[.slice a 0 cap] w fun e w' => e = .returned (.slice a 0 cap) ∧ w' = w := Any.slices_Compact_int_empty Try.compactI a cap w
theorem compactR (w : World) (g cap n : Nat) (zs : List Int) (hn : zs.length = n) (hH : Holds (Value.int .i64) w g 0 zs.toArray) (hcap : n ≤ cap) (hsz : n ≤ 1000000000000000) :
    Calls Try.prog 64 #[.slice (some ⟨g, 0, none⟩) n cap] w fun e w' => e = .returned (.slice (some ⟨g, 0, none⟩) (Lib.compact zs).length cap) ∧ Holds (Value.int .i64) w' g 0 (Lib.compact zs ++ List.replicate (zs.length - (Lib.compact zs).length) 0).toArray ∧ w.grownBy w' (some g) := by
  subst hn
  refine (show Calls Try.prog 64 _ w _ from Any.slices_Compact_int Try.compactI g 0 cap zs w hH (by omega) hcap).mono ?_
  rintro e w' ⟨rfl, q, rfl⟩
  have hc := Rp.compact_le zs
  refine ⟨rfl, holds_putRow (Value.int .i64) (Sort.ahead w q) g 0 zs.toArray _ hH (by simp; omega), ?_⟩
  have := grownBy_sortedI (w := w) (g := g) (n := q) (os := #[]) (Lib.compact zs ++ List.replicate (zs.length - (Lib.compact zs).length) 0).toArray
  rwa [grow_empty] at this
theorem sortR (w : World) (g cap n : Nat) (zs : List Int) (hn : zs.length = n) (hH : Holds (Value.int .i64) w g 0 zs.toArray) (hb : g < w.heap.size) (hsz : n ≤ 1000000000000000) :
    Calls Try.prog 62 #[.slice (some ⟨g, 0, none⟩) n cap] w fun e w' => e = .returned (.tuple #[]) ∧ Holds (Value.int .i64) w' g 0 (zs.mergeSort fun x y => decide (x ≤ y)).toArray ∧ w.grownBy w' (some g) := by
  subst hn
  refine (Try.slices_Sort_int g 0 cap zs w hH hb (by omega)).mono ?_
  rintro e w' ⟨rfl, q, os, rfl⟩
  refine ⟨rfl, ?_, grownBy_sortedI _⟩
  refine holds_grow (Value.int .i64) _ os g 0 _ (by simpa using hb) ?_
  exact holds_putRow (Value.int .i64) (Sort.ahead w q) g 0 zs.toArray _ hH (by simp)
theorem merge_sorted (zs : List Int) : (zs.mergeSort fun x y => decide (x ≤ y)).Pairwise (· ≤ ·) := by
  have := List.pairwise_mergeSort (le := fun (x y : Int) => decide (x ≤ y)) (fun a b c h1 h2 => by simp at *; omega) (fun a b => by simp; omega) zs
  exact this.imp (fun h => by simpa using h)
set_option maxHeartbeats 4000000 in
theorem strataL (w : World) (A : PA) (p : Rp.Prog) (h : ProgAt w A p) (f : Int) (fb : Nat) (hcf : w.cell? ⟨fb, 0, none⟩ = some (.int .i64 f)) :
    Calls Try.prog 32 #[.agg #[.int .i64 p.flags, .int .i64 p.lasting, .slice A.a2 p.first.length A.c2, .slice A.a3 p.over.length A.c3, .int .i64 p.frm, .slice A.a5 p.files.length A.c5, .slice A.a6 p.rules.length A.c6, .slice A.a7 p.ctrs.length A.c7, .slice A.a8 p.users.length A.c8, .slice A.a9 p.notes.length A.c9], capF 33 fb] w (ZPost (Rp.ReadsS p f) w) := by
  obtain ⟨a2, c2, a3, c3, a5, c5, a6, c6, a7, c7, a8, c8, a9, c9⟩ := A
  show Calls _ _ #[.agg #[.int .i64 p.flags, .int .i64 p.lasting, .slice a2 p.first.length c2, .slice a3 p.over.length c3, .int .i64 p.frm, .slice a5 p.files.length c5, .slice a6 p.rules.length c6, .slice a7 p.ctrs.length c7, .slice a8 p.users.length c8, .slice a9 p.notes.length c9], _] w _
  have B0 := hideT ((Below.refl w.heap.size w).alloc (Nat.le_refl _) (.cells #[.int .i64 p.flags, .int .i64 p.lasting, .slice a2 p.first.length c2, .slice a3 p.over.length c3, .int .i64 p.frm, .slice a5 p.files.length c5, .slice a6 p.rules.length c6, .slice a7 p.ctrs.length c7, .slice a8 p.users.length c8, .slice a9 p.notes.length c9] 29))
  obtain ⟨i0, hi0, hz0, hz1, hz2⟩ := info_parts infoInt
  obtain ⟨_, hl, _, b, o, ha, hc⟩ := rrow_at (show RRow w (.slice a6 p.rules.length c6) p.rules from h.rules)
  have HC := hideT hc
  have HA := hideT ha
  have HF := hideT hcf
  obtain ⟨T, hT⟩ : ∃ T : Rp.Rule → Bool, T = fun r => Rp.hasF (r.2.1) f := ⟨_, rfl⟩
  have HT := hideT hT
  clear hc ha h hcf hT
  go_enter Try.func32, Try.ntmps32
  go_wp2_with fail
  go_loopw [5, 11] (fun x i wr => ∃ k : Nat, k ≤ p.rules.length ∧ i = .int .i64 k ∧ Hid (Below w.heap.size w wr) ∧ Hid (wr.ownsRow w.heap.size 3 1 x (Rp.strK p T k).length ((Rp.strK p T k).map zVr))) (fun _ i _ => p.rules.length - (intOf i).toNat)
  case atStart => exact ⟨0, by omega, rfl, B0, World.ownsRow_nil _ _ _ _⟩
  case round =>
    obtain ⟨k, hk, rfl, HW, O1⟩ := hrel
    obtain ⟨oad, ocap, ho⟩ := slice_form O1.out
    subst ho
    have hkl := Rp.strK_len p T k
    by_cases hlt : k < p.rules.length
    · obtain ⟨⟨s, l1, l2, l3⟩, hx⟩ := Mp.at_lt (l := p.rules) (k := k) hlt
      obtain ⟨i1, n1, i2, n2, i3, n3, I0⟩ := HC.out k _ hx
      obtain ⟨r1, r2, r3, d0, d1, d2, d3⟩ := I0.turn (below_cell HW.out)
      dsimp only at r1 r2 r3 d0 d1 d2 d3
      obtain rfl := HA.out (by omega)
      have HX := hideT hx
      have BA := hideT ((Below.refl wr.heap.size wr).alloc (Nat.le_refl _) (.cells #[.int .i64 s, .slice i1 l1.length n1, .slice i2 l2.length n2, .slice i3 l3.length n3] 42))
      have LA := hideT (Lies.new wr 42 #[.int .i64 s, .slice i1 l1.length n1, .slice i2 l2.length n2, .slice i3 l3.length n3])
      have BW := hideT (HW.out.trans (BA.out.mono HW.out.size))
      have R1 := hideT (lrow_below r1 BA.out)
      have t0 : (0 : Int) ≤ (k : Int) := by omega
      have t1 : (k : Int) < (p.rules.length : Int) := by omega
      obtain ⟨bb, HBB⟩ : ∃ z, Hid (Rp.hasF l1 f = z) := ⟨_, rfl⟩
      have HTR : Hid (T (s, l1, l2, l3) = bb) := by show _ = _; rw [HT.out]; exact HBB.out
      clear hx I0 r1 r2 r3
      go_wp2_with fail
      refine (hasFlagL _ s l1 l2 l3 i1 i2 i3 n1 n2 n3 f fb R1.out (below_cell BW.out _ _ HF.out) bb HBB).mono ?_
      rintro e w1 ⟨rfl, b1⟩
      have HW1 := hideT (BW.out.trans (b1.mono BW.out.size))
      have LA1 := hideT (LA.out.below b1)
      have O2 := hideT (own_below (own_below O1.out BA.out) b1)
      clear b1 d0 d1 d2 d3
      cases bb
      · have HK := hideT (Rp.strK_no HX.out HTR.out)
        go_wp2_with fail
        refine ⟨⟨k + 1, by omega, by go_num, HW1, ?_⟩, ?_⟩
        · show World.ownsRow _ _ _ _ _ _ _
          rw [HK.out]
          exact O2.out
        · first | omega | (simp [intOf]; omega)
      · have HK := hideT (Rp.strK_yes HX.out HTR.out)
        have y0 : w1.cell? ⟨wr.heap.size, 0, none⟩ = some (.int .i64 s) := LA1.out.cell 0
        have BA2 := hideT ((Below.refl w1.heap.size w1).alloc (Nat.le_refl _) (.cells #[.int .i64 s] 3))
        go_wp2_with (first | (at_builtin; refine wpList_append_lies _ (by rfl) _ _ _ (by rfl) w.heap.size 3 i0 _ 1 8 Try.underlying22 hi0 hz0 hz1 hz2 rfl (by omega) (.slice oad (Rp.strK p T k).length ocap) (Rp.strK p T k).length ((Rp.strK p T k).map zVr) (by rfl) (O2.out.alloc _) ⟨w1.heap.size, 0, none⟩ 1 1 [.int .i64 s] (by rfl) (by rfl) (news1 w1 #[.int .i64 s] 3) (by simp [Value.oneCell']) (by omega) (by unfold maxLen; omega) (by omega) (by have := HW1.out.size; simp; omega) (w1.heap.size + 1) (by simp) ?_; intro gb cap2 w3 hown hgrow hat hlt3) | fail)
        have B3 : Hid (Below w.heap.size w w3) := Keep.below (HW1.out.trans (BA2.out.mono HW1.out.size)) (Keep.grown hgrow) (fun i hi e => by have := (own_lt O2.out e).2; omega)
        refine ⟨⟨k + 1, by omega, by go_num, B3, ?_⟩, ?_⟩
        · show World.ownsRow _ _ _ _ _ _ _
          rw [HK.out, List.map_append, List.length_append]
          exact hown
        · first | omega | (simp [intOf]; omega)
    have HM : Hid (∀ x, x ∈ Rp.strK p T k ↔ Rp.ReadsS p f x) := fun x => by
      rw [Rp.strK_mem (by omega), HT.out]
      exact ⟨fun ⟨r, h1, h2, h3⟩ => ⟨r, h1, h2, (Rp.hasF_iff _ _).1 h3⟩, fun ⟨r, h1, h2, h3⟩ => ⟨r, h1, h2, (Rp.hasF_iff _ _).2 h3⟩⟩
    obtain ⟨L, hL⟩ : ∃ L, Rp.strK p T k = L := ⟨_, rfl⟩
    rw [hL] at hkl O1 HM
    obtain ⟨n, hn⟩ : ∃ n, L.length = n := ⟨_, rfl⟩
    rw [hn] at hkl O1
    rw [hL, hn]
    clear hL
    rcases Nat.eq_zero_or_pos n with h0 | h0
    · subst h0
      have hLn : L = [] := List.eq_nil_of_length_eq_zero hn
      have HN : Hid (∀ x, ¬ Rp.ReadsS p f x) := fun x hx => by have := (HM.out x).2 hx; rw [hLn] at this; cases this
      go_wp2_with fail
      refine (Try.slices_Sort_int_none oad ocap wr).mono ?_
      rintro e w1 ⟨rfl, rfl⟩
      go_wp2_with fail
      refine (compactE w1 oad ocap).mono ?_
      rintro e w2 ⟨rfl, rfl⟩
      go_wp2_with fail
      refine (clipD w2 oad 0 ocap (by omega)).mono ?_
      rintro e w3 ⟨rfl, rfl⟩
      go_wp2_with fail
      go_ret
      exact ⟨oad, [], rfl, ⟨0, 0, ⟨oad, 0, rfl, Nat.le_refl _, fun h => absurd h (Nat.lt_irrefl 0)⟩, Nat.zero_le _, fun i x hx => by simp at hx⟩, ⟨List.Pairwise.nil, fun x => ⟨fun h => (by cases h), fun h => (HN.out x h).elim⟩⟩, HW.out⟩
    · rcases O1.out.2 with ⟨_, h1⟩ | ⟨g, cap', cur, h1, hg, hb, hc1, hc2, hc3, hc4⟩
      · omega
      · cases h1
        have hH := holds_of_blockI (ss := L) hb (by rw [hn, ← hc4, Nat.mul_one])
        have HH := hideT hH
        have hgl : g < wr.heap.size := (Array.getElem?_eq_some_iff.1 hb).1
        have HN := hideT hn
        clear hH hb hc3 hc4 hn O1
        go_wp2_with fail
        refine (sortR wr g ocap n L HN.out HH.out hgl (by omega)).mono ?_
        rintro e w1 ⟨rfl, q1, q2⟩
        have H1 := hideT q1
        have K1 := hideT (Keep.below HW.out (Keep.grown q2) (fun i hi e => by cases e; omega))
        clear q1 q2
        go_wp2_with fail
        refine (compactR w1 g ocap n _ (by rw [List.length_mergeSort]; exact HN.out) H1.out hc1 (by omega)).mono ?_
        rintro e w2 ⟨rfl, q1, q2⟩
        have K2 := hideT (Keep.below K1.out (Keep.grown q2) (fun i hi e => by cases e; omega))
        have H2 := hideT q1
        clear q1 q2
        obtain ⟨C, hC⟩ : ∃ C, Lib.compact (L.mergeSort fun x y => decide (x ≤ y)) = C := ⟨_, rfl⟩
        have HCL : Hid (C.length ≤ n) := by
          show _ ≤ _
          rw [← hC]
          have := Rp.compact_le (L.mergeSort fun x y => decide (x ≤ y))
          rw [List.length_mergeSort, HN.out] at this
          exact this
        have HS : Hid (Rp.Sets C (Rp.ReadsS p f)) := by
          have := Rp.compact_sets _ (merge_sorted L)
          rw [hC] at this
          exact ⟨this.1, fun x => (this.2 x).trans (List.mem_mergeSort.trans (HM.out x))⟩
        rw [hC] at H2
        rw [hC]
        have HR : Hid (ZRow w2 (.slice (some ⟨g, 0, none⟩) C.length C.length) C) := ⟨g, 0, ⟨some ⟨g, 0, none⟩, C.length, rfl, Nat.le_refl _, fun _ => rfl⟩, by have := HCL.out; omega, fun i x hx => by
          rw [Nat.zero_add]
          refine holds_cell H2.out ?_
          rw [List.getElem?_append_left (List.getElem?_eq_some_iff.1 hx).1]
          exact hx⟩
        clear hC
        go_wp2_with fail
        refine (clipD w2 (some ⟨g, 0, none⟩) C.length ocap (by have := HCL.out; omega)).mono ?_
        rintro e w3 ⟨rfl, rfl⟩
        go_wp2_with fail
        go_ret
        exact ⟨_, C, rfl, HR.out, HS.out, K2.out⟩
theorem progReads (w : World) (A : PA) (p : Rp.Prog) (h : ProgAt w A p) (f : Int) :
    Calls Try.prog 12 #[.agg #[.int .i64 p.flags, .int .i64 p.lasting, .slice A.a2 p.first.length A.c2, .slice A.a3 p.over.length A.c3, .int .i64 p.frm, .slice A.a5 p.files.length A.c5, .slice A.a6 p.rules.length A.c6, .slice A.a7 p.ctrs.length A.c7, .slice A.a8 p.users.length A.c8, .slice A.a9 p.notes.length A.c9], .int .i64 f] w (ZPost (Rp.ReadsS p f) w) := by
  have B0 := hideT (((Below.refl w.heap.size w).alloc (Nat.le_refl _) (.cells #[.int .i64 p.flags, .int .i64 p.lasting, .slice A.a2 p.first.length A.c2, .slice A.a3 p.over.length A.c3, .int .i64 p.frm, .slice A.a5 p.files.length A.c5, .slice A.a6 p.rules.length A.c6, .slice A.a7 p.ctrs.length A.c7, .slice A.a8 p.users.length A.c8, .slice A.a9 p.notes.length A.c9] 29)).alloc (by simp) (.cells #[.int .i64 f] 3))
  have HP := hideT (h.below B0.out)
  have HF : Hid (((w.alloc (.cells #[.int .i64 p.flags, .int .i64 p.lasting, .slice A.a2 p.first.length A.c2, .slice A.a3 p.over.length A.c3, .int .i64 p.frm, .slice A.a5 p.files.length A.c5, .slice A.a6 p.rules.length A.c6, .slice A.a7 p.ctrs.length A.c7, .slice A.a8 p.users.length A.c8, .slice A.a9 p.notes.length A.c9] 29)).alloc (.cells #[.int .i64 f] 3)).cell? ⟨w.heap.size + 1, 0, none⟩ = some (.int .i64 f)) := by
    have := cell_new (w.alloc (.cells #[.int .i64 p.flags, .int .i64 p.lasting, .slice A.a2 p.first.length A.c2, .slice A.a3 p.over.length A.c3, .int .i64 p.frm, .slice A.a5 p.files.length A.c5, .slice A.a6 p.rules.length A.c6, .slice A.a7 p.ctrs.length A.c7, .slice A.a8 p.users.length A.c8, .slice A.a9 p.notes.length A.c9] 29)) #[.int .i64 f] 3 0
    rw [show (w.alloc (.cells #[.int .i64 p.flags, .int .i64 p.lasting, .slice A.a2 p.first.length A.c2, .slice A.a3 p.over.length A.c3, .int .i64 p.frm, .slice A.a5 p.files.length A.c5, .slice A.a6 p.rules.length A.c6, .slice A.a7 p.ctrs.length A.c7, .slice A.a8 p.users.length A.c8, .slice A.a9 p.notes.length A.c9] 29)).heap.size = w.heap.size + 1 by simp] at this
    exact this
  clear h
  go_enter Try.func12, Try.ntmps12
  go_wp2_with fail
  refine (strataL _ A p HP.out f (w.heap.size + 1) HF.out).mono ?_
  rintro e w1 ⟨a, L, rfl, z, s, b⟩
  have HZ := hideT z
  have HS := hideT s
  have HB := hideT (B0.out.trans (b.mono B0.out.size))
  clear z s b
  go_wp2_with fail
  go_ret
  exact ⟨a, L, rfl, HZ.out, HS.out, HB.out⟩
set_option maxHeartbeats 4000000 in
theorem strataS (w : World) (A : PA) (p : Rp.Prog) (h : ProgAt w A p) (f : Int) (fb : Nat) (hcf : w.cell? ⟨fb, 0, none⟩ = some (.int .i64 f)) :
    Calls Try.prog 32 #[.agg #[.int .i64 p.flags, .int .i64 p.lasting, .slice A.a2 p.first.length A.c2, .slice A.a3 p.over.length A.c3, .int .i64 p.frm, .slice A.a5 p.files.length A.c5, .slice A.a6 p.rules.length A.c6, .slice A.a7 p.ctrs.length A.c7, .slice A.a8 p.users.length A.c8, .slice A.a9 p.notes.length A.c9], capF 37 fb] w (ZPost (Rp.WritesS p f) w) := by
  obtain ⟨a2, c2, a3, c3, a5, c5, a6, c6, a7, c7, a8, c8, a9, c9⟩ := A
  show Calls _ _ #[.agg #[.int .i64 p.flags, .int .i64 p.lasting, .slice a2 p.first.length c2, .slice a3 p.over.length c3, .int .i64 p.frm, .slice a5 p.files.length c5, .slice a6 p.rules.length c6, .slice a7 p.ctrs.length c7, .slice a8 p.users.length c8, .slice a9 p.notes.length c9], _] w _
  have B0 := hideT ((Below.refl w.heap.size w).alloc (Nat.le_refl _) (.cells #[.int .i64 p.flags, .int .i64 p.lasting, .slice a2 p.first.length c2, .slice a3 p.over.length c3, .int .i64 p.frm, .slice a5 p.files.length c5, .slice a6 p.rules.length c6, .slice a7 p.ctrs.length c7, .slice a8 p.users.length c8, .slice a9 p.notes.length c9] 29))
  obtain ⟨i0, hi0, hz0, hz1, hz2⟩ := info_parts infoInt
  obtain ⟨_, hl, _, b, o, ha, hc⟩ := rrow_at (show RRow w (.slice a6 p.rules.length c6) p.rules from h.rules)
  have HC := hideT hc
  have HA := hideT ha
  have HF := hideT hcf
  obtain ⟨T, hT⟩ : ∃ T : Rp.Rule → Bool, T = fun r => Rp.hasF (r.2.2.2) f := ⟨_, rfl⟩
  have HT := hideT hT
  clear hc ha h hcf hT
  go_enter Try.func32, Try.ntmps32
  go_wp2_with fail
  go_loopw [5, 11] (fun x i wr => ∃ k : Nat, k ≤ p.rules.length ∧ i = .int .i64 k ∧ Hid (Below w.heap.size w wr) ∧ Hid (wr.ownsRow w.heap.size 3 1 x (Rp.strK p T k).length ((Rp.strK p T k).map zVr))) (fun _ i _ => p.rules.length - (intOf i).toNat)
  case atStart => exact ⟨0, by omega, rfl, B0, World.ownsRow_nil _ _ _ _⟩
  case round =>
    obtain ⟨k, hk, rfl, HW, O1⟩ := hrel
    obtain ⟨oad, ocap, ho⟩ := slice_form O1.out
    subst ho
    have hkl := Rp.strK_len p T k
    by_cases hlt : k < p.rules.length
    · obtain ⟨⟨s, l1, l2, l3⟩, hx⟩ := Mp.at_lt (l := p.rules) (k := k) hlt
      obtain ⟨i1, n1, i2, n2, i3, n3, I0⟩ := HC.out k _ hx
      obtain ⟨r1, r2, r3, d0, d1, d2, d3⟩ := I0.turn (below_cell HW.out)
      dsimp only at r1 r2 r3 d0 d1 d2 d3
      obtain rfl := HA.out (by omega)
      have HX := hideT hx
      have BA := hideT ((Below.refl wr.heap.size wr).alloc (Nat.le_refl _) (.cells #[.int .i64 s, .slice i1 l1.length n1, .slice i2 l2.length n2, .slice i3 l3.length n3] 42))
      have LA := hideT (Lies.new wr 42 #[.int .i64 s, .slice i1 l1.length n1, .slice i2 l2.length n2, .slice i3 l3.length n3])
      have BW := hideT (HW.out.trans (BA.out.mono HW.out.size))
      have R1 := hideT (lrow_below r3 BA.out)
      have t0 : (0 : Int) ≤ (k : Int) := by omega
      have t1 : (k : Int) < (p.rules.length : Int) := by omega
      obtain ⟨bb, HBB⟩ : ∃ z, Hid (Rp.hasF l3 f = z) := ⟨_, rfl⟩
      have HTR : Hid (T (s, l1, l2, l3) = bb) := by show _ = _; rw [HT.out]; exact HBB.out
      clear hx I0 r1 r2 r3
      go_wp2_with fail
      refine (hasFlagS _ s l1 l2 l3 i1 i2 i3 n1 n2 n3 f fb R1.out (below_cell BW.out _ _ HF.out) bb HBB).mono ?_
      rintro e w1 ⟨rfl, b1⟩
      have HW1 := hideT (BW.out.trans (b1.mono BW.out.size))
      have LA1 := hideT (LA.out.below b1)
      have O2 := hideT (own_below (own_below O1.out BA.out) b1)
      clear b1 d0 d1 d2 d3
      cases bb
      · have HK := hideT (Rp.strK_no HX.out HTR.out)
        go_wp2_with fail
        refine ⟨⟨k + 1, by omega, by go_num, HW1, ?_⟩, ?_⟩
        · show World.ownsRow _ _ _ _ _ _ _
          rw [HK.out]
          exact O2.out
        · first | omega | (simp [intOf]; omega)
      · have HK := hideT (Rp.strK_yes HX.out HTR.out)
        have y0 : w1.cell? ⟨wr.heap.size, 0, none⟩ = some (.int .i64 s) := LA1.out.cell 0
        have BA2 := hideT ((Below.refl w1.heap.size w1).alloc (Nat.le_refl _) (.cells #[.int .i64 s] 3))
        go_wp2_with (first | (at_builtin; refine wpList_append_lies _ (by rfl) _ _ _ (by rfl) w.heap.size 3 i0 _ 1 8 Try.underlying22 hi0 hz0 hz1 hz2 rfl (by omega) (.slice oad (Rp.strK p T k).length ocap) (Rp.strK p T k).length ((Rp.strK p T k).map zVr) (by rfl) (O2.out.alloc _) ⟨w1.heap.size, 0, none⟩ 1 1 [.int .i64 s] (by rfl) (by rfl) (news1 w1 #[.int .i64 s] 3) (by simp [Value.oneCell']) (by omega) (by unfold maxLen; omega) (by omega) (by have := HW1.out.size; simp; omega) (w1.heap.size + 1) (by simp) ?_; intro gb cap2 w3 hown hgrow hat hlt3) | fail)
        have B3 : Hid (Below w.heap.size w w3) := Keep.below (HW1.out.trans (BA2.out.mono HW1.out.size)) (Keep.grown hgrow) (fun i hi e => by have := (own_lt O2.out e).2; omega)
        refine ⟨⟨k + 1, by omega, by go_num, B3, ?_⟩, ?_⟩
        · show World.ownsRow _ _ _ _ _ _ _
          rw [HK.out, List.map_append, List.length_append]
          exact hown
        · first | omega | (simp [intOf]; omega)
    have HM : Hid (∀ x, x ∈ Rp.strK p T k ↔ Rp.WritesS p f x) := fun x => by
      rw [Rp.strK_mem (by omega), HT.out]
      exact ⟨fun ⟨r, h1, h2, h3⟩ => ⟨r, h1, h2, (Rp.hasF_iff _ _).1 h3⟩, fun ⟨r, h1, h2, h3⟩ => ⟨r, h1, h2, (Rp.hasF_iff _ _).2 h3⟩⟩
    obtain ⟨L, hL⟩ : ∃ L, Rp.strK p T k = L := ⟨_, rfl⟩
    rw [hL] at hkl O1 HM
    obtain ⟨n, hn⟩ : ∃ n, L.length = n := ⟨_, rfl⟩
    rw [hn] at hkl O1
    rw [hL, hn]
    clear hL
    rcases Nat.eq_zero_or_pos n with h0 | h0
    · subst h0
      have hLn : L = [] := List.eq_nil_of_length_eq_zero hn
      have HN : Hid (∀ x, ¬ Rp.WritesS p f x) := fun x hx => by have := (HM.out x).2 hx; rw [hLn] at this; cases this
      go_wp2_with fail
      refine (Try.slices_Sort_int_none oad ocap wr).mono ?_
      rintro e w1 ⟨rfl, rfl⟩
      go_wp2_with fail
      refine (compactE w1 oad ocap).mono ?_
      rintro e w2 ⟨rfl, rfl⟩
      go_wp2_with fail
      refine (clipD w2 oad 0 ocap (by omega)).mono ?_
      rintro e w3 ⟨rfl, rfl⟩
      go_wp2_with fail
      go_ret
      exact ⟨oad, [], rfl, ⟨0, 0, ⟨oad, 0, rfl, Nat.le_refl _, fun h => absurd h (Nat.lt_irrefl 0)⟩, Nat.zero_le _, fun i x hx => by simp at hx⟩, ⟨List.Pairwise.nil, fun x => ⟨fun h => (by cases h), fun h => (HN.out x h).elim⟩⟩, HW.out⟩
    · rcases O1.out.2 with ⟨_, h1⟩ | ⟨g, cap', cur, h1, hg, hb, hc1, hc2, hc3, hc4⟩
      · omega
      · cases h1
        have hH := holds_of_blockI (ss := L) hb (by rw [hn, ← hc4, Nat.mul_one])
        have HH := hideT hH
        have hgl : g < wr.heap.size := (Array.getElem?_eq_some_iff.1 hb).1
        have HN := hideT hn
        clear hH hb hc3 hc4 hn O1
        go_wp2_with fail
        refine (sortR wr g ocap n L HN.out HH.out hgl (by omega)).mono ?_
        rintro e w1 ⟨rfl, q1, q2⟩
        have H1 := hideT q1
        have K1 := hideT (Keep.below HW.out (Keep.grown q2) (fun i hi e => by cases e; omega))
        clear q1 q2
        go_wp2_with fail
        refine (compactR w1 g ocap n _ (by rw [List.length_mergeSort]; exact HN.out) H1.out hc1 (by omega)).mono ?_
        rintro e w2 ⟨rfl, q1, q2⟩
        have K2 := hideT (Keep.below K1.out (Keep.grown q2) (fun i hi e => by cases e; omega))
        have H2 := hideT q1
        clear q1 q2
        obtain ⟨C, hC⟩ : ∃ C, Lib.compact (L.mergeSort fun x y => decide (x ≤ y)) = C := ⟨_, rfl⟩
        have HCL : Hid (C.length ≤ n) := by
          show _ ≤ _
          rw [← hC]
          have := Rp.compact_le (L.mergeSort fun x y => decide (x ≤ y))
          rw [List.length_mergeSort, HN.out] at this
          exact this
        have HS : Hid (Rp.Sets C (Rp.WritesS p f)) := by
          have := Rp.compact_sets _ (merge_sorted L)
          rw [hC] at this
          exact ⟨this.1, fun x => (this.2 x).trans (List.mem_mergeSort.trans (HM.out x))⟩
        rw [hC] at H2
        rw [hC]
        have HR : Hid (ZRow w2 (.slice (some ⟨g, 0, none⟩) C.length C.length) C) := ⟨g, 0, ⟨some ⟨g, 0, none⟩, C.length, rfl, Nat.le_refl _, fun _ => rfl⟩, by have := HCL.out; omega, fun i x hx => by
          rw [Nat.zero_add]
          refine holds_cell H2.out ?_
          rw [List.getElem?_append_left (List.getElem?_eq_some_iff.1 hx).1]
          exact hx⟩
        clear hC
        go_wp2_with fail
        refine (clipD w2 (some ⟨g, 0, none⟩) C.length ocap (by have := HCL.out; omega)).mono ?_
        rintro e w3 ⟨rfl, rfl⟩
        go_wp2_with fail
        go_ret
        exact ⟨_, C, rfl, HR.out, HS.out, K2.out⟩
theorem progWrites (w : World) (A : PA) (p : Rp.Prog) (h : ProgAt w A p) (f : Int) :
    Calls Try.prog 14 #[.agg #[.int .i64 p.flags, .int .i64 p.lasting, .slice A.a2 p.first.length A.c2, .slice A.a3 p.over.length A.c3, .int .i64 p.frm, .slice A.a5 p.files.length A.c5, .slice A.a6 p.rules.length A.c6, .slice A.a7 p.ctrs.length A.c7, .slice A.a8 p.users.length A.c8, .slice A.a9 p.notes.length A.c9], .int .i64 f] w (ZPost (Rp.WritesS p f) w) := by
  have B0 := hideT (((Below.refl w.heap.size w).alloc (Nat.le_refl _) (.cells #[.int .i64 p.flags, .int .i64 p.lasting, .slice A.a2 p.first.length A.c2, .slice A.a3 p.over.length A.c3, .int .i64 p.frm, .slice A.a5 p.files.length A.c5, .slice A.a6 p.rules.length A.c6, .slice A.a7 p.ctrs.length A.c7, .slice A.a8 p.users.length A.c8, .slice A.a9 p.notes.length A.c9] 29)).alloc (by simp) (.cells #[.int .i64 f] 3))
  have HP := hideT (h.below B0.out)
  have HF : Hid (((w.alloc (.cells #[.int .i64 p.flags, .int .i64 p.lasting, .slice A.a2 p.first.length A.c2, .slice A.a3 p.over.length A.c3, .int .i64 p.frm, .slice A.a5 p.files.length A.c5, .slice A.a6 p.rules.length A.c6, .slice A.a7 p.ctrs.length A.c7, .slice A.a8 p.users.length A.c8, .slice A.a9 p.notes.length A.c9] 29)).alloc (.cells #[.int .i64 f] 3)).cell? ⟨w.heap.size + 1, 0, none⟩ = some (.int .i64 f)) := by
    have := cell_new (w.alloc (.cells #[.int .i64 p.flags, .int .i64 p.lasting, .slice A.a2 p.first.length A.c2, .slice A.a3 p.over.length A.c3, .int .i64 p.frm, .slice A.a5 p.files.length A.c5, .slice A.a6 p.rules.length A.c6, .slice A.a7 p.ctrs.length A.c7, .slice A.a8 p.users.length A.c8, .slice A.a9 p.notes.length A.c9] 29)) #[.int .i64 f] 3 0
    rw [show (w.alloc (.cells #[.int .i64 p.flags, .int .i64 p.lasting, .slice A.a2 p.first.length A.c2, .slice A.a3 p.over.length A.c3, .int .i64 p.frm, .slice A.a5 p.files.length A.c5, .slice A.a6 p.rules.length A.c6, .slice A.a7 p.ctrs.length A.c7, .slice A.a8 p.users.length A.c8, .slice A.a9 p.notes.length A.c9] 29)).heap.size = w.heap.size + 1 by simp] at this
    exact this
  clear h
  go_enter Try.func14, Try.ntmps14
  go_wp2_with fail
  refine (strataS _ A p HP.out f (w.heap.size + 1) HF.out).mono ?_
  rintro e w1 ⟨a, L, rfl, z, s, b⟩
  have HZ := hideT z
  have HS := hideT s
  have HB := hideT (B0.out.trans (b.mono B0.out.size))
  clear z s b
  go_wp2_with fail
  go_ret
  exact ⟨a, L, rfl, HZ.out, HS.out, HB.out⟩
end Go.Proofs.Ytmhiilfjckadkaa
