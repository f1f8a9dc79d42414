/-
  A program, a row of numbers among a law's arguments, opened. (Written by ROpen.py.)
-/
import Derived.Test.YtkjekohncfhbiaaRMem
import Derived.Test.YtkjekohncfhbiaaMOpen
set_option linter.unusedSimpArgs false
set_option linter.unusedVariables false
namespace Go.Proofs.Ytkjekohncfhbiaa
open Go.RowKit
set_option maxRecDepth 100000
section OpenedR
variable {H : Type} {enc : TypeId × Value → H} {w : World} {base : Nat} {spare : Nat → Bool} {held : Bool}
theorem four_list {α : Type} {l : List α} (h : l.length = 4) : ∃ a b c d, l = [a, b, c, d] := by
  match l, h with
  | [a, b, c, d], _ => exact ⟨a, b, c, d, rfl⟩
theorem ten_list {α : Type} {l : List α} (h : l.length = 10) : ∃ a b c d e f g i j k, l = [a, b, c, d, e, f, g, i, j, k] := by
  match l, h with
  | [a, b, c, d, e, f, g, i, j, k], _ => exact ⟨a, b, c, d, e, f, g, i, j, k, rfl⟩
theorem zrow_open {fuel : Nat} {cs : List Value} {x : DataW H × List MemPlace} (h : DataW.trod enc Try.prog w base spare held fuel 22 cs = some x) (hq : Wt 22 x.1) : ∃ v l, cs = [v] ∧ ZRow w v l := by
  rcases Go.Deep.open_slice Try.underlying22 h with ⟨rfl, rfl⟩ | ⟨a, len, cap, m, n, D, Pl, rfl, _, hlc, _, hm, rfl, hx⟩
  · exact ⟨_, [], rfl, zrow_nil w⟩
  · have hlm : len ≤ m := by rw [hm]; split <;> omega
    obtain ⟨hw, hqq⟩ := wt_slice Try.underlying22 hq
    rw [List.length_map, List.length_range] at hw
    have hlen : len ≤ 100000000000000 := by
      have h1 : len * 8 ≤ (len + ((List.range (m - len)).map fun j => D (len + j)).length) * Try.prog.bytesOf 3 := Nat.mul_le_mul (Nat.le_add_right _ _) (of_decide_eq_true (by kernel_rfl))
      have h2 := reachBytes_lt
      omega
    rw [c1i] at hx
    have each' : ∀ i, i < len → ∃ k : Int, w.cells? base (a.add (i * 1)) 1 = some [.int .i64 k] := by
      intro i hi
      obtain ⟨cs', hc, htr⟩ := hx i (by omega)
      obtain ⟨k, e, _, _⟩ := DataW.trod_int Try.underlying3 htr
      exact ⟨k, by rw [hc, e]⟩
    obtain ⟨f, hf⟩ := Go.Deep.choose_lt each'
    have plain : 0 < len → a = ⟨a.block, a.off, none⟩ := by
      intro h0
      obtain ⟨_, _, hcell⟩ := World.cells?_some (hf 0 h0)
      have h00 := hcell 0 (by omega)
      rw [Nat.zero_mul] at h00
      have e : (a.add 0).add 0 = a := by
        obtain ⟨b, o, sp⟩ := a
        cases sp <;> simp [Addr.add]
      rw [e] at h00
      exact plain_of_cell h00
    refine ⟨_, (List.range len).map f, rfl, a.block, a.off, ⟨some a, cap, by rw [List.length_map, List.length_range], by rw [List.length_map, List.length_range]; exact hlc, fun h0 => ?_⟩, by rw [List.length_map, List.length_range]; exact hlen, fun i y hy => ?_⟩
    · rw [List.length_map, List.length_range] at h0
      exact congrArg some (plain h0)
    · rw [List.getElem?_map] at hy
      cases hr : (List.range len)[i]? with
      | none => rw [hr] at hy; cases hy
      | some j =>
        rw [hr] at hy
        obtain ⟨hi, hj⟩ := List.getElem?_eq_some_iff.1 hr
        rw [List.length_range] at hi
        rw [List.getElem_range] at hj
        subst hj
        obtain rfl := Option.some.inj hy
        obtain ⟨_, _, hcell⟩ := World.cells?_some (hf i hi)
        have := hcell 0 (by omega)
        rw [plain (by omega), add_plain, add_plain] at this
        simpa using this
theorem lit_open (n : Nat) (cs : List Value) (x : DataW H × List MemPlace) (h : DataW.trod enc Try.prog w base spare held n 54 cs = some x) (hq : Wt 54 x.1) : ∃ y, cs.length = 2 ∧ litR w cs y := by
  obtain ⟨xs, n', _, rfl, hl, hlen, hf⟩ := DataW.trod_struct Try.underlying54 h
  obtain ⟨c0, c1, rfl⟩ := two_list (hl.trans (show Try.prog.cellsOf 54 = 2 by kernel_rfl))
  obtain ⟨y0, y1, rfl⟩ := two_list (l := xs) (hlen.trans rfl)
  have f0 : DataW.trod enc Try.prog w base spare held n' 3 (([c0, c1].drop 0).take (Try.prog.cellsOf 3)) = some y0 := hf 0 _ rfl
  rw [c1i] at f0
  have f1 : DataW.trod enc Try.prog w base spare held n' 4 (([c0, c1].drop 1).take (Try.prog.cellsOf 4)) = some y1 := hf 1 _ rfl
  rw [c1b] at f1
  obtain ⟨k0, rfl⟩ := one_int f0
  obtain ⟨k1, rfl⟩ := one_bool f1
  exact ⟨(k0, k1), rfl, rfl⟩
theorem set_open (n : Nat) (cs : List Value) (x : DataW H × List MemPlace) (h : DataW.trod enc Try.prog w base spare held n 57 cs = some x) (hq : Wt 57 x.1) : ∃ y, cs.length = 2 ∧ litR w cs y := by
  obtain ⟨xs, n', _, rfl, hl, hlen, hf⟩ := DataW.trod_struct Try.underlying57 h
  obtain ⟨c0, c1, rfl⟩ := two_list (hl.trans (show Try.prog.cellsOf 57 = 2 by kernel_rfl))
  obtain ⟨y0, y1, rfl⟩ := two_list (l := xs) (hlen.trans rfl)
  have f0 : DataW.trod enc Try.prog w base spare held n' 3 (([c0, c1].drop 0).take (Try.prog.cellsOf 3)) = some y0 := hf 0 _ rfl
  rw [c1i] at f0
  have f1 : DataW.trod enc Try.prog w base spare held n' 4 (([c0, c1].drop 1).take (Try.prog.cellsOf 4)) = some y1 := hf 1 _ rfl
  rw [c1b] at f1
  obtain ⟨k0, rfl⟩ := one_int f0
  obtain ⟨k1, rfl⟩ := one_bool f1
  exact ⟨(k0, k1), rfl, rfl⟩
theorem ctr_open (n : Nat) (cs : List Value) (x : DataW H × List MemPlace) (h : DataW.trod enc Try.prog w base spare held n 52 cs = some x) (hq : Wt 52 x.1) : ∃ y, cs.length = 3 ∧ ctrR w cs y := by
  obtain ⟨xs, n', _, rfl, hl, hlen, hf⟩ := DataW.trod_struct Try.underlying52 h
  obtain ⟨c0, c1, c2, rfl⟩ := three_list (hl.trans (show Try.prog.cellsOf 52 = 3 by kernel_rfl))
  obtain ⟨y0, y1, y2, rfl⟩ := three_list (l := xs) (hlen.trans rfl)
  have f0 : DataW.trod enc Try.prog w base spare held n' 3 (([c0, c1, c2].drop 0).take (Try.prog.cellsOf 3)) = some y0 := hf 0 _ rfl
  rw [c1i] at f0
  have f1 : DataW.trod enc Try.prog w base spare held n' 3 (([c0, c1, c2].drop 1).take (Try.prog.cellsOf 3)) = some y1 := hf 1 _ rfl
  rw [c1i] at f1
  have f2 : DataW.trod enc Try.prog w base spare held n' 3 (([c0, c1, c2].drop 2).take (Try.prog.cellsOf 3)) = some y2 := hf 2 _ rfl
  rw [c1i] at f2
  obtain ⟨k0, rfl⟩ := one_int f0
  obtain ⟨k1, rfl⟩ := one_int f1
  obtain ⟨k2, rfl⟩ := one_int f2
  exact ⟨(k0, k1, k2), rfl, rfl⟩
theorem rule_open (n : Nat) (cs : List Value) (x : DataW H × List MemPlace) (h : DataW.trod enc Try.prog w base spare held n 61 cs = some x) (hq : Wt 61 x.1) : ∃ y, cs.length = 4 ∧ ruleR w cs y := by
  obtain ⟨xs, n', _, rfl, hl, hlen, hf⟩ := DataW.trod_struct Try.underlying61 h
  obtain ⟨c0, c1, c2, c3, rfl⟩ := four_list (hl.trans (show Try.prog.cellsOf 61 = 4 by kernel_rfl))
  obtain ⟨y0, y1, y2, y3, rfl⟩ := four_list (l := xs) (hlen.trans rfl)
  have f0 : DataW.trod enc Try.prog w base spare held n' 3 (([c0, c1, c2, c3].drop 0).take (Try.prog.cellsOf 3)) = some y0 := hf 0 _ rfl
  rw [c1i] at f0
  have f1 : DataW.trod enc Try.prog w base spare held n' 55 (([c0, c1, c2, c3].drop 1).take (Try.prog.cellsOf 55)) = some y1 := hf 1 _ rfl
  rw [show Try.prog.cellsOf 55 = 1 by kernel_rfl] at f1
  have q1 := wt_struct Try.underlying61 hq (j := 1) rfl rfl
  have f2 : DataW.trod enc Try.prog w base spare held n' 59 (([c0, c1, c2, c3].drop 2).take (Try.prog.cellsOf 59)) = some y2 := hf 2 _ rfl
  rw [show Try.prog.cellsOf 59 = 1 by kernel_rfl] at f2
  have q2 := wt_struct Try.underlying61 hq (j := 2) rfl rfl
  have f3 : DataW.trod enc Try.prog w base spare held n' 58 (([c0, c1, c2, c3].drop 3).take (Try.prog.cellsOf 58)) = some y3 := hf 3 _ rfl
  rw [show Try.prog.cellsOf 58 = 1 by kernel_rfl] at f3
  have q3 := wt_struct Try.underlying61 hq (j := 3) rfl rfl
  obtain ⟨k0, rfl⟩ := one_int f0
  obtain ⟨v1, k1, e1, r1⟩ := row_open (0, false) Try.underlying55 (show Try.prog.cellsOf 54 = 2 by kernel_rfl) (by omega) (of_decide_eq_true (by kernel_rfl)) lit_open f1 q1
  have e1' : c1 = v1 := (List.cons.inj e1).1
  obtain ⟨v2, k2, e2, r2⟩ := row_open (⟨#[]⟩, ⟨#[]⟩, 0) Try.underlying59 (show Try.prog.cellsOf 102 = 3 by kernel_rfl) (by omega) (of_decide_eq_true (by kernel_rfl)) cond_open f2 q2
  have e2' : c2 = v2 := (List.cons.inj e2).1
  obtain ⟨v3, k3, e3, r3⟩ := row_open (0, false) Try.underlying58 (show Try.prog.cellsOf 57 = 2 by kernel_rfl) (by omega) (of_decide_eq_true (by kernel_rfl)) set_open f3 q3
  have e3' : c3 = v3 := (List.cons.inj e3).1
  exact ⟨(k0, k1, k2, k3), rfl, c1, c2, c3, rfl, by rw [e1']; exact r1, by rw [e2']; exact r2, by rw [e3']; exact r3⟩
theorem user_open (n : Nat) (cs : List Value) (x : DataW H × List MemPlace) (h : DataW.trod enc Try.prog w base spare held n 65 cs = some x) (hq : Wt 65 x.1) : ∃ y, cs.length = 4 ∧ userR w cs y := by
  obtain ⟨xs, n', _, rfl, hl, hlen, hf⟩ := DataW.trod_struct Try.underlying65 h
  obtain ⟨c0, c1, c2, c3, rfl⟩ := four_list (hl.trans (show Try.prog.cellsOf 65 = 4 by kernel_rfl))
  obtain ⟨y0, y1, y2, y3, rfl⟩ := four_list (l := xs) (hlen.trans rfl)
  have f0 : DataW.trod enc Try.prog w base spare held n' 9 (([c0, c1, c2, c3].drop 0).take (Try.prog.cellsOf 9)) = some y0 := hf 0 _ rfl
  rw [c1s] at f0
  have q0 := wt_struct Try.underlying65 hq (j := 0) rfl rfl
  have f1 : DataW.trod enc Try.prog w base spare held n' 3 (([c0, c1, c2, c3].drop 1).take (Try.prog.cellsOf 3)) = some y1 := hf 1 _ rfl
  rw [c1i] at f1
  have f2 : DataW.trod enc Try.prog w base spare held n' 55 (([c0, c1, c2, c3].drop 2).take (Try.prog.cellsOf 55)) = some y2 := hf 2 _ rfl
  rw [show Try.prog.cellsOf 55 = 1 by kernel_rfl] at f2
  have q2 := wt_struct Try.underlying65 hq (j := 2) rfl rfl
  have f3 : DataW.trod enc Try.prog w base spare held n' 3 (([c0, c1, c2, c3].drop 3).take (Try.prog.cellsOf 3)) = some y3 := hf 3 _ rfl
  rw [c1i] at f3
  obtain ⟨k0, rfl, hs0⟩ := one_str f0 q0
  obtain ⟨k1, rfl⟩ := one_int f1
  obtain ⟨v2, k2, e2, r2⟩ := row_open (0, false) Try.underlying55 (show Try.prog.cellsOf 54 = 2 by kernel_rfl) (by omega) (of_decide_eq_true (by kernel_rfl)) lit_open f2 q2
  have e2' : c2 = v2 := (List.cons.inj e2).1
  obtain ⟨k3, rfl⟩ := one_int f3
  exact ⟨(k0, k1, k2, k3), rfl, c2, rfl, hs0, by rw [e2']; exact r2⟩
theorem prog_open {r : Reach} {b0 : Nat} {v : Value} {d : DataW H} {p : List MemPlace} (hv : Value.okWide Try.prog w r b0 29 v) (h : DataW.Trod enc Try.prog w base spare held 29 v d p) (hq : Wt 29 d) :
    ∃ (A : PA) (p : Rp.Prog), v = .agg #[.int .i64 p.flags, .int .i64 p.lasting, .slice A.a2 p.first.length A.c2, .slice A.a3 p.over.length A.c3, .int .i64 p.frm, .slice A.a5 p.files.length A.c5, .slice A.a6 p.rules.length A.c6, .slice A.a7 p.ctrs.length A.c7, .slice A.a8 p.users.length A.c8, .slice A.a9 p.notes.length A.c9] ∧ ProgAt w A p := by
  obtain ⟨cs, rfl, hsz⟩ := Go.WideShapes.okWide_struct Try.underlying29 hv
  obtain ⟨fuel, hf0⟩ := h
  obtain ⟨xs, n', _, hcs, hl, hlen, hf⟩ := DataW.trod_struct Try.underlying29 (cs := cs.toList) (x := (d, p)) hf0
  obtain rfl : d = _ := (Prod.mk.inj hcs).1
  obtain ⟨CS, hCS⟩ : ∃ CS, cs.toList = CS := ⟨_, rfl⟩
  obtain rfl : cs = CS.toArray := by rw [← hCS]
  rw [hCS] at hl hf
  obtain ⟨c0, c1, c2, c3, c4, c5, c6, c7, c8, c9, rfl⟩ := ten_list (hl.trans (show Try.prog.cellsOf 29 = 10 by kernel_rfl))
  obtain ⟨y0, y1, y2, y3, y4, y5, y6, y7, y8, y9, rfl⟩ := ten_list (l := xs) (hlen.trans rfl)
  have f0 : DataW.trod enc Try.prog w base spare held n' 3 (([c0, c1, c2, c3, c4, c5, c6, c7, c8, c9].drop 0).take (Try.prog.cellsOf 3)) = some y0 := hf 0 _ rfl
  rw [c1i] at f0
  have f1 : DataW.trod enc Try.prog w base spare held n' 3 (([c0, c1, c2, c3, c4, c5, c6, c7, c8, c9].drop 1).take (Try.prog.cellsOf 3)) = some y1 := hf 1 _ rfl
  rw [c1i] at f1
  have f2 : DataW.trod enc Try.prog w base spare held n' 22 (([c0, c1, c2, c3, c4, c5, c6, c7, c8, c9].drop 2).take (Try.prog.cellsOf 22)) = some y2 := hf 2 _ rfl
  rw [show Try.prog.cellsOf 22 = 1 by kernel_rfl] at f2
  have q2 := wt_struct Try.underlying29 hq (j := 2) rfl rfl
  have f3 : DataW.trod enc Try.prog w base spare held n' 22 (([c0, c1, c2, c3, c4, c5, c6, c7, c8, c9].drop 3).take (Try.prog.cellsOf 22)) = some y3 := hf 3 _ rfl
  rw [show Try.prog.cellsOf 22 = 1 by kernel_rfl] at f3
  have q3 := wt_struct Try.underlying29 hq (j := 3) rfl rfl
  have f4 : DataW.trod enc Try.prog w base spare held n' 3 (([c0, c1, c2, c3, c4, c5, c6, c7, c8, c9].drop 4).take (Try.prog.cellsOf 3)) = some y4 := hf 4 _ rfl
  rw [c1i] at f4
  have f5 : DataW.trod enc Try.prog w base spare held n' 23 (([c0, c1, c2, c3, c4, c5, c6, c7, c8, c9].drop 5).take (Try.prog.cellsOf 23)) = some y5 := hf 5 _ rfl
  rw [show Try.prog.cellsOf 23 = 1 by kernel_rfl] at f5
  have q5 := wt_struct Try.underlying29 hq (j := 5) rfl rfl
  have f6 : DataW.trod enc Try.prog w base spare held n' 24 (([c0, c1, c2, c3, c4, c5, c6, c7, c8, c9].drop 6).take (Try.prog.cellsOf 24)) = some y6 := hf 6 _ rfl
  rw [show Try.prog.cellsOf 24 = 1 by kernel_rfl] at f6
  have q6 := wt_struct Try.underlying29 hq (j := 6) rfl rfl
  have f7 : DataW.trod enc Try.prog w base spare held n' 25 (([c0, c1, c2, c3, c4, c5, c6, c7, c8, c9].drop 7).take (Try.prog.cellsOf 25)) = some y7 := hf 7 _ rfl
  rw [show Try.prog.cellsOf 25 = 1 by kernel_rfl] at f7
  have q7 := wt_struct Try.underlying29 hq (j := 7) rfl rfl
  have f8 : DataW.trod enc Try.prog w base spare held n' 26 (([c0, c1, c2, c3, c4, c5, c6, c7, c8, c9].drop 8).take (Try.prog.cellsOf 26)) = some y8 := hf 8 _ rfl
  rw [show Try.prog.cellsOf 26 = 1 by kernel_rfl] at f8
  have q8 := wt_struct Try.underlying29 hq (j := 8) rfl rfl
  have f9 : DataW.trod enc Try.prog w base spare held n' 27 (([c0, c1, c2, c3, c4, c5, c6, c7, c8, c9].drop 9).take (Try.prog.cellsOf 27)) = some y9 := hf 9 _ rfl
  rw [show Try.prog.cellsOf 27 = 1 by kernel_rfl] at f9
  have q9 := wt_struct Try.underlying29 hq (j := 9) rfl rfl
  obtain ⟨k0, rfl⟩ := one_int f0
  obtain ⟨k1, rfl⟩ := one_int f1
  obtain ⟨v2, k2, e2, r2⟩ := zrow_open f2 q2
  have e2' : c2 = v2 := (List.cons.inj e2).1
  obtain ⟨v3, k3, e3, r3⟩ := zrow_open f3 q3
  have e3' : c3 = v3 := (List.cons.inj e3).1
  obtain ⟨k4, rfl⟩ := one_int f4
  obtain ⟨v5, k5, e5, r5⟩ := row_open ⟨#[]⟩ Try.underlying23 (show Try.prog.cellsOf 9 = 1 by kernel_rfl) (by omega) (of_decide_eq_true (by kernel_rfl)) str_open f5 q5
  have e5' : c5 = v5 := (List.cons.inj e5).1
  obtain ⟨v6, k6, e6, r6⟩ := row_open (0, [], [], []) Try.underlying24 (show Try.prog.cellsOf 61 = 4 by kernel_rfl) (by omega) (of_decide_eq_true (by kernel_rfl)) rule_open f6 q6
  have e6' : c6 = v6 := (List.cons.inj e6).1
  obtain ⟨v7, k7, e7, r7⟩ := row_open (0, 0, 0) Try.underlying25 (show Try.prog.cellsOf 52 = 3 by kernel_rfl) (by omega) (of_decide_eq_true (by kernel_rfl)) ctr_open f7 q7
  have e7' : c7 = v7 := (List.cons.inj e7).1
  obtain ⟨v8, k8, e8, r8⟩ := row_open (⟨#[]⟩, 0, [], 0) Try.underlying26 (show Try.prog.cellsOf 65 = 4 by kernel_rfl) (by omega) (of_decide_eq_true (by kernel_rfl)) user_open f8 q8
  have e8' : c8 = v8 := (List.cons.inj e8).1
  obtain ⟨v9, k9, e9, r9⟩ := row_open ⟨⟨#[]⟩, 0, ⟨#[]⟩, false, 0, [], []⟩ Try.underlying27 (show Try.prog.cellsOf 159 = 7 by kernel_rfl) (by omega) (of_decide_eq_true (by kernel_rfl)) item_open f9 q9
  have e9' : c9 = v9 := (List.cons.inj e9).1
  subst e2'
  obtain ⟨a2, n2, rfl⟩ := zrow_val r2
  subst e3'
  obtain ⟨a3, n3, rfl⟩ := zrow_val r3
  subst e5'
  obtain ⟨a5, n5, rfl⟩ := row_val r5
  subst e6'
  obtain ⟨a6, n6, rfl⟩ := row_val r6
  subst e7'
  obtain ⟨a7, n7, rfl⟩ := row_val r7
  subst e8'
  obtain ⟨a8, n8, rfl⟩ := row_val r8
  subst e9'
  obtain ⟨a9, n9, rfl⟩ := row_val r9
  exact ⟨⟨a2, n2, a3, n3, a5, n5, a6, n6, a7, n7, a8, n8, a9, n9⟩, ⟨k0, k1, k2, k3, k4, k5, k6, k7, k8, k9⟩, rfl, ⟨r2, r3, r5, r6, r7, r8, r9⟩⟩
theorem ints_open {r : Reach} {b0 : Nat} {v : Value} {d : DataW H} {p : List MemPlace} (hv : Value.okWide Try.prog w r b0 22 v) (h : DataW.Trod enc Try.prog w base spare held 22 v d p) (hq : Wt 22 d) :
    ∃ l, ZRow w v l := by
  obtain ⟨a0, len, cap, rfl⟩ := Go.WideShapes.okWide_slice Try.underlying22 hv
  obtain ⟨n, hn'⟩ := h
  have hn : DataW.trod enc Try.prog w base spare held n 22 [.slice a0 len cap] = some (d, p) := hn'
  obtain ⟨v5, l5, e5, r5⟩ := zrow_open hn hq
  rw [(List.cons.inj e5).1]
  exact ⟨l5, r5⟩
end OpenedR
end Go.Proofs.Ytkjekohncfhbiaa
