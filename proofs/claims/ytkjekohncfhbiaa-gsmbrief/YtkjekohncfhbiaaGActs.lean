/-
  Rows of acts; whether they are few and short; an act, a row of acts among a law's arguments.
-/
import Derived.Test.YtkjekohncfhbiaaPartD
import Derived.Test.YtkjekohncfhbiaaMOpen
set_option linter.unusedSimpArgs false
set_option linter.unusedVariables false
namespace Go.Proofs.Ytkjekohncfhbiaa
open Go.RowKit
set_option maxRecDepth 100000
def acR (w : World) (cs : List Value) (x : Gp.Act) : Prop := cs = [.int .i64 x.kind, .string x.item, .int .i64 x.event, .string x.file, .int .i64 x.n] ∧ x.item.size ≤ 140737488355328 ∧ x.file.size ≤ 140737488355328
abbrev ActRow := RowR 5 acR
theorem actrow_turn {w w' : World} {v : Value} {l : List Gp.Act} (h : ActRow w v l) (hc : ∀ a c, w.cell? a = some c → w'.cell? a = some c) : ActRow w' v l := RowR.turn h (fun _ _ _ h => h) hc
theorem actrow_below {w w' : World} {v : Value} {l : List Gp.Act} (h : ActRow w v l) (hb : Below w.heap.size w w') : ActRow w' v l := actrow_turn h (below_cell hb)
theorem actrow_at {w : World} {ao : Option Addr} {n cap : Nat} {l : List Gp.Act} (h : ActRow w (.slice ao n cap) l) : n = l.length ∧ n ≤ 10000000000000 ∧ n ≤ cap ∧ ∃ b o, (0 < n → ao = some ⟨b, o, none⟩) ∧ ∀ (i : Nat) x, l[i]? = some x → (x.item.size ≤ 140737488355328 ∧ x.file.size ≤ 140737488355328) ∧ w.cell? ⟨b, o + i * 5, none⟩ = some (.int .i64 x.kind) ∧ w.cell? ⟨b, o + i * 5 + 1, none⟩ = some (.string x.item) ∧ w.cell? ⟨b, o + i * 5 + 2, none⟩ = some (.int .i64 x.event) ∧ w.cell? ⟨b, o + i * 5 + 3, none⟩ = some (.string x.file) ∧ w.cell? ⟨b, o + i * 5 + 4, none⟩ = some (.int .i64 x.n) := by
  obtain ⟨b, o, ⟨a1, c1, e, hcp, ha⟩, h2, h3⟩ := h
  cases e
  refine ⟨rfl, h2, hcp, b, o, ha, fun i s hs => ?_⟩
  obtain ⟨cs, _, ⟨rfl, hz⟩, hc⟩ := h3 i s hs
  exact ⟨hz, hc 0 _ rfl, hc 1 _ rfl, hc 2 _ rfl, hc 3 _ rfl, hc 4 _ rfl⟩
def TextsPost (l : List Gp.Act) (w : World) (e : Ending) (w' : World) : Prop := ∃ b, e = .returned (.bool b) ∧ (b = true → l.length ≤ 60) ∧ Below w.heap.size w w'
set_option maxHeartbeats 4000000 in
theorem textsD (w : World) (ao : Option Addr) (n cap : Nat) (l : List Gp.Act) (h : ActRow w (.slice ao n cap) l) :
    Calls Try.prog 10 #[.slice ao n cap] w (TextsPost l w) := by
  obtain ⟨hn, hl, hcap, b, o, ha, hc⟩ := actrow_at h
  have HN := hideT hn
  have HC := hideT hc
  have HA := hideT ha
  clear hn hc ha h
  go_enter Try.func10, Try.ntmps10
  go_wp2_with fail
  go_loopw [3] (fun i wr => ∃ k : Nat, k ≤ n ∧ k ≤ 60 ∧ i = .int .i64 k ∧ Hid (Below w.heap.size w wr)) (fun i _ => n - (intOf i).toNat)
  case atStart => exact ⟨0, by omega, by omega, rfl, Below.refl _ _⟩
  case round =>
    obtain ⟨k, hk, hk6, rfl, HW⟩ := hrel
    by_cases hlt : k < n
    · by_cases h6 : k < 60
      · obtain ⟨x, hx⟩ := Mp.at_lt (l := l) (k := k) (by have := HN.out; omega)
        obtain ⟨⟨z1, z3⟩, _, d1, _, d3, _⟩ := HC.out k _ hx
        have d1 := below_cell HW.out _ _ d1
        have d3 := below_cell HW.out _ _ d3
        obtain rfl := HA.out (by omega)
        have t0 : (0 : Int) ≤ (k : Int) := by omega
        have t1 : (k : Int) < (n : Int) := by omega
        have t6 : (k : Int) < 60 := by omega
        have hw : IntKind.i64.wrap ((x.item.size : Int) + (x.file.size : Int)) = (x.item.size : Int) + (x.file.size : Int) := by rw [IntKind.wrap_i64]; omega
        clear hx
        by_cases hb : (200 : Int) < (x.item.size : Int) + (x.file.size : Int)
        · go_wp2_with fail
          go_quiet (fail)
          go_wp2_with fail
          go_ret
          exact ⟨false, rfl, fun e => (by cases e), below_drewN HW.out _⟩
        · have hb' : (x.item.size : Int) + (x.file.size : Int) ≤ 200 := by omega
          go_wp2_with fail
          go_quiet (fail)
          go_wp2_with fail
          refine ⟨⟨k + 1, by omega, by omega, by go_num, below_drewN HW.out _⟩, ?_⟩
          first | omega | (simp [intOf]; omega)
      · have t1 : (k : Int) < (n : Int) := by omega
        have t6 : (60 : Int) ≤ (k : Int) := by omega
        have tn : (60 : Int) < (n : Int) := by omega
        have td : decide ((n : Int) ≤ 60) = false := decide_eq_false (by omega)
        go_wp2_with fail
        go_ret
        exact ⟨false, rfl, fun e => (by cases e), HW.out⟩
    · have t1 : (n : Int) ≤ (k : Int) := by omega
      have tn : (n : Int) ≤ 60 := by omega
      go_wp2_with fail
      go_ret
      exact ⟨true, rfl, fun _ => (by have := HN.out; omega), HW.out⟩
section
variable {H : Type} {enc : TypeId × Value → H} {w : World} {base : Nat} {spare : Nat → Bool} {held : Bool}
theorem five_list {α : Type} {l : List α} (h : l.length = 5) : ∃ a b c d e, l = [a, b, c, d, e] := by
  match l, h with
  | [a, b, c, d, e], _ => exact ⟨a, b, c, d, e, rfl⟩
theorem act_open (n : Nat) (cs : List Value) (x : DataW H × List MemPlace) (h : DataW.trod enc Try.prog w base spare held n 44 cs = some x) (hq : Wt 44 x.1) : ∃ y, cs.length = 5 ∧ acR w cs y := by
  obtain ⟨xs, n', _, rfl, hl, hlen, hf⟩ := DataW.trod_struct Try.underlying44 h
  obtain ⟨c0, c1, c2, c3, c4, rfl⟩ := five_list (hl.trans (show Try.prog.cellsOf 44 = 5 by kernel_rfl))
  obtain ⟨y0, y1, y2, y3, y4, rfl⟩ := five_list (l := xs) (hlen.trans rfl)
  have f0 : DataW.trod enc Try.prog w base spare held n' 3 (([c0, c1, c2, c3, c4].drop 0).take (Try.prog.cellsOf 3)) = some y0 := hf 0 _ rfl
  rw [c1i] at f0
  have f1 : DataW.trod enc Try.prog w base spare held n' 9 (([c0, c1, c2, c3, c4].drop 1).take (Try.prog.cellsOf 9)) = some y1 := hf 1 _ rfl
  rw [c1s] at f1
  have f2 : DataW.trod enc Try.prog w base spare held n' 3 (([c0, c1, c2, c3, c4].drop 2).take (Try.prog.cellsOf 3)) = some y2 := hf 2 _ rfl
  rw [c1i] at f2
  have f3 : DataW.trod enc Try.prog w base spare held n' 9 (([c0, c1, c2, c3, c4].drop 3).take (Try.prog.cellsOf 9)) = some y3 := hf 3 _ rfl
  rw [c1s] at f3
  have f4 : DataW.trod enc Try.prog w base spare held n' 3 (([c0, c1, c2, c3, c4].drop 4).take (Try.prog.cellsOf 3)) = some y4 := hf 4 _ rfl
  rw [c1i] at f4
  have q1 := wt_struct Try.underlying44 hq (j := 1) rfl rfl
  have q3 := wt_struct Try.underlying44 hq (j := 3) rfl rfl
  obtain ⟨k0, rfl⟩ := one_int f0
  obtain ⟨s1, rfl, hs1⟩ := one_str f1 q1
  obtain ⟨k2, rfl⟩ := one_int f2
  obtain ⟨s3, rfl, hs3⟩ := one_str f3 q3
  obtain ⟨k4, rfl⟩ := one_int f4
  exact ⟨⟨k0, s1, k2, s3, k4⟩, rfl, rfl, hs1, hs3⟩
theorem acts_open {r : Reach} {b0 : Nat} {v : Value} {d : DataW H} {p : List MemPlace} (hv : Value.okWide Try.prog w r b0 30 v) (h : DataW.Trod enc Try.prog w base spare held 30 v d p) (hq : Wt 30 d) :
    ∃ l, ActRow w v l := by
  obtain ⟨a0, len, cap, rfl⟩ := Go.WideShapes.okWide_slice Try.underlying30 hv
  obtain ⟨n, hn'⟩ := h
  have hn : DataW.trod enc Try.prog w base spare held n 30 [.slice a0 len cap] = some (d, p) := hn'
  obtain ⟨v5, l5, e5, r5⟩ := row_open ⟨0, ⟨#[]⟩, 0, ⟨#[]⟩, 0⟩ Try.underlying30 (show Try.prog.cellsOf 44 = 5 by kernel_rfl) (by omega) (of_decide_eq_true (by kernel_rfl)) act_open hn hq
  rw [(List.cons.inj e5).1]
  exact ⟨l5, r5⟩
theorem actarg_open {r : Reach} {b0 : Nat} {v : Value} {d : DataW H} {p : List MemPlace} (hv : Value.okWide Try.prog w r b0 44 v) (h : DataW.Trod enc Try.prog w base spare held 44 v d p) (hq : Wt 44 d) :
    ∃ a : Gp.Act, v = actG a ∧ a.item.size ≤ 140737488355328 ∧ a.file.size ≤ 140737488355328 := by
  obtain ⟨cs, rfl, hsz⟩ := Go.WideShapes.okWide_struct Try.underlying44 hv
  obtain ⟨fuel, hf⟩ := h
  obtain ⟨y, _, e, z1, z2⟩ := act_open fuel cs.toList (d, p) hf hq
  exact ⟨y, congrArg Value.agg (Array.ext' e), z1, z2⟩
end
end Go.Proofs.Ytkjekohncfhbiaa
