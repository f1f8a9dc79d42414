/-
  A model among a law's arguments, opened: its cells hold a model.
-/
import Derived.Test.YtkjekohncfhbiaaPartB
import Derived.Deep.Slices
import Derived.Lib.SmallJoins
import Derived.SizedLaws
set_option linter.unusedSimpArgs false
set_option linter.unusedVariables false
namespace Go.Proofs.Ytkjekohncfhbiaa
open Go.RowKit
set_option maxRecDepth 100000
theorem plain_of_cell {w : World} {a : Addr} {v : Value} (h : w.cell? a = some v) : a = ⟨a.block, a.off, none⟩ := by
  obtain ⟨b, o, sp⟩ := a
  cases sp with
  | none => rfl
  | some k =>
    unfold World.cell? at h
    simp at h
    split at h <;> cases h
theorem add_plain (b o k : Nat) : (⟨b, o, none⟩ : Addr).add k = ⟨b, o + k, none⟩ := by
  unfold Addr.add
  split
  · rename_i h
    rw [h]
    rfl
  · rfl
/-- What was read is no greater than the form lets it be. -/
def Wt {H : Type} (t : TypeId) (d : DataW H) : Prop := ∀ n ∈ d.weights Try.prog t, n ≤ reachBytes
theorem weightsAll_mem {H : Type} {P : Program} {e : TypeId} : ∀ {l : List (DataW H)} {d : DataW H} {n : Nat}, d ∈ l → n ∈ d.weights P e → n ∈ DataW.weightsAll P e l
  | a :: l, d, n, hd, hn => by
    simp only [DataW.weightsAll, List.mem_append]
    rcases List.mem_cons.1 hd with rfl | hd
    · exact .inl hn
    · exact .inr (weightsAll_mem hd hn)
theorem wt_slice {H : Type} {t e : TypeId} {es sp : List (DataW H)} (ht : Try.prog.underlying t = some (.slice e)) (h : Wt t (.slice es sp)) : (es.length + sp.length) * Try.prog.bytesOf e ≤ reachBytes ∧ ∀ d ∈ es, Wt e d := by
  unfold Wt at h
  simp only [DataW.weights, ht] at h
  refine ⟨h _ List.mem_cons_self, fun d hd n hn => h n (List.mem_cons_of_mem _ (List.mem_append_left _ (weightsAll_mem hd hn)))⟩
theorem wt_struct {H : Type} {t : TypeId} {fs : Array Field} {parts : List (DataW H)} (ht : Try.prog.underlying t = some (.struct fs)) (h : Wt t (.agg parts)) {j : Nat} {f : Field} {d : DataW H} (hf : fs[j]? = some f) (hd : parts[j]? = some d) : Wt f.type d := by
  unfold Wt at h
  simp only [DataW.weights, ht] at h
  intro n hn
  exact h n (DataW.weights_mem_each (j := j) (by rw [List.getElem?_map, Array.getElem?_toList, hf]; rfl) hd n hn)
theorem wt_str {H : Type} {t : TypeId} {l : List UInt8} (h : Wt (H := H) t (.lit (.string l))) : l.length ≤ 140737488355328 := by
  have := h l.length (by simp [DataW.weights])
  have := reachBytes_lt
  omega
section OpenedM
variable {H : Type} {enc : TypeId × Value → H} {w : World} {base : Nat} {spare : Nat → Bool} {held : Bool}
/-- A row of whatever can be opened. -/
theorem row_open {α : Type} (dflt : α) {z : Nat} {R : World → List Value → α → Prop} {t e : TypeId} (ht : Try.prog.underlying t = some (.slice e)) (hz : Try.prog.cellsOf e = z) (hz0 : 0 < z) (hby : 16 ≤ Try.prog.bytesOf e)
    (each : ∀ (n : Nat) (cs : List Value) (x : DataW H × List MemPlace), DataW.trod enc Try.prog w base spare held n e cs = some x → Wt e x.1 → ∃ y, cs.length = z ∧ R w cs y)
    {fuel : Nat} {cs : List Value} {x : DataW H × List MemPlace} (h : DataW.trod enc Try.prog w base spare held fuel t cs = some x) (hq : Wt t x.1) : ∃ v l, cs = [v] ∧ RowR z R w v l := by
  rcases Go.Deep.open_slice ht h with ⟨rfl, rfl⟩ | ⟨a, len, cap, m, n, D, Pl, rfl, _, hlc, _, hm, rfl, hx⟩
  · exact ⟨_, [], rfl, rowR_nil w⟩
  · have hlm : len ≤ m := by rw [hm]; split <;> omega
    obtain ⟨hw, hqq⟩ := wt_slice ht hq
    rw [List.length_map, List.length_range] at hw
    have hlen : len ≤ 10000000000000 := by
      have h1 : len * 16 ≤ (len + ((List.range (m - len)).map fun j => D (len + j)).length) * Try.prog.bytesOf e := Nat.mul_le_mul (Nat.le_add_right _ _) hby
      have h2 := reachBytes_lt
      omega
    rw [hz] at hx
    have each' : ∀ i, i < len → ∃ p : α × List Value, p.2.length = z ∧ R w p.2 p.1 ∧ w.cells? base (a.add (i * z)) z = some p.2 := by
      intro i hi
      obtain ⟨cs', hc, htr⟩ := hx i (by omega)
      obtain ⟨y, hy1, hy2⟩ := each n cs' (D i, Pl i) htr (hqq (D i) (List.mem_map.2 ⟨i, List.mem_range.2 hi, rfl⟩))
      exact ⟨(y, cs'), hy1, hy2, hc⟩
    have : Inhabited (α × List Value) := ⟨(dflt, [])⟩
    obtain ⟨f, hf⟩ := Go.Deep.choose_lt each'
    have plain : 0 < len → a = ⟨a.block, a.off, none⟩ := by
      intro h0
      obtain ⟨hl, _, hc⟩ := hf 0 h0
      obtain ⟨_, _, hcell⟩ := World.cells?_some hc
      have h00 := hcell 0 hz0
      rw [Nat.zero_mul] at h00
      obtain ⟨c, hcc⟩ : ∃ c, (f 0).2[0]? = some c := ⟨(f 0).2[0]'(by omega), List.getElem?_eq_getElem _⟩
      rw [hcc] at h00
      have e : (a.add 0).add 0 = a := by
        obtain ⟨b, o, sp⟩ := a
        cases sp <;> simp [Addr.add]
      rw [e] at h00
      exact plain_of_cell h00
    refine ⟨_, (List.range len).map fun i => (f i).1, rfl, a.block, a.off, ⟨some a, cap, by rw [List.length_map, List.length_range], by rw [List.length_map, List.length_range]; exact hlc, fun h0 => ?_⟩, by rw [List.length_map, List.length_range]; exact hlen, fun i y hy => ?_⟩
    · rw [List.length_map, List.length_range] at h0
      exact congrArg some (plain h0)
    · rw [List.getElem?_map] at hy
      cases hr : (List.range len)[i]? with
      | none => rw [hr] at hy; cases hy
      | some j =>
        rw [hr] at hy
        obtain ⟨hi, hj⟩ := List.getElem?_eq_some_iff.1 hr
        rw [List.length_range] at hi
        rw [List.getElem_range] at hj
        subst hj
        obtain rfl := Option.some.inj hy
        obtain ⟨hl, hR, hc⟩ := hf i hi
        obtain ⟨_, _, hcell⟩ := World.cells?_some hc
        refine ⟨(f i).2, hl, hR, fun j c hj => ?_⟩
        have hjz : j < z := by have := (List.getElem?_eq_some_iff.1 hj).1; omega
        have := hcell j hjz
        rw [plain (by omega), add_plain, add_plain, hj] at this
        exact this
theorem str_open (n : Nat) (cs : List Value) (x : DataW H × List MemPlace) (h : DataW.trod enc Try.prog w base spare held n 9 cs = some x) (hq : Wt 9 x.1) : ∃ y, cs.length = 1 ∧ strR w cs y := by
  obtain ⟨s, rfl, rfl, _⟩ := DataW.trod_string Try.underlying9 h
  have := wt_str hq
  rw [Array.length_toList] at this
  exact ⟨s, rfl, rfl, this⟩
theorem one_str {n : Nat} {v : Value} {x : DataW H × List MemPlace} (h : DataW.trod enc Try.prog w base spare held n 9 [v] = some x) (hq : Wt 9 x.1) : ∃ s : ByteArray, v = .string s ∧ s.size ≤ 140737488355328 := by
  obtain ⟨s, _, e, hz⟩ := str_open n [v] x h hq
  exact ⟨s, (List.cons.inj e).1, hz⟩
theorem one_int {n : Nat} {v : Value} {x : DataW H × List MemPlace} (h : DataW.trod enc Try.prog w base spare held n 3 [v] = some x) : ∃ k, v = .int .i64 k := by
  obtain ⟨k, e, _, _⟩ := DataW.trod_int Try.underlying3 h
  exact ⟨k, (List.cons.inj e).1⟩
theorem one_bool {n : Nat} {v : Value} {x : DataW H × List MemPlace} (h : DataW.trod enc Try.prog w base spare held n 4 [v] = some x) : ∃ k, v = .bool k := by
  obtain ⟨k, e, _⟩ := DataW.trod_bool Try.underlying4 h
  exact ⟨k, (List.cons.inj e).1⟩
theorem two_list {α : Type} {l : List α} (h : l.length = 2) : ∃ a b, l = [a, b] := by
  match l, h with
  | [a, b], _ => exact ⟨a, b, rfl⟩
theorem three_list {α : Type} {l : List α} (h : l.length = 3) : ∃ a b c, l = [a, b, c] := by
  match l, h with
  | [a, b, c], _ => exact ⟨a, b, c, rfl⟩
theorem seven_list {α : Type} {l : List α} (h : l.length = 7) : ∃ a b c d e f g, l = [a, b, c, d, e, f, g] := by
  match l, h with
  | [a, b, c, d, e, f, g], _ => exact ⟨a, b, c, d, e, f, g, rfl⟩
theorem c1s : Try.prog.cellsOf 9 = 1 := by kernel_rfl
theorem c1i : Try.prog.cellsOf 3 = 1 := by kernel_rfl
theorem c1b : Try.prog.cellsOf 4 = 1 := by kernel_rfl
theorem c1o : Try.prog.cellsOf 161 = 1 := by kernel_rfl
theorem c1c : Try.prog.cellsOf 59 = 1 := by kernel_rfl
theorem c1e : Try.prog.cellsOf 157 = 1 := by kernel_rfl
theorem on_open (n : Nat) (cs : List Value) (x : DataW H × List MemPlace) (h : DataW.trod enc Try.prog w base spare held n 165 cs = some x) (hq : Wt 165 x.1) : ∃ y, cs.length = 2 ∧ onR w cs y := by
  obtain ⟨xs, n', _, rfl, hl, hlen, hf⟩ := DataW.trod_struct Try.underlying165 h
  obtain ⟨c0, c1, rfl⟩ := two_list (hl.trans (show Try.prog.cellsOf 165 = 2 by kernel_rfl))
  obtain ⟨y0, y1, rfl⟩ := two_list (l := xs) (hlen.trans rfl)
  have f0 : DataW.trod enc Try.prog w base spare held n' 9 (([c0, c1].drop 0).take (Try.prog.cellsOf 9)) = some y0 := hf 0 _ rfl
  rw [c1s] at f0
  have f1 : DataW.trod enc Try.prog w base spare held n' 3 (([c0, c1].drop 1).take (Try.prog.cellsOf 3)) = some y1 := hf 1 _ rfl
  rw [c1i] at f1
  have q0 := wt_struct Try.underlying165 hq (j := 0) rfl rfl
  obtain ⟨s, rfl, hs⟩ := one_str f0 q0
  obtain ⟨k, rfl⟩ := one_int f1
  exact ⟨(s, k), rfl, rfl, hs⟩
theorem cond_open (n : Nat) (cs : List Value) (x : DataW H × List MemPlace) (h : DataW.trod enc Try.prog w base spare held n 102 cs = some x) (hq : Wt 102 x.1) : ∃ y, cs.length = 3 ∧ condR w cs y := by
  obtain ⟨xs, n', _, rfl, hl, hlen, hf⟩ := DataW.trod_struct Try.underlying102 h
  obtain ⟨c0, c1, c2, rfl⟩ := three_list (hl.trans (show Try.prog.cellsOf 102 = 3 by kernel_rfl))
  obtain ⟨y0, y1, y2, rfl⟩ := three_list (l := xs) (hlen.trans rfl)
  have f0 : DataW.trod enc Try.prog w base spare held n' 9 (([c0, c1, c2].drop 0).take (Try.prog.cellsOf 9)) = some y0 := hf 0 _ rfl
  rw [c1s] at f0
  have f1 : DataW.trod enc Try.prog w base spare held n' 9 (([c0, c1, c2].drop 1).take (Try.prog.cellsOf 9)) = some y1 := hf 1 _ rfl
  rw [c1s] at f1
  have f2 : DataW.trod enc Try.prog w base spare held n' 3 (([c0, c1, c2].drop 2).take (Try.prog.cellsOf 3)) = some y2 := hf 2 _ rfl
  rw [c1i] at f2
  have q0 := wt_struct Try.underlying102 hq (j := 0) rfl rfl
  have q1 := wt_struct Try.underlying102 hq (j := 1) rfl rfl
  obtain ⟨s, rfl, hs⟩ := one_str f0 q0
  obtain ⟨s', rfl, hs'⟩ := one_str f1 q1
  obtain ⟨k, rfl⟩ := one_int f2
  exact ⟨(s, s', k), rfl, rfl, hs, hs'⟩
theorem sent_open (n : Nat) (cs : List Value) (x : DataW H × List MemPlace) (h : DataW.trod enc Try.prog w base spare held n 163 cs = some x) (hq : Wt 163 x.1) : ∃ y, cs.length = 2 ∧ sentR w cs y := by
  obtain ⟨xs, n', _, rfl, hl, hlen, hf⟩ := DataW.trod_struct Try.underlying163 h
  obtain ⟨c0, c1, rfl⟩ := two_list (hl.trans (show Try.prog.cellsOf 163 = 2 by kernel_rfl))
  obtain ⟨y0, y1, rfl⟩ := two_list (l := xs) (hlen.trans rfl)
  have f0 : DataW.trod enc Try.prog w base spare held n' 161 (([c0, c1].drop 0).take (Try.prog.cellsOf 161)) = some y0 := hf 0 _ rfl
  rw [c1o] at f0
  have f1 : DataW.trod enc Try.prog w base spare held n' 59 (([c0, c1].drop 1).take (Try.prog.cellsOf 59)) = some y1 := hf 1 _ rfl
  rw [c1c] at f1
  have q0 := wt_struct Try.underlying163 hq (j := 0) rfl rfl
  have q1 := wt_struct Try.underlying163 hq (j := 1) rfl rfl
  obtain ⟨v1, l1, e1, r1⟩ := row_open (⟨#[]⟩, 0) Try.underlying161 (show Try.prog.cellsOf 165 = 2 by kernel_rfl) (by omega) (of_decide_eq_true (by kernel_rfl)) on_open f0 q0
  obtain ⟨v2, l2, e2, r2⟩ := row_open (⟨#[]⟩, ⟨#[]⟩, 0) Try.underlying59 (show Try.prog.cellsOf 102 = 3 by kernel_rfl) (by omega) (of_decide_eq_true (by kernel_rfl)) cond_open f1 q1
  have e1' : c0 = v1 := (List.cons.inj e1).1
  have e2' : c1 = v2 := (List.cons.inj e2).1
  exact ⟨(l1, l2), rfl, c0, c1, rfl, by rw [e1']; exact r1, by rw [e2']; exact r2⟩
theorem item_open (n : Nat) (cs : List Value) (x : DataW H × List MemPlace) (h : DataW.trod enc Try.prog w base spare held n 159 cs = some x) (hq : Wt 159 x.1) : ∃ y, cs.length = 7 ∧ itemR w cs y := by
  obtain ⟨xs, n', _, rfl, hl, hlen, hf⟩ := DataW.trod_struct Try.underlying159 h
  obtain ⟨c0, c1, c2, c3, c4, c5, c6, rfl⟩ := seven_list (hl.trans (show Try.prog.cellsOf 159 = 7 by kernel_rfl))
  obtain ⟨y0, y1, y2, y3, y4, y5, y6, rfl⟩ := seven_list (l := xs) (hlen.trans rfl)
  have f0 : DataW.trod enc Try.prog w base spare held n' 9 (([c0, c1, c2, c3, c4, c5, c6].drop 0).take (Try.prog.cellsOf 9)) = some y0 := hf 0 _ rfl
  rw [c1s] at f0
  have f1 : DataW.trod enc Try.prog w base spare held n' 3 (([c0, c1, c2, c3, c4, c5, c6].drop 1).take (Try.prog.cellsOf 3)) = some y1 := hf 1 _ rfl
  rw [c1i] at f1
  have f2 : DataW.trod enc Try.prog w base spare held n' 9 (([c0, c1, c2, c3, c4, c5, c6].drop 2).take (Try.prog.cellsOf 9)) = some y2 := hf 2 _ rfl
  rw [c1s] at f2
  have f3 : DataW.trod enc Try.prog w base spare held n' 4 (([c0, c1, c2, c3, c4, c5, c6].drop 3).take (Try.prog.cellsOf 4)) = some y3 := hf 3 _ rfl
  rw [c1b] at f3
  have f4 : DataW.trod enc Try.prog w base spare held n' 3 (([c0, c1, c2, c3, c4, c5, c6].drop 4).take (Try.prog.cellsOf 3)) = some y4 := hf 4 _ rfl
  rw [c1i] at f4
  have f5 : DataW.trod enc Try.prog w base spare held n' 157 (([c0, c1, c2, c3, c4, c5, c6].drop 5).take (Try.prog.cellsOf 157)) = some y5 := hf 5 _ rfl
  rw [c1e] at f5
  have f6 : DataW.trod enc Try.prog w base spare held n' 157 (([c0, c1, c2, c3, c4, c5, c6].drop 6).take (Try.prog.cellsOf 157)) = some y6 := hf 6 _ rfl
  rw [c1e] at f6
  have q0 := wt_struct Try.underlying159 hq (j := 0) rfl rfl
  have q2 := wt_struct Try.underlying159 hq (j := 2) rfl rfl
  have q5 := wt_struct Try.underlying159 hq (j := 5) rfl rfl
  have q6 := wt_struct Try.underlying159 hq (j := 6) rfl rfl
  obtain ⟨s0, rfl, hs0⟩ := one_str f0 q0
  obtain ⟨k1, rfl⟩ := one_int f1
  obtain ⟨s2, rfl, hs2⟩ := one_str f2 q2
  obtain ⟨b3, rfl⟩ := one_bool f3
  obtain ⟨k4, rfl⟩ := one_int f4
  obtain ⟨v5, l5, e5, r5⟩ := row_open ([], []) Try.underlying157 (show Try.prog.cellsOf 163 = 2 by kernel_rfl) (by omega) (of_decide_eq_true (by kernel_rfl)) sent_open f5 q5
  obtain ⟨v6, l6, e6, r6⟩ := row_open ([], []) Try.underlying157 (show Try.prog.cellsOf 163 = 2 by kernel_rfl) (by omega) (of_decide_eq_true (by kernel_rfl)) sent_open f6 q6
  have e5' : c5 = v5 := (List.cons.inj e5).1
  have e6' : c6 = v6 := (List.cons.inj e6).1
  exact ⟨⟨s0, k1, s2, b3, k4, l5, l6⟩, rfl, c5, c6, rfl, ⟨hs0, hs2⟩, by rw [e5']; exact r5, by rw [e6']; exact r6⟩
end OpenedM
end Go.Proofs.Ytkjekohncfhbiaa
