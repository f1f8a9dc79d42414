/-
  An element among a law's arguments, opened: its cells hold a tree.
-/
import Derived.Test.YtimecocegnnjjaaDoorXOpen
import Derived.Deep.Slices
set_option linter.unusedSimpArgs false
set_option linter.unusedVariables false
namespace Go.Proofs.YtimecocegnnjjaaDoor
open Go.RowKit
theorem four_list {cs : List Value} (h : cs.length = 4) : ∃ c0 c1 c2 c3, cs = [c0, c1, c2, c3] := by
  match cs, h with
  | [c0, c1, c2, c3], _ => exact ⟨c0, c1, c2, c3, rfl⟩
/-- Kids whose cells are trees, gathered: the row of them. -/
theorem kids_gather {w : World} {base : Nat} {n : Nat} {a : Addr} {len cap : Nat} (hl : len ≤ 1000000000000)
    (each : ∀ i, i < len → ∃ d0 d1 d2 d3 K, w.cells? base (a.add (i * 4)) 4 = some [d0, d1, d2, d3] ∧ EIn w n d0 d1 d2 d3 K) :
    ∃ (ks : List Tr) (b o : Nat), Row (.slice (some a) len cap) ks.length b o ∧ ks.length ≤ 1000000000000 ∧ ∀ i K, ks[i]? = some K → ∃ d0 d1 d2 d3, Four w b (o + 4 * i) d0 d1 d2 d3 ∧ EIn w n d0 d1 d2 d3 K := by
  have each' : ∀ i, ∃ K : Tr, i < len → ∃ d0 d1 d2 d3, w.cells? base (a.add (i * 4)) 4 = some [d0, d1, d2, d3] ∧ EIn w n d0 d1 d2 d3 K := by
    intro i
    by_cases hi : i < len
    · obtain ⟨d0, d1, d2, d3, K, h1, h2⟩ := each i hi
      exact ⟨K, fun _ => ⟨d0, d1, d2, d3, h1, h2⟩⟩
    · exact ⟨.nil, fun h => absurd h hi⟩
  obtain ⟨f, hf⟩ := Classical.axiomOfChoice each'
  have plain : 0 < len → a = ⟨a.block, a.off, none⟩ := by
    intro h0
    obtain ⟨d0, d1, d2, d3, hc, _⟩ := hf 0 h0
    obtain ⟨_, _, hcell⟩ := World.cells?_some hc
    have h00 := hcell 0 (by omega)
    have e : (a.add (0 * 4)).add 0 = a := by
      obtain ⟨b, o, sp⟩ := a
      cases sp <;> simp [Addr.add]
    rw [e] at h00
    exact plain_of_cell (show w.cell? a = some d0 from h00)
  refine ⟨(List.range len).map f, a.block, a.off, ⟨some a, cap, by rw [List.length_map, List.length_range], fun h0 => ?_⟩, by rw [List.length_map, List.length_range]; exact hl, fun i K hK => ?_⟩
  · rw [List.length_map, List.length_range] at h0
    exact congrArg some (plain h0)
  · rw [List.getElem?_map] at hK
    cases hr : (List.range len)[i]? with
    | none => rw [hr] at hK; cases hK
    | some j =>
      rw [hr] at hK
      obtain ⟨hi, hj⟩ := List.getElem?_eq_some_iff.1 hr
      rw [List.length_range] at hi
      rw [List.getElem_range] at hj
      subst hj
      obtain rfl := Option.some.inj hK
      obtain ⟨d0, d1, d2, d3, hc, he⟩ := hf i hi
      obtain ⟨_, _, hcell⟩ := World.cells?_some hc
      have hpl := plain (by omega)
      have g : ∀ j, j < 4 → w.cell? ⟨a.block, a.off + 4 * i + j, none⟩ = [d0, d1, d2, d3][j]? := by
        intro j hj
        have := hcell j hj
        rw [hpl, add_plain, add_plain] at this
        rw [Nat.mul_comm 4 i]
        exact this
      exact ⟨d0, d1, d2, d3, ⟨g 0 (by omega), g 1 (by omega), g 2 (by omega), g 3 (by omega)⟩, he⟩
theorem elem_open {H : Type} {enc : TypeId × Value → H} {w : World} {base : Nat} {spare : Nat → Bool} {held : Bool} {Q : TypeId → DataW H → Prop} (hQ : Goes H Q) :
    ∀ (N fuel : Nat) (cs : List Value) (x : DataW H × List MemPlace), SizeOf.sizeOf x.1 ≤ N → DataW.trod enc Tryd.prog w base spare held fuel 25 cs = some x → Q 25 x.1 →
      ∃ c0 c1 c2 c3 T, cs = [c0, c1, c2, c3] ∧ EIn w N c0 c1 c2 c3 T := by
  intro N
  induction N with
  | zero =>
    intro fuel cs x hs h hq
    exfalso
    obtain ⟨d, pl⟩ := x
    cases d <;> simp at hs
  | succ N ih =>
    intro fuel cs x hs h hq
    obtain ⟨y0, y1, y2, y3, n, rfl, hlen, h0, h1, h2, h3⟩ := Go.Joins.trod_struct4 Tryd.underlying25 h
    obtain ⟨c0, c1, c2, c3, rfl⟩ := four_list (hlen.trans (by kernel_rfl))
    obtain ⟨q0, q1, q2⟩ := hQ.elem _ _ _ _ hq
    rw [show Tryd.prog.cellsOf 9 = 1 by kernel_rfl] at h0
    rw [show Tryd.prog.cellsOf 22 = 1 by kernel_rfl] at h1
    rw [show Tryd.prog.cellsOf 23 = 1 by kernel_rfl] at h2
    rw [show Tryd.prog.cellsOf 3 = 1 by kernel_rfl] at h3
    obtain ⟨nm, e0, d0, _⟩ := DataW.trod_string Tryd.underlying9 h0
    obtain ⟨p, e3, d3, _⟩ := DataW.trod_int Tryd.underlying3 h3
    obtain ⟨v, l, e1, ha⟩ := attrs_open hQ h1 q1
    have e0' : c0 = .string nm := by injection e0
    have e3' : c3 = .int .i64 p := by injection e3
    have e1' : c1 = v := by injection e1
    rw [congrArg Prod.fst d0] at q0
    have hnm := hQ.str _ q0
    rw [Array.length_toList] at hnm
    have hk : ∃ (ks : List Tr) (b o : Nat), Row c2 ks.length b o ∧ ks.length ≤ 1000000000000 ∧ ∀ i K, ks[i]? = some K → ∃ d0 d1 d2 d3, Four w b (o + 4 * i) d0 d1 d2 d3 ∧ EIn w N d0 d1 d2 d3 K := by
      rcases Go.Deep.open_slice Tryd.underlying23 h2 with ⟨e2, _⟩ | ⟨a, len, cap, m, n', D, Pl, e2, _, hlc, _, hm, hy, hx⟩
      · have e2' : c2 = .slice none 0 0 := by injection e2
        exact ⟨[], 0, 0, ⟨none, 0, e2', fun h => absurd h (by decide)⟩, by simp, fun i K hK => by simp at hK⟩
      · have e2' : c2 = .slice (some a) len cap := by injection e2
        have hlm : len ≤ m := by rw [hm]; split <;> omega
        have hy1 : y2.1 = _ := congrArg Prod.fst hy
        rw [hy1] at q2 hs
        obtain ⟨hl, hqq⟩ := hQ.kids _ _ q2
        rw [List.length_map, List.length_range] at hl
        rw [e2']
        refine kids_gather (base := base) hl fun i hi => ?_
        obtain ⟨cs', hc, ht⟩ := hx i (by omega)
        rw [show Tryd.prog.cellsOf 25 = 4 by kernel_rfl] at hc
        have hmem : D i ∈ (List.range len).map D := List.mem_map.2 ⟨i, List.mem_range.2 hi, rfl⟩
        have hsz := List.sizeOf_lt_of_mem hmem
        obtain ⟨d0, d1, d2, d3, T, rfl, he⟩ := ih n' cs' (D i, Pl i) (by simp at hs; show SizeOf.sizeOf (D i) ≤ N; omega) ht (hqq _ hmem)
        exact ⟨d0, d1, d2, d3, T, hc, he⟩
    obtain ⟨ks, b, o, hr, hkl, hkk⟩ := hk
    exact ⟨c0, c1, c2, c3, _, rfl, nm, p, l, ks, e0', e3', rfl, hnm, by rw [e1']; exact ha, b, o, hr, hkl, hkk⟩
end Go.Proofs.YtimecocegnnjjaaDoor
