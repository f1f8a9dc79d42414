/-
  plan, with some items.
-/
import Derived.Test.YtfbnlplafkangabMBuild
import Derived.Deep.Slices
set_option linter.unusedSimpArgs false
set_option linter.unusedVariables false
namespace Go.Proofs.Ytfbnlplafkangab
open Go.RowKit
theorem itemR_turn {w w' : World} {cs : List Value} {x : Mp.Item} (h : itemR w cs x) (hc : ∀ a c, w.cell? a = some c → w'.cell? a = some c) : itemR w' cs x := by
  obtain ⟨v1, v2, e, hz, h1, h2⟩ := h
  exact ⟨v1, v2, e, hz, srow_turn h1 hc, srow_turn h2 hc⟩
theorem itemR_one {w : World} {cs : List Value} {x : Mp.Item} (h : itemR w cs x) : cs.length = 7 ∧ ∀ u ∈ cs, u.oneCell' = true := by
  obtain ⟨v1, v2, rfl, _, h1, h2⟩ := h
  obtain ⟨_, _, rfl⟩ := row_val h1
  obtain ⟨_, _, rfl⟩ := row_val h2
  refine ⟨rfl, fun u hu => ?_⟩
  simp only [List.mem_cons, List.mem_nil_iff, or_false] at hu
  rcases hu with rfl | rfl | rfl | rfl | rfl | rfl | rfl <;> rfl
theorem flatten_inv {z : Nat} : ∀ {CS : List (List Value)} {j : Nat} {u : Value}, (∀ x ∈ CS, x.length = z) → CS.flatten[j]? = some u → ∃ i t cs, j = i * z + t ∧ CS[i]? = some cs ∧ cs[t]? = some u
  | [], j, u, _, h => by simp at h
  | a :: CS, j, u, hz, h => by
    have ha := hz a List.mem_cons_self
    rw [List.flatten_cons] at h
    rcases Nat.lt_or_ge j a.length with hj | hj
    · rw [List.getElem?_append_left hj] at h
      exact ⟨0, j, a, by omega, rfl, h⟩
    · rw [List.getElem?_append_right hj] at h
      obtain ⟨i, t, cs, e, h1, h2⟩ := flatten_inv (fun x hx => hz x (List.mem_cons_of_mem _ hx)) h
      exact ⟨i + 1, t, cs, by rw [Nat.add_mul]; omega, by rw [List.getElem?_cons_succ]; exact h1, h2⟩
theorem row_cells {α : Type} {z : Nat} {R : World → List Value → α → Prop} {w : World} {b o m c : Nat} {L : List α} (h : RowR z R w (.slice (some ⟨b, o, none⟩) m c) L) (hm : 0 < m) :
    ∃ CS : List (List Value), CS.length = L.length ∧ (∀ x ∈ CS, x.length = z) ∧ (∀ (i : Nat) x cs, L[i]? = some x → CS[i]? = some cs → R w cs x) ∧ ∀ (j : Nat) u, CS.flatten[j]? = some u → w.cell? ⟨b, o + j, none⟩ = some u := by
  obtain ⟨b', o', ⟨a1, c1, e, _, ha⟩, _, h3⟩ := h
  simp only [Value.slice.injEq] at e
  obtain ⟨e1, e2, _⟩ := e
  have hab := ha (by omega)
  rw [← e1] at hab
  simp only [Option.some.injEq, Addr.mk.injEq] at hab
  obtain ⟨rfl, rfl, _⟩ := hab
  have each' : ∀ i, i < L.length → ∃ cs : List Value, cs.length = z ∧ (∀ x, L[i]? = some x → R w cs x) ∧ ∀ (j : Nat) c, cs[j]? = some c → w.cell? ⟨b, o + i * z + j, none⟩ = some c := by
    intro i hi
    obtain ⟨cs, k1, k2, k3⟩ := h3 i L[i] (List.getElem?_eq_getElem hi)
    refine ⟨cs, k1, fun x hx => ?_, k3⟩
    rw [List.getElem?_eq_getElem hi] at hx
    cases hx
    exact k2
  obtain ⟨f, hf⟩ := Go.Deep.choose_lt each'
  have get : ∀ (i : Nat) cs, ((List.range L.length).map f)[i]? = some cs → i < L.length ∧ cs = f i := by
    intro i cs hcs
    have hi := (List.getElem?_eq_some_iff.1 hcs).1
    rw [List.length_map, List.length_range] at hi
    rw [List.getElem?_map, List.getElem?_range hi] at hcs
    exact ⟨hi, (Option.some.inj hcs).symm⟩
  have hz : ∀ x ∈ (List.range L.length).map f, x.length = z := by
    intro x hx
    obtain ⟨i, hi, rfl⟩ := List.mem_map.1 hx
    exact (hf i (List.mem_range.1 hi)).1
  refine ⟨(List.range L.length).map f, by rw [List.length_map, List.length_range], hz, fun i x cs hx hcs => ?_, fun j u hu => ?_⟩
  · obtain ⟨hi, rfl⟩ := get i cs hcs
    exact (hf i hi).2.1 x hx
  · obtain ⟨i, t, cs, rfl, h1, h2⟩ := flatten_inv hz hu
    obtain ⟨hi, rfl⟩ := get i cs h1
    have := (hf i hi).2.2 t u h2
    rwa [Nat.add_assoc] at this
/-- What plan answers. -/
def PPost (L : List Mp.Item) (w : World) (e : Ending) (w' : World) : Prop := ∃ fa fc ia ic, e = .returned (.agg #[.slice fa 1 fc, .slice ia (L.length + 1) ic]) ∧ ModelAt w' fa fc ia ic ⟨fF, pI :: L⟩ ∧ Below w.heap.size w w'
set_option maxHeartbeats 4000000 in
theorem planD (w : World) (L : List Mp.Item) (b o m c : Nat) (hL : L.length = m) (hm : 0 < m) (hm2 : m ≤ 1000) (h : IRow w (.slice (some ⟨b, o, none⟩) m c) L) :
    Calls Try.prog 12 #[.slice (some ⟨b, o, none⟩) m c] w (PPost L w) := by
  obtain ⟨CS, hcl, hcz, hcr, hcc⟩ := row_cells h hm
  have HCR := hideT hcr
  have HCL := hideT hcl
  have HLL := hideT hL
  obtain ⟨i0, hi0, hz0, hz1, hz2⟩ := info_parts infoI
  have hone : ∀ u ∈ CS.flatten, u.oneCell' = true := by
    intro u hu
    obtain ⟨cs, hcs, hu'⟩ := List.mem_flatten.1 hu
    obtain ⟨i, hi⟩ := List.getElem?_of_mem hcs
    have hil := (List.getElem?_eq_some_iff.1 hi).1
    exact (itemR_one (hcr i L[i] cs (List.getElem?_eq_getElem (by omega)) hi)).2 u hu'
  have hfl : CS.flatten.length = m * 7 := by
    have : ∀ (X : List (List Value)), (∀ x ∈ X, x.length = 7) → X.flatten.length = X.length * 7 := by
      intro X
      induction X with
      | nil => intro _; rfl
      | cons a X ih => intro hx; rw [List.flatten_cons, List.length_append, ih (fun x h => hx x (List.mem_cons_of_mem _ h)), hx a List.mem_cons_self, List.length_cons]; omega
    rw [this CS hcz, hcl, hL]
  have HFL := hideT hfl
  have HONE := hideT hone
  have HCC := hideT hcc
  have HCZ := hideT hcz
  obtain ⟨N, hN⟩ : ∃ N, N = CS.flatten := ⟨_, rfl⟩
  have HNN := hideT hN
  clear hcr hcl hL hone hfl hcc hcz h hN
  obtain ⟨W1, hW1⟩ : ∃ W1, w.alloc (.cells #[.slice none 0 0, .slice none 0 0] 25) = W1 := ⟨_, rfl⟩
  obtain ⟨B1, L1, z1⟩ := of_alloc hW1
  obtain ⟨W2, hW2⟩ : ∃ W2, W1.alloc (.cells #[.string ⟨#[102]⟩] 9) = W2 := ⟨_, rfl⟩
  obtain ⟨B2, L2, z2⟩ := of_alloc hW2
  obtain ⟨W3, hW3⟩ : ∃ W3, W2.alloc (.cells #[.string ⟨#[112]⟩, .int .i64 1, .string ⟨#[]⟩, .bool false, .int .i64 0, .slice none 0 0, .slice none 0 0] 29) = W3 := ⟨_, rfl⟩
  obtain ⟨B3, L3, z3⟩ := of_alloc hW3
  rw [z1] at L2 z2
  rw [z2] at L3 z3
  have BT : Hid (Below w.heap.size w W3) := B1.trans ((B2.trans (B3.mono B2.size)).mono B1.size)
  have HL1 : Hid (Lies W3 w.heap.size 25 #[.slice none 0 0, .slice none 0 0]) := (L1.below B2).below B3
  have HL2 : Hid (Lies W3 (w.heap.size + 1) 9 #[.string ⟨#[102]⟩]) := L2.below B3
  have HO : Hid (W3.ownsRow (w.heap.size + 1) 29 7 (.slice (some ⟨w.heap.size + 1 + 1, 0, none⟩) 1 1) 1 (flatI [pI])) := own_of_lies (n := 1) (z := 7) L3 (by omega) rfl (by decide)
  have hZ3 : W3.heap.size = w.heap.size + 3 := by omega
  have HZ3 := hideT hZ3
  clear L1 L2 L3 B1 B2 B3 z1 z2 z3 hZ3
  subst hW3
  subst hW2
  subst hW1
  go_enter Try.func12, Try.ntmps12
  go_wp2_with (first | (at_builtin; refine wpList_append_lies _ (by rfl) _ _ _ (by rfl) (w.heap.size + 1) 29 i0 _ 7 104 Try.underlying23 hi0 hz0 hz1 hz2 rfl (by omega) (.slice (some ⟨w.heap.size + 1 + 1, 0, none⟩) 1 1) 1 (flatI [pI]) (by rfl) HO.out ⟨b, o, none⟩ m c CS.flatten (by rfl) HFL.out (fun j u hu => by rw [show (⟨b, o, none⟩ : Addr).add j = ⟨b, o + j, none⟩ by unfold Addr.add; split <;> simp_all]; exact below_cell BT.out _ _ (HCC.out j u hu)) HONE.out hm (by unfold maxLen; omega) (by omega) (by have := HZ3.out; omega) (w.heap.size + 3) HZ3.out ?_; intro gb cap2 w3 hown hgrow hat hlt3; have L4 := HL1.out.keep (Keep.grown hgrow) (own_ne HO.out HL1.out (by decide)); have y0 : w3.cell? ⟨w.heap.size, 0, none⟩ = some (.slice none 0 0) := L4.cell 0; have y1 : w3.cell? ⟨w.heap.size, 1, none⟩ = some (.slice none 0 0) := L4.cell 1; have y2 : w3.frozen? ⟨w.heap.size, 0, none⟩ = false := L4.free 0; have y3 : w3.frozen? ⟨w.heap.size, 1, none⟩ = false := L4.free 1) | fail)
  have bX : Below w.heap.size w w3 := Keep.below BT.out (Keep.grown hgrow) (fun i hi e => by have := (own_lt HO.out e).2; omega)
  have L2 : Lies w3 (w.heap.size + 1) 9 #[.string ⟨#[102]⟩] := HL2.out.keep (Keep.grown hgrow) (own_ne HO.out HL2.out (by decide))
  have hX1 : Lies (w3.setCell ⟨w.heap.size, 0, none⟩ (.slice (some ⟨w.heap.size + 1, 0, none⟩) 1 1)) w.heap.size 25 #[.slice (some ⟨w.heap.size + 1, 0, none⟩) 1 1, .slice none 0 0] := L4.set 0 _
  obtain ⟨X, hX⟩ : ∃ X, (w3.setCell ⟨w.heap.size, 0, none⟩ (.slice (some ⟨w.heap.size + 1, 0, none⟩) 1 1)).setCell ⟨w.heap.size, 1, none⟩ (.slice (some ⟨gb, 0, none⟩) (1 + m) cap2) = X := ⟨_, rfl⟩
  have BX : Below w.heap.size w X := by rw [← hX]; exact (bX.setCell (Nat.le_refl _) _).setCell (Nat.le_refl _) _
  have LX : Lies X w.heap.size 25 #[.slice (some ⟨w.heap.size + 1, 0, none⟩) 1 1, .slice (some ⟨gb, 0, none⟩) (1 + m) cap2] := by rw [← hX]; exact hX1.set 1 _
  have LF : Lies X (w.heap.size + 1) 9 #[.string ⟨#[102]⟩] := by rw [← hX]; exact (L2.off _ _ (by simp)).off _ _ (by simp)
  have OX : X.ownsRow (w.heap.size + 1) 29 7 (.slice (some ⟨gb, 0, none⟩) (1 + m) cap2) (1 + m) (flatI [pI] ++ CS.flatten) := by rw [← hX]; exact own_off (own_off hown L4 (by decide) _ _) hX1 (by decide) _ _
  rw [hX]
  have r0 : X.cell? ⟨w.heap.size, 0, none⟩ = some (.slice (some ⟨w.heap.size + 1, 0, none⟩) 1 1) := LX.cell 0
  have r1 : X.cell? ⟨w.heap.size, 1, none⟩ = some (.slice (some ⟨gb, 0, none⟩) (1 + m) cap2) := LX.cell 1
  have hlen : 1 + m = L.length + 1 := by have := HLL.out; omega
  refine bodyPost_ret (v := .agg #[.slice (some ⟨w.heap.size + 1, 0, none⟩) 1 1, .slice (some ⟨gb, 0, none⟩) (1 + m) cap2]) (by simp [results, Try.results12, go_sem, r0, r1]) rfl ⟨_, _, _, _, by rw [hlen], ⟨?_, ?_⟩, BX⟩
  · exact frow_of_own (H := 0) (own_of_lies (n := 1) (z := 1) LF (Nat.zero_le _) rfl (by decide)) rfl (by decide) (fun s hs => by rw [List.mem_singleton.1 hs]; decide)
  · have OX' : X.ownsRow (w.heap.size + 1) 29 7 (.slice (some ⟨gb, 0, none⟩) (pI :: L).length cap2) (pI :: L).length (itemC pI nilS nilS :: CS).flatten := by
      rw [show (pI :: L).length = 1 + m by rw [List.length_cons, hlen]]
      exact OX
    refine rowR_of_own OX' (by rw [List.length_cons]; omega) (by rw [List.length_cons, List.length_cons, HCL.out]) (fun x hx => ?_) (fun i x cs hx hcs => ?_)
    · rcases List.mem_cons.1 hx with rfl | hx
      · rfl
      · exact HCZ.out x hx
    · cases i with
      | zero =>
        simp only [List.getElem?_cons_zero, Option.some.injEq] at hx hcs
        subst hx
        subst hcs
        exact ⟨nilS, nilS, rfl, ⟨by decide, by decide⟩, rowR_nil X, rowR_nil X⟩
      | succ i =>
        rw [List.getElem?_cons_succ] at hx hcs
        exact itemR_turn (HCR.out i x cs hx hcs) (below_cell BX)
end Go.Proofs.Ytfbnlplafkangab
