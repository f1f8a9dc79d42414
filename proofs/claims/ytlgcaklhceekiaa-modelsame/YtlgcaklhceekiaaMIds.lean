/-
  The items' own names.
-/
import Derived.Test.YtlgcaklhceekiaaMRows
set_option linter.unusedSimpArgs false
set_option linter.unusedVariables false
namespace Go.Proofs.Ytlgcaklhceekiaa
open Go.RowKit
set_option maxRecDepth 100000
set_option maxHeartbeats 1000000 in
theorem idsD (w : World) (ao : Option Addr) (n cap : Nat) (l : List Mp.Item) (h : IRow w (.slice ao n cap) l) :
    Calls Try.prog 35 #[.slice ao n cap] w fun e w' => e = .returned (.bool (Mp.idsB l)) ∧ Below w.heap.size w w' := by
  obtain ⟨hn, hl, hcap, b, o, ha, hc⟩ := irow_at h
  have HN := hideT hn
  have HC := hideT hc
  have HA := hideT ha
  clear hn hc ha h
  obtain ⟨i0, hi0, hz0, hz1, hz2⟩ := info_parts infoS
  by_cases h1 : n < 1
  · have HF : Hid (Mp.idsB l = false) := by show _ = _; unfold Mp.idsB; rw [decide_eq_false (by have := HN.out; omega)]; rfl
    go_enter Try.func35, Try.ntmps35
    go_wp2_with fail
    go_ret
    exact ⟨ret_b HF.out.symm, Below.refl _ _⟩
  by_cases h2 : 16 < n
  · have HF : Hid (Mp.idsB l = false) := by show _ = _; unfold Mp.idsB; rw [decide_eq_false (p := l.length ≤ 16) (by have := HN.out; omega)]; simp
    go_enter Try.func35, Try.ntmps35
    go_wp2_with fail
    go_ret
    exact ⟨ret_b HF.out.symm, Below.refl _ _⟩
  have HF : Hid (Mp.idsB l = Mp.namesF [] (l.map Mp.Item.id)) := by show _ = _; unfold Mp.idsB; rw [decide_eq_true (p := 1 ≤ l.length) (by have := HN.out; omega), decide_eq_true (p := l.length ≤ 16) (by have := HN.out; omega)]; rfl
  obtain rfl := HA.out (by omega)
  go_enter Try.func35, Try.ntmps35
  go_wp2_with fail
  go_loopw [3, 16] (fun x i wr => ∃ k : Nat, k ≤ n ∧ i = .int .i64 k ∧ Hid (Below w.heap.size w wr) ∧ Hid (wr.ownsRow w.heap.size 9 1 x k (((l.take k).map Mp.Item.id).map Value.string))) (fun _ i _ => n - (intOf i).toNat)
  case atStart => exact ⟨0, by omega, rfl, Below.refl _ _, World.ownsRow_nil _ _ _ _⟩
  case round =>
    obtain ⟨k, hk, rfl, HW, O1⟩ := hrel
    obtain ⟨oad, ocap, ho⟩ := slice_form O1.out
    subst ho
    by_cases hlt : k < n
    · obtain ⟨x, hx⟩ := Mp.at_lt (l := l) (k := k) (by have := HN.out; omega)
      obtain ⟨a5, c5, a6, c6, I0⟩ := HC.out k _ hx
      have I1 := I0.turn (below_cell HW.out)
      have HX := hideT hx
      have d0 := I1.c0
      have d1 := I1.c1
      have d2 := I1.c2
      have d3 := I1.c3
      have d4 := I1.c4
      have d5 := I1.c5
      have d6 := I1.c6
      clear hx I0 I1
      go_wp2_with (first | (at_builtin; refine wpList_append_lies _ (by rfl) _ _ _ (by rfl) w.heap.size 9 i0 _ 1 16 Try.underlying22 hi0 hz0 hz1 hz2 rfl (by omega) (.slice oad k ocap) k (((l.take k).map Mp.Item.id).map Value.string) (by rfl) ((O1.out.alloc _).alloc _) ⟨wr.heap.size + 1, 0, none⟩ 1 1 [.string x.id] (by rfl) (by rfl) (news2 wr _ #[.string x.id] 9) (by simp [Value.oneCell']) (by omega) (by unfold maxLen; omega) (by omega) (by have := HW.out.size; simp; omega) (wr.heap.size + 2) (by simp) ?_; intro gb cap2 w3 hown hgrow hat hlt3) | fail)
      have bA := ((Below.refl wr.heap.size wr).alloc (Nat.le_refl _) (.cells #[.string x.id, .int .i64 x.kind, .string x.parent, .bool x.req, .int .i64 x.ticks, .slice a5 x.entry.length c5, .slice a6 x.exit.length c6] 29)).alloc (by simp) (.cells #[.string x.id] 9)
      have B3 : Hid (Below w.heap.size w w3) := Keep.below (HW.out.trans (bA.mono HW.out.size)) (Keep.grown hgrow) (fun i hi e => by have := (own_lt O1.out e).2; omega)
      have O3 : Hid (w3.ownsRow w.heap.size 9 1 (.slice (some ⟨gb, 0, none⟩) (k + 1) cap2) (k + 1) (((l.take (k + 1)).map Mp.Item.id).map Value.string)) := by
        show World.ownsRow _ _ _ _ _ _ _
        rw [Mp.take_at HX.out, List.map_append, List.map_append]
        exact hown
      refine ⟨⟨k + 1, by omega, by go_num, B3, O3⟩, ?_⟩
      first | omega | (simp [intOf]; omega)
    · have hkn : k = l.length := by have := HN.out; omega
      have hcp := (own_cap O1.out).2
      have HR : Hid (FRow wr (.slice oad k ocap) (l.map Mp.Item.id)) := by
        refine frow_of_own (H := w.heap.size) (e := 9) (n := k) ?_ (by rw [List.length_map]; exact hkn) (by omega) (fun s hs => ?_)
        · have := O1.out
          rw [List.take_of_length_le (by omega)] at this
          exact this
        · obtain ⟨x, hx, rfl⟩ := List.mem_map.1 hs
          obtain ⟨i, hi⟩ := List.getElem?_of_mem hx
          obtain ⟨_, _, _, _, I0⟩ := HC.out i x hi
          exact I0.zid
      clear hkn
      go_wp2_with fail
      refine (areNamesD wr oad k ocap _ HR.out).mono ?_
      rintro e w1 ⟨rfl, rfl⟩
      go_wp2_with fail
      go_ret
      exact ⟨ret_b HF.out.symm, HW.out⟩
end Go.Proofs.Ytlgcaklhceekiaa
