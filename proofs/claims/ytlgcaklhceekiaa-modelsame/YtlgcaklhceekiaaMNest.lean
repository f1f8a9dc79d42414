/-
  Items within one another.
-/
import Derived.Test.YtlgcaklhceekiaaMIds
set_option linter.unusedSimpArgs false
set_option linter.unusedVariables false
namespace Go.Proofs.Ytlgcaklhceekiaa
open Go.RowKit
set_option maxRecDepth 100000
theorem indexSV (w : World) (ao : Option Addr) (n cap : Nat) (l : List ByteArray) (s : ByteArray) (h : FRow w (.slice ao n cap) l) (z : Int) (hz : Hid (idxZ l s = z)) :
    Calls Try.prog 44 #[.slice ao n cap, .string s] w fun e w' => e = .returned (.int .i64 z) ∧ w' = w := by
  rw [← hz.out]
  exact indexS w ao n cap l s h
theorem idxZ_cases (l : List ByteArray) (s : ByteArray) : (idxZ l s = -1 ∧ Mp.idx l s = none) ∨ ∃ k : Nat, idxZ l s = k ∧ Mp.idx l s = some k ∧ k < l.length := by
  unfold idxZ
  cases h : Mp.idx l s with
  | none => exact .inl ⟨rfl, rfl⟩
  | some k =>
    obtain ⟨x, hx, _⟩ := Mp.find_some_inv h
    exact .inr ⟨k, rfl, rfl, (List.getElem?_eq_some_iff.1 hx).1⟩
/-- A row cut short is still owned. -/
theorem own_cut {w : World} {H : Nat} {e : TypeId} {z : Nat} {ad : Option Addr} {n cap : Nat} {xs : List Value} (h : w.ownsRow H e z (.slice ad n cap) n xs) (k : Nat) (hk : k ≤ n) : w.ownsRow H e z (.slice ad k cap) k (xs.take (k * z)) := by
  have hmul : k * z ≤ n * z := Nat.mul_le_mul_right _ hk
  have hlen := h.1
  refine ⟨by rw [List.length_take]; omega, ?_⟩
  rcases h.2 with ⟨h1, h0⟩ | ⟨g, cap', cur, h1, h2, h3, h4, h5, h6, h7⟩
  · cases h1
    exact .inl ⟨by rw [show k = 0 by omega], by omega⟩
  · cases h1
    exact .inr ⟨g, cap, cur, rfl, h2, h3, by omega, h5, h6, by rw [← h7, List.take_take, Nat.min_eq_left hmul]⟩
theorem open_next {op : List ByteArray} {p : Nat} {x : Mp.Item} {r : List Mp.Item} (h : Mp.idx op x.parent = some p) (h5 : ¬ 5 < p + 1) : Mp.nestF op (x :: r) = Mp.nestF (if x.kind = 1 then op.take (p + 1) ++ [x.id] else op.take (p + 1)) r := by
  rw [Mp.nestF, h]
  dsimp only
  rw [if_neg h5]
theorem own_one (w : World) (e : TypeId) (v : Value) : (w.alloc (.cells #[v] e)).ownsRow w.heap.size e 1 (.slice (some ⟨w.heap.size, 0, none⟩) 1 1) 1 [v] :=
  ⟨rfl, .inr ⟨w.heap.size, 1, #[v], rfl, Nat.le_refl _, Lies.new w e #[v], Nat.le_refl _, by decide, rfl, rfl⟩⟩
theorem nest_none {op : List ByteArray} {x : Mp.Item} {r : List Mp.Item} (h : Mp.idx op x.parent = none) : Mp.nestF op (x :: r) = false := by
  rw [Mp.nestF, h]
theorem nest_deep {op : List ByteArray} {p : Nat} {x : Mp.Item} {r : List Mp.Item} (h : Mp.idx op x.parent = some p) (h5 : 5 < p + 1) : Mp.nestF op (x :: r) = false := by
  rw [Mp.nestF, h]
  dsimp only
  rw [if_pos h5]
set_option maxHeartbeats 4000000 in
theorem nestD (w : World) (ao : Option Addr) (n cap : Nat) (l : List Mp.Item) (h : IRow w (.slice ao n cap) l) (h0 : 0 < n) (hz16 : n ≤ 1000) :
    Calls Try.prog 37 #[.slice ao n cap] w fun e w' => e = .returned (.bool (Mp.nestB l)) ∧ Below w.heap.size w w' := by
  obtain ⟨hn, hl, hcap, b, o, ha, hc⟩ := irow_at h
  obtain rfl := ha h0
  obtain ⟨y, r, rfl⟩ : ∃ y r, l = y :: r := by
    cases l with
    | nil => exact absurd hn (by simp; omega)
    | cons y r => exact ⟨y, r, rfl⟩
  obtain ⟨nr, rfl⟩ : ∃ nr, n = nr + 1 := ⟨n - 1, by omega⟩
  have HN : Hid (nr = r.length) := by show _ = _; simp only [List.length_cons] at hn; omega
  have HF : Hid (Mp.nestB (y :: r) = Mp.nestF [y.id] r) := rfl
  have HC : Hid (∀ (i : Nat) x, r[i]? = some x → ∃ a5 c5 a6 c6, ItemAt w b (o + 7 + i * 7) x a5 c5 a6 c6) := by
    intro i x hx
    have := hc (i + 1) x (by rw [List.getElem?_cons_succ]; exact hx)
    rwa [show o + (i + 1) * 7 = o + 7 + i * 7 by omega] at this
  obtain ⟨_, _, _, _, Y0⟩ := hc 0 y rfl
  have y0 := Y0.c0
  rw [Nat.zero_mul, Nat.add_zero] at y0
  have HY := hideT Y0.zid
  obtain ⟨i0, hi0, hz0, hz1, hz2⟩ := info_parts infoS
  have BA0 := hideT ((Below.refl w.heap.size w).alloc (Nat.le_refl _) (.cells #[.string y.id] 9))
  have OA0 := hideT (own_one w 9 (.string y.id))
  clear hn hc ha h Y0 h0
  by_cases hc1 : cap = 1
  · subst hc1
    obtain rfl : nr = 0 := by omega
    have HR : Hid (Mp.nestB (y :: r) = true) := by
      show _ = _
      rw [HF.out, List.eq_nil_of_length_eq_zero HN.out.symm]
      rfl
    go_enter Try.func37, Try.ntmps37
    go_wp2_with fail
    refine wp_loop_rounds 1 ?_
    rw [rounds_succ]
    go_wp2_with fail
    go_ret
    exact ⟨ret_b HR.out.symm, BA0.out⟩
  have hc2 : ¬ cap - 1 = 0 := by omega
  go_enter Try.func37, Try.ntmps37
  go_wp2_with fail
  go_loopw [3, 15] (fun x i wr => ∃ (k : Nat) (op : List ByteArray), k ≤ nr ∧ op.length ≤ k + 1 ∧ i = .int .i64 k ∧ Hid (Below w.heap.size w wr) ∧ Hid (wr.ownsRow w.heap.size 9 1 x op.length (op.map Value.string)) ∧ Hid (∀ s ∈ op, s.size ≤ 140737488355328) ∧ Hid (Mp.nestF op (r.drop k) = Mp.nestF [y.id] r)) (fun _ i _ => nr - (intOf i).toNat)
  case atStart => exact ⟨0, [y.id], by omega, by simp, rfl, BA0.out, OA0.out, (fun s hs => by rw [List.mem_singleton.1 hs]; exact HY.out), rfl⟩
  case round =>
    obtain ⟨k, op, hk, hop, rfl, HW, O1, HS, HB⟩ := hrel
    obtain ⟨oad, ocap, ho⟩ := slice_form O1.out
    subst ho
    have hocap := (own_cap O1.out).2
    by_cases hlt : k < nr
    · obtain ⟨x, hx⟩ := Mp.at_lt (l := r) (k := k) (by have := HN.out; omega)
      obtain ⟨a5, c5, a6, c6, I0⟩ := HC.out k _ hx
      have I1 := I0.turn (below_cell HW.out)
      have d0 := I1.c0
      have d1 := I1.c1
      have d2 := I1.c2
      have d3 := I1.c3
      have d4 := I1.c4
      have d5 := I1.c5
      have d6 := I1.c6
      have HXZ := hideT I0.zid
      have hB2 := HB.out
      rw [Mp.drop_at hx] at hB2
      have HB2 := hideT hB2
      clear hx I1 I0 hB2
      have BA := hideT ((Below.refl wr.heap.size wr).alloc (Nat.le_refl _) (.cells #[.string x.id, .int .i64 x.kind, .string x.parent, .bool x.req, .int .i64 x.ticks, .slice a5 x.entry.length c5, .slice a6 x.exit.length c6] 29))
      have BW := hideT (HW.out.trans (BA.out.mono HW.out.size))
      have HFR := hideT (frow_of_own (O1.out.alloc (.cells #[.string x.id, .int .i64 x.kind, .string x.parent, .bool x.req, .int .i64 x.ticks, .slice a5 x.entry.length c5, .slice a6 x.exit.length c6] 29)) rfl (by omega) HS.out)
      rcases idxZ_cases op x.parent with ⟨hi, hio⟩ | ⟨p, hi, hio, hpl⟩
      · have HI := hideT hi
        have HR : Hid (Mp.nestF [y.id] r = false) := by show _ = _; rw [← HB2.out]; exact nest_none hio
        clear hi hio
        go_wp2_with fail
        refine (indexSV _ oad op.length ocap op x.parent HFR.out (-1) HI).mono ?_
        rintro e w1 ⟨rfl, rfl⟩
        go_wp2_with fail
        go_ret
        exact ⟨ret_b (by rw [HF.out, HR.out]), BW.out⟩
      have HI := hideT hi
      have HIO := hideT hio
      clear hi hio
      by_cases h5 : 5 < p + 1
      · have HR : Hid (Mp.nestF [y.id] r = false) := by show _ = _; rw [← HB2.out]; exact nest_deep HIO.out h5
        have t5 : (5 : Int) < (p : Int) + 1 := by omega
        have tp : ¬ (p : Int) < 0 := by omega
        go_wp2_with fail
        refine (indexSV _ oad op.length ocap op x.parent HFR.out p HI).mono ?_
        rintro e w1 ⟨rfl, rfl⟩
        go_wp2_with fail
        go_ret
        exact ⟨ret_b (by rw [HF.out, HR.out]), BW.out⟩
      have HNX : Hid (Mp.nestF (if x.kind = 1 then op.take (p + 1) ++ [x.id] else op.take (p + 1)) (r.drop (k + 1)) = Mp.nestF [y.id] r) := by show _ = _; rw [← HB2.out]; exact (open_next HIO.out h5).symm
      have t5 : ¬ (5 : Int) < (p : Int) + 1 := by omega
      have tp : ¬ (p : Int) < 0 := by omega
      have t6 : (0 : Int) ≤ (p : Int) + 1 := by omega
      have t7 : (p : Int) + 1 ≤ (ocap : Int) := by omega
      have htl : (op.take (p + 1)).length = p + 1 := by rw [List.length_take]; omega
      have HTL := hideT htl
      have OC := hideT (own_cut O1.out (p + 1) (by omega))
      have hST : ∀ s ∈ op.take (p + 1), s.size ≤ 140737488355328 := fun s hs => HS.out s (List.mem_of_mem_take hs)
      have HST := hideT hST
      have OC2 : Hid (wr.ownsRow w.heap.size 9 1 (.slice oad (p + 1) ocap) (p + 1) ((op.take (p + 1)).map Value.string)) := by
        have := OC.out
        rw [Nat.mul_one, ← List.map_take] at this
        exact this
      clear htl hST OC
      by_cases h1 : x.kind = 1
      · have hNX := HNX.out
        rw [if_pos h1] at hNX
        have HNX2 := hideT hNX
        have t8 : (x.kind == 1) = true := beq_iff_eq.2 h1
        clear hNX HNX h1
        go_wp2_with fail
        refine (indexSV _ oad op.length ocap op x.parent HFR.out p HI).mono ?_
        rintro e w1 ⟨rfl, rfl⟩
        go_wp2_with (first | (at_builtin; refine wpList_append_lies _ (by rfl) _ _ _ (by rfl) w.heap.size 9 i0 _ 1 16 Try.underlying22 hi0 hz0 hz1 hz2 rfl (by omega) (.slice oad (p + 1) ocap) (p + 1) ((op.take (p + 1)).map Value.string) (by rfl) ((OC2.out.alloc _).alloc _) ⟨wr.heap.size + 1, 0, none⟩ 1 1 [.string x.id] (by rfl) (by rfl) (news2 wr _ #[.string x.id] 9) (by simp [Value.oneCell']) (by omega) (by unfold maxLen; omega) (by omega) (by have := HW.out.size; simp; omega) (wr.heap.size + 2) (by simp) ?_; intro gb cap2 w3 hown hgrow hat hlt3) | fail)
        have bA := BA.out.alloc (by simp) (.cells #[.string x.id] 9)
        have B3 : Hid (Below w.heap.size w w3) := Keep.below (HW.out.trans (bA.mono HW.out.size)) (Keep.grown hgrow) (fun i hi e => by have := (own_lt OC2.out e).2; omega)
        refine ⟨⟨k + 1, op.take (p + 1) ++ [x.id], by omega, by rw [List.length_append, HTL.out]; simp only [List.length_cons, List.length_nil]; omega, by go_num, B3, ?_, ?_, HNX2⟩, ?_⟩
        · show World.ownsRow _ _ _ _ _ _ _
          rw [List.length_append, HTL.out, List.map_append]
          exact hown
        · intro s hs
          rcases List.mem_append.1 hs with hs | hs
          · exact HST.out s hs
          · rw [List.mem_singleton.1 hs]
            exact HXZ.out
        · first | omega | (simp [intOf]; omega)
      · have hNX := HNX.out
        rw [if_neg h1] at hNX
        have HNX2 := hideT hNX
        have t8 : (x.kind == 1) = false := beq_eq_false_iff_ne.2 h1
        clear hNX HNX h1
        go_wp2_with fail
        refine (indexSV _ oad op.length ocap op x.parent HFR.out p HI).mono ?_
        rintro e w1 ⟨rfl, rfl⟩
        go_wp2_with fail
        refine ⟨⟨k + 1, op.take (p + 1), by omega, by rw [HTL.out]; omega, by go_num, BW, ?_, HST, HNX2⟩, ?_⟩
        · show World.ownsRow _ _ _ _ _ _ _
          rw [HTL.out]
          exact OC2.out.alloc _
        · first | omega | (simp [intOf]; omega)
    · have HR : Hid (Mp.nestF [y.id] r = true) := by show _ = _; rw [← HB.out, Mp.drop_all (by have := HN.out; omega), Mp.nestF]
      go_wp2_with fail
      go_ret
      exact ⟨ret_b (by rw [HF.out, HR.out]), HW.out⟩
end Go.Proofs.Ytlgcaklhceekiaa
