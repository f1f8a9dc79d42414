/-
  Kids: the program's and the document's; rows of numbers.
-/
import Derived.Test.YtpipjkbgbhefcaaGreatMKnown
import Derived.Test.YtpipjkbgbhefcaaGreatPartA
import Derived.Deep.QuietTactic
import Derived.BigQuiet
set_option linter.unusedSimpArgs false
set_option linter.unusedVariables false
namespace Go.Proofs.YtpipjkbgbhefcaaGreat
open Go.RowKit
set_option maxRecDepth 100000
namespace Mp
/-- The places of all that has a parent. -/
def kidsN (l : List Item) (s : BA) (n : Nat) : List Nat := (List.range n).filter fun i => decide (parAt l i = s)
theorem kidsN_yes {l : List Item} {s : BA} {k : Nat} {x : Item} (h : l[k]? = some x) (e : x.parent = s) : kidsN l s (k + 1) = kidsN l s k ++ [k] := by
  unfold kidsN
  rw [List.range_succ, List.filter_append]
  have hp : parAt l k = s := by unfold parAt; rw [h]; exact e
  simp [hp]
theorem kidsN_no {l : List Item} {s : BA} {k : Nat} {x : Item} (h : l[k]? = some x) (e : x.parent ≠ s) : kidsN l s (k + 1) = kidsN l s k := by
  unfold kidsN
  rw [List.range_succ, List.filter_append]
  have hp : ¬ parAt l k = s := by unfold parAt; rw [h]; exact e
  simp [hp]
theorem kidsN_len (l : List Item) (s : BA) (n : Nat) : (kidsN l s n).length ≤ n := by
  unfold kidsN
  have := List.length_filter_le (fun i => decide (parAt l i = s)) (List.range n)
  rwa [List.length_range] at this
end Mp
def intR (w : World) (cs : List Value) (i : Nat) : Prop := cs = [.int .i64 (i : Int)]
abbrev NRow := RowR 1 intR
theorem nrow_turn {w w' : World} {v : Value} {l : List Nat} (h : NRow w v l) (hc : ∀ a c, w.cell? a = some c → w'.cell? a = some c) : NRow w' v l := RowR.turn h (fun _ _ _ h => h) hc
theorem nrow_below {w w' : World} {v : Value} {l : List Nat} (h : NRow w v l) (hb : Below w.heap.size w w') : NRow w' v l := nrow_turn h (below_cell hb)
theorem nrow_at {w : World} {ao : Option Addr} {n cap : Nat} {l : List Nat} (h : NRow w (.slice ao n cap) l) : n = l.length ∧ n ≤ 10000000000000 ∧ n ≤ cap ∧ ∃ b o, (0 < n → ao = some ⟨b, o, none⟩) ∧ ∀ (i x : Nat), l[i]? = some x → w.cell? ⟨b, o + i, none⟩ = some (.int .i64 (x : Int)) := by
  obtain ⟨b, o, ⟨a1, c1, e, hcp, ha⟩, h2, h3⟩ := h
  cases e
  refine ⟨rfl, h2, hcp, b, o, ha, fun i s hs => ?_⟩
  obtain ⟨cs, _, rfl, hc⟩ := h3 i s hs
  have := hc 0 _ rfl
  rw [Nat.mul_one] at this
  exact this
abbrev iV (i : Nat) : Value := .int .i64 (i : Int)
theorem nrow_of_own {w : World} {H : Nat} {e : TypeId} {v : Value} {L : List Nat} {n : Nat} (h : w.ownsRow H e 1 v n (L.map iV)) (hn : n = L.length) (hl : n ≤ 10000000000000) : NRow w v L := by
  subst hn
  rw [flat_one] at h
  refine rowR_of_own h hl (by rw [List.length_map]) (fun x hx => ?_) (fun i x cs hx hcs => ?_)
  · obtain ⟨s, _, rfl⟩ := List.mem_map.1 hx
    rfl
  · rw [List.getElem?_map, hx] at hcs
    obtain rfl := Option.some.inj hcs
    rfl
/-- What Kids answers. -/
def KPost (l : List Mp.Item) (s : ByteArray) (w : World) (e : Ending) (w' : World) : Prop := ∃ ao cap, e = .returned (.slice ao (Mp.kidsN l s l.length).length cap) ∧ NRow w' (.slice ao (Mp.kidsN l s l.length).length cap) (Mp.kidsN l s l.length) ∧ Below w.heap.size w w'
set_option maxHeartbeats 2000000 in
theorem kidsD (w : World) (vf : Value) (ao : Option Addr) (n cap : Nat) (l : List Mp.Item) (s : ByteArray) (h : IRow w (.slice ao n cap) l) :
    Calls Tryz.prog 115 #[.agg #[vf, .slice ao n cap], .string s] w (KPost l s w) := by
  obtain ⟨hn, hl, hcap, b, o, ha, hc⟩ := irow_at h
  have HN := hideT hn
  have HC := hideT hc
  have HA := hideT ha
  obtain ⟨i0, hi0, hz0, hz1, hz2⟩ := info_parts infoInt
  have B0 := hideT ((Below.refl w.heap.size w).alloc (Nat.le_refl _) (.cells #[vf, .slice ao n cap] 25))
  clear hn hc ha h
  go_enter Tryz.func115, Tryz.ntmps115
  go_wp2_with fail
  go_loopw [5, 11] (fun x i wr => ∃ k : Nat, k ≤ n ∧ i = .int .i64 k ∧ Hid (Below w.heap.size w wr) ∧ Hid (wr.ownsRow w.heap.size 3 1 x (Mp.kidsN l s k).length ((Mp.kidsN l s k).map iV))) (fun _ i _ => n - (intOf i).toNat)
  case atStart => exact ⟨0, by omega, rfl, B0, World.ownsRow_nil _ _ _ _⟩
  case round =>
    obtain ⟨k, hk, rfl, HW, O1⟩ := hrel
    obtain ⟨oad, ocap, ho⟩ := slice_form O1.out
    subst ho
    have hkl := Mp.kidsN_len l s k
    by_cases hlt : k < n
    · obtain ⟨x, hx⟩ := Mp.at_lt (l := l) (k := k) (by have := HN.out; omega)
      obtain ⟨a5, c5, a6, c6, I0⟩ := HC.out k _ hx
      have I1 := I0.turn (below_cell HW.out)
      have HX := hideT hx
      have d0 := I1.c0
      have d1 := I1.c1
      have d2 := I1.c2
      have d3 := I1.c3
      have d4 := I1.c4
      have d5 := I1.c5
      have d6 := I1.c6
      obtain rfl := HA.out (by omega)
      clear hx I0 I1
      have BA := hideT ((Below.refl wr.heap.size wr).alloc (Nat.le_refl _) (.cells #[.string x.id, .int .i64 x.kind, .string x.parent, .bool x.req, .int .i64 x.ticks, .slice a5 x.entry.length c5, .slice a6 x.exit.length c6] 48))
      by_cases e : x.parent = s
      · have HK := hideT (Mp.kidsN_yes HX.out e)
        have e1 : (x.parent.toList == s.toList) = true := by rw [e]; exact beq_iff_eq.2 rfl
        clear e
        have BA2 := hideT (BA.out.alloc (by simp) (.cells #[.int .i64 (k : Int)] 3))
        go_wp2_with (first | (at_builtin; refine wpList_append_lies _ (by rfl) _ _ _ (by rfl) w.heap.size 3 i0 _ 1 8 Tryz.underlying44 hi0 hz0 hz1 hz2 rfl (by omega) (.slice oad (Mp.kidsN l s k).length ocap) (Mp.kidsN l s k).length ((Mp.kidsN l s k).map iV) (by rfl) ((O1.out.alloc _).alloc _) ⟨wr.heap.size + 1, 0, none⟩ 1 1 [.int .i64 (k : Int)] (by rfl) (by rfl) (news2 wr _ #[.int .i64 (k : Int)] 3) (by simp [Value.oneCell']) (by omega) (by unfold maxLen; omega) (by omega) (by have := HW.out.size; simp; omega) (wr.heap.size + 2) (by simp) ?_; intro gb cap2 w3 hown hgrow hat hlt3) | fail)
        have B3 : Hid (Below w.heap.size w w3) := Keep.below (HW.out.trans (BA2.out.mono HW.out.size)) (Keep.grown hgrow) (fun i hi e => by have := (own_lt O1.out e).2; omega)
        refine ⟨⟨k + 1, by omega, by go_num, B3, ?_⟩, ?_⟩
        · show World.ownsRow _ _ _ _ _ _ _
          rw [HK.out, List.map_append, List.length_append]
          exact hown
        · first | omega | (simp [intOf]; omega)
      · have HK := hideT (Mp.kidsN_no HX.out e)
        have e1 : (x.parent.toList == s.toList) = false := beq_eq_false_iff_ne.2 fun h => e (toList_inj h)
        clear e
        go_wp2_with fail
        refine ⟨⟨k + 1, by omega, by go_num, HW.out.trans (BA.out.mono HW.out.size), ?_⟩, ?_⟩
        · show World.ownsRow _ _ _ _ _ _ _
          rw [HK.out]
          exact O1.out.alloc _
        · first | omega | (simp [intOf]; omega)
    · have HR : Hid (KPost l s w (.returned (.slice oad (Mp.kidsN l s k).length ocap)) wr) := by
        have hkn : k = l.length := by have := HN.out; omega
        subst hkn
        exact ⟨_, _, rfl, nrow_of_own O1.out rfl (by omega), HW.out⟩
      go_wp2_with fail
      go_ret
      exact HR.out
set_option maxHeartbeats 2000000 in
theorem kidsRef (w : World) (vf : Value) (ao : Option Addr) (n cap : Nat) (l : List Mp.Item) (s : ByteArray) (h : IRow w (.slice ao n cap) l) :
    Calls Tryz.prog 93 #[.agg #[vf, .slice ao n cap], .string s] w (KPost l s w) := by
  obtain ⟨hn, hl, hcap, b, o, ha, hc⟩ := irow_at h
  have HN := hideT hn
  have HC := hideT hc
  have HA := hideT ha
  obtain ⟨i0, hi0, hz0, hz1, hz2⟩ := info_parts infoInt
  have B0 := hideT ((Below.refl w.heap.size w).alloc (Nat.le_refl _) (.cells #[vf, .slice ao n cap] 25))
  have L0 := hideT (Lies.new w 25 #[vf, .slice ao n cap])
  clear hn hc ha h
  go_enter Tryz.func93, Tryz.ntmps93
  go_wp2_with fail
  go_loopw [5, 6] (fun x i wr => ∃ k : Nat, k ≤ n ∧ i = .int .i64 k ∧ Hid (Below w.heap.size w wr ∧ Lies wr w.heap.size 25 #[vf, .slice ao n cap]) ∧ Hid (wr.ownsRow w.heap.size 3 1 x (Mp.kidsN l s k).length ((Mp.kidsN l s k).map iV))) (fun _ i _ => n - (intOf i).toNat)
  case atStart => exact ⟨0, by omega, rfl, ⟨B0.out, L0.out⟩, World.ownsRow_nil _ _ _ _⟩
  case round =>
    obtain ⟨k, hk, rfl, HW, O1⟩ := hrel
    obtain ⟨oad, ocap, ho⟩ := slice_form O1.out
    subst ho
    have hkl := Mp.kidsN_len l s k
    have x1 : wr.cell? ⟨w.heap.size, 1, none⟩ = some (.slice ao n cap) := HW.out.2.cell 1
    by_cases hlt : k < n
    · obtain ⟨x, hx⟩ := Mp.at_lt (l := l) (k := k) (by have := HN.out; omega)
      obtain ⟨a5, c5, a6, c6, I0⟩ := HC.out k _ hx
      have I1 := I0.turn (below_cell HW.out.1)
      have HX := hideT hx
      have d2 := I1.c2
      obtain rfl := HA.out (by omega)
      clear hx I0 I1
      by_cases e : x.parent = s
      · have HK := hideT (Mp.kidsN_yes HX.out e)
        have e1 : (x.parent.toList == s.toList) = true := by rw [e]; exact beq_iff_eq.2 rfl
        clear e
        have BA2 := hideT ((Below.refl wr.heap.size wr).alloc (Nat.le_refl _) (.cells #[.int .i64 (k : Int)] 3))
        go_wp2_with (first | (at_builtin; refine wpList_append_lies _ (by rfl) _ _ _ (by rfl) w.heap.size 3 i0 _ 1 8 Tryz.underlying44 hi0 hz0 hz1 hz2 rfl (by omega) (.slice oad (Mp.kidsN l s k).length ocap) (Mp.kidsN l s k).length ((Mp.kidsN l s k).map iV) (by rfl) (O1.out.alloc _) ⟨wr.heap.size, 0, none⟩ 1 1 [.int .i64 (k : Int)] (by rfl) (by rfl) (news1 wr #[.int .i64 (k : Int)] 3) (by simp [Value.oneCell']) (by omega) (by unfold maxLen; omega) (by omega) (by have := HW.out.1.size; simp; omega) (wr.heap.size + 1) (by simp) ?_; intro gb cap2 w3 hown hgrow hat hlt3) | fail)
        have B3 : Below w.heap.size w w3 := Keep.below (HW.out.1.trans (BA2.out.mono HW.out.1.size)) (Keep.grown hgrow) (fun i hi e => by have := (own_lt O1.out e).2; omega)
        have L3 : Lies w3 w.heap.size 25 #[vf, .slice (some ⟨b, o, none⟩) n cap] := (HW.out.2.below BA2.out).keep (Keep.grown hgrow) (own_ne (O1.out.alloc _) (HW.out.2.below BA2.out) (by decide))
        refine ⟨⟨k + 1, by omega, by go_num, ⟨B3, L3⟩, ?_⟩, ?_⟩
        · show World.ownsRow _ _ _ _ _ _ _
          rw [HK.out, List.map_append, List.length_append]
          exact hown
        · first | omega | (simp [intOf]; omega)
      · have HK := hideT (Mp.kidsN_no HX.out e)
        have e1 : (x.parent.toList == s.toList) = false := beq_eq_false_iff_ne.2 fun h => e (toList_inj h)
        clear e
        go_wp2_with fail
        refine ⟨⟨k + 1, by omega, by go_num, HW, ?_⟩, ?_⟩
        · show World.ownsRow _ _ _ _ _ _ _
          rw [HK.out]
          exact O1.out
        · first | omega | (simp [intOf]; omega)
    · have HR : Hid (KPost l s w (.returned (.slice oad (Mp.kidsN l s k).length ocap)) wr) := by
        have hkn : k = l.length := by have := HN.out; omega
        subst hkn
        exact ⟨_, _, rfl, nrow_of_own O1.out rfl (by omega), HW.out.1⟩
      go_wp2_with fail
      go_ret
      exact HR.out
set_option maxHeartbeats 2000000 in
theorem sameIntsD (w : World) (a1 a2 : Option Addr) (n1 n2 c1 c2 : Nat) (L : List Nat) (h1 : NRow w (.slice a1 n1 c1) L) (h2 : NRow w (.slice a2 n2 c2) L) :
    Calls Tryz.prog 25 #[.slice a1 n1 c1, .slice a2 n2 c2] w fun e w' => e = .returned (.bool true) ∧ Below w.heap.size w w' := by
  obtain ⟨hn1, hl, _, b1, o1, ha1, hc1⟩ := nrow_at h1
  obtain ⟨hn2, _, _, b2, o2, ha2, hc2⟩ := nrow_at h2
  obtain rfl : n1 = n2 := by omega
  have HN := hideT hn1
  have HC1 := hideT hc1
  have HA1 := hideT ha1
  have HC2 := hideT hc2
  have HA2 := hideT ha2
  clear hn1 hn2 hc1 ha1 hc2 ha2 h1 h2
  go_enter Tryz.func25, Tryz.ntmps25
  go_wp2_with fail
  go_loopw [5] (fun i wr => ∃ k : Nat, k ≤ n1 ∧ i = .int .i64 k ∧ Hid (Below w.heap.size w wr)) (fun i _ => n1 - (intOf i).toNat)
  case atStart => exact ⟨0, by omega, rfl, Below.refl _ _⟩
  case round =>
    obtain ⟨k, hk, rfl, HW⟩ := hrel
    by_cases hlt : k < n1
    · obtain ⟨x, hx⟩ := Mp.at_lt (l := L) (k := k) (by have := HN.out; omega)
      have d1 := below_cell HW.out _ _ (HC1.out k x hx)
      have d2 := below_cell HW.out _ _ (HC2.out k x hx)
      obtain rfl := HA1.out (by omega)
      obtain rfl := HA2.out (by omega)
      clear hx
      have t0 : (0 : Int) ≤ (k : Int) := by omega
      have t1 : (k : Int) < (n1 : Int) := by omega
      go_wp2_with fail
      go_quiet (fail)
      go_wp2_with fail
      refine ⟨⟨k + 1, by omega, by go_num, below_drewN HW.out _⟩, ?_⟩
      first | omega | (simp [intOf]; omega)
    · go_wp2_with fail
      go_ret
      exact ⟨rfl, HW.out⟩
end Go.Proofs.YtpipjkbgbhefcaaGreat
