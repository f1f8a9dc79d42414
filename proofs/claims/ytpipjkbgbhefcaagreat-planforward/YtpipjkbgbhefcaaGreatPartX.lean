/-
  Several texts in one: each opens with its own word.
-/
import Derived.Test.YtpipjkbgbhefcaaGreatMIndex
import Derived.Test.YtpipjkbgbhefcaaGreatIs
import Derived.Deep.RegionWith
import Derived.Deep.RegionHeld3
import Derived.Deep.QuietTactic
import Derived.BigQuiet
/-
  Rows of names; the place of an item.
-/
set_option linter.unusedSimpArgs false
set_option linter.unusedVariables false
namespace Go.Proofs.YtpipjkbgbhefcaaGreat
open Go.RowKit
theorem isV (s : ByteArray) (w : World) (hs : s.size ≤ 140737488355328) (b : Bool) (h : Hid (Mp.isN s = b)) :
    Calls Tryz.prog 103 #[.string s] w fun e w' => e = .returned (.bool b) ∧ w' = w := by
  have := is_any s w (by unfold maxLen; omega)
  rw [← h.out]
  exact this
theorem containsSV (w : World) (ao : Option Addr) (n cap : Nat) (l : List ByteArray) (s : ByteArray) (h : FRow w (.slice ao n cap) l) (b : Bool) (hb : Hid (Mp.has l s = b)) :
    Calls Tryz.prog 104 #[.slice ao n cap, .string s] w fun e w' => e = .returned (.bool b) ∧ w' = w := by
  rw [← hb.out]
  exact containsS w ao n cap l s h
theorem areNamesD (w : World) (ao : Option Addr) (n cap : Nat) (l : List ByteArray) (h : FRow w (.slice ao n cap) l) :
    Calls Tryz.prog 78 #[.slice ao n cap] w fun e w' => e = .returned (.bool (Mp.namesF [] l)) ∧ w' = w := by
  obtain ⟨hn, hl, hcap, b, o, ha, hc⟩ := frow_at h
  have HN := hideT hn
  have HC := hideT hc
  have HA := hideT ha
  have H := hideT h
  clear hn hc ha h
  go_enter Tryz.func78, Tryz.ntmps78
  go_wp2_with fail
  go_loop [7] (fun i => ∃ k : Nat, k ≤ n ∧ i = .int .i64 k ∧ Hid (Mp.namesF (l.take k) (l.drop k) = Mp.namesF [] l)) (fun i => n - (intOf i).toNat)
  case atStart => exact ⟨0, by omega, rfl, rfl⟩
  case round =>
    obtain ⟨k, hk, rfl, HB⟩ := hrel
    by_cases hlt : k < n
    · obtain ⟨t, ht⟩ := Mp.at_lt (l := l) (k := k) (by have := HN.out; omega)
      obtain ⟨hz, c0⟩ := HC.out k t ht
      obtain rfl := HA.out (by omega)
      have HB2 := HB.out
      rw [Mp.drop_at ht, Mp.namesF] at HB2
      have HB2 := hideT HB2
      have HT := hideT (Mp.take_at ht)
      have HR := hideT (rowR_take H.out k cap (by omega) (by omega))
      clear ht
      obtain ⟨b1, H1⟩ : ∃ x, Hid (Mp.isN t = x) := ⟨_, rfl⟩
      obtain ⟨b2, H2⟩ : ∃ x, Hid (Mp.has (l.take k) t = x) := ⟨_, rfl⟩
      cases b1
      · have HF : Hid (Mp.namesF [] l = false) := by show _ = _; rw [← HB2.out, H1.out]; rfl
        go_wp2_with fail
        refine (isV t w hz false H1).mono ?_
        rintro e w1 ⟨rfl, rfl⟩
        go_wp2_with fail
        go_ret
        exact ⟨ret_b HF.out.symm, rfl⟩
      · cases b2
        · have HF : Hid (Mp.namesF (l.take (k + 1)) (l.drop (k + 1)) = Mp.namesF [] l) := by show _ = _; rw [← HB2.out, H1.out, H2.out, HT.out]; rfl
          go_wp2_with fail
          refine (isV t w hz true H1).mono ?_
          rintro e w1 ⟨rfl, rfl⟩
          go_wp2_with fail
          refine (containsSV _ _ k cap _ t HR.out false H2).mono ?_
          rintro e w1 ⟨rfl, rfl⟩
          go_wp2_with fail
          go_round
          case rel => exact ⟨k + 1, by omega, by go_num, HF⟩
          case measure => simp [intOf]; omega
        · have HF : Hid (Mp.namesF [] l = false) := by show _ = _; rw [← HB2.out, H1.out, H2.out]; rfl
          go_wp2_with fail
          refine (isV t w hz true H1).mono ?_
          rintro e w1 ⟨rfl, rfl⟩
          go_wp2_with fail
          refine (containsSV _ _ k cap _ t HR.out true H2).mono ?_
          rintro e w1 ⟨rfl, rfl⟩
          go_wp2_with fail
          go_ret
          exact ⟨ret_b HF.out.symm, rfl⟩
    · have HF : Hid (Mp.namesF [] l = true) := by show _ = _; rw [← HB.out, Mp.drop_all (by have := HN.out; omega)]; rfl
      go_wp2_with fail
      go_ret
      exact ⟨ret_b HF.out.symm, rfl⟩
theorem filesD (w : World) (ao : Option Addr) (n cap : Nat) (l : List ByteArray) (h : FRow w (.slice ao n cap) l) :
    Calls Tryz.prog 44 #[.slice ao n cap] w fun e w' => e = .returned (.bool (Mp.filesB l)) ∧ w' = w := by
  have HN := hideT (frow_at h).1
  have hl := (frow_at h).2.1
  have H := hideT h
  clear h
  by_cases h6 : n ≤ 6
  · have HF : Hid (Mp.filesB l = Mp.namesF [] l) := by show _ = _; unfold Mp.filesB; rw [decide_eq_true (by have := HN.out; omega)]; rfl
    go_enter Tryz.func44, Tryz.ntmps44
    go_wp2_with fail
    refine (areNamesD w ao n cap l H.out).mono ?_
    rintro e w1 ⟨rfl, rfl⟩
    go_wp2_with fail
    go_ret
    exact ⟨ret_b HF.out.symm, rfl⟩
  · have HF : Hid (Mp.filesB l = false) := by show _ = _; unfold Mp.filesB; rw [decide_eq_false (by have := HN.out; omega)]; rfl
    go_enter Tryz.func44, Tryz.ntmps44
    go_wp2_with fail
    go_ret
    exact ⟨ret_b HF.out.symm, rfl⟩
theorem placeFnD (x : Mp.Item) (v5 v6 : Value) (q : Nat) (s : ByteArray) (w : World) (hq : w.cell? ⟨q, 0, none⟩ = some (.string s)) :
    Calls Tryz.prog 73 #[.agg #[.string x.id, .int .i64 x.kind, .string x.parent, .bool x.req, .int .i64 x.ticks, v5, v6], .pointer (some ⟨q, 0, none⟩)] w fun e w' => e = .returned (.bool (decide (x.id = s))) ∧ Below w.heap.size w w' := by
  have hq' := (cell_old w (.cells #[.string x.id, .int .i64 x.kind, .string x.parent, .bool x.req, .int .i64 x.ticks, v5, v6] 48) ⟨q, 0, none⟩ (cell_lt hq)).trans hq
  by_cases e : x.id = s
  · subst e
    have HF : Hid (decide (x.id = x.id) = true) := decide_eq_true rfl
    go_enter Tryz.func73, Tryz.ntmps73
    go_wp2_with fail
    go_ret
    exact ⟨rfl, (Below.refl _ _).alloc (Nat.le_refl _) _⟩
  · have e1 : (x.id.toList == s.toList) = false := beq_eq_false_iff_ne.2 fun h => e (toList_inj h)
    have HF : Hid (decide (x.id = s) = false) := decide_eq_false e
    clear e
    go_enter Tryz.func73, Tryz.ntmps73
    go_wp2_with fail
    go_ret
    exact ⟨ret_b HF.out.symm, (Below.refl _ _).alloc (Nat.le_refl _) _⟩
end Go.Proofs.YtpipjkbgbhefcaaGreat
/-
  The place of an item; the kids of one; the items' own names.
-/
set_option linter.unusedSimpArgs false
set_option linter.unusedVariables false
namespace Go.Proofs.YtpipjkbgbhefcaaGreat
open Go.RowKit
theorem placeZ_some {l : List Mp.Item} {s : ByteArray} {k : Nat} {x : Mp.Item} (h : l[k]? = some x) (hx : x.id = s) (hb : ∀ (j : Nat) y, j < k → l[j]? = some y → y.id ≠ s) : Mp.placeZ l s = k := by
  unfold Mp.placeZ Mp.placeO
  rw [Mp.find_some h (decide_eq_true hx) (fun j y hj hy => decide_eq_false (hb j y hj hy))]
theorem placeZ_none {l : List Mp.Item} {s : ByteArray} (hb : ∀ (j : Nat) y, l[j]? = some y → y.id ≠ s) : Mp.placeZ l s = -1 := by
  unfold Mp.placeZ Mp.placeO
  rw [Mp.find_none (fun j y hy => decide_eq_false (hb j y hy))]
set_option maxHeartbeats 1000000 in
theorem indexFuncD (w : World) (ao : Option Addr) (n cap : Nat) (l : List Mp.Item) (s : ByteArray) (q : Nat) (hq : w.cell? ⟨q, 0, none⟩ = some (.string s)) (h : IRow w (.slice ao n cap) l) :
    Calls Tryz.prog 72 #[.slice ao n cap, .func (.func 73) #[] #[.pointer (some ⟨q, 0, none⟩)]] w fun e w' => e = .returned (.int .i64 (Mp.placeZ l s)) ∧ Below w.heap.size w w' := by
  obtain ⟨hn, hl, hcap, b, o, ha, hc⟩ := irow_at h
  have HN := hideT hn
  have HC := hideT hc
  have HA := hideT ha
  have HQ := hideT hq
  clear hn hc ha h hq
  go_enter Tryz.func72, Tryz.ntmps72
  go_wp2_with fail
  go_loopw [8] (fun i wr => ∃ k : Nat, k ≤ n ∧ i = .int .i64 k ∧ Hid (∀ (j : Nat) y, j < k → l[j]? = some y → y.id ≠ s) ∧ Hid (Below w.heap.size w wr)) (fun i _ => n - (intOf i).toNat)
  case atStart => exact ⟨0, by omega, rfl, fun j y hj => absurd hj (by omega), Below.refl _ _⟩
  case round =>
    obtain ⟨k, hk, rfl, HB, HW⟩ := hrel
    by_cases hlt : k < n
    · obtain ⟨x, hx⟩ := Mp.at_lt (l := l) (k := k) (by have := HN.out; omega)
      obtain ⟨a5, c5, a6, c6, I0⟩ := HC.out k _ hx
      have I1 := I0.turn (below_cell HW.out)
      obtain rfl := HA.out (by omega)
      have HX := hideT hx
      have d0 := I1.c0
      have d1 := I1.c1
      have d2 := I1.c2
      have d3 := I1.c3
      have d4 := I1.c4
      have d5 := I1.c5
      have d6 := I1.c6
      clear hx I0 I1
      go_wp2_with fail
      refine (placeFnD x (.slice a5 x.entry.length c5) (.slice a6 x.exit.length c6) q s wr (below_cell HW.out _ _ HQ.out)).mono ?_
      rintro e w1 ⟨rfl, b1⟩
      have HW1 := hideT (HW.out.trans (b1.mono HW.out.size))
      clear b1 d0 d1 d2 d3 d4 d5 d6
      by_cases e : x.id = s
      · have HF := hideT (placeZ_some HX.out e HB.out)
        have e1 : decide (x.id = s) = true := decide_eq_true e
        rw [e1]
        clear e e1
        go_wp2_with fail
        go_ret
        exact ⟨ret_i HF.out.symm, HW1.out⟩
      · have e1 : decide (x.id = s) = false := decide_eq_false e
        rw [e1]
        have HR : Hid (∀ (j : Nat) y, j < k + 1 → l[j]? = some y → y.id ≠ s) := by
          intro j y hj hy
          by_cases hj' : j < k
          · exact HB.out j y hj' hy
          · obtain rfl : j = k := by omega
            rw [HX.out] at hy
            cases hy
            exact e
        clear e e1
        go_wp2_with fail
        go_roundw
        case rel => exact ⟨k + 1, by omega, by go_num, HR, HW1⟩
        case measure => simp [intOf]; omega
    · have HF := hideT (placeZ_none (l := l) (s := s) (fun j y hy => HB.out j y (by have := HN.out; have := (List.getElem?_eq_some_iff.1 hy).1; omega) hy))
      go_wp2_with fail
      go_ret
      exact ⟨ret_i HF.out.symm, HW.out⟩
theorem placeD (w : World) (vf : Value) (ao : Option Addr) (n cap : Nat) (l : List Mp.Item) (s : ByteArray) (h : IRow w (.slice ao n cap) l) :
    Calls Tryz.prog 41 #[.agg #[vf, .slice ao n cap], .string s] w fun e w' => e = .returned (.int .i64 (Mp.placeZ l s)) ∧ Below w.heap.size w w' := by
  have H := hideT h
  clear h
  go_enter Tryz.func41, Tryz.ntmps41
  go_wp2_with fail
  generalize hW1 : w.alloc _ = W1
  have B1 : Below w.heap.size w W1 := by rw [← hW1]; exact (Below.refl _ _).alloc (Nat.le_refl _) _
  generalize hW2 : W1.alloc _ = W2
  have B2 : Below W1.heap.size W1 W2 := by rw [← hW2]; exact (Below.refl _ _).alloc (Nat.le_refl _) _
  have B12 : Below w.heap.size w W2 := B1.trans (B2.mono B1.size)
  have hz : W1.heap.size = w.heap.size + 1 := by rw [← hW1]; simp
  have hq : W2.cell? ⟨w.heap.size + 1, 0, none⟩ = some (.string s) := by rw [← hz, ← hW2]; exact cell_new _ _ _ 0
  refine (indexFuncD W2 ao n cap l s (w.heap.size + 1) hq (irow_below H.out B12)).mono ?_
  rintro e w1 ⟨rfl, b1⟩
  go_wp2_with fail
  go_ret
  exact ⟨rfl, B12.trans (b1.mono B12.size)⟩
end Go.Proofs.YtpipjkbgbhefcaaGreat
/-
  Rows that were appended to, read as rows of elements.
-/
set_option linter.unusedSimpArgs false
set_option linter.unusedVariables false
namespace Go.Proofs.YtpipjkbgbhefcaaGreat
open Go.RowKit
theorem infoS : (Tryz.prog.info? 9).map (fun i => (i.zero, i.size, i.bytes)) = some (some (.string ⟨#[]⟩), 1, 16) := by kernel_rfl
theorem infoInt : (Tryz.prog.info? 3).map (fun i => (i.zero, i.size, i.bytes)) = some (some (.int .i64 0), 1, 8) := by kernel_rfl
theorem infoI : (Tryz.prog.info? 48).map (fun i => (i.zero, i.size, i.bytes)) = some (some (.agg #[.string ⟨#[]⟩, .int .i64 0, .string ⟨#[]⟩, .bool false, .int .i64 0, .slice none 0 0, .slice none 0 0]), 7, 104) := by kernel_rfl
theorem slice_form {w : World} {H : Nat} {e : TypeId} {z : Nat} {v : Value} {n : Nat} {xs : List Value} (h : w.ownsRow H e z v n xs) : ∃ ad cap, v = .slice ad n cap := by
  rcases h.2 with ⟨rfl, h0⟩ | ⟨g, cap, cur, rfl, _⟩
  · exact ⟨none, 0, by rw [h0]⟩
  · exact ⟨_, _, rfl⟩
theorem own_cap {w : World} {H : Nat} {e : TypeId} {z : Nat} {ad : Option Addr} {cap m n : Nat} {xs : List Value} (h : w.ownsRow H e z (.slice ad m cap) n xs) : m = n ∧ n ≤ cap := by
  rcases h.2 with ⟨h1, h0⟩ | ⟨g, cap', cur, h1, _, _, h2, _⟩
  · cases h1; omega
  · cases h1; exact ⟨rfl, h2⟩
theorem own_below {w w' : World} {H : Nat} {e : TypeId} {z : Nat} {v : Value} {n : Nat} {xs : List Value} (h : w.ownsRow H e z v n xs) (hb : Below w.heap.size w w') : w'.ownsRow H e z v n xs :=
  own_keep h (fun g hg => hb.block g (own_lt h hg).1)
theorem news1 (w : World) (cs : Array Value) (t : TypeId) : ∀ (j : Nat) u, cs.toList[j]? = some u → (w.alloc (.cells cs t)).cell? ((⟨w.heap.size, 0, none⟩ : Addr).add j) = some u :=
  World.news_of_block (fr := (0, 0)) (Lies.new w t cs)
theorem news2 (w : World) (X : Obj) (cs : Array Value) (t : TypeId) : ∀ (j : Nat) u, cs.toList[j]? = some u → ((w.alloc X).alloc (.cells cs t)).cell? ((⟨w.heap.size + 1, 0, none⟩ : Addr).add j) = some u := by
  have h := news1 (w.alloc X) cs t
  rwa [show (w.alloc X).heap.size = w.heap.size + 1 by simp] at h
theorem flatten_get {z : Nat} : ∀ {CS : List (List Value)} {i j : Nat} {cs : List Value} {c : Value}, (∀ x ∈ CS, x.length = z) → CS[i]? = some cs → cs[j]? = some c → CS.flatten[i * z + j]? = some c
  | [], i, j, cs, c, _, h, _ => by simp at h
  | a :: CS, 0, j, cs, c, hz, h, hj => by
    simp only [List.getElem?_cons_zero, Option.some.injEq] at h
    subst h
    rw [Nat.zero_mul, Nat.zero_add, List.flatten_cons, List.getElem?_append_left (List.getElem?_eq_some_iff.1 hj).1]
    exact hj
  | a :: CS, i + 1, j, cs, c, hz, h, hj => by
    rw [List.getElem?_cons_succ] at h
    have ha := hz a List.mem_cons_self
    rw [List.flatten_cons, List.getElem?_append_right (by rw [ha, Nat.add_mul]; omega), ha, show (i + 1) * z + j - z = i * z + j by rw [Nat.add_mul]; omega]
    exact flatten_get (fun x hx => hz x (List.mem_cons_of_mem _ hx)) h hj
theorem rowR_of_own {α : Type} {z : Nat} {R : World → List Value → α → Prop} {w : World} {H : Nat} {e : TypeId} {v : Value} {L : List α} {CS : List (List Value)} (h : w.ownsRow H e z v L.length CS.flatten) (hl : L.length ≤ 10000000000000) (hlen : CS.length = L.length) (hz : ∀ x ∈ CS, x.length = z)
    (hR : ∀ (i : Nat) x cs, L[i]? = some x → CS[i]? = some cs → R w cs x) : RowR z R w v L := by
  rcases Nat.eq_zero_or_pos L.length with h0 | h0
  · obtain ⟨ad, cap, rfl⟩ := slice_form h
    exact ⟨0, 0, ⟨ad, cap, rfl, (own_cap h).2, fun h => by omega⟩, hl, fun i x hx => by have := (List.getElem?_eq_some_iff.1 hx).1; omega⟩
  · obtain ⟨g, cap, rfl, _, _⟩ := h.form h0
    refine ⟨g, 0, ⟨_, cap, rfl, (own_cap h).2, fun _ => rfl⟩, hl, fun i x hx => ?_⟩
    have hi := (List.getElem?_eq_some_iff.1 hx).1
    have hcs : CS[i]? = some (CS[i]'(by omega)) := List.getElem?_eq_getElem (by omega)
    refine ⟨CS[i]'(by omega), hz _ (List.getElem_mem _), hR i x _ hx hcs, fun j c hj => ?_⟩
    rw [Nat.zero_add]
    exact own_cell h (flatten_get hz hcs hj)
theorem flat_one {α : Type} (f : α → Value) (L : List α) : L.map f = (L.map fun s => [f s]).flatten := by
  induction L with
  | nil => rfl
  | cons a L ih => rw [List.map_cons, List.map_cons, List.flatten_cons, ← ih]; rfl
theorem frow_of_own {w : World} {H : Nat} {e : TypeId} {v : Value} {L : List ByteArray} {n : Nat} (h : w.ownsRow H e 1 v n (L.map Value.string)) (hn : n = L.length) (hl : n ≤ 10000000000000) (hz : ∀ s ∈ L, s.size ≤ 140737488355328) : FRow w v L := by
  subst hn
  rw [flat_one] at h
  refine rowR_of_own h hl (by rw [List.length_map]) (fun x hx => ?_) (fun i x cs hx hcs => ?_)
  · obtain ⟨s, _, rfl⟩ := List.mem_map.1 hx
    rfl
  · rw [List.getElem?_map, hx] at hcs
    obtain rfl := Option.some.inj hcs
    exact ⟨rfl, hz x (List.mem_of_getElem? hx)⟩
end Go.Proofs.YtpipjkbgbhefcaaGreat
/-
  The items' own names.
-/
set_option linter.unusedSimpArgs false
set_option linter.unusedVariables false
namespace Go.Proofs.YtpipjkbgbhefcaaGreat
open Go.RowKit
set_option maxRecDepth 100000
set_option maxHeartbeats 1000000 in
theorem idsD (w : World) (ao : Option Addr) (n cap : Nat) (l : List Mp.Item) (h : IRow w (.slice ao n cap) l) :
    Calls Tryz.prog 45 #[.slice ao n cap] w fun e w' => e = .returned (.bool (Mp.idsB l)) ∧ Below w.heap.size w w' := by
  obtain ⟨hn, hl, hcap, b, o, ha, hc⟩ := irow_at h
  have HN := hideT hn
  have HC := hideT hc
  have HA := hideT ha
  clear hn hc ha h
  obtain ⟨i0, hi0, hz0, hz1, hz2⟩ := info_parts infoS
  by_cases h1 : n < 1
  · have HF : Hid (Mp.idsB l = false) := by show _ = _; unfold Mp.idsB; rw [decide_eq_false (by have := HN.out; omega)]; rfl
    go_enter Tryz.func45, Tryz.ntmps45
    go_wp2_with fail
    go_ret
    exact ⟨ret_b HF.out.symm, Below.refl _ _⟩
  by_cases h2 : 16 < n
  · have HF : Hid (Mp.idsB l = false) := by show _ = _; unfold Mp.idsB; rw [decide_eq_false (p := l.length ≤ 16) (by have := HN.out; omega)]; simp
    go_enter Tryz.func45, Tryz.ntmps45
    go_wp2_with fail
    go_ret
    exact ⟨ret_b HF.out.symm, Below.refl _ _⟩
  have HF : Hid (Mp.idsB l = Mp.namesF [] (l.map Mp.Item.id)) := by show _ = _; unfold Mp.idsB; rw [decide_eq_true (p := 1 ≤ l.length) (by have := HN.out; omega), decide_eq_true (p := l.length ≤ 16) (by have := HN.out; omega)]; rfl
  obtain rfl := HA.out (by omega)
  go_enter Tryz.func45, Tryz.ntmps45
  go_wp2_with fail
  go_loopw [3, 16] (fun x i wr => ∃ k : Nat, k ≤ n ∧ i = .int .i64 k ∧ Hid (Below w.heap.size w wr) ∧ Hid (wr.ownsRow w.heap.size 9 1 x k (((l.take k).map Mp.Item.id).map Value.string))) (fun _ i _ => n - (intOf i).toNat)
  case atStart => exact ⟨0, by omega, rfl, Below.refl _ _, World.ownsRow_nil _ _ _ _⟩
  case round =>
    obtain ⟨k, hk, rfl, HW, O1⟩ := hrel
    obtain ⟨oad, ocap, ho⟩ := slice_form O1.out
    subst ho
    by_cases hlt : k < n
    · obtain ⟨x, hx⟩ := Mp.at_lt (l := l) (k := k) (by have := HN.out; omega)
      obtain ⟨a5, c5, a6, c6, I0⟩ := HC.out k _ hx
      have I1 := I0.turn (below_cell HW.out)
      have HX := hideT hx
      have d0 := I1.c0
      have d1 := I1.c1
      have d2 := I1.c2
      have d3 := I1.c3
      have d4 := I1.c4
      have d5 := I1.c5
      have d6 := I1.c6
      clear hx I0 I1
      go_wp2_with (first | (at_builtin; refine wpList_append_lies _ (by rfl) _ _ _ (by rfl) w.heap.size 9 i0 _ 1 16 Tryz.underlying22 hi0 hz0 hz1 hz2 rfl (by omega) (.slice oad k ocap) k (((l.take k).map Mp.Item.id).map Value.string) (by rfl) ((O1.out.alloc _).alloc _) ⟨wr.heap.size + 1, 0, none⟩ 1 1 [.string x.id] (by rfl) (by rfl) (news2 wr _ #[.string x.id] 9) (by simp [Value.oneCell']) (by omega) (by unfold maxLen; omega) (by omega) (by have := HW.out.size; simp; omega) (wr.heap.size + 2) (by simp) ?_; intro gb cap2 w3 hown hgrow hat hlt3) | fail)
      have bA := ((Below.refl wr.heap.size wr).alloc (Nat.le_refl _) (.cells #[.string x.id, .int .i64 x.kind, .string x.parent, .bool x.req, .int .i64 x.ticks, .slice a5 x.entry.length c5, .slice a6 x.exit.length c6] 48)).alloc (by simp) (.cells #[.string x.id] 9)
      have B3 : Hid (Below w.heap.size w w3) := Keep.below (HW.out.trans (bA.mono HW.out.size)) (Keep.grown hgrow) (fun i hi e => by have := (own_lt O1.out e).2; omega)
      have O3 : Hid (w3.ownsRow w.heap.size 9 1 (.slice (some ⟨gb, 0, none⟩) (k + 1) cap2) (k + 1) (((l.take (k + 1)).map Mp.Item.id).map Value.string)) := by
        show World.ownsRow _ _ _ _ _ _ _
        rw [Mp.take_at HX.out, List.map_append, List.map_append]
        exact hown
      refine ⟨⟨k + 1, by omega, by go_num, B3, O3⟩, ?_⟩
      first | omega | (simp [intOf]; omega)
    · have hkn : k = l.length := by have := HN.out; omega
      have hcp := (own_cap O1.out).2
      have HR : Hid (FRow wr (.slice oad k ocap) (l.map Mp.Item.id)) := by
        refine frow_of_own (H := w.heap.size) (e := 9) (n := k) ?_ (by rw [List.length_map]; exact hkn) (by omega) (fun s hs => ?_)
        · have := O1.out
          rw [List.take_of_length_le (by omega)] at this
          exact this
        · obtain ⟨x, hx, rfl⟩ := List.mem_map.1 hs
          obtain ⟨i, hi⟩ := List.getElem?_of_mem hx
          obtain ⟨_, _, _, _, I0⟩ := HC.out i x hi
          exact I0.zid
      clear hkn
      go_wp2_with fail
      refine (areNamesD wr oad k ocap _ HR.out).mono ?_
      rintro e w1 ⟨rfl, rfl⟩
      go_wp2_with fail
      go_ret
      exact ⟨ret_b HF.out.symm, HW.out⟩
end Go.Proofs.YtpipjkbgbhefcaaGreat
/-
  Which conditions, events, sentries may be.
-/
set_option linter.unusedSimpArgs false
set_option linter.unusedVariables false
namespace Go.Proofs.YtpipjkbgbhefcaaGreat
open Go.RowKit
set_option maxRecDepth 100000
theorem isOpV (s : ByteArray) (w : World) (b : Bool) (h : Hid (Mp.opB s = b)) :
    Calls Tryz.prog 122 #[.string s] w fun e w' => e = .returned (.bool b) ∧ w' = w := by
  rw [← h.out]
  exact isOpD s w
set_option maxHeartbeats 1000000 in
theorem ifMayD (w : World) (m : Mp.Model) (af ai : Option Addr) (cf ci : Nat) (hm : ModelAt w af cf ai ci m) (ao : Option Addr) (n cap : Nat) (l : List Mp.Cond) (h : CRow w (.slice ao n cap) l) :
    Calls Tryz.prog 106 #[.agg #[.slice af m.files.length cf, .slice ai m.items.length ci], .slice ao n cap] w fun e w' => e = .returned (.bool (Mp.ifB m l)) ∧ Below w.heap.size w w' := by
  obtain ⟨hn, hl, hcap, b, o, ha, hc⟩ := crow_at h
  have HN := hideT hn
  have HC := hideT hc
  have HA := hideT ha
  have HM := hideT hm
  clear hn hc ha h hm
  by_cases h2 : 2 < n
  · have HF : Hid (Mp.ifB m l = false) := by show _ = _; unfold Mp.ifB; rw [decide_eq_false (by have := HN.out; omega)]; rfl
    go_enter Tryz.func106, Tryz.ntmps106
    go_wp2_with fail
    go_ret
    exact ⟨ret_b HF.out.symm, (Below.refl _ _).alloc (Nat.le_refl _) _⟩
  have HF : Hid (Mp.ifB m l = l.all (Mp.condB m.files)) := by show _ = _; unfold Mp.ifB; rw [decide_eq_true (by have := HN.out; omega)]; rfl
  go_enter Tryz.func106, Tryz.ntmps106
  go_wp2_with fail
  go_loopw [12] (fun i wr => ∃ k : Nat, k ≤ n ∧ i = .int .i64 k ∧ Hid ((l.drop k).all (Mp.condB m.files) = l.all (Mp.condB m.files)) ∧ Hid (Below w.heap.size w wr ∧ Lies wr w.heap.size 25 #[.slice af m.files.length cf, .slice ai m.items.length ci])) (fun i _ => n - (intOf i).toNat)
  case atStart => exact ⟨0, by omega, rfl, rfl, (Below.refl _ _).alloc (Nat.le_refl _) _, Lies.new _ _ _⟩
  case round =>
    obtain ⟨k, hk, rfl, HB, HW⟩ := hrel
    have x0 : wr.cell? ⟨w.heap.size, 0, none⟩ = some (.slice af m.files.length cf) := HW.out.2.cell 0
    have x1 : wr.cell? ⟨w.heap.size, 1, none⟩ = some (.slice ai m.items.length ci) := HW.out.2.cell 1
    have hsz := HW.out.2.lt
    by_cases hlt : k < n
    · obtain ⟨⟨c1, c2, c3⟩, hx⟩ := Mp.at_lt (l := l) (k := k) (by have := HN.out; omega)
      obtain ⟨hz, d0, d1, d2⟩ := HC.out k _ hx
      have d0 := below_cell HW.out.1 _ _ d0
      have d1 := below_cell HW.out.1 _ _ d1
      have d2 := below_cell HW.out.1 _ _ d2
      obtain rfl := HA.out (by omega)
      dsimp only at d0 d1 d2 hz
      have hB2 := HB.out
      rw [Mp.drop_at hx, List.all_cons] at hB2
      have HB2 := hideT hB2
      clear hB2
      clear hx
      have BA := hideT ((Below.refl wr.heap.size wr).alloc (Nat.le_refl _) (.cells #[.string c1, .string c2, .int .i64 c3] 105))
      have BW := hideT (HW.out.1.trans (BA.out.mono HW.out.1.size))
      have LW := hideT (HW.out.2.below BA.out)
      have HFR := hideT (frow_below HM.out.files BW.out)
      obtain ⟨b1, H1⟩ : ∃ x, Hid (Mp.has m.files c1 = x) := ⟨_, rfl⟩
      obtain ⟨b2, H2⟩ : ∃ x, Hid (Mp.opB c2 = x) := ⟨_, rfl⟩
      cases b1
      · have HR : Hid (l.all (Mp.condB m.files) = false) := by show _ = _; rw [← HB2.out]; unfold Mp.condB; rw [H1.out]; rfl
        go_wp2_with fail
        refine (containsSV _ af m.files.length cf m.files c1 HFR.out false H1).mono ?_
        rintro e w1 ⟨rfl, rfl⟩
        go_wp2_with fail
        go_ret
        exact ⟨ret_b (by rw [HF.out, HR.out]), BW.out⟩
      cases b2
      · have HR : Hid (l.all (Mp.condB m.files) = false) := by show _ = _; rw [← HB2.out]; unfold Mp.condB; rw [H1.out, H2.out]; rfl
        go_wp2_with fail
        refine (containsSV _ af m.files.length cf m.files c1 HFR.out true H1).mono ?_
        rintro e w1 ⟨rfl, rfl⟩
        go_wp2_with fail
        refine (isOpV c2 _ false H2).mono ?_
        rintro e w1 ⟨rfl, rfl⟩
        go_wp2_with fail
        go_ret
        exact ⟨ret_b (by rw [HF.out, HR.out]), BW.out⟩
      by_cases h3 : c3 < -1000000
      · have HR : Hid (l.all (Mp.condB m.files) = false) := by show _ = _; rw [← HB2.out]; unfold Mp.condB; rw [H1.out, H2.out, decide_eq_false (p := -1000000 ≤ (c1, c2, c3).2.2) (by show ¬ _ ≤ c3; omega)]; rfl
        go_wp2_with fail
        refine (containsSV _ af m.files.length cf m.files c1 HFR.out true H1).mono ?_
        rintro e w1 ⟨rfl, rfl⟩
        go_wp2_with fail
        refine (isOpV c2 _ true H2).mono ?_
        rintro e w1 ⟨rfl, rfl⟩
        go_wp2_with fail
        go_ret
        exact ⟨ret_b (by rw [HF.out, HR.out]), BW.out⟩
      by_cases h4 : 1000000 < c3
      · have HR : Hid (l.all (Mp.condB m.files) = false) := by show _ = _; rw [← HB2.out]; unfold Mp.condB; rw [H1.out, H2.out, decide_eq_false (p := (c1, c2, c3).2.2 ≤ 1000000) (by show ¬ c3 ≤ _; omega)]; simp
        go_wp2_with fail
        refine (containsSV _ af m.files.length cf m.files c1 HFR.out true H1).mono ?_
        rintro e w1 ⟨rfl, rfl⟩
        go_wp2_with fail
        refine (isOpV c2 _ true H2).mono ?_
        rintro e w1 ⟨rfl, rfl⟩
        go_wp2_with fail
        go_ret
        exact ⟨ret_b (by rw [HF.out, HR.out]), BW.out⟩
      have HR : Hid ((l.drop (k + 1)).all (Mp.condB m.files) = l.all (Mp.condB m.files)) := by
        show _ = _
        rw [← HB2.out]
        unfold Mp.condB
        rw [H1.out, H2.out, decide_eq_true (p := -1000000 ≤ (c1, c2, c3).2.2) (by show _ ≤ c3; omega), decide_eq_true (p := (c1, c2, c3).2.2 ≤ 1000000) (by show c3 ≤ _; omega)]
        rfl
      go_wp2_with fail
      refine (containsSV _ af m.files.length cf m.files c1 HFR.out true H1).mono ?_
      rintro e w1 ⟨rfl, rfl⟩
      go_wp2_with fail
      refine (isOpV c2 _ true H2).mono ?_
      rintro e w1 ⟨rfl, rfl⟩
      go_wp2_with fail
      go_roundw
      case rel => exact ⟨k + 1, by omega, by go_num, HR, BW.out, LW.out⟩
      case measure => simp [intOf]; omega
    · have HR : Hid (l.all (Mp.condB m.files) = true) := by show _ = _; rw [← HB.out, Mp.drop_all (by have := HN.out; omega)]; rfl
      go_wp2_with fail
      go_ret
      exact ⟨ret_b (by rw [HF.out, HR.out]), HW.out.1⟩
end Go.Proofs.YtpipjkbgbhefcaaGreat
/-
  Which events may be.
-/
set_option linter.unusedSimpArgs false
set_option linter.unusedVariables false
namespace Go.Proofs.YtpipjkbgbhefcaaGreat
open Go.RowKit
set_option maxRecDepth 100000
theorem placeV (w : World) (vf : Value) (ao : Option Addr) (n cap : Nat) (l : List Mp.Item) (s : ByteArray) (h : IRow w (.slice ao n cap) l) (z : Int) (hz : Hid (Mp.placeZ l s = z)) :
    Calls Tryz.prog 41 #[.agg #[vf, .slice ao n cap], .string s] w fun e w' => e = .returned (.int .i64 z) ∧ Below w.heap.size w w' := by
  rw [← hz.out]
  exact placeD w vf ao n cap l s h
theorem legalV (k e : Int) (w : World) (b : Bool) (h : Hid (Mp.legalB k e = b)) :
    Calls Tryz.prog 120 #[.int .i64 k, .int .i64 e] w fun r w' => r = .returned (.bool b) ∧ w' = w := by
  rw [← h.out]
  exact legalD k e w
theorem containsOV (w : World) (ao : Option Addr) (n cap : Nat) (l : List Mp.On) (s : Mp.On) (h : ORow w (.slice ao n cap) l) (b : Bool) (hb : Hid (Mp.has l s = b)) :
    Calls Tryz.prog 121 #[.slice ao n cap, .agg #[.string s.1, .int .i64 s.2]] w fun e w' => e = .returned (.bool b) ∧ Below w.heap.size w w' := by
  rw [← hb.out]
  exact containsO w ao n cap l s h
theorem placeZ_cases (l : List Mp.Item) (s : ByteArray) : (Mp.placeZ l s = -1 ∧ Mp.placeO l s = none) ∨ ∃ k x, Mp.placeZ l s = (k : Nat) ∧ Mp.placeO l s = some k ∧ l[k]? = some x := by
  unfold Mp.placeZ
  cases h : Mp.placeO l s with
  | none => exact .inl ⟨rfl, rfl⟩
  | some k =>
    obtain ⟨x, hx, _⟩ := Mp.find_some_inv h
    exact .inr ⟨k, x, rfl, rfl, hx⟩
set_option maxHeartbeats 2000000 in
theorem onMayD (w : World) (m : Mp.Model) (af ai : Option Addr) (cf ci : Nat) (hm : ModelAt w af cf ai ci m) (ao : Option Addr) (n cap : Nat) (l : List Mp.On) (h : ORow w (.slice ao n cap) l) :
    Calls Tryz.prog 105 #[.agg #[.slice af m.files.length cf, .slice ai m.items.length ci], .slice ao n cap] w fun e w' => e = .returned (.bool (Mp.onB m l)) ∧ Below w.heap.size w w' := by
  obtain ⟨hn, hl, hcap, b, o, ha, hc⟩ := orow_at h
  obtain ⟨_, hil, hicap, bi, oi, hia, hic⟩ := irow_at hm.items
  have HN := hideT hn
  have HC := hideT hc
  have HA := hideT ha
  have HM := hideT hm
  have H := hideT h
  have HIA := hideT hia
  have HIC := hideT hic
  clear hn hc ha h hm hia hic
  by_cases h2 : 3 < n
  · have HF : Hid (Mp.onB m l = false) := by show _ = _; unfold Mp.onB; rw [decide_eq_false (by have := HN.out; omega)]; rfl
    go_enter Tryz.func105, Tryz.ntmps105
    go_wp2_with fail
    go_ret
    exact ⟨ret_b HF.out.symm, (Below.refl _ _).alloc (Nat.le_refl _) _⟩
  have HF : Hid (Mp.onB m l = Mp.onsF m.items [] l) := by show _ = _; unfold Mp.onB; rw [decide_eq_true (by have := HN.out; omega)]; rfl
  go_enter Tryz.func105, Tryz.ntmps105
  go_wp2_with fail
  go_loopw [13] (fun i wr => ∃ k : Nat, k ≤ n ∧ i = .int .i64 k ∧ Hid (Mp.onsF m.items (l.take k) (l.drop k) = Mp.onsF m.items [] l) ∧ Hid (Below w.heap.size w wr ∧ Lies wr w.heap.size 25 #[.slice af m.files.length cf, .slice ai m.items.length ci])) (fun i _ => n - (intOf i).toNat)
  case atStart => exact ⟨0, by omega, rfl, rfl, (Below.refl _ _).alloc (Nat.le_refl _) _, Lies.new _ _ _⟩
  case round =>
    obtain ⟨k, hk, rfl, HB, HW⟩ := hrel
    have x0 : wr.cell? ⟨w.heap.size, 0, none⟩ = some (.slice af m.files.length cf) := HW.out.2.cell 0
    have x1 : wr.cell? ⟨w.heap.size, 1, none⟩ = some (.slice ai m.items.length ci) := HW.out.2.cell 1
    have hsz := HW.out.2.lt
    by_cases hlt : k < n
    · obtain ⟨⟨c1, c2⟩, hx⟩ := Mp.at_lt (l := l) (k := k) (by have := HN.out; omega)
      obtain ⟨hz, d0, d1⟩ := HC.out k _ hx
      have d0 := below_cell HW.out.1 _ _ d0
      have d1 := below_cell HW.out.1 _ _ d1
      obtain rfl := HA.out (by omega)
      dsimp only at d0 d1 hz
      have hB2 := HB.out
      rw [Mp.drop_at hx, Mp.onsF] at hB2
      have HB2 := hideT hB2
      clear hB2
      have HT := hideT (Mp.take_at hx)
      clear hx
      have BA := hideT ((Below.refl wr.heap.size wr).alloc (Nat.le_refl _) (.cells #[.string c1, .int .i64 c2] 101))
      have LA := hideT (Lies.new wr 101 #[.string c1, .int .i64 c2])
      have BW := hideT (HW.out.1.trans (BA.out.mono HW.out.1.size))
      have LW := hideT (HW.out.2.below BA.out)
      have HIR := hideT (irow_below HM.out.items BW.out)
      have HR := hideT (rowR_take H.out k cap (by omega) (by omega))
      rcases placeZ_cases m.items c1 with ⟨hp, hpo⟩ | ⟨p, x, hp, hpo, hpx⟩
      · have HP := hideT hp
        have HR : Hid (Mp.onsF m.items [] l = false) := by show _ = _; rw [← HB2.out]; unfold Mp.onLegal; rw [hpo]; rfl
        clear hp hpo
        go_wp2_with fail
        refine (placeV _ _ ai m.items.length ci m.items c1 HIR.out (-1) HP).mono ?_
        rintro e w1 ⟨rfl, b1⟩
        have BW1 := hideT (BW.out.trans (b1.mono BW.out.size))
        clear b1 d0 d1 x0 x1
        go_wp2_with fail
        go_quiet (fail)
        go_wp2_with fail
        go_ret
        exact ⟨ret_b (by rw [HF.out, HR.out]), below_drewN BW1.out _⟩
      · obtain rfl := HIA.out (by have := (List.getElem?_eq_some_iff.1 hpx).1; omega)
        have hpl : p < m.items.length := (List.getElem?_eq_some_iff.1 hpx).1
        obtain ⟨_, _, _, _, I0⟩ := HIC.out p x hpx
        have HP := hideT hp
        have HOL : Hid (Mp.onLegal m.items (c1, c2) = Mp.legalB x.kind c2) := by show _ = _; unfold Mp.onLegal; rw [hpo]; dsimp only; rw [hpx]
        have HI0 := hideT I0.c1
        clear hp hpo hpx I0
        obtain ⟨b1, H1⟩ : ∃ y, Hid (Mp.legalB x.kind c2 = y) := ⟨_, rfl⟩
        obtain ⟨b2, H2⟩ : ∃ y, Hid (Mp.has (l.take k) (c1, c2) = y) := ⟨_, rfl⟩
        have t0 : (0 : Int) ≤ (p : Int) := by omega
        have t1 : (p : Int) < (m.items.length : Int) := by omega
        have t2 : (0 : Int) ≤ (k : Int) := by omega
        have t3 : (k : Int) ≤ (cap : Int) := by omega
        go_wp2_with fail
        refine (placeV _ _ (some ⟨bi, oi, none⟩) m.items.length ci m.items c1 HIR.out p HP).mono ?_
        rintro e w1 ⟨rfl, p1⟩
        have BW1 := hideT (BW.out.trans (p1.mono BW.out.size))
        have y0 : w1.cell? ⟨w.heap.size, 1, none⟩ = some (.slice (some ⟨bi, oi, none⟩) m.items.length ci) := (LW.out.below p1).cell 1
        have y1 : w1.cell? ⟨wr.heap.size, 0, none⟩ = some (.string c1) := (LA.out.below p1).cell 0
        have y2 : w1.cell? ⟨wr.heap.size, 1, none⟩ = some (.int .i64 c2) := (LA.out.below p1).cell 1
        have y3 := below_cell BW1.out _ _ HI0.out
        have LW1 := hideT (LW.out.below p1)
        clear p1 d0 d1 x0 x1
        cases b1
        · have HR : Hid (Mp.onsF m.items [] l = false) := by show _ = _; rw [← HB2.out, HOL.out, H1.out]; rfl
          go_wp2_with fail
          go_quiet ((go_at_call 120; exact Calls.quiet_of_same (legalV _ _ _ false H1)))
          go_wp2_with fail
          go_ret
          exact ⟨ret_b (by rw [HF.out, HR.out]), below_drewN BW1.out _⟩
        go_wp2_with fail
        go_region_held3 (fun w' => w'.cell? ⟨w.heap.size, 1, none⟩ = some (.slice (some ⟨bi, oi, none⟩) m.items.length ci) ∧ w'.cell? ⟨wr.heap.size, 0, none⟩ = some (.string c1) ∧ w'.cell? ⟨wr.heap.size, 1, none⟩ = some (.int .i64 c2) ∧ w'.cell? ⟨bi, oi + p * 7 + 1, none⟩ = some (.int .i64 x.kind)) (go_keep) (first
            | (go_at_call 120; refine (legalV _ _ _ true H1).mono ?_; rintro e w2 ⟨rfl, rfl⟩)
            | (go_at_call 121; refine (containsOV _ _ k cap _ (c1, c2) (orow_below HR.out (below_drewN BW1.out 1)) b2 H2).mono ?_; rintro e w2 ⟨rfl, q2⟩; have q3 : Below w1.heap.size w1 w2 := (below_drewN (Below.refl _ w1) 1).trans q2; have z0 := below_cell q3 _ _ y0; have z1 := below_cell q3 _ _ y1; have z2 := below_cell q3 _ _ y2; have z3 := below_cell q3 _ _ y3))
        have BW2 := hideT (BW1.out.trans (q3.mono BW1.out.size))
        have LW2 := hideT (LW1.out.below q3)
        rw [show decide ((p : Int) < 0) = false from decide_eq_false (by omega)]
        clear q2 q3 y0 y1 y2 y3 z0 z1 z2 z3
        cases b2
        · have HR2 : Hid (Mp.onsF m.items (l.take (k + 1)) (l.drop (k + 1)) = Mp.onsF m.items [] l) := by show _ = _; rw [← HB2.out, HOL.out, H1.out, H2.out, HT.out]; rfl
          go_wp2_with fail
          go_roundw
          case rel => exact ⟨k + 1, by omega, by go_num, HR2, BW2.out, LW2.out⟩
          case measure => simp [intOf]; omega
        · have HR2 : Hid (Mp.onsF m.items [] l = false) := by show _ = _; rw [← HB2.out, HOL.out, H1.out, H2.out]; rfl
          go_wp2_with fail
          go_ret
          exact ⟨ret_b (by rw [HF.out, HR2.out]), BW2.out⟩
    · have HR : Hid (Mp.onsF m.items [] l = true) := by show _ = _; rw [← HB.out, Mp.drop_all (by have := HN.out; omega)]; rfl
      go_wp2_with fail
      go_ret
      exact ⟨ret_b (by rw [HF.out, HR.out]), HW.out.1⟩
end Go.Proofs.YtpipjkbgbhefcaaGreat
/-
  Which sentries and items may be.
-/
set_option linter.unusedSimpArgs false
set_option linter.unusedVariables false
namespace Go.Proofs.YtpipjkbgbhefcaaGreat
open Go.RowKit
set_option maxRecDepth 100000
theorem onMayV (w : World) (m : Mp.Model) (af ai : Option Addr) (cf ci : Nat) (hm : ModelAt w af cf ai ci m) (ao : Option Addr) (n cap : Nat) (l : List Mp.On) (h : ORow w (.slice ao n cap) l) (b : Bool) (hb : Hid (Mp.onB m l = b)) :
    Calls Tryz.prog 105 #[.agg #[.slice af m.files.length cf, .slice ai m.items.length ci], .slice ao n cap] w fun e w' => e = .returned (.bool b) ∧ Below w.heap.size w w' := by
  rw [← hb.out]
  exact onMayD w m af ai cf ci hm ao n cap l h
theorem ifMayV (w : World) (m : Mp.Model) (af ai : Option Addr) (cf ci : Nat) (hm : ModelAt w af cf ai ci m) (ao : Option Addr) (n cap : Nat) (l : List Mp.Cond) (h : CRow w (.slice ao n cap) l) (b : Bool) (hb : Hid (Mp.ifB m l = b)) :
    Calls Tryz.prog 106 #[.agg #[.slice af m.files.length cf, .slice ai m.items.length ci], .slice ao n cap] w fun e w' => e = .returned (.bool b) ∧ Below w.heap.size w w' := by
  rw [← hb.out]
  exact ifMayD w m af ai cf ci hm ao n cap l h
theorem sentB_ne (m : Mp.Model) (s1 : List Mp.On) (s2 : List Mp.Cond) (h : s1 ≠ [] ∨ s2 ≠ []) : Mp.sentB m (s1, s2) = (Mp.onB m s1 && Mp.ifB m s2) := by
  unfold Mp.sentB
  have : (decide (s1.length = 0) && decide (s2.length = 0)) = false := by
    rw [Bool.and_eq_false_iff]
    rcases h with h | h
    · exact .inl (decide_eq_false fun e => h (List.eq_nil_of_length_eq_zero e))
    · exact .inr (decide_eq_false fun e => h (List.eq_nil_of_length_eq_zero e))
  dsimp only
  rw [this]
  rfl
set_option maxHeartbeats 2000000 in
theorem sentriesD (w : World) (m : Mp.Model) (af ai : Option Addr) (cf ci : Nat) (hm : ModelAt w af cf ai ci m) (ao : Option Addr) (n cap : Nat) (l : List Mp.Sent) (h : SRow w (.slice ao n cap) l) :
    Calls Tryz.prog 82 #[.agg #[.slice af m.files.length cf, .slice ai m.items.length ci], .slice ao n cap] w fun e w' => e = .returned (.bool (Mp.sentsB m l)) ∧ Below w.heap.size w w' := by
  obtain ⟨hn, hl, hcap, b, o, ha, hc⟩ := srow_at h
  have HN := hideT hn
  have HC := hideT hc
  have HA := hideT ha
  have HM := hideT hm
  clear hn hc ha h hm
  by_cases h2 : 3 < n
  · have HF : Hid (Mp.sentsB m l = false) := by show _ = _; unfold Mp.sentsB; rw [decide_eq_false (by have := HN.out; omega)]; rfl
    go_enter Tryz.func82, Tryz.ntmps82
    go_wp2_with fail
    go_ret
    exact ⟨ret_b HF.out.symm, (Below.refl _ _).alloc (Nat.le_refl _) _⟩
  have HF : Hid (Mp.sentsB m l = l.all (Mp.sentB m)) := by show _ = _; unfold Mp.sentsB; rw [decide_eq_true (by have := HN.out; omega)]; rfl
  go_enter Tryz.func82, Tryz.ntmps82
  go_wp2_with fail
  go_loopw [12] (fun i wr => ∃ k : Nat, k ≤ n ∧ i = .int .i64 k ∧ Hid ((l.drop k).all (Mp.sentB m) = l.all (Mp.sentB m)) ∧ Hid (Below w.heap.size w wr ∧ Lies wr w.heap.size 25 #[.slice af m.files.length cf, .slice ai m.items.length ci])) (fun i _ => n - (intOf i).toNat)
  case atStart => exact ⟨0, by omega, rfl, rfl, (Below.refl _ _).alloc (Nat.le_refl _) _, Lies.new _ _ _⟩
  case round =>
    obtain ⟨k, hk, rfl, HB, HW⟩ := hrel
    have x0 : wr.cell? ⟨w.heap.size, 0, none⟩ = some (.slice af m.files.length cf) := HW.out.2.cell 0
    have x1 : wr.cell? ⟨w.heap.size, 1, none⟩ = some (.slice ai m.items.length ci) := HW.out.2.cell 1
    have hsz := HW.out.2.lt
    by_cases hlt : k < n
    · obtain ⟨⟨s1, s2⟩, hx⟩ := Mp.at_lt (l := l) (k := k) (by have := HN.out; omega)
      obtain ⟨a1, c1, a2, c2, r1, r2, d0, d1⟩ := HC.out k _ hx
      have d0 := below_cell HW.out.1 _ _ d0
      have d1 := below_cell HW.out.1 _ _ d1
      obtain rfl := HA.out (by omega)
      dsimp only at d0 d1 r1 r2
      have hl1 := (orow_at r1).2.1
      have hl2 := (crow_at r2).2.1
      have hB2 := HB.out
      rw [Mp.drop_at hx, List.all_cons] at hB2
      have HB2 := hideT hB2
      clear hB2
      clear hx
      have BA := hideT ((Below.refl wr.heap.size wr).alloc (Nat.le_refl _) (.cells #[.slice a1 s1.length c1, .slice a2 s2.length c2] 54))
      have LA := hideT (Lies.new wr 54 #[.slice a1 s1.length c1, .slice a2 s2.length c2])
      have BW := hideT (HW.out.1.trans (BA.out.mono HW.out.1.size))
      have LW := hideT (HW.out.2.below BA.out)
      have HMW := hideT (HM.out.below BW.out)
      have R1 := hideT (orow_below r1 BW.out)
      have R2 := hideT r2
      clear r1 r2
      obtain ⟨b1, H1⟩ : ∃ y, Hid (Mp.onB m s1 = y) := ⟨_, rfl⟩
      obtain ⟨b2, H2⟩ : ∃ y, Hid (Mp.ifB m s2 = y) := ⟨_, rfl⟩
      have hpart : (s1 = [] ∧ s2 = []) ∨ (s1 = [] ∧ ((s2.length : Int) == 0) = false ∧ s2 ≠ []) ∨ (((s1.length : Int) == 0) = false ∧ s1 ≠ []) := by
        cases s1 with
        | nil => cases s2 with
          | nil => exact .inl ⟨rfl, rfl⟩
          | cons a t => exact .inr (.inl ⟨rfl, beq_eq_false_iff_ne.2 (by simp only [List.length_cons]; omega), by simp⟩)
        | cons a t => exact .inr (.inr ⟨beq_eq_false_iff_ne.2 (by simp only [List.length_cons]; omega), by simp⟩)
      rcases hpart with ⟨rfl, rfl⟩ | ⟨rfl, ht, hne⟩ | ⟨ht, hne⟩
      · have HR : Hid (l.all (Mp.sentB m) = false) := by show _ = _; rw [← HB2.out]; rfl
        go_wp2_with fail
        go_ret
        exact ⟨ret_b (by rw [HF.out, HR.out]), BW.out⟩
      · have hB3 := HB2.out
        rw [sentB_ne m _ _ (.inr hne)] at hB3
        have HB3 := hideT hB3
        clear hne hB3
        cases b1
        · have HR : Hid (l.all (Mp.sentB m) = false) := by show _ = _; rw [← HB3.out, H1.out]; rfl
          go_wp2_with fail
          refine (onMayV _ m af ai cf ci HMW.out a1 _ c1 _ R1.out false H1).mono ?_
          rintro e w1 ⟨rfl, p1⟩
          go_wp2_with fail
          go_ret
          exact ⟨ret_b (by rw [HF.out, HR.out]), BW.out.trans (p1.mono BW.out.size)⟩
        go_wp2_with fail
        refine (onMayV _ m af ai cf ci HMW.out a1 _ c1 _ R1.out true H1).mono ?_
        rintro e w1 ⟨rfl, p1⟩
        have BW1 := hideT (BW.out.trans (p1.mono BW.out.size))
        have LW1 := hideT (LW.out.below p1)
        have HMW1 := hideT (HM.out.below BW1.out)
        have R2' := hideT (crow_below R2.out BW1.out)
        have y0 : w1.cell? ⟨w.heap.size, 0, none⟩ = some (.slice af m.files.length cf) := LW1.out.cell 0
        have y1 : w1.cell? ⟨w.heap.size, 1, none⟩ = some (.slice ai m.items.length ci) := LW1.out.cell 1
        have y2 : w1.cell? ⟨wr.heap.size, 1, none⟩ = some (.slice a2 s2.length c2) := (LA.out.below p1).cell 1
        clear p1 d0 d1 x0 x1
        cases b2
        · have HR : Hid (l.all (Mp.sentB m) = false) := by show _ = _; rw [← HB3.out, H1.out, H2.out]; rfl
          go_wp2_with fail
          refine (ifMayV _ m af ai cf ci HMW1.out a2 _ c2 s2 R2'.out false H2).mono ?_
          rintro e w2 ⟨rfl, p2⟩
          go_wp2_with fail
          go_ret
          exact ⟨ret_b (by rw [HF.out, HR.out]), BW1.out.trans (p2.mono BW1.out.size)⟩
        have HR : Hid ((l.drop (k + 1)).all (Mp.sentB m) = l.all (Mp.sentB m)) := by show _ = _; rw [← HB3.out, H1.out, H2.out]; rfl
        go_wp2_with fail
        refine (ifMayV _ m af ai cf ci HMW1.out a2 _ c2 s2 R2'.out true H2).mono ?_
        rintro e w2 ⟨rfl, p2⟩
        have BW2 := hideT (BW1.out.trans (p2.mono BW1.out.size))
        have LW2 := hideT (LW1.out.below p2)
        clear p2 y0 y1 y2
        go_wp2_with fail
        go_roundw
        case rel => exact ⟨k + 1, by omega, by go_num, HR, BW2.out, LW2.out⟩
        case measure => simp [intOf]; omega
      · have hB3 := HB2.out
        rw [sentB_ne m _ _ (.inl hne)] at hB3
        have HB3 := hideT hB3
        clear hne hB3
        cases b1
        · have HR : Hid (l.all (Mp.sentB m) = false) := by show _ = _; rw [← HB3.out, H1.out]; rfl
          go_wp2_with fail
          refine (onMayV _ m af ai cf ci HMW.out a1 _ c1 _ R1.out false H1).mono ?_
          rintro e w1 ⟨rfl, p1⟩
          go_wp2_with fail
          go_ret
          exact ⟨ret_b (by rw [HF.out, HR.out]), BW.out.trans (p1.mono BW.out.size)⟩
        go_wp2_with fail
        refine (onMayV _ m af ai cf ci HMW.out a1 _ c1 _ R1.out true H1).mono ?_
        rintro e w1 ⟨rfl, p1⟩
        have BW1 := hideT (BW.out.trans (p1.mono BW.out.size))
        have LW1 := hideT (LW.out.below p1)
        have HMW1 := hideT (HM.out.below BW1.out)
        have R2' := hideT (crow_below R2.out BW1.out)
        have y0 : w1.cell? ⟨w.heap.size, 0, none⟩ = some (.slice af m.files.length cf) := LW1.out.cell 0
        have y1 : w1.cell? ⟨w.heap.size, 1, none⟩ = some (.slice ai m.items.length ci) := LW1.out.cell 1
        have y2 : w1.cell? ⟨wr.heap.size, 1, none⟩ = some (.slice a2 s2.length c2) := (LA.out.below p1).cell 1
        clear p1 d0 d1 x0 x1
        cases b2
        · have HR : Hid (l.all (Mp.sentB m) = false) := by show _ = _; rw [← HB3.out, H1.out, H2.out]; rfl
          go_wp2_with fail
          refine (ifMayV _ m af ai cf ci HMW1.out a2 _ c2 s2 R2'.out false H2).mono ?_
          rintro e w2 ⟨rfl, p2⟩
          go_wp2_with fail
          go_ret
          exact ⟨ret_b (by rw [HF.out, HR.out]), BW1.out.trans (p2.mono BW1.out.size)⟩
        have HR : Hid ((l.drop (k + 1)).all (Mp.sentB m) = l.all (Mp.sentB m)) := by show _ = _; rw [← HB3.out, H1.out, H2.out]; rfl
        go_wp2_with fail
        refine (ifMayV _ m af ai cf ci HMW1.out a2 _ c2 s2 R2'.out true H2).mono ?_
        rintro e w2 ⟨rfl, p2⟩
        have BW2 := hideT (BW1.out.trans (p2.mono BW1.out.size))
        have LW2 := hideT (LW1.out.below p2)
        clear p2 y0 y1 y2
        go_wp2_with fail
        go_roundw
        case rel => exact ⟨k + 1, by omega, by go_num, HR, BW2.out, LW2.out⟩
        case measure => simp [intOf]; omega
    · have HR : Hid (l.all (Mp.sentB m) = true) := by show _ = _; rw [← HB.out, Mp.drop_all (by have := HN.out; omega)]; rfl
      go_wp2_with fail
      go_ret
      exact ⟨ret_b (by rw [HF.out, HR.out]), HW.out.1⟩
end Go.Proofs.YtpipjkbgbhefcaaGreat
/-
  Which items may be.
-/
set_option linter.unusedSimpArgs false
set_option linter.unusedVariables false
namespace Go.Proofs.YtpipjkbgbhefcaaGreat
open Go.RowKit
set_option maxRecDepth 100000
theorem isKindV (k : Int) (w : World) (b : Bool) (h : Hid (Mp.kindB k = b)) :
    Calls Tryz.prog 79 #[.int .i64 k] w fun e w' => e = .returned (.bool b) ∧ w' = w := by
  rw [← h.out]
  exact isKindD k w
theorem ticksV (x : Mp.Item) (v5 v6 : Value) (w : World) (b : Bool) (h : Hid (Mp.ticksB x = b)) :
    Calls Tryz.prog 80 #[.agg #[.string x.id, .int .i64 x.kind, .string x.parent, .bool x.req, .int .i64 x.ticks, v5, v6]] w fun e w' => e = .returned (.bool b) ∧ Below w.heap.size w w' := by
  rw [← h.out]
  exact ticksD x v5 v6 w
theorem waitV (x : Mp.Item) (a5 : Option Addr) (c5 : Nat) (v6 : Value) (w : World) (b : Bool) (h : Hid (Mp.waitB x = b)) :
    Calls Tryz.prog 81 #[.agg #[.string x.id, .int .i64 x.kind, .string x.parent, .bool x.req, .int .i64 x.ticks, .slice a5 x.entry.length c5, v6]] w fun e w' => e = .returned (.bool b) ∧ Below w.heap.size w w' := by
  rw [← h.out]
  exact waitD x a5 c5 v6 w
theorem sentriesV (w : World) (m : Mp.Model) (af ai : Option Addr) (cf ci : Nat) (hm : ModelAt w af cf ai ci m) (ao : Option Addr) (n cap : Nat) (l : List Mp.Sent) (h : SRow w (.slice ao n cap) l) (b : Bool) (hb : Hid (Mp.sentsB m l = b)) :
    Calls Tryz.prog 82 #[.agg #[.slice af m.files.length cf, .slice ai m.items.length ci], .slice ao n cap] w fun e w' => e = .returned (.bool b) ∧ Below w.heap.size w w' := by
  rw [← hb.out]
  exact sentriesD w m af ai cf ci hm ao n cap l h
set_option maxHeartbeats 4000000 in
theorem itemsD (w : World) (m : Mp.Model) (af ai : Option Addr) (cf ci : Nat) (hm : ModelAt w af cf ai ci m) :
    Calls Tryz.prog 48 #[.agg #[.slice af m.files.length cf, .slice ai m.items.length ci]] w fun e w' => e = .returned (.bool (m.items.all (Mp.itemB m))) ∧ Below w.heap.size w w' := by
  obtain ⟨_, hil, hicap, b, o, ha, hc⟩ := irow_at hm.items
  have HC := hideT hc
  have HA := hideT ha
  have HM := hideT hm
  clear hc ha hm
  go_enter Tryz.func48, Tryz.ntmps48
  go_wp2_with fail
  go_loopw [8] (fun i wr => ∃ k : Nat, k ≤ m.items.length ∧ i = .int .i64 k ∧ Hid ((m.items.drop k).all (Mp.itemB m) = m.items.all (Mp.itemB m)) ∧ Hid (Below w.heap.size w wr ∧ Lies wr w.heap.size 25 #[.slice af m.files.length cf, .slice ai m.items.length ci])) (fun i _ => m.items.length - (intOf i).toNat)
  case atStart => exact ⟨0, by omega, rfl, rfl, (Below.refl _ _).alloc (Nat.le_refl _) _, Lies.new _ _ _⟩
  case round =>
    obtain ⟨k, hk, rfl, HB, HW⟩ := hrel
    have hsz := HW.out.2.lt
    by_cases hlt : k < m.items.length
    · obtain ⟨x, hx⟩ := Mp.at_lt (l := m.items) (k := k) hlt
      obtain ⟨a5, c5, a6, c6, I0⟩ := HC.out k _ hx
      have I1 := I0.turn (below_cell HW.out.1)
      have d0 := I1.c0
      have d1 := I1.c1
      have d2 := I1.c2
      have d3 := I1.c3
      have d4 := I1.c4
      have d5 := I1.c5
      have d6 := I1.c6
      obtain rfl := HA.out (by omega)
      have hB2 := HB.out
      rw [Mp.drop_at hx, List.all_cons, Mp.itemB] at hB2
      have HB2 := hideT hB2
      have SE := hideT I0.entry
      have SX := hideT I0.exit
      have hl5 := (srow_at I0.entry).2.1
      have hl6 := (srow_at I0.exit).2.1
      clear hx I1 I0 hB2
      have BA := hideT ((Below.refl wr.heap.size wr).alloc (Nat.le_refl _) (.cells #[.string x.id, .int .i64 x.kind, .string x.parent, .bool x.req, .int .i64 x.ticks, .slice a5 x.entry.length c5, .slice a6 x.exit.length c6] 48))
      have LA := hideT (Lies.new wr 48 #[.string x.id, .int .i64 x.kind, .string x.parent, .bool x.req, .int .i64 x.ticks, .slice a5 x.entry.length c5, .slice a6 x.exit.length c6])
      have BW := hideT (HW.out.1.trans (BA.out.mono HW.out.1.size))
      have LW := hideT (HW.out.2.below BA.out)
      obtain ⟨b1, H1⟩ : ∃ y, Hid (Mp.kindB x.kind = y) := ⟨_, rfl⟩
      obtain ⟨b2, H2⟩ : ∃ y, Hid (Mp.ticksB x = y) := ⟨_, rfl⟩
      obtain ⟨b3, H3⟩ : ∃ y, Hid (Mp.waitB x = y) := ⟨_, rfl⟩
      obtain ⟨b4, H4⟩ : ∃ y, Hid (Mp.sentsB m x.entry = y) := ⟨_, rfl⟩
      obtain ⟨b5, H5⟩ : ∃ y, Hid (Mp.sentsB m x.exit = y) := ⟨_, rfl⟩
      go_wp2_with fail
      refine (isKindV x.kind _ b1 H1).mono ?_
      rintro e w0 ⟨rfl, rfl⟩
      cases b1
      · have HR : Hid (m.items.all (Mp.itemB m) = false) := by show _ = _; rw [← HB2.out, H1.out]; rfl
        go_wp2_with fail
        go_ret
        exact ⟨ret_b HR.out.symm, BW.out⟩
      clear d0 d1 d2 d3 d4 d5 d6
      go_wp2_with fail
      refine (ticksV x _ _ _ b2 H2).mono ?_
      rintro e w1 ⟨rfl, p1⟩
      have BW1 := hideT (BW.out.trans (p1.mono BW.out.size))
      have LW1 := hideT (LW.out.below p1)
      have LA1 := hideT (LA.out.below p1)
      clear p1
      cases b2
      · have HR : Hid (m.items.all (Mp.itemB m) = false) := by show _ = _; rw [← HB2.out, H1.out, H2.out]; rfl
        go_wp2_with fail
        go_ret
        exact ⟨ret_b HR.out.symm, BW1.out⟩
      have d0 : w1.cell? ⟨wr.heap.size, 0, none⟩ = some (.string x.id) := LA1.out.cell 0
      have d1 : w1.cell? ⟨wr.heap.size, 1, none⟩ = some (.int .i64 x.kind) := LA1.out.cell 1
      have d2 : w1.cell? ⟨wr.heap.size, 2, none⟩ = some (.string x.parent) := LA1.out.cell 2
      have d3 : w1.cell? ⟨wr.heap.size, 3, none⟩ = some (.bool x.req) := LA1.out.cell 3
      have d4 : w1.cell? ⟨wr.heap.size, 4, none⟩ = some (.int .i64 x.ticks) := LA1.out.cell 4
      have d5 : w1.cell? ⟨wr.heap.size, 5, none⟩ = some (.slice a5 x.entry.length c5) := LA1.out.cell 5
      have d6 : w1.cell? ⟨wr.heap.size, 6, none⟩ = some (.slice a6 x.exit.length c6) := LA1.out.cell 6
      go_wp2_with fail
      refine (waitV x a5 c5 _ _ b3 H3).mono ?_
      rintro e w2 ⟨rfl, p2⟩
      have BW2 := hideT (BW1.out.trans (p2.mono BW1.out.size))
      have LW2 := hideT (LW1.out.below p2)
      have LA2 := hideT (LA1.out.below p2)
      clear p2 d0 d1 d2 d3 d4 d5 d6
      cases b3
      · have HR : Hid (m.items.all (Mp.itemB m) = false) := by show _ = _; rw [← HB2.out, H1.out, H2.out, H3.out]; rfl
        go_wp2_with fail
        go_ret
        exact ⟨ret_b HR.out.symm, BW2.out⟩
      have d5 : w2.cell? ⟨wr.heap.size, 5, none⟩ = some (.slice a5 x.entry.length c5) := LA2.out.cell 5
      have e0 : w2.cell? ⟨w.heap.size, 0, none⟩ = some (.slice af m.files.length cf) := LW2.out.cell 0
      have e1 : w2.cell? ⟨w.heap.size, 1, none⟩ = some (.slice (some ⟨b, o, none⟩) m.items.length ci) := LW2.out.cell 1
      go_wp2_with fail
      refine (sentriesV _ m af _ cf ci (HM.out.below BW2.out) a5 _ c5 _ (srow_below SE.out BW2.out) b4 H4).mono ?_
      rintro e w3 ⟨rfl, p3⟩
      have BW3 := hideT (BW2.out.trans (p3.mono BW2.out.size))
      have LW3 := hideT (LW2.out.below p3)
      have LA3 := hideT (LA2.out.below p3)
      clear p3 d5 e0 e1
      cases b4
      · have HR : Hid (m.items.all (Mp.itemB m) = false) := by show _ = _; rw [← HB2.out, H1.out, H2.out, H3.out, H4.out]; rfl
        go_wp2_with fail
        go_ret
        exact ⟨ret_b HR.out.symm, BW3.out⟩
      have d6 : w3.cell? ⟨wr.heap.size, 6, none⟩ = some (.slice a6 x.exit.length c6) := LA3.out.cell 6
      have e0 : w3.cell? ⟨w.heap.size, 0, none⟩ = some (.slice af m.files.length cf) := LW3.out.cell 0
      have e1 : w3.cell? ⟨w.heap.size, 1, none⟩ = some (.slice (some ⟨b, o, none⟩) m.items.length ci) := LW3.out.cell 1
      go_wp2_with fail
      refine (sentriesV _ m af _ cf ci (HM.out.below BW3.out) a6 _ c6 _ (srow_below SX.out BW3.out) b5 H5).mono ?_
      rintro e w4 ⟨rfl, p4⟩
      have BW4 := hideT (BW3.out.trans (p4.mono BW3.out.size))
      have LW4 := hideT (LW3.out.below p4)
      clear p4 d6 e0 e1
      cases b5
      · have HR : Hid (m.items.all (Mp.itemB m) = false) := by show _ = _; rw [← HB2.out, H1.out, H2.out, H3.out, H4.out, H5.out]; rfl
        go_wp2_with fail
        go_ret
        exact ⟨ret_b HR.out.symm, BW4.out⟩
      have HR : Hid ((m.items.drop (k + 1)).all (Mp.itemB m) = m.items.all (Mp.itemB m)) := by show _ = _; rw [← HB2.out, H1.out, H2.out, H3.out, H4.out, H5.out]; rfl
      go_wp2_with fail
      go_roundw
      case rel => exact ⟨k + 1, by omega, by go_num, HR, BW4.out, LW4.out⟩
      case measure => simp [intOf]; omega
    · have HR : Hid (m.items.all (Mp.itemB m) = true) := by show _ = _; rw [← HB.out, Mp.drop_all (by omega)]; rfl
      go_wp2_with fail
      go_ret
      exact ⟨ret_b HR.out.symm, HW.out.1⟩
end Go.Proofs.YtpipjkbgbhefcaaGreat
/-
  Items within one another.
-/
set_option linter.unusedSimpArgs false
set_option linter.unusedVariables false
namespace Go.Proofs.YtpipjkbgbhefcaaGreat
open Go.RowKit
set_option maxRecDepth 100000
theorem indexSV (w : World) (ao : Option Addr) (n cap : Nat) (l : List ByteArray) (s : ByteArray) (h : FRow w (.slice ao n cap) l) (z : Int) (hz : Hid (idxZ l s = z)) :
    Calls Tryz.prog 60 #[.slice ao n cap, .string s] w fun e w' => e = .returned (.int .i64 z) ∧ w' = w := by
  rw [← hz.out]
  exact indexS w ao n cap l s h
theorem idxZ_cases (l : List ByteArray) (s : ByteArray) : (idxZ l s = -1 ∧ Mp.idx l s = none) ∨ ∃ k : Nat, idxZ l s = k ∧ Mp.idx l s = some k ∧ k < l.length := by
  unfold idxZ
  cases h : Mp.idx l s with
  | none => exact .inl ⟨rfl, rfl⟩
  | some k =>
    obtain ⟨x, hx, _⟩ := Mp.find_some_inv h
    exact .inr ⟨k, rfl, rfl, (List.getElem?_eq_some_iff.1 hx).1⟩
/-- A row cut short is still owned. -/
theorem own_cut {w : World} {H : Nat} {e : TypeId} {z : Nat} {ad : Option Addr} {n cap : Nat} {xs : List Value} (h : w.ownsRow H e z (.slice ad n cap) n xs) (k : Nat) (hk : k ≤ n) : w.ownsRow H e z (.slice ad k cap) k (xs.take (k * z)) := by
  have hmul : k * z ≤ n * z := Nat.mul_le_mul_right _ hk
  have hlen := h.1
  refine ⟨by rw [List.length_take]; omega, ?_⟩
  rcases h.2 with ⟨h1, h0⟩ | ⟨g, cap', cur, h1, h2, h3, h4, h5, h6, h7⟩
  · cases h1
    exact .inl ⟨by rw [show k = 0 by omega], by omega⟩
  · cases h1
    exact .inr ⟨g, cap, cur, rfl, h2, h3, by omega, h5, h6, by rw [← h7, List.take_take, Nat.min_eq_left hmul]⟩
theorem open_next {op : List ByteArray} {p : Nat} {x : Mp.Item} {r : List Mp.Item} (h : Mp.idx op x.parent = some p) (h5 : ¬ 5 < p + 1) : Mp.nestF op (x :: r) = Mp.nestF (if x.kind = 1 then op.take (p + 1) ++ [x.id] else op.take (p + 1)) r := by
  rw [Mp.nestF, h]
  dsimp only
  rw [if_neg h5]
theorem own_one (w : World) (e : TypeId) (v : Value) : (w.alloc (.cells #[v] e)).ownsRow w.heap.size e 1 (.slice (some ⟨w.heap.size, 0, none⟩) 1 1) 1 [v] :=
  ⟨rfl, .inr ⟨w.heap.size, 1, #[v], rfl, Nat.le_refl _, Lies.new w e #[v], Nat.le_refl _, by decide, rfl, rfl⟩⟩
theorem nest_none {op : List ByteArray} {x : Mp.Item} {r : List Mp.Item} (h : Mp.idx op x.parent = none) : Mp.nestF op (x :: r) = false := by
  rw [Mp.nestF, h]
theorem nest_deep {op : List ByteArray} {p : Nat} {x : Mp.Item} {r : List Mp.Item} (h : Mp.idx op x.parent = some p) (h5 : 5 < p + 1) : Mp.nestF op (x :: r) = false := by
  rw [Mp.nestF, h]
  dsimp only
  rw [if_pos h5]
set_option maxHeartbeats 4000000 in
theorem nestD (w : World) (ao : Option Addr) (n cap : Nat) (l : List Mp.Item) (h : IRow w (.slice ao n cap) l) (h0 : 0 < n) (hz16 : n ≤ 1000) :
    Calls Tryz.prog 47 #[.slice ao n cap] w fun e w' => e = .returned (.bool (Mp.nestB l)) ∧ Below w.heap.size w w' := by
  obtain ⟨hn, hl, hcap, b, o, ha, hc⟩ := irow_at h
  obtain rfl := ha h0
  obtain ⟨y, r, rfl⟩ : ∃ y r, l = y :: r := by
    cases l with
    | nil => exact absurd hn (by simp; omega)
    | cons y r => exact ⟨y, r, rfl⟩
  obtain ⟨nr, rfl⟩ : ∃ nr, n = nr + 1 := ⟨n - 1, by omega⟩
  have HN : Hid (nr = r.length) := by show _ = _; simp only [List.length_cons] at hn; omega
  have HF : Hid (Mp.nestB (y :: r) = Mp.nestF [y.id] r) := rfl
  have HC : Hid (∀ (i : Nat) x, r[i]? = some x → ∃ a5 c5 a6 c6, ItemAt w b (o + 7 + i * 7) x a5 c5 a6 c6) := by
    intro i x hx
    have := hc (i + 1) x (by rw [List.getElem?_cons_succ]; exact hx)
    rwa [show o + (i + 1) * 7 = o + 7 + i * 7 by omega] at this
  obtain ⟨_, _, _, _, Y0⟩ := hc 0 y rfl
  have y0 := Y0.c0
  rw [Nat.zero_mul, Nat.add_zero] at y0
  have HY := hideT Y0.zid
  obtain ⟨i0, hi0, hz0, hz1, hz2⟩ := info_parts infoS
  have BA0 := hideT ((Below.refl w.heap.size w).alloc (Nat.le_refl _) (.cells #[.string y.id] 9))
  have OA0 := hideT (own_one w 9 (.string y.id))
  clear hn hc ha h Y0 h0
  by_cases hc1 : cap = 1
  · subst hc1
    obtain rfl : nr = 0 := by omega
    have HR : Hid (Mp.nestB (y :: r) = true) := by
      show _ = _
      rw [HF.out, List.eq_nil_of_length_eq_zero HN.out.symm]
      rfl
    go_enter Tryz.func47, Tryz.ntmps47
    go_wp2_with fail
    refine wp_loop_rounds 1 ?_
    rw [rounds_succ]
    go_wp2_with fail
    go_ret
    exact ⟨ret_b HR.out.symm, BA0.out⟩
  have hc2 : ¬ cap - 1 = 0 := by omega
  go_enter Tryz.func47, Tryz.ntmps47
  go_wp2_with fail
  go_loopw [3, 15] (fun x i wr => ∃ (k : Nat) (op : List ByteArray), k ≤ nr ∧ op.length ≤ k + 1 ∧ i = .int .i64 k ∧ Hid (Below w.heap.size w wr) ∧ Hid (wr.ownsRow w.heap.size 9 1 x op.length (op.map Value.string)) ∧ Hid (∀ s ∈ op, s.size ≤ 140737488355328) ∧ Hid (Mp.nestF op (r.drop k) = Mp.nestF [y.id] r)) (fun _ i _ => nr - (intOf i).toNat)
  case atStart => exact ⟨0, [y.id], by omega, by simp, rfl, BA0.out, OA0.out, (fun s hs => by rw [List.mem_singleton.1 hs]; exact HY.out), rfl⟩
  case round =>
    obtain ⟨k, op, hk, hop, rfl, HW, O1, HS, HB⟩ := hrel
    obtain ⟨oad, ocap, ho⟩ := slice_form O1.out
    subst ho
    have hocap := (own_cap O1.out).2
    by_cases hlt : k < nr
    · obtain ⟨x, hx⟩ := Mp.at_lt (l := r) (k := k) (by have := HN.out; omega)
      obtain ⟨a5, c5, a6, c6, I0⟩ := HC.out k _ hx
      have I1 := I0.turn (below_cell HW.out)
      have d0 := I1.c0
      have d1 := I1.c1
      have d2 := I1.c2
      have d3 := I1.c3
      have d4 := I1.c4
      have d5 := I1.c5
      have d6 := I1.c6
      have HXZ := hideT I0.zid
      have hB2 := HB.out
      rw [Mp.drop_at hx] at hB2
      have HB2 := hideT hB2
      clear hx I1 I0 hB2
      have BA := hideT ((Below.refl wr.heap.size wr).alloc (Nat.le_refl _) (.cells #[.string x.id, .int .i64 x.kind, .string x.parent, .bool x.req, .int .i64 x.ticks, .slice a5 x.entry.length c5, .slice a6 x.exit.length c6] 48))
      have BW := hideT (HW.out.trans (BA.out.mono HW.out.size))
      have HFR := hideT (frow_of_own (O1.out.alloc (.cells #[.string x.id, .int .i64 x.kind, .string x.parent, .bool x.req, .int .i64 x.ticks, .slice a5 x.entry.length c5, .slice a6 x.exit.length c6] 48)) rfl (by omega) HS.out)
      rcases idxZ_cases op x.parent with ⟨hi, hio⟩ | ⟨p, hi, hio, hpl⟩
      · have HI := hideT hi
        have HR : Hid (Mp.nestF [y.id] r = false) := by show _ = _; rw [← HB2.out]; exact nest_none hio
        clear hi hio
        go_wp2_with fail
        refine (indexSV _ oad op.length ocap op x.parent HFR.out (-1) HI).mono ?_
        rintro e w1 ⟨rfl, rfl⟩
        go_wp2_with fail
        go_ret
        exact ⟨ret_b (by rw [HF.out, HR.out]), BW.out⟩
      have HI := hideT hi
      have HIO := hideT hio
      clear hi hio
      by_cases h5 : 5 < p + 1
      · have HR : Hid (Mp.nestF [y.id] r = false) := by show _ = _; rw [← HB2.out]; exact nest_deep HIO.out h5
        have t5 : (5 : Int) < (p : Int) + 1 := by omega
        have tp : ¬ (p : Int) < 0 := by omega
        go_wp2_with fail
        refine (indexSV _ oad op.length ocap op x.parent HFR.out p HI).mono ?_
        rintro e w1 ⟨rfl, rfl⟩
        go_wp2_with fail
        go_ret
        exact ⟨ret_b (by rw [HF.out, HR.out]), BW.out⟩
      have HNX : Hid (Mp.nestF (if x.kind = 1 then op.take (p + 1) ++ [x.id] else op.take (p + 1)) (r.drop (k + 1)) = Mp.nestF [y.id] r) := by show _ = _; rw [← HB2.out]; exact (open_next HIO.out h5).symm
      have t5 : ¬ (5 : Int) < (p : Int) + 1 := by omega
      have tp : ¬ (p : Int) < 0 := by omega
      have t6 : (0 : Int) ≤ (p : Int) + 1 := by omega
      have t7 : (p : Int) + 1 ≤ (ocap : Int) := by omega
      have htl : (op.take (p + 1)).length = p + 1 := by rw [List.length_take]; omega
      have HTL := hideT htl
      have OC := hideT (own_cut O1.out (p + 1) (by omega))
      have hST : ∀ s ∈ op.take (p + 1), s.size ≤ 140737488355328 := fun s hs => HS.out s (List.mem_of_mem_take hs)
      have HST := hideT hST
      have OC2 : Hid (wr.ownsRow w.heap.size 9 1 (.slice oad (p + 1) ocap) (p + 1) ((op.take (p + 1)).map Value.string)) := by
        have := OC.out
        rw [Nat.mul_one, ← List.map_take] at this
        exact this
      clear htl hST OC
      by_cases h1 : x.kind = 1
      · have hNX := HNX.out
        rw [if_pos h1] at hNX
        have HNX2 := hideT hNX
        have t8 : (x.kind == 1) = true := beq_iff_eq.2 h1
        clear hNX HNX h1
        go_wp2_with fail
        refine (indexSV _ oad op.length ocap op x.parent HFR.out p HI).mono ?_
        rintro e w1 ⟨rfl, rfl⟩
        go_wp2_with (first | (at_builtin; refine wpList_append_lies _ (by rfl) _ _ _ (by rfl) w.heap.size 9 i0 _ 1 16 Tryz.underlying22 hi0 hz0 hz1 hz2 rfl (by omega) (.slice oad (p + 1) ocap) (p + 1) ((op.take (p + 1)).map Value.string) (by rfl) ((OC2.out.alloc _).alloc _) ⟨wr.heap.size + 1, 0, none⟩ 1 1 [.string x.id] (by rfl) (by rfl) (news2 wr _ #[.string x.id] 9) (by simp [Value.oneCell']) (by omega) (by unfold maxLen; omega) (by omega) (by have := HW.out.size; simp; omega) (wr.heap.size + 2) (by simp) ?_; intro gb cap2 w3 hown hgrow hat hlt3) | fail)
        have bA := BA.out.alloc (by simp) (.cells #[.string x.id] 9)
        have B3 : Hid (Below w.heap.size w w3) := Keep.below (HW.out.trans (bA.mono HW.out.size)) (Keep.grown hgrow) (fun i hi e => by have := (own_lt OC2.out e).2; omega)
        refine ⟨⟨k + 1, op.take (p + 1) ++ [x.id], by omega, by rw [List.length_append, HTL.out]; simp only [List.length_cons, List.length_nil]; omega, by go_num, B3, ?_, ?_, HNX2⟩, ?_⟩
        · show World.ownsRow _ _ _ _ _ _ _
          rw [List.length_append, HTL.out, List.map_append]
          exact hown
        · intro s hs
          rcases List.mem_append.1 hs with hs | hs
          · exact HST.out s hs
          · rw [List.mem_singleton.1 hs]
            exact HXZ.out
        · first | omega | (simp [intOf]; omega)
      · have hNX := HNX.out
        rw [if_neg h1] at hNX
        have HNX2 := hideT hNX
        have t8 : (x.kind == 1) = false := beq_eq_false_iff_ne.2 h1
        clear hNX HNX h1
        go_wp2_with fail
        refine (indexSV _ oad op.length ocap op x.parent HFR.out p HI).mono ?_
        rintro e w1 ⟨rfl, rfl⟩
        go_wp2_with fail
        refine ⟨⟨k + 1, op.take (p + 1), by omega, by rw [HTL.out]; omega, by go_num, BW, ?_, HST, HNX2⟩, ?_⟩
        · show World.ownsRow _ _ _ _ _ _ _
          rw [HTL.out]
          exact OC2.out.alloc _
        · first | omega | (simp [intOf]; omega)
    · have HR : Hid (Mp.nestF [y.id] r = true) := by show _ = _; rw [← HB.out, Mp.drop_all (by have := HN.out; omega), Mp.nestF]
      go_wp2_with fail
      go_ret
      exact ⟨ret_b (by rw [HF.out, HR.out]), HW.out⟩
end Go.Proofs.YtpipjkbgbhefcaaGreat
/-
  Is: whether a model may be.
-/
set_option linter.unusedSimpArgs false
set_option linter.unusedVariables false
namespace Go.Proofs.YtpipjkbgbhefcaaGreat
open Go.RowKit
set_option maxRecDepth 100000
theorem filesV (w : World) (ao : Option Addr) (n cap : Nat) (l : List ByteArray) (h : FRow w (.slice ao n cap) l) (b : Bool) (hb : Hid (Mp.filesB l = b)) :
    Calls Tryz.prog 44 #[.slice ao n cap] w fun e w' => e = .returned (.bool b) ∧ w' = w := by
  rw [← hb.out]
  exact filesD w ao n cap l h
theorem idsV (w : World) (ao : Option Addr) (n cap : Nat) (l : List Mp.Item) (h : IRow w (.slice ao n cap) l) (b : Bool) (hb : Hid (Mp.idsB l = b)) :
    Calls Tryz.prog 45 #[.slice ao n cap] w fun e w' => e = .returned (.bool b) ∧ Below w.heap.size w w' := by
  rw [← hb.out]
  exact idsD w ao n cap l h
theorem isPlanV (x : Mp.Item) (a5 : Option Addr) (c5 : Nat) (a6 : Option Addr) (c6 : Nat) (w : World) (b : Bool) (hb : Hid (Mp.planB x = b)) :
    Calls Tryz.prog 46 #[.agg #[.string x.id, .int .i64 x.kind, .string x.parent, .bool x.req, .int .i64 x.ticks, .slice a5 x.entry.length c5, .slice a6 x.exit.length c6]] w fun e w' => e = .returned (.bool b) ∧ Below w.heap.size w w' := by
  rw [← hb.out]
  exact isPlanD x a5 c5 a6 c6 w
theorem nestV (w : World) (ao : Option Addr) (n cap : Nat) (l : List Mp.Item) (h : IRow w (.slice ao n cap) l) (h0 : 0 < n) (hz16 : n ≤ 1000) (b : Bool) (hb : Hid (Mp.nestB l = b)) :
    Calls Tryz.prog 47 #[.slice ao n cap] w fun e w' => e = .returned (.bool b) ∧ Below w.heap.size w w' := by
  rw [← hb.out]
  exact nestD w ao n cap l h h0 hz16
theorem ids_len {l : List Mp.Item} (h : Mp.idsB l = true) : 1 ≤ l.length ∧ l.length ≤ 16 := by
  unfold Mp.idsB at h
  simp only [Bool.and_eq_true, decide_eq_true_eq] at h
  exact h.1
set_option maxHeartbeats 4000000 in
theorem isD (w : World) (m : Mp.Model) (af ai : Option Addr) (cf ci : Nat) (hm : ModelAt w af cf ai ci m) :
    Calls Tryz.prog 20 #[.agg #[.slice af m.files.length cf, .slice ai m.items.length ci]] w fun e w' => e = .returned (.bool (Mp.isB m)) ∧ Below w.heap.size w w' := by
  obtain ⟨_, hil, hicap, b, o, ha, hc⟩ := irow_at hm.items
  have HC := hideT hc
  have HA := hideT ha
  have HM := hideT hm
  clear hc ha hm
  have B0 := hideT ((Below.refl w.heap.size w).alloc (Nat.le_refl _) (.cells #[.slice af m.files.length cf, .slice ai m.items.length ci] 25))
  have L0 := hideT (Lies.new w 25 #[.slice af m.files.length cf, .slice ai m.items.length ci])
  obtain ⟨b1, H1⟩ : ∃ y, Hid (Mp.filesB m.files = y) := ⟨_, rfl⟩
  obtain ⟨b2, H2⟩ : ∃ y, Hid (Mp.idsB m.items = y) := ⟨_, rfl⟩
  obtain ⟨b4, H4⟩ : ∃ y, Hid (Mp.nestB m.items = y) := ⟨_, rfl⟩
  go_enter Tryz.func20, Tryz.ntmps20
  go_wp2_with fail
  refine (filesV _ af _ cf _ (frow_below HM.out.files B0.out) b1 H1).mono ?_
  rintro e w0 ⟨rfl, rfl⟩
  cases b1
  · have HR : Hid (Mp.isB m = false) := by show _ = _; unfold Mp.isB; rw [H1.out]; rfl
    go_wp2_with fail
    go_ret
    exact ⟨ret_b HR.out.symm, B0.out⟩
  go_wp2_with fail
  refine (idsV _ ai _ ci _ (irow_below HM.out.items B0.out) b2 H2).mono ?_
  rintro e w1 ⟨rfl, p1⟩
  have B1 := hideT (B0.out.trans (p1.mono B0.out.size))
  have L1 := hideT (L0.out.below p1)
  clear p1
  cases b2
  · have HR : Hid (Mp.isB m = false) := by show _ = _; unfold Mp.isB; rw [H1.out, H2.out]; rfl
    go_wp2_with fail
    go_ret
    exact ⟨ret_b HR.out.symm, B1.out⟩
  obtain ⟨hl1, hl2⟩ := ids_len H2.out
  obtain ⟨x, hx⟩ := Mp.at_lt (l := m.items) (k := 0) (by omega)
  obtain ⟨a5, c5, a6, c6, I0⟩ := HC.out 0 x hx
  obtain rfl := HA.out (by omega)
  have HX : Hid (Mp.headB m.items = Mp.planB x) := by
    show _ = _
    have := Mp.drop_at hx
    rw [List.drop_zero] at this
    rw [this]
    rfl
  have I1 := I0.turn (below_cell B1.out)
  rw [Nat.zero_mul, Nat.add_zero] at I1
  have d0 := I1.c0
  have d1 := I1.c1
  have d2 := I1.c2
  have d3 := I1.c3
  have d4 := I1.c4
  have d5 := I1.c5
  have d6 := I1.c6
  clear I0 I1 hx
  obtain ⟨b3, H3⟩ : ∃ y, Hid (Mp.planB x = y) := ⟨_, rfl⟩
  have x1 : w1.cell? ⟨w.heap.size, 1, none⟩ = some (.slice (some ⟨b, o, none⟩) m.items.length ci) := L1.out.cell 1
  have t1 : (0 : Int) < (m.items.length : Int) := by omega
  go_wp2_with fail
  refine (isPlanV x a5 c5 a6 c6 _ b3 H3).mono ?_
  rintro e w2 ⟨rfl, p2⟩
  have B2 := hideT (B1.out.trans (p2.mono B1.out.size))
  have L2 := hideT (L1.out.below p2)
  clear p2 d0 d1 d2 d3 d4 d5 d6 x1
  cases b3
  · have HR : Hid (Mp.isB m = false) := by show _ = _; unfold Mp.isB; rw [H1.out, H2.out, HX.out, H3.out]; rfl
    go_wp2_with fail
    go_ret
    exact ⟨ret_b HR.out.symm, B2.out⟩
  have x1 : w2.cell? ⟨w.heap.size, 1, none⟩ = some (.slice (some ⟨b, o, none⟩) m.items.length ci) := L2.out.cell 1
  go_wp2_with fail
  refine (nestV _ _ _ ci _ (irow_below HM.out.items B2.out) (by omega) (by omega) b4 H4).mono ?_
  rintro e w3 ⟨rfl, p3⟩
  have B3 := hideT (B2.out.trans (p3.mono B2.out.size))
  have L3 := hideT (L2.out.below p3)
  clear p3 x1
  cases b4
  · have HR : Hid (Mp.isB m = false) := by show _ = _; unfold Mp.isB; rw [H1.out, H2.out, HX.out, H3.out, H4.out]; rfl
    go_wp2_with fail
    go_ret
    exact ⟨ret_b HR.out.symm, B3.out⟩
  have HR : Hid (Mp.isB m = m.items.all (Mp.itemB m)) := by show _ = _; unfold Mp.isB; rw [H1.out, H2.out, HX.out, H3.out, H4.out]; rfl
  have x0 : w3.cell? ⟨w.heap.size, 0, none⟩ = some (.slice af m.files.length cf) := L3.out.cell 0
  have x1 : w3.cell? ⟨w.heap.size, 1, none⟩ = some (.slice (some ⟨b, o, none⟩) m.items.length ci) := L3.out.cell 1
  go_wp2_with fail
  refine (itemsD _ m af _ cf ci (HM.out.below B3.out)).mono ?_
  rintro e w4 ⟨rfl, p4⟩
  go_wp2_with fail
  go_ret
  exact ⟨ret_b HR.out.symm, B3.out.trans (p4.mono B3.out.size)⟩
theorem isVV (w : World) (m : Mp.Model) (af ai : Option Addr) (cf ci nf ni : Nat) (hm : ModelAt w af cf ai ci m) (hf : m.files.length = nf) (hi : m.items.length = ni) (b : Bool) (hb : Hid (Mp.isB m = b)) :
    Calls Tryz.prog 20 #[.agg #[.slice af nf cf, .slice ai ni ci]] w fun e w' => e = .returned (.bool b) ∧ Below w.heap.size w w' := by
  rw [← hb.out, ← hf, ← hi]
  exact isD w m af ai cf ci hm
end Go.Proofs.YtpipjkbgbhefcaaGreat
