/-
  The program's each over events and conditions, both ways: rows of its own.
-/
import Derived.Test.YtdcahnaempabcabGreatNSort
set_option linter.unusedSimpArgs false
set_option linter.unusedVariables false
namespace Go.Proofs.YtdcahnaempabcabGreat
open Go.RowKit
def onE (x : Mp.On) : List Value := [.string x.1, .int .i64 x.2]
def condE (x : Mp.Cond) : List Value := [.string x.1, .string x.2.1, .int .i64 x.2.2]
/-- A row of one's own of so many elements. -/
def OwnE {α : Type} (H z : Nat) (t : TypeId) (enc : α → List Value) (v : Value) (l : List α) (w : World) : Prop := w.ownsRow H t z v l.length (l.map enc).flatten
/-- What each answers. -/
def EPost {α : Type} (z : Nat) (t : TypeId) (enc : α → List Value) (l : List α) (w : World) (e : Ending) (w' : World) : Prop := ∃ ao cap, e = .returned (.slice ao l.length cap) ∧ OwnE w.heap.size z t enc (.slice ao l.length cap) l w' ∧ Below w.heap.size w w'
theorem Built.exact {α : Type} {B ob z : Nat} {t : TypeId} {enc : α → List Value} (hk : ∀ x, (enc x).length = z) {l : List α} {n : Nat} {w : World} (h : Built B ob z t (fun _ cs x => cs = enc x) l n n w) (hn : n = l.length) : OwnE B z t enc (.slice (some ⟨ob, 0, none⟩) n n) l w := by
  subst hn
  obtain ⟨xs, h1, h2⟩ := h
  have hxl : xs.length = l.length * z := h1.1
  have hfl : ∀ L : List α, (L.map enc).flatten.length = L.length * z := by
    intro L
    induction L with
    | nil => simp
    | cons a L ih => rw [List.map_cons, List.flatten_cons, List.length_append, ih, hk, List.length_cons, Nat.add_mul, Nat.one_mul, Nat.add_comm]
  have e : xs = (l.map enc).flatten := by
    refine List.ext_getElem? fun t => ?_
    by_cases ht : t < l.length * z
    · have k0 : 0 < z := by
        rcases Nat.eq_zero_or_pos z with h | h
        · subst h; simp at ht
        · exact h
      have hi : t / z < l.length := (Nat.div_lt_iff_lt_mul k0).2 ht
      have hj : t % z < z := Nat.mod_lt _ k0
      obtain ⟨cs, c1, c2, c3⟩ := h2 (t / z) l[t / z] hi (List.getElem?_eq_getElem hi)
      have c4 : cs = enc l[t / z] := c3.here
      subst c4
      have e1 := c2 (t % z) ((enc l[t / z])[t % z]'(by rw [hk]; exact hj)) (List.getElem?_eq_getElem _)
      have e2 := flatten_get (z := z) (CS := l.map enc) (i := t / z) (j := t % z) (cs := enc l[t / z]) (c := (enc l[t / z])[t % z]'(by rw [hk]; exact hj)) (fun x hx => by obtain ⟨y, _, rfl⟩ := List.mem_map.1 hx; exact hk y) (by rw [List.getElem?_map, List.getElem?_eq_getElem hi]; rfl) (List.getElem?_eq_getElem _)
      rw [Nat.mul_comm (t / z) z, Nat.div_add_mod] at e1 e2
      rw [e1, e2]
    · rw [List.getElem?_eq_none (by omega), List.getElem?_eq_none (by rw [hfl]; omega)]
  unfold OwnE
  rw [← e]
  exact h1
/-- What is owned is read wherever the blocks from there on are kept. -/
theorem OwnE.newR {α : Type} {H z : Nat} {t : TypeId} {enc : α → List Value} (hk : ∀ x, (enc x).length = z) {R : World → List Value → α → Prop} {v : Value} {l : List α} {w : World} (h : OwnE H z t enc v l w) (hl : l.length ≤ 10000000000000) (hR : ∀ w x, x ∈ l → R w (enc x) x) : NewR H (fun w => RowR z R w v l) w := by
  unfold OwnE at h
  rcases Nat.eq_zero_or_pos l.length with h0 | h0
  · obtain ⟨ad, cap, rfl⟩ := slice_form h
    exact fun w' _ => ⟨0, 0, ⟨ad, cap, rfl, (own_cap h).2, fun h => by omega⟩, hl, fun i x hx => by have := (List.getElem?_eq_some_iff.1 hx).1; omega⟩
  · obtain ⟨g, cap, rfl, hg, _⟩ := h.form h0
    refine fun w' hw => ⟨g, 0, ⟨_, cap, rfl, (own_cap h).2, fun _ => rfl⟩, hl, fun i x hx => ?_⟩
    refine ⟨enc x, hk x, hR w' x (List.mem_of_getElem? hx), fun j c hj => ?_⟩
    refine hw _ _ hg ?_
    rw [Nat.zero_add]
    exact own_cell h (flatten_get (fun y hy => by obtain ⟨u, _, rfl⟩ := List.mem_map.1 hy; exact hk u) (by rw [List.getElem?_map, hx]; rfl) hj)
theorem OwnE.below {α : Type} {H z : Nat} {t : TypeId} {enc : α → List Value} {v : Value} {l : List α} {w w' : World} (h : OwnE H z t enc v l w) (hb : Below w.heap.size w w') : OwnE H z t enc v l w' := own_below h hb
theorem info_onN : (Tryz.prog.info? 84).map (fun i => (i.zero, i.size, i.bytes)) = some (some (.agg #[.string ⟨#[]⟩, .int .i64 0]), 2, 24) := by kernel_rfl
theorem info_condN : (Tryz.prog.info? 89).map (fun i => (i.zero, i.size, i.bytes)) = some (some (.agg #[.string ⟨#[]⟩, .string ⟨#[]⟩, .int .i64 0]), 3, 40) := by kernel_rfl
theorem info_onA : (Tryz.prog.info? 83).map (fun i => (i.zero, i.size, i.bytes)) = some (some (.agg #[.string ⟨#[]⟩, .int .i64 0]), 2, 24) := by kernel_rfl
theorem info_condA : (Tryz.prog.info? 88).map (fun i => (i.zero, i.size, i.bytes)) = some (some (.agg #[.string ⟨#[]⟩, .string ⟨#[]⟩, .int .i64 0]), 3, 40) := by kernel_rfl
set_option maxHeartbeats 1000000 in
theorem onOfD (a : ByteArray) (b : Int) (w : World) :
    Calls Tryz.prog 52 #[.agg #[.string a, .int .i64 b]] w fun e w' => e = .returned (.agg #[.string a, .int .i64 b]) ∧ Below w.heap.size w w' := by
  go_enter Tryz.func52, Tryz.ntmps52
  go_wp2_with fail
  have BA := ((Below.refl w.heap.size w).alloc (Nat.le_refl _) (.cells #[.string a, .int .i64 b] 83)).alloc (by simp) (.cells #[.string a, .int .i64 b] 84)
  have LN := Lies.new (w.alloc (.cells #[.string a, .int .i64 b] 83)) 84 #[.string a, .int .i64 b]
  rw [show (w.alloc (.cells #[.string a, .int .i64 b] 83)).heap.size = w.heap.size + 1 by simp] at LN
  have q0 := LN.cell 0
  have q1 := LN.cell 1
  refine bodyPost_ret (v := .agg #[.string a, .int .i64 b]) (by simp [results, Tryz.results52, go_sem, q0, q1]) rfl ⟨rfl, BA⟩
set_option maxHeartbeats 4000000 in
theorem eachOn (w : World) (a1 : Option Addr) (n c1 : Nat) (l : List Mp.On) (h1 : ORow w (.slice a1 n c1) l) (hn : n ≤ 1000) :
    Calls Tryz.prog 51 #[.slice a1 n c1, .func (.func 52) #[] #[]] w (EPost 2 84 onE l w) := by
  obtain ⟨hn1, hl1, _, b1, o1, ha1, hc1⟩ := orow_at h1
  have HN1 := hideT hn1
  have HC1 := hideT hc1
  have HA1 := hideT ha1
  clear hc1 ha1 h1
  by_cases h0 : n = 0
  · subst h0
    have HL : Hid (l = []) := List.eq_nil_of_length_eq_zero hn1.symm
    clear hn1
    go_enter Tryz.func51, Tryz.ntmps51
    go_wp2_with fail
    go_ret
    rw [HL.out]
    exact ⟨none, 0, rfl, ⟨rfl, .inl ⟨rfl, rfl⟩⟩, Below.refl _ _⟩
  obtain ⟨i0, hi0, hz0, hz1, hz2⟩ := info_parts info_onN
  have t0 : ((n : Int) == 0) = false := beq_eq_false_iff_ne.2 (by omega)
  obtain ⟨W, hrun, r1, r2⟩ := run_make_full (P := Tryz.prog) w w.heap.size 57 84 i0 _ 2 Tryz.underlying57 hi0 hz0 hz1 .i64 .i64 n (by rw [hz2]; omega) (by unfold maxLen; omega) (Nat.le_refl _)
  have BT0 : Hid (Built w.heap.size w.heap.size 2 84 (fun _ cs x => cs = onE x) l n 0 W) := ⟨_, r1, fun j x hj => absurd hj (Nat.not_lt_zero _)⟩
  have BW0 : Hid (Below w.heap.size w W) := (Below.refl _ w).grown r2 (Nat.le_refl _) (fun k hk => by cases hk)
  clear hn1 r1 r2 hi0 hz0 hz1 hz2
  go_enter Tryz.func51, Tryz.ntmps51
  go_wp2_with fail
  clear hrun
  go_loopw [16] (fun i wr => ∃ k : Nat, k ≤ n ∧ i = .int .i64 k ∧ Hid (Built w.heap.size w.heap.size 2 84 (fun _ cs x => cs = onE x) l n k wr) ∧ Hid (Below w.heap.size w wr)) (fun i _ => n - (intOf i).toNat)
  case atStart => exact ⟨0, by omega, rfl, BT0, BW0⟩
  case round =>
    obtain ⟨k, hk, rfl, HB, HW⟩ := hrel
    by_cases hlt : k < n
    rotate_left
    · have HE : Hid (k = n) := by show k = n; omega
      have HB1 : Hid (Built w.heap.size w.heap.size 2 84 (fun _ cs x => cs = onE x) l n n wr) := by have := HB.out; rw [HE.out] at this; exact this
      have HB2 : Hid (OwnE w.heap.size 2 84 onE (.slice (some ⟨w.heap.size, 0, none⟩) l.length n) l wr) := by
        have h := Built.exact (enc := onE) (fun _ => rfl) HB1.out HN1.out
        have h2 := congrArg (fun q => OwnE w.heap.size 2 84 onE (.slice (some ⟨w.heap.size, 0, none⟩) q n) l wr) HN1.out
        exact h2.mp h
      go_wp2_with fail
      go_ret
      refine ⟨some ⟨w.heap.size, 0, none⟩, n, ?_, HB2.out, HW.out⟩
      exact congrArg (fun q => Ending.returned (.slice (some ⟨w.heap.size, 0, none⟩) q n)) HN1.out
    obtain ⟨⟨x0, x1⟩, hx⟩ := Mp.at_lt (l := l) (k := k) (by have := HN1.out; omega)
    obtain ⟨hz, d0, d1⟩ := HC1.out k _ hx
    dsimp only at hz d0 d1
    have d0 := below_cell HW.out _ _ d0
    have d1 := below_cell HW.out _ _ d1
    obtain rfl := HA1.out (by omega)
    have HX := hideT hx
    clear hx
    have t1 : (0 : Int) ≤ (k : Int) := by omega
    have t2 : (k : Int) < (n : Int) := by omega
    go_wp2_with fail
    refine (onOfD x0 x1 _).mono ?_
    rintro e w1 ⟨rfl, p⟩
    have BA := hideT ((Below.refl wr.heap.size wr).alloc (Nat.le_refl _) (.cells #[.string x0, .int .i64 x1] 83))
    have B1 := hideT (BA.out.trans (p.mono BA.out.size))
    have HB1 := hideT (HB.out.below B1.out)
    have HW1 := hideT (HW.out.trans (B1.out.mono HW.out.size))
    obtain ⟨⟨u0, e0⟩, f0⟩ := HB1.out.cells hlt 0 (by omega)
    obtain ⟨⟨u1, e1⟩, f1⟩ := HB1.out.cells hlt 1 (by omega)
    rw [Nat.add_zero] at e0 f0
    have HB2 := hideT (HB1.out.put hlt [.string x0, .int .i64 x1] rfl (x0, x1) HX.out (fun w' _ => rfl))
    have HW2 := hideT (setAll_below (Nat.le_refl _) [.string x0, .int .i64 x1] _ (k * 2) HW1.out)
    clear p d0 d1
    go_wp2_with fail
    refine ⟨⟨k + 1, by omega, by go_num, HB2, HW2⟩, ?_⟩
    first | omega | (simp [intOf]; omega)
set_option maxHeartbeats 1000000 in
theorem condOfD (a : ByteArray) (b : ByteArray) (c : Int) (w : World) :
    Calls Tryz.prog 54 #[.agg #[.string a, .string b, .int .i64 c]] w fun e w' => e = .returned (.agg #[.string a, .string b, .int .i64 c]) ∧ Below w.heap.size w w' := by
  go_enter Tryz.func54, Tryz.ntmps54
  go_wp2_with fail
  have BA := ((Below.refl w.heap.size w).alloc (Nat.le_refl _) (.cells #[.string a, .string b, .int .i64 c] 88)).alloc (by simp) (.cells #[.string a, .string b, .int .i64 c] 89)
  have LN := Lies.new (w.alloc (.cells #[.string a, .string b, .int .i64 c] 88)) 89 #[.string a, .string b, .int .i64 c]
  rw [show (w.alloc (.cells #[.string a, .string b, .int .i64 c] 88)).heap.size = w.heap.size + 1 by simp] at LN
  have q0 := LN.cell 0
  have q1 := LN.cell 1
  have q2 := LN.cell 2
  refine bodyPost_ret (v := .agg #[.string a, .string b, .int .i64 c]) (by simp [results, Tryz.results54, go_sem, q0, q1, q2]) rfl ⟨rfl, BA⟩
set_option maxHeartbeats 4000000 in
theorem eachCond (w : World) (a1 : Option Addr) (n c1 : Nat) (l : List Mp.Cond) (h1 : CRow w (.slice a1 n c1) l) (hn : n ≤ 1000) :
    Calls Tryz.prog 53 #[.slice a1 n c1, .func (.func 54) #[] #[]] w (EPost 3 89 condE l w) := by
  obtain ⟨hn1, hl1, _, b1, o1, ha1, hc1⟩ := crow_at h1
  have HN1 := hideT hn1
  have HC1 := hideT hc1
  have HA1 := hideT ha1
  clear hc1 ha1 h1
  by_cases h0 : n = 0
  · subst h0
    have HL : Hid (l = []) := List.eq_nil_of_length_eq_zero hn1.symm
    clear hn1
    go_enter Tryz.func53, Tryz.ntmps53
    go_wp2_with fail
    go_ret
    rw [HL.out]
    exact ⟨none, 0, rfl, ⟨rfl, .inl ⟨rfl, rfl⟩⟩, Below.refl _ _⟩
  obtain ⟨i0, hi0, hz0, hz1, hz2⟩ := info_parts info_condN
  have t0 : ((n : Int) == 0) = false := beq_eq_false_iff_ne.2 (by omega)
  obtain ⟨W, hrun, r1, r2⟩ := run_make_full (P := Tryz.prog) w w.heap.size 58 89 i0 _ 3 Tryz.underlying58 hi0 hz0 hz1 .i64 .i64 n (by rw [hz2]; omega) (by unfold maxLen; omega) (Nat.le_refl _)
  have BT0 : Hid (Built w.heap.size w.heap.size 3 89 (fun _ cs x => cs = condE x) l n 0 W) := ⟨_, r1, fun j x hj => absurd hj (Nat.not_lt_zero _)⟩
  have BW0 : Hid (Below w.heap.size w W) := (Below.refl _ w).grown r2 (Nat.le_refl _) (fun k hk => by cases hk)
  clear hn1 r1 r2 hi0 hz0 hz1 hz2
  go_enter Tryz.func53, Tryz.ntmps53
  go_wp2_with fail
  clear hrun
  go_loopw [16] (fun i wr => ∃ k : Nat, k ≤ n ∧ i = .int .i64 k ∧ Hid (Built w.heap.size w.heap.size 3 89 (fun _ cs x => cs = condE x) l n k wr) ∧ Hid (Below w.heap.size w wr)) (fun i _ => n - (intOf i).toNat)
  case atStart => exact ⟨0, by omega, rfl, BT0, BW0⟩
  case round =>
    obtain ⟨k, hk, rfl, HB, HW⟩ := hrel
    by_cases hlt : k < n
    rotate_left
    · have HE : Hid (k = n) := by show k = n; omega
      have HB1 : Hid (Built w.heap.size w.heap.size 3 89 (fun _ cs x => cs = condE x) l n n wr) := by have := HB.out; rw [HE.out] at this; exact this
      have HB2 : Hid (OwnE w.heap.size 3 89 condE (.slice (some ⟨w.heap.size, 0, none⟩) l.length n) l wr) := by
        have h := Built.exact (enc := condE) (fun _ => rfl) HB1.out HN1.out
        have h2 := congrArg (fun q => OwnE w.heap.size 3 89 condE (.slice (some ⟨w.heap.size, 0, none⟩) q n) l wr) HN1.out
        exact h2.mp h
      go_wp2_with fail
      go_ret
      refine ⟨some ⟨w.heap.size, 0, none⟩, n, ?_, HB2.out, HW.out⟩
      exact congrArg (fun q => Ending.returned (.slice (some ⟨w.heap.size, 0, none⟩) q n)) HN1.out
    obtain ⟨⟨x0, x1, x2⟩, hx⟩ := Mp.at_lt (l := l) (k := k) (by have := HN1.out; omega)
    obtain ⟨hz, d0, d1, d2⟩ := HC1.out k _ hx
    dsimp only at hz d0 d1 d2
    have d0 := below_cell HW.out _ _ d0
    have d1 := below_cell HW.out _ _ d1
    have d2 := below_cell HW.out _ _ d2
    obtain rfl := HA1.out (by omega)
    have HX := hideT hx
    clear hx
    have t1 : (0 : Int) ≤ (k : Int) := by omega
    have t2 : (k : Int) < (n : Int) := by omega
    go_wp2_with fail
    refine (condOfD x0 x1 x2 _).mono ?_
    rintro e w1 ⟨rfl, p⟩
    have BA := hideT ((Below.refl wr.heap.size wr).alloc (Nat.le_refl _) (.cells #[.string x0, .string x1, .int .i64 x2] 88))
    have B1 := hideT (BA.out.trans (p.mono BA.out.size))
    have HB1 := hideT (HB.out.below B1.out)
    have HW1 := hideT (HW.out.trans (B1.out.mono HW.out.size))
    obtain ⟨⟨u0, e0⟩, f0⟩ := HB1.out.cells hlt 0 (by omega)
    obtain ⟨⟨u1, e1⟩, f1⟩ := HB1.out.cells hlt 1 (by omega)
    obtain ⟨⟨u2, e2⟩, f2⟩ := HB1.out.cells hlt 2 (by omega)
    rw [Nat.add_zero] at e0 f0
    have HB2 := hideT (HB1.out.put hlt [.string x0, .string x1, .int .i64 x2] rfl (x0, x1, x2) HX.out (fun w' _ => rfl))
    have HW2 := hideT (setAll_below (Nat.le_refl _) [.string x0, .string x1, .int .i64 x2] _ (k * 3) HW1.out)
    clear p d0 d1 d2
    go_wp2_with fail
    refine ⟨⟨k + 1, by omega, by go_num, HB2, HW2⟩, ?_⟩
    first | omega | (simp [intOf]; omega)
set_option maxHeartbeats 1000000 in
theorem onPlainD (a : ByteArray) (b : Int) (w : World) :
    Calls Tryz.prog 133 #[.agg #[.string a, .int .i64 b]] w fun e w' => e = .returned (.agg #[.string a, .int .i64 b]) ∧ Below w.heap.size w w' := by
  go_enter Tryz.func133, Tryz.ntmps133
  go_wp2_with fail
  have BA := ((Below.refl w.heap.size w).alloc (Nat.le_refl _) (.cells #[.string a, .int .i64 b] 84)).alloc (by simp) (.cells #[.string a, .int .i64 b] 83)
  have LN := Lies.new (w.alloc (.cells #[.string a, .int .i64 b] 84)) 83 #[.string a, .int .i64 b]
  rw [show (w.alloc (.cells #[.string a, .int .i64 b] 84)).heap.size = w.heap.size + 1 by simp] at LN
  have q0 := LN.cell 0
  have q1 := LN.cell 1
  refine bodyPost_ret (v := .agg #[.string a, .int .i64 b]) (by simp [results, Tryz.results133, go_sem, q0, q1]) rfl ⟨rfl, BA⟩
set_option maxHeartbeats 4000000 in
theorem eachOnP (w : World) (a1 : Option Addr) (n c1 : Nat) (l : List Mp.On) (h1 : ORow w (.slice a1 n c1) l) (hn : n ≤ 1000) :
    Calls Tryz.prog 132 #[.slice a1 n c1, .func (.func 133) #[] #[]] w (EPost 2 83 onE l w) := by
  obtain ⟨hn1, hl1, _, b1, o1, ha1, hc1⟩ := orow_at h1
  have HN1 := hideT hn1
  have HC1 := hideT hc1
  have HA1 := hideT ha1
  clear hc1 ha1 h1
  by_cases h0 : n = 0
  · subst h0
    have HL : Hid (l = []) := List.eq_nil_of_length_eq_zero hn1.symm
    clear hn1
    go_enter Tryz.func132, Tryz.ntmps132
    go_wp2_with fail
    go_ret
    rw [HL.out]
    exact ⟨none, 0, rfl, ⟨rfl, .inl ⟨rfl, rfl⟩⟩, Below.refl _ _⟩
  obtain ⟨i0, hi0, hz0, hz1, hz2⟩ := info_parts info_onA
  have t0 : ((n : Int) == 0) = false := beq_eq_false_iff_ne.2 (by omega)
  obtain ⟨W, hrun, r1, r2⟩ := run_make_full (P := Tryz.prog) w w.heap.size 22 83 i0 _ 2 Tryz.underlying22 hi0 hz0 hz1 .i64 .i64 n (by rw [hz2]; omega) (by unfold maxLen; omega) (Nat.le_refl _)
  have BT0 : Hid (Built w.heap.size w.heap.size 2 83 (fun _ cs x => cs = onE x) l n 0 W) := ⟨_, r1, fun j x hj => absurd hj (Nat.not_lt_zero _)⟩
  have BW0 : Hid (Below w.heap.size w W) := (Below.refl _ w).grown r2 (Nat.le_refl _) (fun k hk => by cases hk)
  clear hn1 r1 r2 hi0 hz0 hz1 hz2
  go_enter Tryz.func132, Tryz.ntmps132
  go_wp2_with fail
  clear hrun
  go_loopw [16] (fun i wr => ∃ k : Nat, k ≤ n ∧ i = .int .i64 k ∧ Hid (Built w.heap.size w.heap.size 2 83 (fun _ cs x => cs = onE x) l n k wr) ∧ Hid (Below w.heap.size w wr)) (fun i _ => n - (intOf i).toNat)
  case atStart => exact ⟨0, by omega, rfl, BT0, BW0⟩
  case round =>
    obtain ⟨k, hk, rfl, HB, HW⟩ := hrel
    by_cases hlt : k < n
    rotate_left
    · have HE : Hid (k = n) := by show k = n; omega
      have HB1 : Hid (Built w.heap.size w.heap.size 2 83 (fun _ cs x => cs = onE x) l n n wr) := by have := HB.out; rw [HE.out] at this; exact this
      have HB2 : Hid (OwnE w.heap.size 2 83 onE (.slice (some ⟨w.heap.size, 0, none⟩) l.length n) l wr) := by
        have h := Built.exact (enc := onE) (fun _ => rfl) HB1.out HN1.out
        have h2 := congrArg (fun q => OwnE w.heap.size 2 83 onE (.slice (some ⟨w.heap.size, 0, none⟩) q n) l wr) HN1.out
        exact h2.mp h
      go_wp2_with fail
      go_ret
      refine ⟨some ⟨w.heap.size, 0, none⟩, n, ?_, HB2.out, HW.out⟩
      exact congrArg (fun q => Ending.returned (.slice (some ⟨w.heap.size, 0, none⟩) q n)) HN1.out
    obtain ⟨⟨x0, x1⟩, hx⟩ := Mp.at_lt (l := l) (k := k) (by have := HN1.out; omega)
    obtain ⟨hz, d0, d1⟩ := HC1.out k _ hx
    dsimp only at hz d0 d1
    have d0 := below_cell HW.out _ _ d0
    have d1 := below_cell HW.out _ _ d1
    obtain rfl := HA1.out (by omega)
    have HX := hideT hx
    clear hx
    have t1 : (0 : Int) ≤ (k : Int) := by omega
    have t2 : (k : Int) < (n : Int) := by omega
    go_wp2_with fail
    refine (onPlainD x0 x1 _).mono ?_
    rintro e w1 ⟨rfl, p⟩
    have BA := hideT ((Below.refl wr.heap.size wr).alloc (Nat.le_refl _) (.cells #[.string x0, .int .i64 x1] 84))
    have B1 := hideT (BA.out.trans (p.mono BA.out.size))
    have HB1 := hideT (HB.out.below B1.out)
    have HW1 := hideT (HW.out.trans (B1.out.mono HW.out.size))
    obtain ⟨⟨u0, e0⟩, f0⟩ := HB1.out.cells hlt 0 (by omega)
    obtain ⟨⟨u1, e1⟩, f1⟩ := HB1.out.cells hlt 1 (by omega)
    rw [Nat.add_zero] at e0 f0
    have HB2 := hideT (HB1.out.put hlt [.string x0, .int .i64 x1] rfl (x0, x1) HX.out (fun w' _ => rfl))
    have HW2 := hideT (setAll_below (Nat.le_refl _) [.string x0, .int .i64 x1] _ (k * 2) HW1.out)
    clear p d0 d1
    go_wp2_with fail
    refine ⟨⟨k + 1, by omega, by go_num, HB2, HW2⟩, ?_⟩
    first | omega | (simp [intOf]; omega)
set_option maxHeartbeats 1000000 in
theorem condPlainD (a : ByteArray) (b : ByteArray) (c : Int) (w : World) :
    Calls Tryz.prog 135 #[.agg #[.string a, .string b, .int .i64 c]] w fun e w' => e = .returned (.agg #[.string a, .string b, .int .i64 c]) ∧ Below w.heap.size w w' := by
  go_enter Tryz.func135, Tryz.ntmps135
  go_wp2_with fail
  have BA := ((Below.refl w.heap.size w).alloc (Nat.le_refl _) (.cells #[.string a, .string b, .int .i64 c] 89)).alloc (by simp) (.cells #[.string a, .string b, .int .i64 c] 88)
  have LN := Lies.new (w.alloc (.cells #[.string a, .string b, .int .i64 c] 89)) 88 #[.string a, .string b, .int .i64 c]
  rw [show (w.alloc (.cells #[.string a, .string b, .int .i64 c] 89)).heap.size = w.heap.size + 1 by simp] at LN
  have q0 := LN.cell 0
  have q1 := LN.cell 1
  have q2 := LN.cell 2
  refine bodyPost_ret (v := .agg #[.string a, .string b, .int .i64 c]) (by simp [results, Tryz.results135, go_sem, q0, q1, q2]) rfl ⟨rfl, BA⟩
set_option maxHeartbeats 4000000 in
theorem eachCondP (w : World) (a1 : Option Addr) (n c1 : Nat) (l : List Mp.Cond) (h1 : CRow w (.slice a1 n c1) l) (hn : n ≤ 1000) :
    Calls Tryz.prog 134 #[.slice a1 n c1, .func (.func 135) #[] #[]] w (EPost 3 88 condE l w) := by
  obtain ⟨hn1, hl1, _, b1, o1, ha1, hc1⟩ := crow_at h1
  have HN1 := hideT hn1
  have HC1 := hideT hc1
  have HA1 := hideT ha1
  clear hc1 ha1 h1
  by_cases h0 : n = 0
  · subst h0
    have HL : Hid (l = []) := List.eq_nil_of_length_eq_zero hn1.symm
    clear hn1
    go_enter Tryz.func134, Tryz.ntmps134
    go_wp2_with fail
    go_ret
    rw [HL.out]
    exact ⟨none, 0, rfl, ⟨rfl, .inl ⟨rfl, rfl⟩⟩, Below.refl _ _⟩
  obtain ⟨i0, hi0, hz0, hz1, hz2⟩ := info_parts info_condA
  have t0 : ((n : Int) == 0) = false := beq_eq_false_iff_ne.2 (by omega)
  obtain ⟨W, hrun, r1, r2⟩ := run_make_full (P := Tryz.prog) w w.heap.size 23 88 i0 _ 3 Tryz.underlying23 hi0 hz0 hz1 .i64 .i64 n (by rw [hz2]; omega) (by unfold maxLen; omega) (Nat.le_refl _)
  have BT0 : Hid (Built w.heap.size w.heap.size 3 88 (fun _ cs x => cs = condE x) l n 0 W) := ⟨_, r1, fun j x hj => absurd hj (Nat.not_lt_zero _)⟩
  have BW0 : Hid (Below w.heap.size w W) := (Below.refl _ w).grown r2 (Nat.le_refl _) (fun k hk => by cases hk)
  clear hn1 r1 r2 hi0 hz0 hz1 hz2
  go_enter Tryz.func134, Tryz.ntmps134
  go_wp2_with fail
  clear hrun
  go_loopw [16] (fun i wr => ∃ k : Nat, k ≤ n ∧ i = .int .i64 k ∧ Hid (Built w.heap.size w.heap.size 3 88 (fun _ cs x => cs = condE x) l n k wr) ∧ Hid (Below w.heap.size w wr)) (fun i _ => n - (intOf i).toNat)
  case atStart => exact ⟨0, by omega, rfl, BT0, BW0⟩
  case round =>
    obtain ⟨k, hk, rfl, HB, HW⟩ := hrel
    by_cases hlt : k < n
    rotate_left
    · have HE : Hid (k = n) := by show k = n; omega
      have HB1 : Hid (Built w.heap.size w.heap.size 3 88 (fun _ cs x => cs = condE x) l n n wr) := by have := HB.out; rw [HE.out] at this; exact this
      have HB2 : Hid (OwnE w.heap.size 3 88 condE (.slice (some ⟨w.heap.size, 0, none⟩) l.length n) l wr) := by
        have h := Built.exact (enc := condE) (fun _ => rfl) HB1.out HN1.out
        have h2 := congrArg (fun q => OwnE w.heap.size 3 88 condE (.slice (some ⟨w.heap.size, 0, none⟩) q n) l wr) HN1.out
        exact h2.mp h
      go_wp2_with fail
      go_ret
      refine ⟨some ⟨w.heap.size, 0, none⟩, n, ?_, HB2.out, HW.out⟩
      exact congrArg (fun q => Ending.returned (.slice (some ⟨w.heap.size, 0, none⟩) q n)) HN1.out
    obtain ⟨⟨x0, x1, x2⟩, hx⟩ := Mp.at_lt (l := l) (k := k) (by have := HN1.out; omega)
    obtain ⟨hz, d0, d1, d2⟩ := HC1.out k _ hx
    dsimp only at hz d0 d1 d2
    have d0 := below_cell HW.out _ _ d0
    have d1 := below_cell HW.out _ _ d1
    have d2 := below_cell HW.out _ _ d2
    obtain rfl := HA1.out (by omega)
    have HX := hideT hx
    clear hx
    have t1 : (0 : Int) ≤ (k : Int) := by omega
    have t2 : (k : Int) < (n : Int) := by omega
    go_wp2_with fail
    refine (condPlainD x0 x1 x2 _).mono ?_
    rintro e w1 ⟨rfl, p⟩
    have BA := hideT ((Below.refl wr.heap.size wr).alloc (Nat.le_refl _) (.cells #[.string x0, .string x1, .int .i64 x2] 89))
    have B1 := hideT (BA.out.trans (p.mono BA.out.size))
    have HB1 := hideT (HB.out.below B1.out)
    have HW1 := hideT (HW.out.trans (B1.out.mono HW.out.size))
    obtain ⟨⟨u0, e0⟩, f0⟩ := HB1.out.cells hlt 0 (by omega)
    obtain ⟨⟨u1, e1⟩, f1⟩ := HB1.out.cells hlt 1 (by omega)
    obtain ⟨⟨u2, e2⟩, f2⟩ := HB1.out.cells hlt 2 (by omega)
    rw [Nat.add_zero] at e0 f0
    have HB2 := hideT (HB1.out.put hlt [.string x0, .string x1, .int .i64 x2] rfl (x0, x1, x2) HX.out (fun w' _ => rfl))
    have HW2 := hideT (setAll_below (Nat.le_refl _) [.string x0, .string x1, .int .i64 x2] _ (k * 3) HW1.out)
    clear p d0 d1 d2
    go_wp2_with fail
    refine ⟨⟨k + 1, by omega, by go_num, HB2, HW2⟩, ?_⟩
    first | omega | (simp [intOf]; omega)
end Go.Proofs.YtdcahnaempabcabGreat
