/-
  In which stratum each flag is read first.
-/
import Derived.Test.YtkjekohncfhbiaaRRepeat2
set_option linter.unusedSimpArgs false
set_option linter.unusedVariables false
namespace Go.Proofs.Ytkjekohncfhbiaa
open Go.RowKit
set_option maxRecDepth 100000
namespace Rp
/-- Each flag's number is the least stratum in which it is read, 21 at most. -/
def RD (R : List Int) (S : Int → Int → Prop) (N : Nat) : Prop := R.length = N ∧ ∀ (f : Nat) v, R[f]? = some v → ∀ n : Int, n < v ↔ (n < 21 ∧ ∀ s, S f s → n < s)
theorem RD.start (N : Nat) : RD (List.replicate N 21) (fun _ _ => False) N := by
  refine ⟨by simp, fun f v hf n => ?_⟩
  rw [List.getElem?_replicate] at hf
  split at hf
  · cases hf
    exact ⟨fun h => ⟨h, fun s hs => hs.elim⟩, fun h => h.1⟩
  · cases hf
theorem RD.iff {R : List Int} {S T : Int → Int → Prop} {N : Nat} (h : RD R S N) (hi : ∀ f s, S f s ↔ T f s) : RD R T N :=
  ⟨h.1, fun f v hf n => (h.2 f v hf n).trans ⟨fun ⟨a, b⟩ => ⟨a, fun s hs => b s ((hi _ _).2 hs)⟩, fun ⟨a, b⟩ => ⟨a, fun s hs => b s ((hi _ _).1 hs)⟩⟩⟩
theorem RD.put {R : List Int} {S : Int → Int → Prop} {N : Nat} (h : RD R S N) {f : Nat} {v s0 : Int} (hf : R[f]? = some v) (u : Int) (hu : u = min v s0) : RD (R.set f u) (fun x s => S x s ∨ (x = f ∧ s = s0)) N := by
  refine ⟨by rw [List.length_set]; exact h.1, fun k y hk n => ?_⟩
  have hl := (List.getElem?_eq_some_iff.1 hf).1
  by_cases e : k = f
  · subst e
    rw [List.getElem?_set_self hl] at hk
    obtain rfl := Option.some.inj hk
    have h2 := h.2 k v hf n
    rw [hu]
    constructor
    · intro hn
      have hv : n < v := by omega
      have hs : n < s0 := by omega
      obtain ⟨a, b⟩ := h2.1 hv
      refine ⟨a, fun s hs' => ?_⟩
      rcases hs' with hs' | ⟨_, rfl⟩
      · exact b s hs'
      · exact hs
    · rintro ⟨a, b⟩
      have hv : n < v := h2.2 ⟨a, fun s hs' => b s (.inl hs')⟩
      have hs := b s0 (.inr ⟨rfl, rfl⟩)
      omega
  · rw [List.getElem?_set_ne (Ne.symm e)] at hk
    refine (h.2 k y hk n).trans ⟨fun ⟨a, b⟩ => ⟨a, fun s hs => ?_⟩, fun ⟨a, b⟩ => ⟨a, fun s hs => b s (.inl hs)⟩⟩
    rcases hs with hs | ⟨e', _⟩
    · exact b s hs
    · exact absurd e' (by omega)
/-- What is read by the first k rules, and by the first j ones of a row at stratum s0. -/
def SK (p : Prog) (k : Nat) (f s : Int) : Prop := ∃ (i : Nat) (r : Rule), i < k ∧ p.rules[i]? = some r ∧ r.1 = s ∧ ∃ l ∈ r.2.1, l.1 = f
def SJ (l1 : List Lit) (s0 : Int) (j : Nat) (f s : Int) : Prop := s = s0 ∧ ∃ (i : Nat) (l : Lit), i < j ∧ l1[i]? = some l ∧ l.1 = f
theorem sk_all (p : Prog) {k : Nat} (hk : p.rules.length ≤ k) (f s : Int) : SK p k f s ↔ ReadsS p f s := by
  constructor
  · rintro ⟨i, r, _, hr, hs, hl⟩
    exact ⟨r, List.mem_of_getElem? hr, hs, hl⟩
  · rintro ⟨r, hr, hs, hl⟩
    obtain ⟨i, hi⟩ := List.getElem?_of_mem hr
    exact ⟨i, r, by have := (List.getElem?_eq_some_iff.1 hi).1; omega, hi, hs, hl⟩
theorem sj_step {l1 : List Lit} {s0 : Int} {j : Nat} {x : Lit} (hx : l1[j]? = some x) (f s : Int) : SJ l1 s0 (j + 1) f s ↔ SJ l1 s0 j f s ∨ (f = x.1 ∧ s = s0) := by
  constructor
  · rintro ⟨hs, i, l, hi, hl, hf⟩
    by_cases e : i < j
    · exact .inl ⟨hs, i, l, e, hl, hf⟩
    · obtain rfl : i = j := by omega
      rw [hx] at hl
      cases hl
      exact .inr ⟨hf.symm, hs⟩
  · rintro (⟨hs, i, l, hi, hl, hf⟩ | ⟨hf, hs⟩)
    · exact ⟨hs, i, l, by omega, hl, hf⟩
    · exact ⟨hs, j, x, by omega, hx, hf.symm⟩
theorem sk_step {p : Prog} {k : Nat} {r : Rule} (hr : p.rules[k]? = some r) {j : Nat} (hj : r.2.1.length ≤ j) (f s : Int) : SK p (k + 1) f s ↔ SK p k f s ∨ SJ r.2.1 r.1 j f s := by
  constructor
  · rintro ⟨i, q, hi, hq, hs, l, hl, hf⟩
    by_cases e : i < k
    · exact .inl ⟨i, q, e, hq, hs, l, hl, hf⟩
    · obtain rfl : i = k := by omega
      rw [hr] at hq
      cases hq
      obtain ⟨t, ht⟩ := List.getElem?_of_mem hl
      exact .inr ⟨hs.symm, t, l, by have := (List.getElem?_eq_some_iff.1 ht).1; omega, ht, hf⟩
  · rintro (⟨i, q, hi, hq, h⟩ | ⟨hs, t, l, ht, hl, hf⟩)
    · exact ⟨i, q, by omega, hq, h⟩
    · exact ⟨k, r, by omega, hr, hs.symm, l, List.mem_of_getElem? hl, hf⟩
end Rp
theorem repeatV (w : World) (b : Nat) (x v : Int) (hx : w.cell? ⟨b, 0, none⟩ = some (.int .i64 x)) (N : Nat) (hN : N ≤ 1000) (hv : v = N) (H : Nat) (hH : w.heap.size = H) :
    Calls Try.prog 79 #[.slice (some ⟨b, 0, none⟩) 1 1, .int .i64 v] w fun e w' => e = .returned (.slice (some ⟨H, 0, none⟩) N N) ∧ ZB w' H (List.replicate N x) ∧ Below H w w' := by
  subst hv hH
  exact repeatD w b x hx N hN
def FRPost (p : Rp.Prog) (N : Nat) (w : World) (e : Ending) (w' : World) : Prop := ∃ g R, e = .returned (.slice (some ⟨g, 0, none⟩) N N) ∧ w.heap.size ≤ g ∧ ZB w' g R ∧ Rp.RD R (Rp.ReadsS p) N ∧ Below w.heap.size w w'
set_option maxHeartbeats 8000000 in
theorem firstReadsD (w : World) (A : PA) (p : Rp.Prog) (h : ProgAt w A p) (N : Nat) (hN : p.flags = N) (h8 : N ≤ 800) (hif : ∀ r ∈ p.rules, Rp.LitsP r.2.1 p.flags) :
    Calls Try.prog 70 #[.agg #[.int .i64 p.flags, .int .i64 p.lasting, .slice A.a2 p.first.length A.c2, .slice A.a3 p.over.length A.c3, .int .i64 p.frm, .slice A.a5 p.files.length A.c5, .slice A.a6 p.rules.length A.c6, .slice A.a7 p.ctrs.length A.c7, .slice A.a8 p.users.length A.c8, .slice A.a9 p.notes.length A.c9]] w (FRPost p N w) := by
  obtain ⟨a2, c2, a3, c3, a5, c5, a6, c6, a7, c7, a8, c8, a9, c9⟩ := A
  show Calls _ _ #[.agg #[.int .i64 p.flags, .int .i64 p.lasting, .slice a2 p.first.length c2, .slice a3 p.over.length c3, .int .i64 p.frm, .slice a5 p.files.length c5, .slice a6 p.rules.length c6, .slice a7 p.ctrs.length c7, .slice a8 p.users.length c8, .slice a9 p.notes.length c9]] w _
  have B0 := hideT ((Below.refl w.heap.size w).alloc (Nat.le_refl _) (.cells #[.int .i64 p.flags, .int .i64 p.lasting, .slice a2 p.first.length c2, .slice a3 p.over.length c3, .int .i64 p.frm, .slice a5 p.files.length c5, .slice a6 p.rules.length c6, .slice a7 p.ctrs.length c7, .slice a8 p.users.length c8, .slice a9 p.notes.length c9] 29))
  have L0 := hideT (PBox.newC w a2 a3 a5 a6 a7 a8 a9 c2 c3 c5 c6 c7 c8 c9 p)
  obtain ⟨_, hl, _, b, o, ha, hc⟩ := rrow_at (show RRow w (.slice a6 p.rules.length c6) p.rules from h.rules)
  have HC := hideT hc
  have HA := hideT ha
  have HN := hideT hN
  have HIF := hideT hif
  clear hc ha h hN hif
  obtain ⟨W1, hW1⟩ : ∃ W1, (w.alloc (.cells #[.int .i64 p.flags, .int .i64 p.lasting, .slice a2 p.first.length c2, .slice a3 p.over.length c3, .int .i64 p.frm, .slice a5 p.files.length c5, .slice a6 p.rules.length c6, .slice a7 p.ctrs.length c7, .slice a8 p.users.length c8, .slice a9 p.notes.length c9] 29)).alloc (.cells #[.int .i64 21] 3) = W1 := ⟨_, rfl⟩
  have B1 : Hid (Below w.heap.size w W1) := by show Below _ _ _; rw [← hW1]; exact B0.out.alloc (by simp) _
  have L1 : Hid (PBox W1 w.heap.size ⟨a2, c2, a3, c3, a5, c5, a6, c6, a7, c7, a8, c8, a9, c9⟩ p) := by show PBox _ _ _ _; rw [← hW1]; exact L0.out.below ((Below.refl _ _).alloc (Nat.le_refl _) _)
  have hz1 : W1.heap.size = w.heap.size + 2 := by rw [← hW1]; simp
  have s0 : W1.cell? ⟨w.heap.size + 1, 0, none⟩ = some (.int .i64 21) := by
    have := cell_new (w.alloc (.cells #[.int .i64 p.flags, .int .i64 p.lasting, .slice a2 p.first.length c2, .slice a3 p.over.length c3, .int .i64 p.frm, .slice a5 p.files.length c5, .slice a6 p.rules.length c6, .slice a7 p.ctrs.length c7, .slice a8 p.users.length c8, .slice a9 p.notes.length c9] 29)) #[.int .i64 21] 3 0
    rw [hW1] at this
    simpa using this
  obtain ⟨x0, x1, x2, x3, x4, x5, x6, x7, x8, x9⟩ := L1.out.cellsC
  go_enter Try.func70, Try.ntmps70
  go_wp2_with fail
  clear hW1
  refine (repeatV W1 (w.heap.size + 1) 21 p.flags s0 N (by omega) HN.out (w.heap.size + 2) hz1).mono ?_
  rintro e w2 ⟨rfl, z2, b2⟩
  have B2 := hideT (B1.out.trans (b2.mono (by omega)))
  have L2 : Hid (PBox w2 w.heap.size ⟨a2, c2, a3, c3, a5, c5, a6, c6, a7, c7, a8, c8, a9, c9⟩ p) := L1.out.below (by rw [hz1]; exact b2)
  have Z2 := hideT z2
  have hz2 : w.heap.size + 2 < w2.heap.size := Lies.lt z2
  clear x0 x1 x2 x3 x4 x5 x6 x7 x8 x9 s0 z2 b2
  obtain ⟨x0, x1, x2, x3, x4, x5, x6, x7, x8, x9⟩ := L2.out.cellsC
  go_wp2_with fail
  clear x0 x1 x2 x3 x4 x5 x6 x7 x8 x9
  go_loopw [15] (fun i wr => ∃ k : Nat, k ≤ p.rules.length ∧ i = .int .i64 k ∧ Hid (∃ R, ZB wr (w.heap.size + 2) R ∧ Rp.RD R (Rp.SK p k) N) ∧ Hid (Below w.heap.size w wr)) (fun i _ => p.rules.length - (intOf i).toNat)
  case atStart => exact ⟨0, by omega, rfl, ⟨_, Z2.out, (Rp.RD.start N).iff (fun f s => ⟨fun h => h.elim, fun ⟨i, r, hi, _⟩ => absurd hi (by omega)⟩)⟩, B2.out⟩
  case round =>
    obtain ⟨k, hk, rfl, HR, HW⟩ := hrel
    by_cases hlt : k < p.rules.length
    rotate_left
    · have HF : Hid (∃ R, ZB wr (w.heap.size + 2) R ∧ Rp.RD R (Rp.ReadsS p) N) := by
        obtain ⟨R, r1, r2⟩ := HR.out
        exact ⟨R, r1, r2.iff (Rp.sk_all p (by omega))⟩
      go_wp2_with fail
      go_ret
      obtain ⟨R, r1, r2⟩ := HF.out
      exact ⟨_, R, rfl, by omega, r1, r2, HW.out⟩
    obtain ⟨⟨s, l1, l2, l3⟩, hx⟩ := Mp.at_lt (l := p.rules) (k := k) hlt
    obtain ⟨i1, n1, i2, n2, i3, n3, I0⟩ := HC.out k _ hx
    obtain ⟨r1, r2, r3, d0, d1, d2, d3⟩ := I0.turn (below_cell HW.out)
    dsimp only at r1 r2 r3 d0 d1 d2 d3
    obtain rfl := HA.out (by omega)
    have HX := hideT hx
    have hzr : w.heap.size + 2 < wr.heap.size := by obtain ⟨R, q, _⟩ := HR.out; exact Lies.lt q
    have BA := hideT ((Below.refl wr.heap.size wr).alloc (Nat.le_refl _) (.cells #[.int .i64 s, .slice i1 l1.length n1, .slice i2 l2.length n2, .slice i3 l3.length n3] 61))
    have LA := hideT (Lies.new wr 61 #[.int .i64 s, .slice i1 l1.length n1, .slice i2 l2.length n2, .slice i3 l3.length n3])
    have BW := hideT (HW.out.trans (BA.out.mono HW.out.size))
    obtain ⟨_, hl1, _, b1, o1, ha1, hc1⟩ := lrow_at (show LRow w (.slice i1 l1.length n1) l1 from I0.ifs)
    have HC1 := hideT hc1
    have HA1 := hideT ha1
    have HLI : Hid (Rp.LitsP l1 p.flags) := HIF.out _ (List.mem_of_getElem? hx)
    clear hx I0 r1 r2 r3 hc1 ha1
    have t0 : (0 : Int) ≤ (k : Int) := by omega
    have t1 : (k : Int) < (p.rules.length : Int) := by omega
    obtain ⟨V, hV⟩ : ∃ V, wr.alloc (.cells #[.int .i64 s, .slice i1 l1.length n1, .slice i2 l2.length n2, .slice i3 l3.length n3] 61) = V := ⟨_, rfl⟩
    rw [hV] at BA LA BW
    have ZV : Hid (∃ R, ZB V (w.heap.size + 2) R ∧ Rp.RD R (Rp.SK p k) N) := by
      obtain ⟨R, q1, q2⟩ := HR.out
      exact ⟨R, Lies.below q1 BA.out, q2⟩
    have y0 : V.cell? ⟨wr.heap.size, 0, none⟩ = some (.int .i64 s) := LA.out.cell 0
    have y1 : V.cell? ⟨wr.heap.size, 1, none⟩ = some (.slice i1 l1.length n1) := LA.out.cell 1
    have y2 : V.cell? ⟨wr.heap.size, 2, none⟩ = some (.slice i2 l2.length n2) := LA.out.cell 2
    have y3 : V.cell? ⟨wr.heap.size, 3, none⟩ = some (.slice i3 l3.length n3) := LA.out.cell 3
    go_wp2_with fail
    clear d0 d1 d2 d3 y0 y1 y2 y3 hV
    obtain ⟨W0, hW0⟩ : ∃ W0, W0 = wr := ⟨wr, rfl⟩
    subst hW0
    go_loopw [22] (fun i ws => ∃ j : Nat, j ≤ l1.length ∧ i = .int .i64 j ∧ Hid (∃ R, ZB ws (w.heap.size + 2) R ∧ Rp.RD R (fun f x => Rp.SK p k f x ∨ Rp.SJ l1 s j f x) N) ∧ Hid (Below w.heap.size w ws ∧ Lies ws W0.heap.size 61 #[.int .i64 s, .slice i1 l1.length n1, .slice i2 l2.length n2, .slice i3 l3.length n3])) (fun i _ => l1.length - (intOf i).toNat)
    case atStart =>
      obtain ⟨R, q1, q2⟩ := ZV.out
      exact ⟨0, by omega, rfl, ⟨R, q1, q2.iff (fun f x => ⟨fun h => .inl h, fun h => h.elim id (fun ⟨_, i, l, hi, _⟩ => absurd hi (by omega))⟩)⟩, BW.out, LA.out⟩
    case round =>
      obtain ⟨j, hj, rfl, HR2, HV⟩ := hrel
      by_cases hjl : j < l1.length
      rotate_left
      · have HF : Hid (∃ R, ZB wr (w.heap.size + 2) R ∧ Rp.RD R (Rp.SK p (k + 1)) N) := by
          obtain ⟨R, q1, q2⟩ := HR2.out
          exact ⟨R, q1, q2.iff (fun f x => (Rp.sk_step HX.out (j := j) (by show l1.length ≤ j; omega) f x).symm)⟩
        go_wp2_with fail
        refine ⟨⟨k + 1, by omega, by go_num, HF, HV.out.1⟩, ?_⟩
        first | omega | (simp [intOf]; omega)
      obtain ⟨⟨g0, g1⟩, hy⟩ := Mp.at_lt (l := l1) (k := j) hjl
      have hin := HLI.out _ (List.mem_of_getElem? hy)
      dsimp only at hin
      obtain ⟨f, hf⟩ : ∃ f : Nat, g0 = (f : Int) := ⟨g0.toNat, by have := hin.1; omega⟩
      subst hf
      have hfN : f < N := by have := hin.2; have := HN.out; omega
      clear hin
      obtain ⟨d0, d1⟩ := HC1.out j _ hy
      dsimp only at d0 d1
      have d0 := below_cell HV.out.1 _ _ d0
      have d1 := below_cell HV.out.1 _ _ d1
      obtain rfl := HA1.out (by omega)
      have HY := hideT hy
      clear hy
      have t3 : (0 : Int) ≤ (j : Int) := by omega
      have t4 : (j : Int) < (l1.length : Int) := by omega
      have t5 : (0 : Int) ≤ (f : Int) := by omega
      have t6 : (f : Int) < (N : Int) := by omega
      have BB := hideT ((Below.refl wr.heap.size wr).alloc (Nat.le_refl _) (.cells #[.int .i64 f, .bool g1] 54))
      have LB := hideT (Lies.new wr 54 #[.int .i64 f, .bool g1])
      obtain ⟨V2, hV2⟩ : ∃ V2, wr.alloc (.cells #[.int .i64 f, .bool g1] 54) = V2 := ⟨_, rfl⟩
      rw [hV2] at BB LB
      obtain ⟨R, q1, q2⟩ := HR2.out
      have q1 := Lies.below q1 BB.out
      obtain ⟨v, hv⟩ : ∃ v, R[f]? = some v := ⟨_, List.getElem?_eq_getElem (by rw [q2.1]; exact hfN)⟩
      have c0 : V2.cell? ⟨w.heap.size + 2, f, none⟩ = some (.int .i64 v) := ZB.cell q1 hv
      have cf : V2.frozen? ⟨w.heap.size + 2, f, none⟩ = false := ZB.free q1 f
      have y0 : V2.cell? ⟨W0.heap.size, 0, none⟩ = some (.int .i64 s) := (HV.out.2.below BB.out).cell 0
      have e0 : V2.cell? ⟨wr.heap.size, 0, none⟩ = some (.int .i64 f) := LB.out.cell 0
      have HF : Hid (∀ u, u = min v s → ∃ R, ZB (V2.setCell ⟨w.heap.size + 2, f, none⟩ (.int .i64 u)).drew (w.heap.size + 2) R ∧ Rp.RD R (fun f x => Rp.SK p k f x ∨ Rp.SJ l1 s (j + 1) f x) N) := fun u hu =>
        ⟨_, show ZB (V2.setCell ⟨w.heap.size + 2, f, none⟩ (.int .i64 u)) (w.heap.size + 2) _ from ZB.set q1 f u, (q2.put hv u hu).iff (fun x y => by rw [Rp.sj_step HY.out, or_assoc])⟩
      have HK : Hid (∀ u, Below w.heap.size w (V2.setCell ⟨w.heap.size + 2, f, none⟩ u).drew ∧ Lies (V2.setCell ⟨w.heap.size + 2, f, none⟩ u).drew W0.heap.size 61 #[.int .i64 s, .slice (some ⟨b1, o1, none⟩) l1.length n1, .slice i2 l2.length n2, .slice i3 l3.length n3]) := fun u => by
        have l := (HV.out.2.below BB.out).off ⟨w.heap.size + 2, f, none⟩ u (by show W0.heap.size ≠ w.heap.size + 2; omega)
        exact ⟨below_drewN ((HV.out.1.trans (BB.out.mono HV.out.1.size)).setCell (by simp) _) 1, l⟩
      clear q1 q2 hv
      go_wp2_with fail
      go_region_with (fail)
      all_goals
        go_wp2_with fail
        go_simp
        refine ⟨⟨j + 1, by omega, by omega, HF.out _ (by split <;> omega), HK.out _⟩, ?_⟩
        first | omega | (simp [intOf]; omega)
end Go.Proofs.Ytkjekohncfhbiaa
