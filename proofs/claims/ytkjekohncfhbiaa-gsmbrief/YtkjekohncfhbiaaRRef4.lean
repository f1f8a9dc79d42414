/-
  The document's strata.
-/
import Derived.Test.YtkjekohncfhbiaaRFirst
import Derived.Test.YtkjekohncfhbiaaRRef2
import Derived.Deep.CutRange
set_option linter.unusedSimpArgs false
set_option linter.unusedVariables false
namespace Go.Proofs.Ytkjekohncfhbiaa
open Go.RowKit
set_option maxRecDepth 100000
namespace Rp
/-- Each flag's number is the greatest stratum in which it is written, 0 at least. -/
def WD (R : List Int) (S : Int → Int → Prop) (N : Nat) : Prop := R.length = N ∧ ∀ (f : Nat) v, R[f]? = some v → ∀ n : Int, v < n ↔ (0 < n ∧ ∀ s, S f s → s < n)
theorem WD.start (N : Nat) : WD (List.replicate N 0) (fun _ _ => False) N := by
  refine ⟨by simp, fun f v hf n => ?_⟩
  rw [List.getElem?_replicate] at hf
  split at hf
  · cases hf
    exact ⟨fun h => ⟨h, fun s hs => hs.elim⟩, fun h => h.1⟩
  · cases hf
theorem WD.iff {R : List Int} {S T : Int → Int → Prop} {N : Nat} (h : WD R S N) (hi : ∀ f s, S f s ↔ T f s) : WD R T N :=
  ⟨h.1, fun f v hf n => (h.2 f v hf n).trans ⟨fun ⟨a, b⟩ => ⟨a, fun s hs => b s ((hi _ _).2 hs)⟩, fun ⟨a, b⟩ => ⟨a, fun s hs => b s ((hi _ _).1 hs)⟩⟩⟩
theorem WD.put {R : List Int} {S : Int → Int → Prop} {N : Nat} (h : WD R S N) {f : Nat} {v s0 : Int} (hf : R[f]? = some v) (u : Int) (hu : u = max v s0) : WD (R.set f u) (fun x s => S x s ∨ (x = f ∧ s = s0)) N := by
  refine ⟨by rw [List.length_set]; exact h.1, fun k y hk n => ?_⟩
  have hl := (List.getElem?_eq_some_iff.1 hf).1
  by_cases e : k = f
  · subst e
    rw [List.getElem?_set_self hl] at hk
    obtain rfl := Option.some.inj hk
    have h2 := h.2 k v hf n
    rw [hu]
    constructor
    · intro hn
      have hv : v < n := by omega
      have hs : s0 < n := by omega
      obtain ⟨a, b⟩ := h2.1 hv
      refine ⟨a, fun s hs' => ?_⟩
      rcases hs' with hs' | ⟨_, rfl⟩
      · exact b s hs'
      · exact hs
    · rintro ⟨a, b⟩
      have hv : v < n := h2.2 ⟨a, fun s hs' => b s (.inl hs')⟩
      have hs := b s0 (.inr ⟨rfl, rfl⟩)
      omega
  · rw [List.getElem?_set_ne (Ne.symm e)] at hk
    refine (h.2 k y hk n).trans ⟨fun ⟨a, b⟩ => ⟨a, fun s hs => ?_⟩, fun ⟨a, b⟩ => ⟨a, fun s hs => b s (.inl hs)⟩⟩
    rcases hs with hs | ⟨e', _⟩
    · exact b s hs
    · exact absurd e' (by omega)
/-- What the first k rules write. -/
def SW (p : Prog) (k : Nat) (f s : Int) : Prop := ∃ (i : Nat) (r : Rule), i < k ∧ p.rules[i]? = some r ∧ r.1 = s ∧ ∃ l ∈ r.2.2.2, l.1 = f
theorem sw_all (p : Prog) {k : Nat} (hk : p.rules.length ≤ k) (f s : Int) : SW p k f s ↔ WritesS p f s := by
  constructor
  · rintro ⟨i, r, _, hr, hs, hl⟩
    exact ⟨r, List.mem_of_getElem? hr, hs, hl⟩
  · rintro ⟨r, hr, hs, hl⟩
    obtain ⟨i, hi⟩ := List.getElem?_of_mem hr
    exact ⟨i, r, by have := (List.getElem?_eq_some_iff.1 hi).1; omega, hi, hs, hl⟩
theorem sw_step {p : Prog} {k : Nat} {r : Rule} (hr : p.rules[k]? = some r) {j : Nat} (hj : r.2.2.2.length ≤ j) (f s : Int) : SW p (k + 1) f s ↔ SW p k f s ∨ SJ r.2.2.2 r.1 j f s := by
  constructor
  · rintro ⟨i, q, hi, hq, hs, l, hl, hf⟩
    by_cases e : i < k
    · exact .inl ⟨i, q, e, hq, hs, l, hl, hf⟩
    · obtain rfl : i = k := by omega
      rw [hr] at hq
      cases hq
      obtain ⟨t, ht⟩ := List.getElem?_of_mem hl
      exact .inr ⟨hs.symm, t, l, by have := (List.getElem?_eq_some_iff.1 ht).1; omega, ht, hf⟩
  · rintro (⟨i, q, hi, hq, h⟩ | ⟨hs, t, l, ht, hl, hf⟩)
    · exact ⟨i, q, by omega, hq, h⟩
    · exact ⟨k, r, by omega, hr, hs.symm, l, List.mem_of_getElem? hl, hf⟩
theorem sj_zero {l : List Lit} {s0 : Int} (f s : Int) : ¬ SJ l s0 0 f s := fun ⟨_, i, l, hi, _⟩ => absurd hi (by omega)
/-- What lasts is written in the last rule's stratum. -/
def LastP (p : Prog) (r : Rule) : Prop := ∀ x ∈ r.2.2.2, InP x.1 p.lasting → r.1 = lastS p
/-- The greatest stratum that writes a flag is below the least one that reads it, of those that do not last. -/
theorem strata_iff {p : Prog} {N M : Nat} {H L : List Int} (hN : p.flags = N) (hM : p.lasting = M) (hs : ∀ r ∈ p.rules, StratP r.1) (hH : WD H (WritesS p) N) (hL : RD L (ReadsS p) N) (hl : ∀ r ∈ p.rules, LastP p r) :
    StrataP p ↔ ∀ (f : Nat) v u, M ≤ f → H[f]? = some v → L[f]? = some u → v < u := by
  constructor
  · intro HS f v u hf hv hu
    have hfl := (List.getElem?_eq_some_iff.1 hv).1
    rw [hH.1] at hfl
    have hp : PassP p f := ⟨by omega, by omega⟩
    refine (hL.2 f u hu v).2 ⟨(hH.2 f v hv 21).2 ⟨by omega, fun s ⟨r, hr, e, _⟩ => ?_⟩, fun s ⟨q, hq, e, l, hl', hlf⟩ => ?_⟩
    · have h20 : r.1 ≤ 20 := (hs r hr).2
      omega
    · have h1 : 1 ≤ q.1 := (hs q hq).1
      refine (hH.2 f v hv s).2 ⟨by omega, fun t ⟨r, hr, e', x, hx, hxf⟩ => ?_⟩
      have h3 := (HS r hr x hx).2 (by rw [hxf]; exact hp) q hq l hl' (by rw [hlf, hxf])
      rw [e', e] at h3
      exact h3
  · intro HA r hr x hx
    refine ⟨hl r hr x hx, fun hp q hq l hlq e => ?_⟩
    obtain ⟨f, hf⟩ : ∃ f : Nat, x.1 = (f : Int) := ⟨x.1.toNat, by have := hp.1; omega⟩
    rw [hf] at hp e
    have hfN : f < N := by have := hp.2; omega
    obtain ⟨v, hv⟩ : ∃ v, H[f]? = some v := ⟨_, List.getElem?_eq_getElem (by rw [hH.1]; exact hfN)⟩
    obtain ⟨u, hu⟩ : ∃ u, L[f]? = some u := ⟨_, List.getElem?_eq_getElem (by rw [hL.1]; exact hfN)⟩
    have h1 := HA f v u (by have := hp.1; omega) hv hu
    have h2 := ((hL.2 f u hu v).1 h1).2 q.1 ⟨q, hq, rfl, l, hlq, e⟩
    exact ((hH.2 f v hv q.1).1 h2).2 r.1 ⟨r, hr, rfl, x, hx, hf⟩
def LastTo (p : Prog) (l : List Lit) (s : Int) (t : Nat) : Prop := ∀ (i : Nat) x, i < t → l[i]? = some x → InP x.1 p.lasting → s = lastS p
theorem rep_set (k N : Nat) (hk : k < N) : (List.replicate k (21 : Int) ++ List.replicate (N - k) 0).set k 21 = List.replicate (k + 1) 21 ++ List.replicate (N - (k + 1)) 0 := by
  rw [List.set_append, if_neg (by simp), List.length_replicate, Nat.sub_self]
  obtain ⟨m, hm⟩ : ∃ m, N - k = m + 1 := ⟨N - k - 1, by omega⟩
  rw [hm, List.replicate_succ, List.set_cons_zero, show N - (k + 1) = m by omega, List.replicate_succ', List.append_assoc]
  rfl
end Rp
/-- The memory of strata: the program's box, two rows of numbers. -/
def HLw (w ws : World) (A : PA) (p : Rp.Prog) (g1 g2 N : Nat) (S T : Int → Int → Prop) : Prop :=
  Below w.heap.size w ws ∧ PBox ws w.heap.size A p ∧ (∃ R, ZB ws g1 R ∧ Rp.WD R S N) ∧ ∃ R, ZB ws g2 R ∧ Rp.RD R T N
section HLS
variable {w ws wt : World} {A : PA} {p : Rp.Prog} {g1 g2 N : Nat} {S T S' T' : Int → Int → Prop}
theorem HLw.below (h : HLw w ws A p g1 g2 N S T) (b : Below ws.heap.size ws wt) : HLw w wt A p g1 g2 N S T := by
  obtain ⟨h1, h2, ⟨R, r1, r2⟩, Q, q1, q2⟩ := h
  exact ⟨h1.trans (b.mono h1.size), h2.below b, ⟨R, Lies.below r1 b, r2⟩, Q, Lies.below q1 b, q2⟩
theorem HLw.iff (h : HLw w ws A p g1 g2 N S T) (hs : ∀ f s, S f s ↔ S' f s) (ht : ∀ f s, T f s ↔ T' f s) : HLw w ws A p g1 g2 N S' T' := by
  obtain ⟨h1, h2, ⟨R, r1, r2⟩, Q, q1, q2⟩ := h
  exact ⟨h1, h2, ⟨R, r1, r2.iff hs⟩, Q, q1, q2.iff ht⟩
theorem HLw.put1 (h : HLw w ws A p g1 g2 N S T) (hg : w.heap.size < g1) (hne : g1 ≠ g2) {R : List Int} (hR : ZB ws g1 R) {f : Nat} {v s0 u : Int} (hv : R[f]? = some v) (hu : u = max v s0) (hD : Rp.WD R S N) :
    HLw w (ws.setCell ⟨g1, f, none⟩ (.int .i64 u)) A p g1 g2 N (fun x s => S x s ∨ (x = f ∧ s = s0)) T := by
  obtain ⟨h1, h2, _, Q, q1, q2⟩ := h
  exact ⟨h1.setCell (Nat.le_of_lt hg) _, Lies.off h2 _ _ (by show w.heap.size ≠ g1; omega), ⟨_, ZB.set hR f u, hD.put hv u hu⟩, Q, Lies.off q1 _ _ (Ne.symm hne), q2⟩
theorem HLw.put2 (h : HLw w ws A p g1 g2 N S T) (hg : w.heap.size < g2) (hne : g1 ≠ g2) {R : List Int} (hR : ZB ws g2 R) {f : Nat} {v s0 u : Int} (hv : R[f]? = some v) (hu : u = min v s0) (hD : Rp.RD R T N) :
    HLw w (ws.setCell ⟨g2, f, none⟩ (.int .i64 u)) A p g1 g2 N S (fun x s => T x s ∨ (x = f ∧ s = s0)) := by
  obtain ⟨h1, h2, ⟨Q, q1, q2⟩, _⟩ := h
  exact ⟨h1.setCell (Nat.le_of_lt hg) _, Lies.off h2 _ _ (by show w.heap.size ≠ g2; omega), ⟨Q, Lies.off q1 _ _ hne, q2⟩, _, ZB.set hR f u, hD.put hv u hu⟩
end HLS
set_option maxHeartbeats 16000000 in
theorem refStrataD (w : World) (A : PA) (p : Rp.Prog) (h : ProgAt w A p) (hb : 0 ≤ p.lasting ∧ p.lasting ≤ p.flags ∧ p.flags ≤ 800) (hr : ∀ r ∈ p.rules, RuleQ p r) :
    Calls Try.prog 37 #[.agg #[.int .i64 p.flags, .int .i64 p.lasting, .slice A.a2 p.first.length A.c2, .slice A.a3 p.over.length A.c3, .int .i64 p.frm, .slice A.a5 p.files.length A.c5, .slice A.a6 p.rules.length A.c6, .slice A.a7 p.ctrs.length A.c7, .slice A.a8 p.users.length A.c8, .slice A.a9 p.notes.length A.c9]] w (BPost (Rp.StrataP p) w) := by
  obtain ⟨N, hN⟩ : ∃ N : Nat, p.flags = (N : Int) := ⟨p.flags.toNat, by omega⟩
  obtain ⟨M, hM⟩ : ∃ M : Nat, p.lasting = (M : Int) := ⟨p.lasting.toNat, by omega⟩
  obtain ⟨a2, c2, a3, c3, a5, c5, a6, c6, a7, c7, a8, c8, a9, c9⟩ := A
  show Calls _ _ #[.agg #[.int .i64 p.flags, .int .i64 p.lasting, .slice a2 p.first.length c2, .slice a3 p.over.length c3, .int .i64 p.frm, .slice a5 p.files.length c5, .slice a6 p.rules.length c6, .slice a7 p.ctrs.length c7, .slice a8 p.users.length c8, .slice a9 p.notes.length c9]] w _
  have B0 := hideT ((Below.refl w.heap.size w).alloc (Nat.le_refl _) (.cells #[.int .i64 p.flags, .int .i64 p.lasting, .slice a2 p.first.length c2, .slice a3 p.over.length c3, .int .i64 p.frm, .slice a5 p.files.length c5, .slice a6 p.rules.length c6, .slice a7 p.ctrs.length c7, .slice a8 p.users.length c8, .slice a9 p.notes.length c9] 29))
  have L0 := hideT (PBox.newC w a2 a3 a5 a6 a7 a8 a9 c2 c3 c5 c6 c7 c8 c9 p)
  obtain ⟨_, hl, _, b, o, ha, hc⟩ := rrow_at (show RRow w (.slice a6 p.rules.length c6) p.rules from h.rules)
  have HC := hideT hc
  have HA := hideT ha
  have HN := hideT hN
  have HM := hideT hM
  have HRU := hideT hr
  have hN8 : N ≤ 800 := by omega
  have hMN : M ≤ N := by omega
  clear hc ha h hN hM hr hb
  obtain ⟨WB, hWB⟩ : ∃ WB, w.alloc (.cells #[.int .i64 p.flags, .int .i64 p.lasting, .slice a2 p.first.length c2, .slice a3 p.over.length c3, .int .i64 p.frm, .slice a5 p.files.length c5, .slice a6 p.rules.length c6, .slice a7 p.ctrs.length c7, .slice a8 p.users.length c8, .slice a9 p.notes.length c9] 29) = WB := ⟨_, rfl⟩
  have hsWB : WB.heap.size = w.heap.size + 1 := by rw [← hWB]; simp
  rw [hWB] at B0 L0
  obtain ⟨x0, x1, x2, x3, x4, x5, x6, x7, x8, x9⟩ := L0.out.cellsC
  go_enter Try.func37, Try.ntmps37
  go_upto_if 17 with fail
  go_cut [3] from 14 to 26 (fun q wc => q = .int .i64 (Rp.lastS p) ∧ wc = WB)
  case first =>
    by_cases h0 : 0 < p.rules.length
    · obtain ⟨m, hm⟩ : ∃ m, p.rules.length = m + 1 := ⟨p.rules.length - 1, by omega⟩
      obtain ⟨q, hq⟩ := Mp.at_lt (l := p.rules) (k := m) (by omega)
      obtain ⟨u1, v1, u2, v2, u3, v3, Iq⟩ := HC.out m _ hq
      have m0 := below_cell B0.out _ _ Iq.c0
      obtain rfl := HA.out h0
      have HZ := hideT (Rp.lastS_at hq hm)
      have t7 : IntKind.i64.wrap ((p.rules.length : Int) - 1) = (m : Int) := by rw [IntKind.wrap_i64]; omega
      have t8 : (0 : Int) ≤ (m : Int) := by omega
      have t9 : (m : Int) < (p.rules.length : Int) := by omega
      have t10 : (0 : Int) < (p.rules.length : Int) := by omega
      clear hm hq Iq
      go_wp2_with fail
      go_meet
      case rel => exact ⟨by rw [HZ.out], rfl⟩
    · have HZ : Hid (Rp.lastS p = 0) := by
        show _ = _
        unfold Rp.lastS
        rw [List.eq_nil_of_length_eq_zero (l := p.rules) (by omega)]
        rfl
      go_wp2_with fail
      go_meet
      case rel => exact ⟨by rw [HZ.out], rfl⟩
  case rest =>
    obtain ⟨rfl, rfl⟩ := hcut
    obtain ⟨x0, x1, x2, x3, x4, x5, x6, x7, x8, x9⟩ := L0.out.cellsC
    have BD := hideT (show Below wc.heap.size wc wc.drew from below_drewN (Below.refl _ _) 1)
    obtain ⟨W1, hr1, z1, b1, s1⟩ := madeZ wc.drew N (by omega)
    obtain ⟨W2, hr2, z2, b2, s2⟩ := madeZ W1 N (by omega)
    rw [← HN.out] at hr1 hr2
    have s1' : W1.heap.size = wc.heap.size + 1 := s1
    have HZ : Hid (ZB W2 (w.heap.size + 1) (List.replicate N 0) ∧ ZB W2 (w.heap.size + 2) (List.replicate N 0)) := ⟨by rw [← hsWB]; exact Lies.below z1 b2, by rw [show w.heap.size + 2 = W1.heap.size by omega]; exact z2⟩
    have HBB := hideT ((B0.out.trans (BD.out.mono B0.out.size)).trans ((b1.trans (b2.mono b1.size)).mono (by have := B0.out.size; have := BD.out.size; omega)))
    have HPB := hideT (((L0.out.below BD.out).below b1).below b2)
    have y0 : W1.cell? ⟨w.heap.size, 0, none⟩ = some (.int .i64 p.flags) := (((L0.out.below BD.out).below b1).cellsC).1
    clear z1 z2 b1 b2 s1 s2
    go_upto_region 4 with fail
    go_cut [4, 5] from 27 to 32 (fun va vb wx => ∃ g1 g2 : Nat, va = .slice (some ⟨g1, 0, none⟩) N N ∧ vb = .slice (some ⟨g2, 0, none⟩) N N ∧ g1 ≠ g2 ∧ w.heap.size < g1 ∧ w.heap.size < g2 ∧ Hid (ZB wx g1 (List.replicate N 0) ∧ ZB wx g2 (List.replicate N 0)) ∧ Hid (Below w.heap.size w wx ∧ PBox wx w.heap.size ⟨a2, c2, a3, c3, a5, c5, a6, c6, a7, c7, a8, c8, a9, c9⟩ p))
    case first =>
      go_region_with (fail)
      all_goals go_wp2_with fail
      all_goals go_meet
      all_goals (first
        | exact ⟨w.heap.size + 1, w.heap.size + 2, rfl, rfl, by omega, by omega, by omega, HZ, HBB.out, HPB.out⟩
        | exact ⟨w.heap.size + 2, w.heap.size + 1, rfl, rfl, by omega, by omega, by omega, ⟨HZ.out.2, HZ.out.1⟩, HBB.out, HPB.out⟩)
    case rest =>
      clear hr1 hr2 HZ HBB HPB y0 x0 x1 x2 x3 x4 x5 x6 x7 x8 x9 s1' hsWB BD
      obtain ⟨g1, g2, rfl, rfl, hgn, hg1, hg2, HZ, HW⟩ := hcut
      obtain ⟨W3, hW3⟩ : ∃ W3, W3 = wc := ⟨wc, rfl⟩
      subst hW3
      go_wp2_with fail
      go_loopw [6] (fun i wr => ∃ k : Nat, k ≤ N ∧ i = .int .i64 k ∧ Hid (ZB wr g1 (List.replicate N 0) ∧ ZB wr g2 (List.replicate k 21 ++ List.replicate (N - k) 0)) ∧ Hid (Below w.heap.size w wr ∧ PBox wr w.heap.size ⟨a2, c2, a3, c3, a5, c5, a6, c6, a7, c7, a8, c8, a9, c9⟩ p)) (fun i _ => N - (intOf i).toNat)
      case atStart => exact ⟨0, by omega, rfl, ⟨HZ.out.1, by simpa using HZ.out.2⟩, HW⟩
      case round =>
        obtain ⟨k, hk, rfl, HK, HV⟩ := hrel
        obtain ⟨x0, x1, x2, x3, x4, x5, x6, x7, x8, x9⟩ := HV.out.2.cellsC
        by_cases hlt : k < N
        · have t0 : (0 : Int) ≤ (k : Int) := by omega
          have t1 : (k : Int) < (N : Int) := by omega
          have t2 : (k : Int) < p.flags := by have := HN.out; omega
          have c0 : wr.cell? ⟨g2, k, none⟩ = some (.int .i64 0) := ZB.cell HK.out.2 (by rw [List.getElem?_append_right (by simp), List.length_replicate, Nat.sub_self, List.getElem?_replicate, if_pos (by omega)])
          have cf : wr.frozen? ⟨g2, k, none⟩ = false := ZB.free HK.out.2 k
          have HR : Hid (ZB (wr.setCell ⟨g2, k, none⟩ (.int .i64 21)) g1 (List.replicate N 0) ∧ ZB (wr.setCell ⟨g2, k, none⟩ (.int .i64 21)) g2 (List.replicate (k + 1) 21 ++ List.replicate (N - (k + 1)) 0)) := ⟨Lies.off HK.out.1 _ _ hgn, by rw [← Rp.rep_set k N hlt]; exact ZB.set HK.out.2 k 21⟩
          have HU : Hid (Below w.heap.size w (wr.setCell ⟨g2, k, none⟩ (.int .i64 21)) ∧ PBox (wr.setCell ⟨g2, k, none⟩ (.int .i64 21)) w.heap.size ⟨a2, c2, a3, c3, a5, c5, a6, c6, a7, c7, a8, c8, a9, c9⟩ p) := ⟨HV.out.1.setCell (Nat.le_of_lt hg2) _, Lies.off HV.out.2 _ _ (by show w.heap.size ≠ g2; omega)⟩
          go_wp2_with fail
          refine ⟨⟨k + 1, by omega, by go_num, HR, HU⟩, ?_⟩
          first | omega | (simp [intOf]; omega)
        obtain rfl : k = N := by omega
        have HLW : Hid (HLw w wr ⟨a2, c2, a3, c3, a5, c5, a6, c6, a7, c7, a8, c8, a9, c9⟩ p g1 g2 k (Rp.SW p 0) (Rp.SK p 0)) := ⟨HV.out.1, HV.out.2, ⟨_, HK.out.1, (Rp.WD.start k).iff (fun f s => ⟨fun h => h.elim, fun ⟨i, r, hi, _⟩ => absurd hi (by omega)⟩)⟩, _, (by have := HK.out.2; simpa using this), (Rp.RD.start k).iff (fun f s => ⟨fun h => h.elim, fun ⟨i, r, hi, _⟩ => absurd hi (by omega)⟩)⟩
        have t2 : ¬ (k : Int) < p.flags := by have := HN.out; omega
        go_wp2_with fail
        clear t2 x0 x1 x2 x3 x4 x5 x6 x7 x8 x9 HK HV HZ HW hlt
        go_loopw [7] (fun i wr => ∃ j : Nat, j ≤ p.rules.length ∧ i = .int .i64 j ∧ Hid (∀ (i : Nat) r, i < j → p.rules[i]? = some r → Rp.LastP p r) ∧ Hid (HLw w wr ⟨a2, c2, a3, c3, a5, c5, a6, c6, a7, c7, a8, c8, a9, c9⟩ p g1 g2 k (Rp.SW p j) (Rp.SK p j))) (fun i _ => p.rules.length - (intOf i).toNat)
        case atStart => exact ⟨0, by omega, rfl, (fun j y hj => absurd hj (by omega)), HLW⟩
        case round =>
          obtain ⟨j, hj, rfl, HB, HH⟩ := hrel
          by_cases hjl : j < p.rules.length
          rotate_left
          · obtain ⟨x0, x1, x2, x3, x4, x5, x6, x7, x8, x9⟩ := HH.out.2.1.cellsC
            have HLA : Hid (∀ r ∈ p.rules, Rp.LastP p r) := Rp.all_of (Rp.all_done HB.out (by omega))
            have HSI : Hid (∃ R1 R2, ZB wr g1 R1 ∧ ZB wr g2 R2 ∧ R1.length = k ∧ R2.length = k ∧ (Rp.StrataP p ↔ ∀ (f : Nat) v u, M ≤ f → R1[f]? = some v → R2[f]? = some u → v < u)) := by
              obtain ⟨_, _, ⟨R1, q1, q2⟩, R2, q3, q4⟩ := HH.out
              have q2 := q2.iff (Rp.sw_all p (k := j) (by omega))
              have q4 := q4.iff (Rp.sk_all p (k := j) (by omega))
              exact ⟨R1, R2, q1, q3, q2.1, q4.1, Rp.strata_iff HN.out HM.out (fun r hr => (HRU.out r hr).1) q2 q4 HLA.out⟩
            obtain ⟨R1, R2, q1, q3, e1, e2, hsi⟩ := HSI.out
            have Z1 := hideT q1
            have Z3 := hideT q3
            have E1 := hideT e1
            have E2 := hideT e2
            have HS2 := hideT hsi
            have HBL := hideT HH.out.1
            have HPX := hideT HH.out.2.1
            clear q1 q3 e1 e2 hsi HSI
            obtain ⟨W5, hW5⟩ : ∃ W5, W5 = wr := ⟨wr, rfl⟩
            subst hW5
            go_wp2_with fail
            clear x0 x1 x2 x3 x4 x5 x6 x7 x8 x9
            go_loopw [13] (fun i wr => ∃ t : Nat, M ≤ t ∧ t ≤ k ∧ i = .int .i64 t ∧ Hid (∀ (f : Nat) v u, M ≤ f → f < t → R1[f]? = some v → R2[f]? = some u → v < u) ∧ Hid (Below W5.heap.size W5 wr)) (fun i _ => k - (intOf i).toNat)
            case atStart => exact ⟨M, Nat.le_refl _, hMN, by rw [HM.out], (fun f v u h1 h2 => absurd h2 (by omega)), Below.refl _ _⟩
            case round =>
              obtain ⟨t, htM, ht, rfl, HD, HV⟩ := hrel
              obtain ⟨x0, x1, x2, x3, x4, x5, x6, x7, x8, x9⟩ := (HPX.out.below HV.out).cellsC
              have BT := hideT (HBL.out.trans (HV.out.mono HBL.out.size))
              by_cases htk : t < k
              · have t2 : (t : Int) < p.flags := by have := HN.out; omega
                have t3 : (0 : Int) ≤ (t : Int) := by omega
                have t4 : (t : Int) < (k : Int) := by omega
                obtain ⟨v, hv⟩ : ∃ v, R1[t]? = some v := ⟨_, List.getElem?_eq_getElem (by rw [E1.out]; exact htk)⟩
                obtain ⟨u, hu⟩ : ∃ u, R2[t]? = some u := ⟨_, List.getElem?_eq_getElem (by rw [E2.out]; exact htk)⟩
                have c1 : wr.cell? ⟨g1, t, none⟩ = some (.int .i64 v) := ZB.cell (Lies.below Z1.out HV.out) hv
                have c2 : wr.cell? ⟨g2, t, none⟩ = some (.int .i64 u) := ZB.cell (Lies.below Z3.out HV.out) hu
                have HVV := hideT hv
                have HUU := hideT hu
                clear hv hu
                by_cases hvu : v < u
                · have HR : Hid (∀ (f : Nat) v u, M ≤ f → f < t + 1 → R1[f]? = some v → R2[f]? = some u → v < u) := fun f v' u' h1 h2 h3 h4 => by
                    by_cases e : f < t
                    · exact HD.out f v' u' h1 e h3 h4
                    · obtain rfl : f = t := by omega
                      rw [HVV.out] at h3
                      rw [HUU.out] at h4
                      cases h3
                      cases h4
                      exact hvu
                  have t5 : decide (u ≤ v) = false := decide_eq_false (by omega)
                  go_wp2_with fail
                  go_quiet (fail)
                  go_wp2_with fail
                  refine ⟨⟨t + 1, by omega, by omega, by go_num, HR, below_drewN HV.out _⟩, ?_⟩
                  first | omega | (simp [intOf]; omega)
                · have HF : Hid (¬ Rp.StrataP p) := fun H => hvu (HS2.out.1 H t v u htM HVV.out HUU.out)
                  have t5 : u ≤ v := by omega
                  go_wp2_with fail
                  go_quiet (fail)
                  go_wp2_with fail
                  go_ret
                  exact bpost_no HF.out (below_drewN BT.out _)
              · have t2 : ¬ (t : Int) < p.flags := by have := HN.out; omega
                have HF : Hid (Rp.StrataP p) := HS2.out.2 fun f v u h1 h3 h4 => HD.out f v u h1 (by have := (List.getElem?_eq_some_iff.1 h3).1; have := E1.out; omega) h3 h4
                go_wp2_with fail
                go_ret
                exact bpost_yes HF.out BT.out
          obtain ⟨x0, x1, x2, x3, x4, x5, x6, x7, x8, x9⟩ := HH.out.2.1.cellsC
          obtain ⟨⟨s, l1, l2, l3⟩, hx⟩ := Mp.at_lt (l := p.rules) (k := j) hjl
          obtain ⟨i1, n1, i2, n2, i3, n3, I0⟩ := HC.out j _ hx
          obtain ⟨r1, r2, r3, d0, d1, d2, d3⟩ := I0.turn (below_cell HH.out.1)
          dsimp only at r1 r2 r3 d0 d1 d2 d3
          obtain rfl := HA.out (by omega)
          have HX := hideT hx
          have HIN1 : Hid (Rp.LitsP l1 p.flags) := (HRU.out _ (List.mem_of_getElem? hx)).2.1
          have HIN3 : Hid (Rp.LitsP l3 p.flags) := (HRU.out _ (List.mem_of_getElem? hx)).2.2.2.1
          obtain ⟨_, hl1, _, b1, o1, ha1, hc1⟩ := lrow_at (show LRow w (.slice i1 l1.length n1) l1 from I0.ifs)
          obtain ⟨_, hl3, _, b3, o3, ha3, hc3⟩ := lrow_at (show LRow w (.slice i3 l3.length n3) l3 from I0.thens)
          have HC1 := hideT hc1
          have HA1 := hideT ha1
          have HC3 := hideT hc3
          have HA3 := hideT ha3
          clear hx I0 r1 r2 r3 hc1 ha1 hc3 ha3
          obtain ⟨W4, hW4⟩ : ∃ W4, W4 = wr := ⟨wr, rfl⟩
          subst hW4
          have hg1W : g1 < W4.heap.size := by obtain ⟨_, _, ⟨R, q, _⟩, _⟩ := HH.out; exact Lies.lt q
          have hg2W : g2 < W4.heap.size := by obtain ⟨_, _, _, R, q, _⟩ := HH.out; exact Lies.lt q
          have BA := hideT ((Below.refl W4.heap.size W4).alloc (Nat.le_refl _) (.cells #[.int .i64 s, .slice i1 l1.length n1, .slice i2 l2.length n2, .slice i3 l3.length n3] 61))
          have LA := hideT (Lies.new W4 61 #[.int .i64 s, .slice i1 l1.length n1, .slice i2 l2.length n2, .slice i3 l3.length n3])
          have HH2 := hideT (HH.out.below BA.out)
          have HH3 : Hid (HLw w (W4.alloc (.cells #[.int .i64 s, .slice i1 l1.length n1, .slice i2 l2.length n2, .slice i3 l3.length n3] 61)) ⟨a2, c2, a3, c3, a5, c5, some ⟨b, o, none⟩, c6, a7, c7, a8, c8, a9, c9⟩ p g1 g2 k (fun f x => Rp.SW p j f x ∨ Rp.SJ l3 s 0 f x) (Rp.SK p j)) := HH2.out.iff (fun f x => ⟨fun h => .inl h, fun h => h.elim id (fun h => (Rp.sj_zero f x h).elim)⟩) (fun _ _ => Iff.rfl)
          have t0 : (0 : Int) ≤ (j : Int) := by omega
          have t1 : (j : Int) < (p.rules.length : Int) := by omega
          go_wp2_with fail
          clear d0 d1 d2 d3 x0 x1 x2 x3 x4 x5 x6 x7 x8 x9
          go_loopw [9] (fun i wr => ∃ t : Nat, t ≤ l3.length ∧ i = .int .i64 t ∧ Hid (Rp.LastTo p l3 s t) ∧ Hid (HLw w wr ⟨a2, c2, a3, c3, a5, c5, some ⟨b, o, none⟩, c6, a7, c7, a8, c8, a9, c9⟩ p g1 g2 k (fun f x => Rp.SW p j f x ∨ Rp.SJ l3 s t f x) (Rp.SK p j)) ∧ Hid (Lies wr W4.heap.size 61 #[.int .i64 s, .slice i1 l1.length n1, .slice i2 l2.length n2, .slice i3 l3.length n3])) (fun i _ => l3.length - (intOf i).toNat)
          case atStart => exact ⟨0, by omega, rfl, (fun i x hi => absurd hi (by omega)), HH3, LA⟩
          case round =>
            obtain ⟨t, ht, rfl, HD, HX2, HRb⟩ := hrel
            obtain ⟨x0, x1, x2, x3, x4, x5, x6, x7, x8, x9⟩ := HX2.out.2.1.cellsC
            have y0 : wr.cell? ⟨W4.heap.size, 0, none⟩ = some (.int .i64 s) := HRb.out.cell 0
            have y1 : wr.cell? ⟨W4.heap.size, 1, none⟩ = some (.slice i1 l1.length n1) := HRb.out.cell 1
            have y3 : wr.cell? ⟨W4.heap.size, 3, none⟩ = some (.slice i3 l3.length n3) := HRb.out.cell 3
            by_cases htl : t < l3.length
            · obtain ⟨⟨f0, f1⟩, hy⟩ := Mp.at_lt (l := l3) (k := t) htl
              have hin := HIN3.out _ (List.mem_of_getElem? hy)
              dsimp only at hin
              obtain ⟨f, hf⟩ : ∃ f : Nat, f0 = (f : Int) := ⟨f0.toNat, by have := hin.1; omega⟩
              subst hf
              have hfN : f < k := by have := hin.2; have := HN.out; omega
              obtain ⟨d0, d1⟩ := HC3.out t _ hy
              dsimp only at d0 d1
              have d0 := below_cell HX2.out.1 _ _ d0
              have d1 := below_cell HX2.out.1 _ _ d1
              obtain rfl := HA3.out (by omega)
              have HY := hideT hy
              clear hy hin
              have t3 : (0 : Int) ≤ (t : Int) := by omega
              have t4 : (t : Int) < (l3.length : Int) := by omega
              have t5 : (0 : Int) ≤ (f : Int) := by omega
              have t6 : (f : Int) < (k : Int) := by omega
              obtain ⟨_, _, ⟨R1, q1, q2⟩, R2, q3, q4⟩ := HX2.out
              obtain ⟨v, hv⟩ : ∃ v, R1[f]? = some v := ⟨_, List.getElem?_eq_getElem (by rw [q2.1]; exact hfN)⟩
              have c0 : wr.cell? ⟨g1, f, none⟩ = some (.int .i64 v) := ZB.cell q1 hv
              have cf : wr.frozen? ⟨g1, f, none⟩ = false := ZB.free q1 f
              have HF : Hid (∀ u, u = max v s → HLw w (wr.setCell ⟨g1, f, none⟩ (.int .i64 u)).drew ⟨a2, c2, a3, c3, a5, c5, some ⟨b, o, none⟩, c6, a7, c7, a8, c8, a9, c9⟩ p g1 g2 k (fun f x => Rp.SW p j f x ∨ Rp.SJ l3 s (t + 1) f x) (Rp.SK p j) ∧ Lies (wr.setCell ⟨g1, f, none⟩ (.int .i64 u)).drew W4.heap.size 61 #[.int .i64 s, .slice i1 l1.length n1, .slice i2 l2.length n2, .slice (some ⟨b3, o3, none⟩) l3.length n3]) := fun u hu =>
                ⟨HLw.below ((HX2.out.put1 hg1 hgn q1 hv hu q2).iff (fun x y => by rw [Rp.sj_step HY.out, or_assoc]) (fun _ _ => Iff.rfl)) (show Below (wr.setCell ⟨g1, f, none⟩ (.int .i64 u)).heap.size _ (wr.setCell ⟨g1, f, none⟩ (.int .i64 u)).drew from below_drewN (Below.refl _ _) 1), Lies.off HRb.out _ _ (by show W4.heap.size ≠ g1; omega)⟩
              clear q1 q2 q3 q4 hv
              have z1 : ∀ u, (wr.setCell ⟨g1, f, none⟩ u).cell? ⟨w.heap.size, 1, none⟩ = some (.int .i64 p.lasting) := fun u => by rw [World.cell?_setCell_far _ _ _ _ (by show g1 ≠ w.heap.size; omega)]; exact x1
              have z2 : ∀ u, (wr.setCell ⟨g1, f, none⟩ u).cell? ⟨W4.heap.size, 0, none⟩ = some (.int .i64 s) := fun u => by rw [World.cell?_setCell_far _ _ _ _ (by show g1 ≠ W4.heap.size; omega)]; exact y0
              by_cases hfl : (f : Int) < p.lasting
              · by_cases hs : s = Rp.lastS p
                · have HR : Hid (Rp.LastTo p l3 s (t + 1)) := Rp.all_step (l := l3) (k := t) (P := fun _ (x : Rp.Lit) => Rp.InP x.1 p.lasting → s = Rp.lastS p) HD.out HY.out (fun _ => hs)
                  have t10 : (s != Rp.lastS p) = false := by simp [hs]
                  clear hs
                  go_wp2_with fail
                  go_region_with (fail)
                  all_goals go_wp2_with fail
                  all_goals go_simp
                  all_goals (refine ⟨⟨t + 1, by omega, by omega, HR, HF.out _ (by split <;> omega)⟩, ?_⟩; first | omega | (simp [intOf]; omega))
                · have HNO : Hid (¬ Rp.StrataP p) := fun H => hs ((H _ (List.mem_of_getElem? HX.out) _ (List.mem_of_getElem? HY.out)).1 ⟨t5, hfl⟩)
                  have t10 : (s != Rp.lastS p) = true := bne_iff_ne.2 hs
                  have HBE : Hid (∀ u, Below w.heap.size w (wr.setCell ⟨g1, f, none⟩ u).drew) := fun u => below_drewN (HX2.out.1.setCell (Nat.le_of_lt hg1) _) 1
                  clear hs HF
                  go_wp2_with fail
                  go_region_with (fail)
                  all_goals go_wp2_with fail
                  all_goals go_ret
                  all_goals exact bpost_no HNO.out (HBE.out _)
              · have HR : Hid (Rp.LastTo p l3 s (t + 1)) := Rp.all_step (l := l3) (k := t) (P := fun _ (x : Rp.Lit) => Rp.InP x.1 p.lasting → s = Rp.lastS p) HD.out HY.out (fun h => absurd h.2 hfl)
                go_wp2_with fail
                go_region_with (fail)
                all_goals go_wp2_with fail
                all_goals go_simp
                all_goals (refine ⟨⟨t + 1, by omega, by omega, HR, HF.out _ (by split <;> omega)⟩, ?_⟩; first | omega | (simp [intOf]; omega))
            have HX3 : Hid (HLw w wr ⟨a2, c2, a3, c3, a5, c5, some ⟨b, o, none⟩, c6, a7, c7, a8, c8, a9, c9⟩ p g1 g2 k (Rp.SW p (j + 1)) (fun f x => Rp.SK p j f x ∨ Rp.SJ l1 s 0 f x)) := HX2.out.iff (fun f x => (Rp.sw_step HX.out (j := t) (by show l3.length ≤ t; omega) f x).symm) (fun f x => ⟨fun h => .inl h, fun h => h.elim id (fun h => (Rp.sj_zero f x h).elim)⟩)
            have HLP : Hid (Rp.LastP p (s, l1, l2, l3)) := Rp.all_of (Rp.all_done (l := l3) (k := t) (P := fun _ (x : Rp.Lit) => Rp.InP x.1 p.lasting → s = Rp.lastS p) HD.out (by show l3.length ≤ t; omega))
            go_wp2_with fail
            clear x0 x1 x2 x3 x4 x5 x6 x7 x8 x9 y0 y1 y3
            go_loopw [11] (fun i wr => ∃ t : Nat, t ≤ l1.length ∧ i = .int .i64 t ∧ Hid (HLw w wr ⟨a2, c2, a3, c3, a5, c5, some ⟨b, o, none⟩, c6, a7, c7, a8, c8, a9, c9⟩ p g1 g2 k (Rp.SW p (j + 1)) (fun f x => Rp.SK p j f x ∨ Rp.SJ l1 s t f x)) ∧ Hid (Lies wr W4.heap.size 61 #[.int .i64 s, .slice i1 l1.length n1, .slice i2 l2.length n2, .slice i3 l3.length n3])) (fun i _ => l1.length - (intOf i).toNat)
            case atStart => exact ⟨0, by omega, rfl, HX3, HRb⟩
            case round =>
              obtain ⟨t, ht, rfl, HX2, HRb⟩ := hrel
              obtain ⟨x0, x1, x2, x3, x4, x5, x6, x7, x8, x9⟩ := HX2.out.2.1.cellsC
              have y0 : wr.cell? ⟨W4.heap.size, 0, none⟩ = some (.int .i64 s) := HRb.out.cell 0
              have y1 : wr.cell? ⟨W4.heap.size, 1, none⟩ = some (.slice i1 l1.length n1) := HRb.out.cell 1
              have y3 : wr.cell? ⟨W4.heap.size, 3, none⟩ = some (.slice i3 l3.length n3) := HRb.out.cell 3
              by_cases htl : t < l1.length
              · obtain ⟨⟨f0, f1⟩, hy⟩ := Mp.at_lt (l := l1) (k := t) htl
                have hin := HIN1.out _ (List.mem_of_getElem? hy)
                dsimp only at hin
                obtain ⟨f, hf⟩ : ∃ f : Nat, f0 = (f : Int) := ⟨f0.toNat, by have := hin.1; omega⟩
                subst hf
                have hfN : f < k := by have := hin.2; have := HN.out; omega
                obtain ⟨d0, d1⟩ := HC1.out t _ hy
                dsimp only at d0 d1
                have d0 := below_cell HX2.out.1 _ _ d0
                have d1 := below_cell HX2.out.1 _ _ d1
                obtain rfl := HA1.out (by omega)
                have HY := hideT hy
                clear hy hin
                have t3 : (0 : Int) ≤ (t : Int) := by omega
                have t4 : (t : Int) < (l1.length : Int) := by omega
                have t5 : (0 : Int) ≤ (f : Int) := by omega
                have t6 : (f : Int) < (k : Int) := by omega
                obtain ⟨_, _, ⟨R1, q1, q2⟩, R2, q3, q4⟩ := HX2.out
                obtain ⟨v, hv⟩ : ∃ v, R2[f]? = some v := ⟨_, List.getElem?_eq_getElem (by rw [q4.1]; exact hfN)⟩
                have c0 : wr.cell? ⟨g2, f, none⟩ = some (.int .i64 v) := ZB.cell q3 hv
                have cf : wr.frozen? ⟨g2, f, none⟩ = false := ZB.free q3 f
                have HF : Hid (∀ u, u = min v s → HLw w (wr.setCell ⟨g2, f, none⟩ (.int .i64 u)).drew ⟨a2, c2, a3, c3, a5, c5, some ⟨b, o, none⟩, c6, a7, c7, a8, c8, a9, c9⟩ p g1 g2 k (Rp.SW p (j + 1)) (fun f x => Rp.SK p j f x ∨ Rp.SJ l1 s (t + 1) f x) ∧ Lies (wr.setCell ⟨g2, f, none⟩ (.int .i64 u)).drew W4.heap.size 61 #[.int .i64 s, .slice (some ⟨b1, o1, none⟩) l1.length n1, .slice i2 l2.length n2, .slice i3 l3.length n3]) := fun u hu =>
                  ⟨HLw.below ((HX2.out.put2 hg2 hgn q3 hv hu q4).iff (fun _ _ => Iff.rfl) (fun x y => by rw [Rp.sj_step HY.out, or_assoc])) (show Below (wr.setCell ⟨g2, f, none⟩ (.int .i64 u)).heap.size _ (wr.setCell ⟨g2, f, none⟩ (.int .i64 u)).drew from below_drewN (Below.refl _ _) 1), Lies.off HRb.out _ _ (by show W4.heap.size ≠ g2; omega)⟩
                clear q1 q2 q3 q4 hv
                go_wp2_with fail
                go_region_with (fail)
                all_goals go_wp2_with fail
                all_goals go_simp
                all_goals (refine ⟨⟨t + 1, by omega, by omega, HF.out _ (by split <;> omega)⟩, ?_⟩; first | omega | (simp [intOf]; omega))
              have HX4 : Hid (HLw w wr ⟨a2, c2, a3, c3, a5, c5, some ⟨b, o, none⟩, c6, a7, c7, a8, c8, a9, c9⟩ p g1 g2 k (Rp.SW p (j + 1)) (Rp.SK p (j + 1))) := HX2.out.iff (fun _ _ => Iff.rfl) (fun f x => (Rp.sk_step HX.out (j := t) (by show l1.length ≤ t; omega) f x).symm)
              have HR : Hid (∀ (i : Nat) r, i < j + 1 → p.rules[i]? = some r → Rp.LastP p r) := Rp.all_step HB.out HX.out HLP.out
              go_wp2_with fail
              refine ⟨⟨j + 1, by omega, by go_num, HR, HX4⟩, ?_⟩
              first | omega | (simp [intOf]; omega)
end Go.Proofs.Ytkjekohncfhbiaa
