/-
  Several texts in one: each opens with its own word.
-/
import Derived.Test.YtkjekohncfhbiaaGRule
/-
  Strata under way.
-/
set_option linter.unusedSimpArgs false
set_option linter.unusedVariables false
namespace Go.Proofs.Ytkjekohncfhbiaa
open Go.RowKit
set_option maxRecDepth 100000
theorem infoC_R : (Try.prog.info? 112).map (fun i => (i.zero, i.size, i.bytes)) = some (some (.agg #[.slice none 0 0, .slice none 0 0, .slice none 0 0]), 3, 72) := by kernel_rfl
theorem infoC_ST : (Try.prog.info? 108).map (fun i => (i.zero, i.size, i.bytes)) = some (some (.agg #[.int .i64 0, .slice none 0 0]), 2, 32) := by kernel_rfl
theorem one_cel {z : Nat} {W : World} {cs : Array Value} {ty : TypeId} (c : Cel z) (hc : c.1 = cs.toList) : 0 < 1 → ∃ ad, (some ⟨W.heap.size, 0, none⟩ : Option Addr) = some ad ∧ ∀ (j : Nat) u, ([c].map celE).flatten[j]? = some u → (W.alloc (.cells cs ty)).cell? (ad.add j) = some u := fun _ => ⟨_, rfl, fun j u hj => news1 W cs ty j u (by
  have e : ([c].map celE).flatten = cs.toList := by rw [← hc]; simp [celE]
  rwa [e] at hj)⟩
def celS (n : Int) (a : Option Addr) (m c : Nat) : Cel 2 := ⟨[.int .i64 n, .slice a m c], rfl, fun u hu => by simp at hu; rcases hu with rfl | rfl <;> rfl⟩
/-- The cells of a rule. -/
def celR (v1 v2 v3 : Value) (h1 : v1.oneCell' = true) (h2 : v2.oneCell' = true) (h3 : v3.oneCell' = true) : Cel 3 := ⟨[v1, v2, v3], rfl, fun u hu => by simp at hu; rcases hu with rfl | rfl | rfl <;> assumption⟩
theorem flat_last {z : Nat} (cl : List (Cel z)) (c d : Cel z) (i : Nat) (u : Value) (hi : i < z) (hd : d.1 = c.1.set i u) : ((cl ++ [c]).map celE).flatten.set (cl.length * z + i) u = ((cl ++ [d]).map celE).flatten := by
  rw [List.map_append, List.map_append, List.flatten_append, List.flatten_append]
  have hl : (cl.map celE).flatten.length = cl.length * z := flat_len celE_len cl
  rw [List.set_append_right _ _ (by omega), hl, show cl.length * z + i - cl.length * z = i by omega]
  simp [celE, hd]
structure StrIn (B M : Nat) (w : World) (v : Value) (cl : List (Cel 2)) (l : List Gp.KS) (n : Int) (ra : Option Addr) (rm rc : Nat) (rcl : List (Cel 3)) (rs : List Gp.KR) : Prop where
  own : OE B 108 2 celE w v (cl ++ [celS n ra rm rc])
  len : cl.length = l.length
  each : ∀ (i : Nat) x c, l[i]? = some x → cl[i]? = some c → Hang (fun k => B ≤ k ∧ k < M ∧ v.ownBlock ≠ some k) (fun w => ksR w c.1 x) w
  row : OE M 112 3 celE w (.slice ra rm rc) rcl
  rlen : rcl.length = rs.length
  rms : rm = rs.length
  reach : ∀ (i : Nat) y d, rs[i]? = some y → rcl[i]? = some d → Hang (fun k => B ≤ k ∧ v.ownBlock ≠ some k ∧ (Value.slice ra rm rc).ownBlock ≠ some k) (fun w => krR w d.1 y) w
  lo : B ≤ M
section
variable {B M : Nat} {w w' : World} {v v' : Value} {cl : List (Cel 2)} {l : List Gp.KS} {n : Int} {ra : Option Addr} {rm rc : Nat} {rcl : List (Cel 3)} {rs : List Gp.KR}
theorem StrIn.below (h : StrIn B M w v cl l n ra rm rc rcl rs) (k : Below w.heap.size w w') : StrIn B M w' v cl l n ra rm rc rcl rs :=
  ⟨h.own.below k, h.len, fun i x c hx hc => (h.each i x c hx hc).below k, h.row.below k, h.rlen, h.rms, fun i y d hy hd => (h.reach i y d hy hd).below k, h.lo⟩
theorem StrIn.apart (h : StrIn B M w v cl l n ra rm rc rcl rs) {g : Nat} (hg : (Value.slice ra rm rc).ownBlock = some g) : v.ownBlock ≠ some g := own_ne2 h.row.own h.own.own (by decide) g hg
/-- The last stratum, as a row's element. -/
theorem StrIn.tail (h : StrIn B M w v cl l n ra rm rc rcl rs) (hl : rs.length ≤ 10000000000000) : Hang (fun k => B ≤ k ∧ k < w.heap.size ∧ v.ownBlock ≠ some k) (fun w => ksR w (celS n ra rm rc).1 (n, rs)) w := by
  have h1 := h.row.row (R := krR) (S := fun k => B ≤ k ∧ k < w.heap.size ∧ v.ownBlock ≠ some k) h.rlen hl celE_len (fun g hg => ⟨by have := (h.row.lt hg).2; have := h.lo; omega, (h.row.lt hg).1, h.apart hg⟩) (fun i y d hy hd => (h.reach i y d hy hd).sub (fun k hk hs => ⟨hs.1, hk, hs.2.1⟩))
  exact h1.imp (fun w2 hw => ⟨_, rfl, hw⟩)
theorem StrIn.done (h : StrIn B M w v cl l n ra rm rc rcl rs) (hl : rs.length ≤ 10000000000000) (hll : l.length ≤ 1000000000) : Hang (fun k => B ≤ k) (fun w => KSRow w v (l ++ [(n, rs)])) w := by
  refine h.own.row (R := ksR) (l := l ++ [(n, rs)]) (by rw [List.length_append, List.length_append, h.len]; rfl) (by rw [List.length_append, List.length_singleton]; omega) celE_len (fun g hg => (h.own.lt hg).2) (fun i x c hx hc => ?_)
  by_cases hi : i < l.length
  · rw [List.getElem?_append_left hi] at hx
    rw [List.getElem?_append_left (by rw [h.len]; exact hi)] at hc
    exact (h.each i x c hx hc).sub (fun k _ hs => hs.1)
  · rw [List.getElem?_append_right (by omega)] at hx
    rw [List.getElem?_append_right (by rw [h.len]; omega), h.len] at hc
    have h0 : i - l.length = 0 := by have := (List.getElem?_eq_some_iff.1 hx).1; simp at this; omega
    rw [h0] at hx hc
    cases hx
    cases hc
    exact (h.tail hl).sub (fun k _ hs => hs.1)
/-- The first stratum. -/
theorem StrIn.start (hB : B ≤ w.heap.size) (o : OE B 108 2 celE w v' [celS n none 0 0]) : StrIn B w.heap.size w v' [] [] n none 0 0 [] [] :=
  ⟨o, rfl, fun i x c hx => by simp at hx, OE.nil (Nat.le_refl _), rfl, rfl, fun i y d hy => by simp at hy, hB⟩
/-- One more stratum. -/
theorem StrIn.next {n' : Int} (h : StrIn B M w v cl l n ra rm rc rcl rs) (hl : rs.length ≤ 10000000000000) (o : OE B 108 2 celE w' v' ((cl ++ [celS n ra rm rc]) ++ [celS n' none 0 0])) (k : AppK w w' v v') : StrIn B w.heap.size w' v' (cl ++ [celS n ra rm rc]) (l ++ [(n, rs)]) n' none 0 0 [] [] := by
  refine ⟨o, by rw [List.length_append, List.length_append, h.len]; rfl, fun i x c hx hc => ?_, OE.nil k.keep.size, rfl, rfl, fun i y d hy => by simp at hy, h.own.low⟩
  have hfin : Hang (fun k => B ≤ k ∧ k < w.heap.size ∧ v.ownBlock ≠ some k) (fun w => ksR w c.1 x) w := by
    by_cases hi : i < l.length
    · rw [List.getElem?_append_left hi] at hx
      rw [List.getElem?_append_left (by rw [h.len]; exact hi)] at hc
      exact (h.each i x c hx hc).sub (fun k hk hs => ⟨hs.1, hk, hs.2.2⟩)
    · rw [List.getElem?_append_right (by omega)] at hx
      rw [List.getElem?_append_right (by rw [h.len]; omega), h.len] at hc
      have h0 : i - l.length = 0 := by have := (List.getElem?_eq_some_iff.1 hx).1; simp at this; omega
      rw [h0] at hx hc
      cases hx
      cases hc
      exact h.tail hl
  exact (hfin.keep k.keep (fun i _ hs e => hs.2.2 e)).sub (fun j hj hs => ⟨hs.1, hs.2.1, fun e => hs.2.2 (k.old hs.2.1 e)⟩)
/-- One more rule: it lies in the blocks from H on; the last stratum's row is now another one. -/
theorem StrIn.rule {H : Nat} {X : World} {qa : Option Addr} {qm qc g : Nat} {cr : Cel 3} {y : Gp.KR} (h : StrIn B M w v cl l n ra rm rc rcl rs) (hH : ∀ g, v.ownBlock = some g ∨ (Value.slice ra rm rc).ownBlock = some g → g < H) (hBH : B ≤ H) (hn : Hang (fun k => H ≤ k ∧ k < w.heap.size) (fun w => krR w cr.1 y) w)
    (o : OE M 112 3 celE w' (.slice qa qm qc) (rcl ++ [cr])) (hqm : qm = rs.length + 1) (k : AppK w w' (.slice ra rm rc) (.slice qa qm qc)) (hg : v.ownBlock = some g) (hX : X = w'.setCell ⟨g, cl.length * 2 + 1, none⟩ (.slice qa qm qc)) :
    StrIn B M X v cl l n qa qm qc (rcl ++ [cr]) (rs ++ [y]) := by
  have hv := h.own.lt hg
  have kv : ∀ j, v.ownBlock = some j → ¬ (Value.slice ra rm rc).ownBlock = some j := fun j hj e => h.apart e hj
  have ow' := h.own.keep k.keep kv
  obtain ⟨cap, cur, hvv, _⟩ := own_heap ow'.own hg
  have KX : Keep (fun j => j = g) w' X := by rw [hX]; exact Keep.set _ _ _ rfl
  have hq : ∀ j, (Value.slice qa qm qc).ownBlock = some j → ¬ j = g := fun j hj e => by
    subst e
    exact own_ne2 o.own ow'.own (by decide) j hj hg
  refine ⟨?_, h.len, fun i x c hx hc => ?_, o.keep KX hq, by rw [List.length_append, List.length_append, h.rlen]; rfl, by rw [List.length_append, hqm]; rfl, fun i z d hz hd => ?_, h.lo⟩
  · refine ⟨?_, Nat.le_trans ow'.low KX.size⟩
    have h1 := ow'.own
    rw [hvv] at h1
    have h2 := own_set h1 (cl.length * 2 + 1) (.slice qa qm qc)
    rw [← hX, ← hvv, flat_last cl (celS n ra rm rc) (celS n qa qm qc) 1 (.slice qa qm qc) (by omega) rfl] at h2
    rw [show (cl ++ [celS n qa qm qc]).length = (cl ++ [celS n ra rm rc]).length by simp]
    exact h2
  · refine ((h.each i x c hx hc).keep k.keep (fun j _ hs e => ?_)).keep KX (fun j _ hs e => hs.2.2 (by rw [e]; exact hg))
    have := (h.row.lt e).2
    have := hs.2.1
    omega
  · by_cases hi : i < rs.length
    · rw [List.getElem?_append_left hi] at hz
      rw [List.getElem?_append_left (by rw [h.rlen]; exact hi)] at hd
      have h1 := (h.reach i z d hz hd).sub (S' := fun k => (B ≤ k ∧ v.ownBlock ≠ some k ∧ (Value.slice ra rm rc).ownBlock ≠ some k) ∧ k < w.heap.size) (fun j hj hs => ⟨hs, hj⟩)
      have h2 := h1.keep k.keep (fun j _ hs e => hs.1.2.2 e)
      have h3 := h2.keep KX (fun j _ hs e => hs.1.2.1 (by rw [e]; exact hg))
      exact h3.sub (fun j _ hs => ⟨hs.1.1, hs.1.2.1, fun e => hs.1.2.2 (k.old hs.2 e)⟩)
    · rw [List.getElem?_append_right (by omega)] at hz
      rw [List.getElem?_append_right (by rw [h.rlen]; omega), h.rlen] at hd
      have h0 : i - rs.length = 0 := by have := (List.getElem?_eq_some_iff.1 hz).1; simp at this; omega
      rw [h0] at hz hd
      cases hz
      cases hd
      have h2 := hn.keep k.keep (fun j _ hs e => by have := hH j (.inr e); omega)
      have h3 := h2.keep KX (fun j _ hs e => by have := hH g (.inl hg); omega)
      refine h3.sub (fun j _ hs => ⟨by omega, fun e => by have := hH j (.inl e); omega, fun e => ?_⟩)
      have := hH j (.inr (k.old hs.2 e))
      omega
end
namespace Gp
theorem strataOf_step {files : List ByteArray} {rs : List Rp.Rule} {k : Nat} {r : Rp.Rule} (h : rs[k]? = some r) : strataOf files (rs.take (k + 1)) = addR files (strataOf files (rs.take k)) r := by
  unfold strataOf
  rw [Mp.take_at h, List.foldl_append]
  rfl
theorem addR_nil (files : List ByteArray) (r : Rp.Rule) : addR files [] r = [(r.1, [ruleOf files r])] := rfl
theorem addR_same (files : List ByteArray) (l : List KS) (n : Int) (rs : List KR) (r : Rp.Rule) (h : n = r.1) : addR files (l ++ [(n, rs)]) r = l ++ [(n, rs ++ [ruleOf files r])] := by
  unfold addR
  rw [List.getLast?_concat]
  show (if n = r.1 then _ else _) = _
  rw [if_pos h, List.dropLast_concat]
theorem addR_new (files : List ByteArray) (l : List KS) (n : Int) (rs : List KR) (r : Rp.Rule) (h : ¬ n = r.1) : addR files (l ++ [(n, rs)]) r = (l ++ [(n, rs)]) ++ [(r.1, [ruleOf files r])] := by
  unfold addR
  rw [List.getLast?_concat]
  show (if n = r.1 then _ else _) = _
  rw [if_neg h]
theorem strata_lens {files : List ByteArray} {rs : List Rp.Rule} {l : List KS} {n : Int} {q : List KR} (h : strataOf files rs = l ++ [(n, q)]) (hr : rs.length ≤ 1500) : l.length ≤ 1500 ∧ q.length ≤ 1500 := by
  have h1 := strata_num files rs []
  have h2 : rs.foldl (addR files) [] = l ++ [(n, q)] := h
  rw [h2] at h1
  have h3 := numR_mem (l := l ++ [(n, q)]) (x := (n, q)) (by simp)
  simp only [List.length_append, List.length_singleton, List.length_nil, numR, List.map_nil, List.sum_nil] at h1 h3
  omega
end Gp
end Go.Proofs.Ytkjekohncfhbiaa
/-
  A program's rules by their strata. (Written by GStrata.py.)
-/
set_option linter.unusedSimpArgs false
set_option linter.unusedVariables false
namespace Go.Proofs.Ytkjekohncfhbiaa
open Go.RowKit
set_option maxRecDepth 100000
theorem frozen_of_block {w w' : World} {a : Addr} (h : w'.heap[a.block]? = w.heap[a.block]?) : w'.frozen? a = w.frozen? a := by
  unfold World.frozen?
  rw [h]
theorem rule_vals {w : World} {v1 v2 v3 : Value} {x : Gp.KR} (h : krR w [v1, v2, v3] x) : (∃ a n c, v1 = .slice a n c) ∧ (∃ a n c, v2 = .slice a n c) ∧ ∃ a n c, v3 = .slice a n c := by
  obtain ⟨_, _, _, hv, p1, p2, p3⟩ := h
  simp only [List.cons.injEq, and_true] at hv
  obtain ⟨rfl, rfl, rfl⟩ := hv
  obtain ⟨a1, c1, h1⟩ := row_val p1
  obtain ⟨a2, c2, h2⟩ := row_val p2
  obtain ⟨a3, c3, h3⟩ := row_val p3
  exact ⟨⟨_, _, _, h1⟩, ⟨_, _, _, h2⟩, _, _, _, h3⟩
/-- How far the rules have come. -/
def StrTo (B : Nat) (p : Rp.Prog) (k : Nat) (v : Value) (w : World) : Prop := (k = 0 ∧ v = .slice none 0 0) ∨ ∃ M cl l s ra rm rc rcl rs, StrIn B M w v cl l s ra rm rc rcl rs ∧ Gp.strataOf p.files (p.rules.take k) = l ++ [(s, rs)] ∧ 0 < k ∧ ∀ r, p.rules[k - 1]? = some r → r.1 = s
set_option maxHeartbeats 16000000 in
theorem strataOfD (w : World) (A : PA) (p : Rp.Prog) (h : ProgAt w A p) (sm : Gp.SmallP p) (hop : ∀ r ∈ p.rules, ∀ c ∈ r.2.2.1, Mp.opB c.2.1 = true) (hr : p.rules.length ≤ 1500) :
    Calls Try.prog 49 #[.agg #[.int .i64 p.flags, .int .i64 p.lasting, .slice A.a2 p.first.length A.c2, .slice A.a3 p.over.length A.c3, .int .i64 p.frm, .slice A.a5 p.files.length A.c5, .slice A.a6 p.rules.length A.c6, .slice A.a7 p.ctrs.length A.c7, .slice A.a8 p.users.length A.c8, .slice A.a9 p.notes.length A.c9]] w (fun e w' => ∃ v, e = .returned v ∧ NewR w.heap.size (fun w => KSRow w v (Gp.strataOf p.files p.rules)) w' ∧ Below w.heap.size w w') := by
  obtain ⟨a2, c2, a3, c3, a5, c5, a6, c6, a7, c7, a8, c8, a9, c9⟩ := A
  show Calls _ _ #[.agg #[.int .i64 p.flags, .int .i64 p.lasting, .slice a2 p.first.length c2, .slice a3 p.over.length c3, .int .i64 p.frm, .slice a5 p.files.length c5, .slice a6 p.rules.length c6, .slice a7 p.ctrs.length c7, .slice a8 p.users.length c8, .slice a9 p.notes.length c9]] w _
  obtain ⟨V, hV⟩ : ∃ V, w.alloc (.cells #[.int .i64 p.flags, .int .i64 p.lasting, .slice a2 p.first.length c2, .slice a3 p.over.length c3, .int .i64 p.frm, .slice a5 p.files.length c5, .slice a6 p.rules.length c6, .slice a7 p.ctrs.length c7, .slice a8 p.users.length c8, .slice a9 p.notes.length c9] 29) = V := ⟨_, rfl⟩
  have BV : Below w.heap.size w V := by rw [← hV]; exact (Below.refl _ w).alloc (Nat.le_refl _) _
  have LV : Lies V w.heap.size 29 #[.int .i64 p.flags, .int .i64 p.lasting, .slice a2 p.first.length c2, .slice a3 p.over.length c3, .int .i64 p.frm, .slice a5 p.files.length c5, .slice a6 p.rules.length c6, .slice a7 p.ctrs.length c7, .slice a8 p.users.length c8, .slice a9 p.notes.length c9] := by rw [← hV]; exact Lies.new _ _ _
  have HV := hideT hV
  have HBV := hideT BV
  have HLV := hideT LV
  have HFi := hideT (frow_below (show FRow w (.slice a5 p.files.length c5) p.files from h.files) BV)
  obtain ⟨_, hl, _, b, o, ha, hc⟩ := rrow_at (rrow_below (show RRow w (.slice a6 p.rules.length c6) p.rules from h.rules) BV)
  have HC := hideT hc
  have HA := hideT ha
  have HSM := hideT sm
  have HOP := hideT hop
  have HVS : Hid (w.heap.size < V.heap.size) := LV.lt
  have y6 : V.cell? ⟨w.heap.size, 6, none⟩ = some (.slice a6 p.rules.length c6) := LV.cell 6
  clear hc ha h sm hop BV LV hV
  go_enter Try.func49, Try.ntmps49
  go_wp2_with fail
  rw [HV.out]
  go_wp2_with fail
  go_loopw [3, 10] (fun xv i wr => ∃ (k : Nat) (x : Value), k ≤ p.rules.length ∧ i = .int .i64 k ∧ xv = x ∧ Hid (Below V.heap.size V wr) ∧ Hid (StrTo V.heap.size p k x wr)) (fun _ i _ => p.rules.length - (intOf i).toNat)
  case atStart => exact ⟨0, _, by omega, rfl, rfl, Below.refl _ _, .inl ⟨rfl, rfl⟩⟩
  case round =>
    obtain ⟨k, x, hk, rfl, hxv, HW, HT⟩ := hrel
    obtain rfl := hxv.symm
    clear hxv
    by_cases hlt : k < p.rules.length
    rotate_left
    · have HB := hideT (HBV.out.trans (HW.out.mono HBV.out.size))
      rcases HT.out with ⟨h0, rfl⟩ | ⟨M, cl, l, s, ra, rm, rc, rcl, rs, hS, hE, _, _⟩
      · have he : p.rules = [] := List.eq_nil_of_length_eq_zero (by omega)
        have HNE : Hid (NewR w.heap.size (fun w => KSRow w (.slice none 0 0) (Gp.strataOf p.files p.rules)) wr) := fun w2 _ => by
          rw [he]
          exact rowR_nil w2
        clear he HT
        go_wp2_with fail
        go_ret
        exact ⟨_, rfl, HNE.out, HB.out⟩
      · have hLn := Gp.strata_lens hE (by rw [List.length_take]; omega)
        rw [List.take_of_length_le (by omega)] at hE
        have HNE := hideT ((hS.done (by omega) (by omega)).toNew (B := w.heap.size) (fun i _ hi => by have := HVS.out; omega))
        rw [← hE] at HNE
        clear hS hE hLn HT
        go_wp2_with fail
        go_ret
        exact ⟨_, rfl, HNE.out, HB.out⟩
    obtain ⟨⟨s, l1, l2, l3⟩, hx⟩ := Mp.at_lt (l := p.rules) (k := k) hlt
    obtain ⟨i1, n1, i2, n2, i3, n3, I0⟩ := HC.out k _ hx
    have HI0 := hideT I0
    obtain ⟨r1, r2, r3, d0, d1, d2, d3⟩ := I0.turn (below_cell HW.out)
    dsimp only at r1 r2 r3 d0 d1 d2 d3
    obtain rfl := HA.out (by omega)
    have HX := hideT hx
    have hmem := List.mem_of_getElem? hx
    have HRS := hideT (HSM.out.rules _ hmem)
    have HOR := hideT (HOP.out _ hmem)
    have HSTEP := hideT (Gp.strataOf_step (files := p.files) hx)
    obtain ⟨V1, hV1⟩ : ∃ V1, wr.alloc (.cells #[.int .i64 s, .slice i1 l1.length n1, .slice i2 l2.length n2, .slice i3 l3.length n3] 61) = V1 := ⟨_, rfl⟩
    have B1 : Below wr.heap.size wr V1 := by rw [← hV1]; exact (Below.refl _ wr).alloc (Nat.le_refl _) _
    have L1 : Lies V1 wr.heap.size 61 #[.int .i64 s, .slice i1 l1.length n1, .slice i2 l2.length n2, .slice i3 l3.length n3] := by rw [← hV1]; exact Lies.new _ _ _
    have HB1 := hideT B1
    have HL1 := hideT L1
    have HV1 := hideT hV1
    have HBW := hideT (HW.out.trans (B1.mono HW.out.size))
    have HVV1 : Hid (V.heap.size ≤ wr.heap.size ∧ wr.heap.size < V1.heap.size) := ⟨HW.out.size, L1.lt⟩
    have t0 : (0 : Int) ≤ (k : Int) := by omega
    have t1 : (k : Int) < (p.rules.length : Int) := by omega
    clear hx I0 r1 r2 r3 hmem B1 L1 hV1
    have hmid : ∃ nw : Bool, Hid (nw = true → ∃ (oad : Option Addr) (ocap : Nat) (cl0 : List (Cel 2)), x = .slice oad cl0.length ocap ∧ OE V.heap.size 108 2 celE V1 x cl0 ∧ cl0.length ≤ 2000 ∧ ∀ W v' w', Below V1.heap.size V1 W → OE V.heap.size 108 2 celE w' v' (cl0 ++ [celS s none 0 0]) → AppK W w' x v' → ∃ M cl l ra rm rc rcl rs, StrIn V.heap.size M w' v' cl l s ra rm rc rcl rs ∧ Gp.strataOf p.files (p.rules.take (k + 1)) = l ++ [(s, rs ++ [Gp.ruleOf p.files (s, l1, l2, l3)])]) ∧ Hid (nw = false → ∃ M cl l ra rm rc rcl rs, StrIn V.heap.size M V1 x cl l s ra rm rc rcl rs ∧ Gp.strataOf p.files (p.rules.take (k + 1)) = l ++ [(s, rs ++ [Gp.ruleOf p.files (s, l1, l2, l3)])]) ∧ Hid ((k = 0 ∧ nw = true) ∨ ∃ j q0 y, k = j + 1 ∧ p.rules[j]? = some (q0, y) ∧ nw = !(s == q0)) := by
      rcases HT.out with ⟨h0, rfl⟩ | ⟨M, cl, l, sp, ra, rm, rc, rcl, rs, hS, hE, hk0, hprev⟩
      · subst h0
        refine ⟨true, fun _ => ⟨none, 0, [], rfl, OE.nil (by have := HVV1.out; omega), by simp, fun W v' w' hW ho hk => ?_⟩, fun h => (by cases h), .inl ⟨rfl, rfl⟩⟩
        refine ⟨_, _, _, _, _, _, _, _, StrIn.start (Nat.le_trans (by have := HVV1.out; omega) (Nat.le_trans hW.size hk.keep.size)) ho, ?_⟩
        rw [HSTEP.out]
        rfl
      · obtain ⟨j, hj⟩ : ∃ j, k = j + 1 := ⟨k - 1, by omega⟩
        obtain ⟨⟨q0, y⟩, hq⟩ := Mp.at_lt (l := p.rules) (k := j) (by omega)
        have hsp : q0 = sp := hprev _ (by rw [show k - 1 = j by omega]; exact hq)
        have hLn := Gp.strata_lens hE (by rw [List.length_take]; omega)
        obtain ⟨oad, ocap, ho, _⟩ := hS.own.form
        have hS1 := hS.below HB1.out
        by_cases hne : sp = s
        · refine ⟨false, fun h => (by cases h), fun _ => ⟨M, cl, l, ra, rm, rc, rcl, rs, by rw [← hne]; exact hS1, ?_⟩, .inr ⟨j, q0, y, hj, hq, by rw [hsp, hne]; simp⟩⟩
          rw [HSTEP.out, hE, ← hne]
          exact Gp.addR_same p.files l sp rs (sp, l1, l2, l3) rfl
        · refine ⟨true, fun _ => ⟨oad, ocap, cl ++ [celS sp ra rm rc], ho, hS1.own, by rw [List.length_append, hS.len, List.length_singleton]; omega, fun W v' w' hW ho hk => ?_⟩, fun h => (by cases h), .inr ⟨j, q0, y, hj, hq, by rw [hsp]; rw [beq_eq_false_iff_ne.2 (fun e => hne e.symm)]; rfl⟩⟩
          refine ⟨_, _, _, _, _, _, _, _, (hS1.below hW).next (by omega) ho hk, ?_⟩
          rw [HSTEP.out, hE]
          exact Gp.addR_new p.files l sp rs (s, l1, l2, l3) hne
    obtain ⟨nw, HN1, HN2, HN3⟩ := hmid
    clear HT
    go_upto_region 5 with fail
    rw [HV1.out]
    go_cut [28] from 15 to 27 (fun t wc => t = .bool nw ∧ ∃ d, wc = V1.drewN d)
    case first =>
      have z0 : V1.cell? ⟨wr.heap.size, 0, none⟩ = some (.int .i64 s) := HL1.out.cell 0
      have z6 : V1.cell? ⟨w.heap.size, 6, none⟩ = some (.slice (some ⟨b, o, none⟩) p.rules.length c6) := (HLV.out.below HBW.out).cell 6
      clear d0 d1 d2 d3 y6
      rcases HN3.out with ⟨h0, rfl⟩ | ⟨j, q0, y, hj, hq, hnw⟩
      · subst h0
        clear HN1 HN2 HN3
        go_quiet (fail)
        rename_i nq
        go_wp2_with fail
        go_meet
        case rel => exact ⟨rfl, nq, rfl⟩
      · obtain ⟨_, _, _, _, _, _, I1⟩ := HC.out j _ hq
        have e0 : V1.cell? ⟨b, o + j * 4, none⟩ = some (.int .i64 q0) := below_cell HBW.out _ _ I1.c0
        have t3 : ((k : Int) == 0) = false := beq_eq_false_iff_ne.2 (by omega)
        have t4 : (0 : Int) ≤ (j : Int) := by omega
        have t5 : (j : Int) < (p.rules.length : Int) := by omega
        have t6 : IntKind.i64.wrap ((k : Int) - 1) = (j : Int) := by rw [show (k : Int) - 1 = (j : Int) by omega]; rw [IntKind.wrap_i64]; omega
        have HNW := hideT hnw
        clear hnw hq hj I1 HN1 HN2 HN3
        go_quiet (fail)
        rename_i nq
        go_wp2_with fail
        go_meet
        case rel => exact ⟨by rw [HNW.out]; first | rfl | (simp; done), nq, rfl⟩
    case rest =>
      obtain ⟨rfl, nq, hnq⟩ := hcut
      have HD : Hid (Below V1.heap.size V1 wc) := by rw [hnq]; exact below_drewN (Below.refl _ V1) nq
      obtain ⟨Y, hY⟩ : ∃ Y, wc = Y := ⟨_, rfl⟩
      subst hY
      have HLY := hideT (HL1.out.below HD.out)
      have HBY := hideT (HBW.out.trans (HD.out.mono HBW.out.size))
      clear HN3 d0 d1 d2 d3 hnq
      go_upto_if 28 with fail
      go_cut [3] from 29 to 34 (fun v wc => Hid (Below V.heap.size V wc) ∧ Hid (Lies wc wr.heap.size 61 #[.int .i64 s, .slice i1 l1.length n1, .slice i2 l2.length n2, .slice i3 l3.length n3]) ∧ Hid (∃ M cl l ra rm rc rcl rs, StrIn V.heap.size M wc v cl l s ra rm rc rcl rs ∧ Gp.strataOf p.files (p.rules.take (k + 1)) = l ++ [(s, rs ++ [Gp.ruleOf p.files (s, l1, l2, l3)])]))
      case first =>
        cases nw
        · have hs := HN2.out rfl
          obtain ⟨M, cl, l, ra, rm, rc, rcl, rs, hS, hE⟩ := hs
          have HS := hideT hS
          have HE := hideT hE
          clear hS hE HN1 HN2
          go_wp2_with fail
          go_meet
          case rel => exact ⟨HBY.out, HLY.out, _, _, _, _, _, _, _, _, HS.out.below HD.out, HE.out⟩
        · obtain ⟨oad, ocap, cl0, hxx, hO, hc0, hfin⟩ := HN1.out rfl
          subst hxx
          have HO := hideT hO
          have HFN := hideT hfin
          have z0 : wc.cell? ⟨wr.heap.size, 0, none⟩ = some (.int .i64 s) := HLY.out.cell 0
          clear hO hfin HN1 HN2
          go_wp2_with (first | (at_builtin; (refine wpList_appO (t := 67) (e := 108) (z := 2) (E := celE) Try.underlying67 infoC_ST rfl (by omega) (by omega) celE_len celE_one (by rfl) _ _ (by rfl) (v := .slice oad cl0.length ocap) (by rfl) (by rfl) ((HO.out.below HD.out).below ((Below.refl _ _).alloc (Nat.le_refl _) _)) [celS s none 0 0] rfl (one_cel (W := wc) (cs := #[.int .i64 s, .slice none 0 0]) (ty := 108) (celS s none 0 0) rfl) (by simp; omega) ?_; intro v' w3 o3 k3)) | fail)
          go_meet
          case rel =>
            have hD := HD.out.alloc HD.out.size (.cells #[.int .i64 s, .slice none 0 0] 108)
            have hOD := HO.out.below hD
            have hk3 : Below V.heap.size V w3 := Keep.below (HBW.out.trans (hD.mono HBW.out.size)) k3.keep (fun i hi e => by have := (HO.out.lt e).2; omega)
            have hl3 := (HL1.out.below hD).keep k3.keep (fun e => own_ne hOD.own (HL1.out.below hD) (by decide) e)
            exact ⟨hk3, hl3, HFN.out _ _ _ hD o3 k3⟩
      case rest =>
        obtain ⟨BC, LRb, HSS⟩ := hcut
        obtain ⟨M, cl, l, ra, rm, rc, rcl, rs, hS, hE⟩ := HSS.out
        have hLn := Gp.strata_lens hE (by rw [List.length_take]; omega)
        have hcl := hS.len
        obtain ⟨oad, ocap, ho, _, g, hg1, hgc⟩ := hS.own.form
        obtain ⟨ho1, hg⟩ := hg1 (by simp)
        rw [ho1] at ho
        rw [List.length_append, List.length_singleton] at ho
        obtain ⟨m, hm⟩ : ∃ m, cl.length = m := ⟨_, rfl⟩
        have hfl : ((cl ++ [celS s ra rm rc]).map celE).flatten[m * 2 + 1]? = some (.slice ra rm rc) := cel_at (c := celS s ra rm rc) (k := 1) (by rw [← hm, List.getElem?_append_right (Nat.le_refl _), Nat.sub_self]; rfl) rfl
        have hcf := hgc _ _ hfl
        rw [hm] at ho
        have hm15 : m ≤ 1500 := by omega
        have HMM := hideT hm
        have HS := hideT hS
        have HE := hideT hE
        have HG := hideT hg
        have hrm := hS.rms
        have hrl : rm ≤ 1500 := by rw [List.length_append] at hLn; omega
        have hrcl : rcl.length ≤ 1500 := by rw [hS.rlen, ← hrm]; exact hrl
        have HRM := hideT hrm
        have HRCL := hideT hrcl
        obtain ⟨rr1, rr2, rr3, _⟩ := HI0.out.turn (below_cell BC.out)
        dsimp only at rr1 rr2 rr3
        have HR1 := hideT rr1
        have HR2 := hideT rr2
        have HR3 := hideT rr3
        have HF5 := hideT (frow_below HFi.out BC.out)
        have HGL : Hid (g < wc.heap.size) := (hS.own.lt hg).1
        have HFZ : Hid (wc.frozen? ⟨g, m * 2 + 1, none⟩ = false) := hcf.2.2
        have u1 : wc.cell? ⟨g, m * 2 + 1, none⟩ = some (.slice ra rm rc) := hcf.2.1
        have z5 : wc.cell? ⟨w.heap.size, 5, none⟩ = some (.slice a5 p.files.length c5) := (HLV.out.below BC.out).cell 5
        have z0 : wc.cell? ⟨wr.heap.size, 0, none⟩ = some (.int .i64 s) := LRb.out.cell 0
        have z1 : wc.cell? ⟨wr.heap.size, 1, none⟩ = some (.slice i1 l1.length n1) := LRb.out.cell 1
        have z2 : wc.cell? ⟨wr.heap.size, 2, none⟩ = some (.slice i2 l2.length n2) := LRb.out.cell 2
        have z3 : wc.cell? ⟨wr.heap.size, 3, none⟩ = some (.slice i3 l3.length n3) := LRb.out.cell 3
        have t7 : IntKind.i64.wrap ((m : Int)) = (m : Int) := by rw [IntKind.wrap_i64]; omega
        have t8 : IntKind.i64.wrap (((m + 1 : Nat) : Int) - 1) = (m : Int) := by rw [show ((m + 1 : Nat) : Int) - 1 = (m : Int) by omega]; exact t7
        have t9 : (0 : Int) ≤ (m : Int) := by omega
        have t10 : (m : Int) < (m : Int) + 1 := by omega
        subst ho
        clear hS hE hg hgc hg1 hfl hcf hLn hcl hm hrm hrl hrcl rr1 rr2 rr3 HSS HN1 HN2 ho1 y6
        go_wp2_with fail
        go_region_law (first
          | (go_simp; go_at_call 71; (refine (ruleOfD _ a5 p.files.length c5 p.files (frow_below HF5.out (below_drewN (Below.refl _ wc) _)) s l1 l2 l3 i1 i2 i3 n1 n2 n3 (lrow_below HR1.out (below_drewN (Below.refl _ wc) _)) (crow_below HR2.out (below_drewN (Below.refl _ wc) _)) (lrow_below HR3.out (below_drewN (Below.refl _ wc) _)) HOR.out HRS.out.1 HRS.out.2.1 HRS.out.2.2).mono ?_); rintro e w1 ⟨v1, v2, v3, rfl, hn, b1⟩; obtain ⟨⟨x1, m1, y1, hx1⟩, ⟨x2, m2, y2, hx2⟩, ⟨x3, m3, y3, hx3⟩⟩ := rule_vals hn.here; subst hx1 hx2 hx3; have B1 := (below_drewN (Below.refl _ wc) 1).trans b1; have S1 := HS.out.below B1; have u2 := below_cell B1 _ _ u1; have q1 : g < w1.heap.size := Nat.lt_of_lt_of_le HGL.out B1.size; have q2 : ¬ w1.heap.size = g := Nat.ne_of_gt q1; have q3 : ¬ g = w1.heap.size := Nat.ne_of_lt q1; have BW1 := B1.alloc B1.size (.cells #[.slice x1 m1 y1, .slice x2 m2 y2, .slice x3 m3 y3] 112); have u2a := below_cell BW1 _ _ u1)
          | (refine step_appO (t := 106) (e := 112) (z := 3) (E := celE) Try.underlying106 infoC_R rfl (by omega) (by omega) celE_len celE_one (by rfl) _ _ (by rfl) (v := .slice ra rm rc) (by rfl) (by rfl) (S1.row.below ((Below.refl _ w1).alloc (Nat.le_refl _) _)) [celR (.slice x1 m1 y1) (.slice x2 m2 y2) (.slice x3 m3 y3) rfl rfl rfl] rfl (one_cel (W := w1) (cs := #[.slice x1 m1 y1, .slice x2 m2 y2, .slice x3 m3 y3]) (ty := 112) _ rfl) (by have := HRCL.out; simp; omega) ?_; intro v' w3 o3 k3; obtain ⟨qad, qcap, hq, hqq⟩ := o3.form; rw [List.length_append, List.length_singleton] at hq; clear hqq; subst hq; have hapg : ¬ (Value.slice ra rm rc).ownBlock = some g := (fun e => S1.apart e HG.out); have hgW : g < (w1.alloc (.cells #[.slice x1 m1 y1, .slice x2 m2 y2, .slice x3 m3 y3] 112)).heap.size := Nat.lt_of_lt_of_le HGL.out BW1.size; have u3 : w3.cell? ⟨g, m * 2 + 1, none⟩ = some (.slice ra rm rc) := (k3.keep.cell (a := ⟨g, m * 2 + 1, none⟩) hgW hapg).trans u2a; have f3 : w3.frozen? ⟨g, m * 2 + 1, none⟩ = false := ((frozen_of_block (a := ⟨g, m * 2 + 1, none⟩) (k3.keep.block g hgW hapg)).trans (frozen_of_block (a := ⟨g, m * 2 + 1, none⟩) (BW1.block g HGL.out))).trans HFZ.out))
        all_goals obtain ⟨X, hX⟩ : ∃ X, w3.setCell ⟨g, m * 2 + 1, none⟩ (.slice qad (rcl.length + 1) qcap) = X := ⟨_, rfl⟩
        all_goals have hnW : Hang (fun k => wc.heap.size ≤ k ∧ k < (w1.alloc (.cells #[.slice x1 m1 y1, .slice x2 m2 y2, .slice x3 m3 y3] 112)).heap.size) (fun w => krR w (celR (.slice x1 m1 y1) (.slice x2 m2 y2) (.slice x3 m3 y3) rfl rfl rfl).1 (Gp.ruleOf p.files (s, l1, l2, l3))) (w1.alloc (.cells #[.slice x1 m1 y1, .slice x2 m2 y2, .slice x3 m3 y3] 112)) := ((Hang.new hn).below ((Below.refl _ w1).alloc (Nat.le_refl _) _)).sub (fun i hi hs => ⟨hs.1, hi⟩)
        all_goals have SX := (S1.below ((Below.refl _ w1).alloc (Nat.le_refl _) (.cells #[.slice x1 m1 y1, .slice x2 m2 y2, .slice x3 m3 y3] 112))).rule (H := wc.heap.size) (X := X) (g := g) (fun i hi => hi.elim (fun e => (HS.out.own.lt e).1) (fun e => (HS.out.row.lt e).1)) BC.out.size hnW o3 (by rw [HS.out.rlen]) k3 HG.out (by rw [HMM.out]; exact hX.symm)
        all_goals have HSX := hideT SX
        all_goals have HBX : Hid (Below V.heap.size V X) := (by
          have h1 : Below V.heap.size V w3 := Keep.below (BC.out.trans (BW1.mono BC.out.size)) k3.keep (fun i hi e => by have := (HS.out.row.lt e).2; have := HS.out.lo; omega)
          rw [← hX]
          exact Keep.below h1 (Keep.set (S := fun j => j = g) _ _ _ rfl) (fun i hi e => by have := (HS.out.own.lt HG.out).2; omega))
        all_goals have HXX := hideT hX
        all_goals clear hX SX hnW u3 f3 hapg hgW o3 k3 BW1 u2a q1 q2 q3 u2 S1 B1 b1 hn u1 z0 z1 z2 z3 z5
        all_goals go_wp2_with fail
        all_goals rw [HXX.out]
        all_goals refine ⟨⟨k + 1, _, by omega, by go_num, rfl, HBX, .inr ⟨M, cl, l, s, _, _, _, _, _, HSX.out, HE.out, by omega, fun r hr => ?_⟩⟩, ?_⟩
        all_goals first | (rw [show k + 1 - 1 = k by omega, HX.out] at hr; cases hr; rfl) | omega | (simp [intOf]; omega)
end Go.Proofs.Ytkjekohncfhbiaa
