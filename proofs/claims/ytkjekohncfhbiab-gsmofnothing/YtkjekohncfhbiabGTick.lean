/-
  A tick.
-/
import Derived.Test.YtkjekohncfhbiabGOver
set_option linter.unusedSimpArgs false
set_option linter.unusedVariables false
namespace Go.Proofs.Ytkjekohncfhbiab
open Go.RowKit
set_option maxRecDepth 100000
namespace Gp
/-- Counts of which k have ticked. -/
structure TickN (fl : List Bool) (cs : List Rp.Ctr) (ns : List Int) (k : Nat) (D : List Int) (du : List Int) : Prop where
  len : D.length = ns.length
  done : ∀ (j : Nat) c n, j < k → cs[j]? = some c → ns[j]? = some n → D[j]? = some (cntT fl c n)
  rest : ∀ (j : Nat), k ≤ j → D[j]? = ns[j]?
  due : du = dueT fl (cs.take k) (ns.take k)
theorem dueT_app (fl : List Bool) : ∀ (a : List Rp.Ctr) (b : List Int) (c : Rp.Ctr) (n : Int), a.length = b.length → dueT fl (a ++ [c]) (b ++ [n]) = dueT fl a b ++ (if atB fl c.1 && decide (cntT fl c n = c.2.1) then [c.2.2] else [])
  | [], [], c, n, _ => by
    show (if _ then _ else _) = _
    split <;> rfl
  | [], b :: bs, c, n, h => by cases h
  | a :: l, [], c, n, h => by cases h
  | a :: l, b :: bs, c, n, h => by
    have ih := dueT_app fl l bs c n (by simpa using h)
    show (if _ then _ :: dueT fl (l ++ [c]) (bs ++ [n]) else dueT fl (l ++ [c]) (bs ++ [n])) = (if _ then _ else _) ++ _
    rw [ih]
    split <;> rfl
theorem tick_zero (fl : List Bool) (cs : List Rp.Ctr) (ns : List Int) : TickN fl cs ns 0 ns [] := ⟨rfl, fun j _ _ h => absurd h (by omega), fun _ _ => rfl, rfl⟩
theorem tick_step {fl : List Bool} {cs : List Rp.Ctr} {ns D du : List Int} {k : Nat} {c : Rp.Ctr} {n : Int} (h : TickN fl cs ns k D du) (hc : cs[k]? = some c) (hn : ns[k]? = some n) : TickN fl cs ns (k + 1) (D.set k (cntT fl c n)) (du ++ (if atB fl c.1 && decide (cntT fl c n = c.2.1) then [c.2.2] else [])) := by
  have hkl := (List.getElem?_eq_some_iff.1 hn).1
  refine ⟨by rw [List.length_set]; exact h.len, fun j d m hj hd hm => ?_, fun j hj => ?_, ?_⟩
  · by_cases e : j = k
    · subst e
      rw [hc] at hd
      rw [hn] at hm
      cases hd
      cases hm
      rw [List.getElem?_set_self (by rw [h.len]; exact hkl)]
    · rw [List.getElem?_set_ne (by omega)]
      exact h.done j d m (by omega) hd hm
  · rw [List.getElem?_set_ne (by omega)]
    exact h.rest j (by omega)
  · rw [Mp.take_at hc, Mp.take_at hn, dueT_app fl _ _ _ _ (by
      have := (List.getElem?_eq_some_iff.1 hc).1
      rw [List.length_take, List.length_take]
      omega), h.due]
theorem cntsT_at (fl : List Bool) : ∀ (cs : List Rp.Ctr) (ns : List Int) (j : Nat), (cntsT fl cs ns)[j]? = (match cs[j]?, ns[j]? with | some c, some n => some (cntT fl c n) | _, _ => none)
  | [], ns, j => by simp [cntsT]
  | c :: cs, [], j => by simp [cntsT]
  | c :: cs, n :: ns, 0 => by simp [cntsT]
  | c :: cs, n :: ns, j + 1 => by
    have := cntsT_at fl cs ns j
    simpa [cntsT] using this
theorem tick_done {fl : List Bool} {cs : List Rp.Ctr} {ns D du : List Int} {k : Nat} (h : TickN fl cs ns k D du) (hk : cs.length ≤ k) (hl : cs.length = ns.length) : D = cntsT fl cs ns ∧ du = dueT fl cs ns := by
  refine ⟨?_, by rw [h.due, List.take_of_length_le hk, List.take_of_length_le (by omega)]⟩
  apply List.ext_getElem?
  intro j
  rw [cntsT_at]
  by_cases hj : j < cs.length
  · rw [List.getElem?_eq_getElem hj, List.getElem?_eq_getElem (show j < ns.length by omega)]
    exact h.done j _ _ (by omega) (List.getElem?_eq_getElem hj) (List.getElem?_eq_getElem (by omega))
  · rw [List.getElem?_eq_none (l := D) (by rw [h.len]; omega), List.getElem?_eq_none (l := cs) (by omega)]
theorem dueT_in {F : Nat} {fl : List Bool} : ∀ {cs : List Rp.Ctr} {ns : List Int}, (∀ c ∈ cs, 0 ≤ c.2.2 ∧ c.2.2 < (F : Int)) → ∀ x ∈ dueT fl cs ns, 0 ≤ x ∧ x < (F : Int)
  | [], _, _, x, hx => by simp [dueT] at hx
  | c :: cs, [], _, x, hx => by simp [dueT] at hx
  | c :: cs, n :: ns, h, x, hx => by
    have ih := dueT_in (fl := fl) (cs := cs) (ns := ns) (fun d hd => h d (List.mem_cons_of_mem _ hd))
    unfold dueT at hx
    split at hx
    · rcases List.mem_cons.1 hx with e | e
      · rw [e]
        exact h c List.mem_cons_self
      · exact ih x e
    · exact ih x hx
theorem dueT_len {fl : List Bool} : ∀ {cs : List Rp.Ctr} {ns : List Int}, (dueT fl cs ns).length ≤ cs.length
  | [], _ => by simp [dueT]
  | c :: cs, [] => by simp [dueT]
  | c :: cs, n :: ns => by
    have ih := dueT_len (fl := fl) (cs := cs) (ns := ns)
    unfold dueT
    rw [List.length_cons]
    split
    · rw [List.length_cons]
      omega
    · omega
/-- Counts stay small. -/
def CntIn (ns : List Int) : Prop := ∀ x ∈ ns, 0 ≤ x ∧ x ≤ 1000
end Gp
abbrev intE (x : Int) : List Value := [.int .i64 x]
theorem intE_one (x : Int) : ∀ u ∈ intE x, u.oneCell' = true := fun u hu => by
  simp at hu
  rw [hu]
  rfl
theorem OE.zrow {H : Nat} {W : World} {v : Value} {L : List Int} (h : OE H 3 1 intE W v L) (hl : L.length ≤ 100000000000000) : Hang (fun k => v.ownBlock = some k) (fun w => ZRow w v L) W := by
  obtain ⟨ob, oc, rfl, hoc, g, hg1, hgc⟩ := h.form
  intro w2 h2
  refine ⟨g, 0, ⟨ob, oc, rfl, hoc, fun h0 => (hg1 h0).1⟩, hl, fun i x hx => ?_⟩
  have hi := (List.getElem?_eq_some_iff.1 hx).1
  have hf : (L.map intE).flatten[i * 1 + 0]? = some (.int .i64 x) := flatten_get (z := 1) (cs := intE x) (fun y hy => by obtain ⟨q, _, rfl⟩ := List.mem_map.1 hy; rfl) (by rw [List.getElem?_map, hx]; rfl) rfl
  rw [Nat.mul_one, Nat.add_zero] at hf
  rw [Nat.zero_add]
  exact h2 _ _ (hg1 (by omega)).2 (hgc _ _ hf).2.1
section
variable {w w' : World} {b : Nat} {A : KA} {K : Gp.KP} {S : Nat → Prop} {fb nb cb F N C : Nat} {st t : Gp.St}
set_option maxHeartbeats 8000000 in
theorem tickD11 (h : MIn w b A K S fb nb cb F N C st) (hci : Gp.CntIn st.cnts) : Calls Try.prog 20 #[.pointer (some ⟨b, 0, none⟩)] w (ActPost w b A K S F N C (Gp.tickS K st)) := by
  have HM := hideT h
  have HCI := hideT hci
  clear h hci
  go_enter Try.func20, Try.ntmps20
  go_wp2_with fail
  refine (nextD HM.out).mono ?_
  rintro e w1 ⟨f, m, c, rfl, ns, b1⟩
  have BA : Below w1.heap.size w1 (w1.alloc (.cells (stC f m c F N C) 68)) := (Below.refl _ w1).alloc (Nat.le_refl _) _
  obtain ⟨V, hV⟩ : ∃ V, w1.alloc (.cells (stC f m c F N C) 68) = V := ⟨_, rfl⟩
  have LA := Lies.new w1 68 (stC f m c F N C)
  have HBV := hideT (b1.trans (BA.mono b1.size))
  have HMV := hideT ((HM.out.below b1).below BA)
  have HNV := hideT (ns.below BA)
  rw [hV] at HBV HMV HNV LA
  have HLA := hideT LA
  have HV := hideT hV
  have HS1 : Hid (w.heap.size ≤ w1.heap.size) := b1.size
  have x5 : w1.cell? ⟨b, 5, none⟩ = some (.slice A.a5 K.ctrs.length A.c5) := (HM.out.below b1).box.cell 5
  have hz5 := cell_lt x5
  have hcl := HM.out.ok.long.2.1
  have HCS : Hid (C = K.ctrs.length) := HM.out.hc
  clear ns b1 BA LA hV
  go_wp2_with fail
  rw [HV.out]
  clear x5
  go_loopw [4, 15] (fun x i wr => ∃ (k : Nat) (D du : List Int), k ≤ K.ctrs.length ∧ i = .int .i64 k ∧ Hid (Gp.TickN st.fl K.ctrs st.cnts k D du) ∧ Hid (Keep (fun j => j = c) V wr) ∧ Hid (IntR wr c D) ∧ Hid (OE V.heap.size 3 1 intE wr x du)) (fun _ i _ => K.ctrs.length - (intOf i).toNat)
  case atStart => exact ⟨0, st.cnts, [], by omega, rfl, Gp.tick_zero _ _ _, Keep.refl _ _, HNV.out.cnts, OE.nil (Nat.le_refl _)⟩
  case round =>
    obtain ⟨k, D, du, hk, rfl, HT, HK, HD, OO⟩ := hrel
    obtain ⟨oad, ocap, ho, hfo⟩ := OO.out.form
    clear hfo
    subst ho
    have hdl : du.length ≤ 3000 := by rw [HT.out.due]; have := Gp.dueT_len (fl := st.fl) (cs := K.ctrs.take k) (ns := st.cnts.take k); rw [List.length_take] at this; omega
    have hlow := HNV.out.low
    have hcV := Lies.lt HNV.out.cnts
    have fc := flag_int_ne HNV.out.fl HNV.out.cnts
    have mc := HNV.out.nc
    have cw1 : c ≠ w1.heap.size := lies_neG HNV.out.cnts HLA.out (by decide)
    have hbl := HM.out.box.lt
    have hfbl := Lies.lt HM.out.fl
    have hnbl := Lies.lt HM.out.nums
    have hcbl := Lies.lt HM.out.cnts
    have HKM := hideT (HMV.out.keep HK.out (fun e => by omega) (fun i hi e => by have := HM.out.zone i hi; omega) (fun e => by omega) (fun e => by omega) (fun e => by omega))
    have HKF := hideT (HNV.out.fl.keep HK.out fc)
    have HKL := hideT (HLA.out.keep HK.out (fun e => cw1 e.symm))
    have HFM : Hid (f ≠ m ∧ f ≠ c ∧ f ≠ fb ∧ ¬ S f ∧ w.heap.size ≤ f) := ⟨flag_int_ne HNV.out.fl HNV.out.nums, fc, by omega, fun hs => by have := HM.out.zone f hs; omega, hlow.1⟩
    have HNM := hideT (HNV.out.nums.keep HK.out mc)
    have HCV : Hid (c < V.heap.size) := hcV
    have HCW := hideT cw1
    clear hlow hcV fc mc hbl hfbl hnbl hcbl cw1
    by_cases hlt : k < K.ctrs.length
    rotate_left
    · obtain ⟨hD, hdu⟩ := Gp.tick_done HT.out (by omega) (by rw [HM.out.lc]; exact HM.out.hc.symm)
      have HDC := hideT hD
      have HDU := hideT hdu
      have HNS : Hid (NewS wr w.heap.size f m c F N C ⟨st.fl, st.nums, Gp.cntsT st.fl K.ctrs st.cnts⟩) := ⟨HKF.out, HNM.out, by rw [← HDC.out]; exact HD.out, HM.out.lf, HM.out.ln, by rw [← HDC.out, HT.out.len]; exact HM.out.lc, HNV.out.nc, HNV.out.low⟩
      have HDIN : Hid (∀ x ∈ du, 0 ≤ x ∧ x < (F : Int)) := by
        have := Gp.dueT_in (F := F) (fl := st.fl) (cs := K.ctrs) (ns := st.cnts) (fun c hc => (HM.out.ok.ctrs c hc).2.2)
        rw [← HDU.out] at this
        exact this
      have hfV := Lies.lt HNV.out.fl
      have HZR := hideT ((OO.out.zrow (by omega)).sub (S' := fun k => k ≠ f) (fun i _ e => by have := (OO.out.lt e).2; omega))
      have HBW : Hid (Below w.heap.size w wr) := Keep.below HBV.out HK.out (fun i hi e => by have := HNV.out.low.2.2; omega)
      have z0 : wr.cell? ⟨w1.heap.size, 0, none⟩ = some (.slice (some ⟨f, 0, none⟩) F F) := HKL.out.cell 0
      have z1 : wr.cell? ⟨w1.heap.size, 1, none⟩ = some (.slice (some ⟨m, 0, none⟩) N N) := HKL.out.cell 1
      have z2 : wr.cell? ⟨w1.heap.size, 2, none⟩ = some (.slice (some ⟨c, 0, none⟩) C C) := HKL.out.cell 2
      clear hD hdu hfV
      by_cases h0 : 0 < du.length
      · have HR : Hid (Gp.tickS K st = Gp.fromS K st ⟨st.fl, st.nums, Gp.cntsT st.fl K.ctrs st.cnts⟩ du) := by
          show _ = _
          unfold Gp.tickS
          rw [← HDU.out, if_pos h0]
        go_wp2_with fail
        refine (fromD HKM.out HNS.out HFM.out.2.2.1 HFM.out.2.2.2.1 du oad du.length ocap rfl HZR.out HDIN.out).mono ?_
        intro e w3 hp
        have HP := hideT (hp.act HBW.out HFM.out.2.2.2.2)
        obtain ⟨rfl, hrest⟩ := hp
        clear hrest
        go_wp2_with fail
        go_ret
        rw [HR.out]
        exact HP.out
      · have HR : Hid (Gp.tickS K st = Gp.restS K st ⟨st.fl, st.nums, Gp.cntsT st.fl K.ctrs st.cnts⟩) := by
          show _ = _
          unfold Gp.tickS
          rw [← HDU.out, if_neg h0]
        have h0' : du.length = 0 := by omega
        go_wp2_with fail
        refine (restD HKM.out HNS.out HFM.out.2.2.1 HFM.out.2.2.2.1).mono ?_
        intro e w3 hp
        have HP := hideT (hp.act HBW.out HFM.out.2.2.2.2)
        obtain ⟨rfl, hrest⟩ := hp
        clear hrest
        go_wp2_with fail
        go_ret
        rw [HR.out]
        exact HP.out
    obtain ⟨⟨c0, c1, c2⟩, hx⟩ := Mp.at_lt (l := K.ctrs) (k := k) hlt
    obtain ⟨_, _, _, bu, ou, hau, hcu⟩ := trow_at HKM.out.kept.here.ctrs
    obtain ⟨d0, d1, d2⟩ := hcu k _ hx
    have hua2 : A.a5 = some ⟨bu, ou, none⟩ := hau (by omega)
    rw [hua2]
    dsimp only at d0 d1 d2
    obtain ⟨n, hn⟩ := Mp.at_lt (l := st.cnts) (k := k) (by have := HM.out.lc; have := HM.out.hc; omega)
    have hin := HM.out.ok.ctrs _ (List.mem_of_getElem? hx)
    obtain ⟨q, hq⟩ : ∃ q : Nat, c0 = q := ⟨c0.toNat, by have := hin.1.1; dsimp only at this; omega⟩
    subst hq
    have t3 : (q : Int) < (F : Int) := hin.1.2
    have t4 : (0 : Int) ≤ (q : Int) := by omega
    have hlim : 1 ≤ c1 ∧ c1 ≤ 100 := hin.2.1
    have hnn := HCI.out n (List.mem_of_getElem? hn)
    have HX := hideT hx
    have HNK := hideT hn
    have HSTEP := hideT (Gp.tick_step HT.out hx hn)
    have hDk : D[k]? = some n := by rw [HT.out.rest k (Nat.le_refl _)]; exact hn
    have e2 : wr.cell? ⟨c, k, none⟩ = some (.int .i64 n) := HD.out.cell hDk
    have f2 : wr.frozen? ⟨c, k, none⟩ = false := Lies.free HD.out k
    have g0 : wr.cell? ⟨f, q, none⟩ = some (.bool (Gp.atB st.fl q)) := by
      have := HKF.out.at (f := (q : Int)) t4 (by rw [HM.out.lf]; exact t3)
      rwa [show ((q : Int)).toNat = q by omega] at this
    have z0 : wr.cell? ⟨w1.heap.size, 0, none⟩ = some (.slice (some ⟨f, 0, none⟩) F F) := HKL.out.cell 0
    have z2 : wr.cell? ⟨w1.heap.size, 2, none⟩ = some (.slice (some ⟨c, 0, none⟩) C C) := HKL.out.cell 2
    have t0 : (0 : Int) ≤ (k : Int) := by omega
    have t1 : (k : Int) < (K.ctrs.length : Int) := by omega
    have t2 : (k : Int) < (C : Int) := by have := HCS.out; omega
    have hzc := cell_lt e2
    have hzf := cell_lt g0
    have hzw := cell_lt z0
    obtain ⟨g, hg⟩ : ∃ g, Gp.atB st.fl q = g := ⟨_, rfl⟩
    have HG := hideT hg
    rw [hg] at g0
    clear hcu hau hua2 hx hn hin hDk hg
    cases g
    · obtain ⟨X, hX⟩ : ∃ X, (wr.setCell ⟨c, k, none⟩ (.int .i64 0)).alloc (.cells #[.int .i64 (q : Int), .int .i64 c1, .int .i64 c2] 89) = X := ⟨_, rfl⟩
      have KX : Keep (fun j => j = c) wr X := by
        rw [← hX]
        have h1 : Keep (fun j => j = c) wr (wr.setCell ⟨c, k, none⟩ (.int .i64 0)) := Keep.set _ _ _ rfl
        exact h1.trans (Keep.of_below ((Below.refl _ _).alloc (Nat.le_refl _) _))
      have DX : IntR X c (D.set k 0) := by
        rw [← hX]
        exact (HD.out.set k 0).below ((Below.refl _ _).alloc (Nat.le_refl _) _)
      have HSX : Hid (Gp.TickN st.fl K.ctrs st.cnts (k + 1) (D.set k 0) du) := by
        have h1 := HSTEP.out
        have h2 : Gp.cntT st.fl ((q : Int), c1, c2) n = 0 := by unfold Gp.cntT; rw [show Gp.atB st.fl ((q : Int), c1, c2).1 = false from HG.out]; rfl
        rw [h2, show Gp.atB st.fl ((q : Int), c1, c2).1 = false from HG.out] at h1
        show Gp.TickN _ _ _ _ _ _
        simpa using h1
      have HKX := hideT (HK.out.trans KX)
      have HDX := hideT DX
      have HOX := hideT (OO.out.keep KX (fun i hi e => by have := (OO.out.lt hi).2; have := HCV.out; omega))
      have HXX := hideT hX
      clear KX DX hX
      go_wp2_with fail
      rw [HXX.out]
      refine ⟨⟨k + 1, D.set k 0, du, by omega, by go_num, HSX, HKX, HDX, HOX⟩, ?_⟩
      first | omega | (simp [intOf]; omega)
    obtain ⟨V1, hV1⟩ : ∃ V1, wr.alloc (.cells #[.int .i64 (q : Int), .int .i64 c1, .int .i64 c2] 89) = V1 := ⟨_, rfl⟩
    have BV1 : Below wr.heap.size wr V1 := by rw [← hV1]; exact (Below.refl _ wr).alloc (Nat.le_refl _) _
    have LV1 : Lies V1 wr.heap.size 89 #[.int .i64 (q : Int), .int .i64 c1, .int .i64 c2] := by rw [← hV1]; exact Lies.new _ _ _
    have HV1 := hideT hV1
    have HB1 := hideT BV1
    have HL1 := hideT LV1
    have HD1 := hideT (HD.out.below BV1)
    have HO1 := hideT (OO.out.below BV1)
    have HKL1 := hideT (HKL.out.below BV1)
    clear hV1 BV1 LV1
    go_wp2_with fail
    rw [HV1.out]
    have y1 : V1.cell? ⟨wr.heap.size, 1, none⟩ = some (.int .i64 c1) := HL1.out.cell 1
    have y2 : V1.cell? ⟨w1.heap.size, 2, none⟩ = some (.slice (some ⟨c, 0, none⟩) C C) := HKL1.out.cell 2
    have y3 : V1.cell? ⟨c, k, none⟩ = some (.int .i64 n) := below_cell HB1.out _ _ e2
    have y4 : V1.frozen? ⟨c, k, none⟩ = false := Lies.free HD1.out k
    clear e2 f2 g0 z0 z2 d0 d1 d2
    go_region
    obtain ⟨X, hX⟩ : ∃ X, (V1.setCell ⟨c, k, none⟩ (.int .i64 (min n c1 + 1))).drew = X := ⟨_, rfl⟩
    have KX : Keep (fun j => j = c) wr X := by
      rw [← hX]
      have h1 : Keep (fun j => j = c) V1 (V1.setCell ⟨c, k, none⟩ (.int .i64 (min n c1 + 1))) := Keep.set _ _ _ rfl
      exact ((Keep.of_below HB1.out).trans h1).trans (Keep.of_below (below_drewN (Below.refl _ _) 1))
    have DX : IntR X c (D.set k (min n c1 + 1)) := by
      rw [← hX]
      exact (HD1.out.set k _).below (below_drewN (Below.refl _ _) 1)
    have cw : c ≠ wr.heap.size := by have := Lies.lt HD.out; omega
    have LX : Lies X wr.heap.size 89 #[.int .i64 (q : Int), .int .i64 c1, .int .i64 c2] := by
      rw [← hX]
      exact (HL1.out.off _ _ (fun e => cw e.symm)).below (below_drewN (Below.refl _ _) 1)
    have LS : Lies X w1.heap.size 68 (stC f m c F N C) := HKL.out.keep KX (fun e => HCW.out e.symm)
    have hck : Gp.cntT st.fl ((q : Int), c1, c2) n = min n c1 + 1 := by unfold Gp.cntT; rw [show Gp.atB st.fl ((q : Int), c1, c2).1 = true from HG.out]; rfl
    have hst := HSTEP.out
    rw [hck, show Gp.atB st.fl ((q : Int), c1, c2).1 = true from HG.out] at hst
    have HOX := hideT (OO.out.keep KX (fun i hi e => by have := (OO.out.lt hi).2; have := HCV.out; omega))
    have HKX := hideT (HK.out.trans KX)
    have HDX := hideT DX
    have HLX := hideT LX
    have x1 : X.cell? ⟨wr.heap.size, 1, none⟩ = some (.int .i64 c1) := LX.cell 1
    have x2 : X.cell? ⟨w1.heap.size, 2, none⟩ = some (.slice (some ⟨c, 0, none⟩) C C) := LS.cell 2
    have x3 : X.cell? ⟨c, k, none⟩ = some (.int .i64 (min n c1 + 1)) := by
      refine DX.cell ?_
      rw [List.getElem?_set_self (by rw [HT.out.len]; have := (List.getElem?_eq_some_iff.1 HNK.out).1; omega)]
    rw [hX]
    obtain ⟨z, hz⟩ : ∃ z, min n c1 + 1 = z := ⟨_, rfl⟩
    rw [hz] at HDX x3 hst ⊢
    have HST := hideT hst
    clear hX KX DX LX LS hck hst hz y1 y2 y3 y4 hzc hzf hzw
    by_cases hzc : z = c1
    rotate_left
    · have HS2 : Hid (Gp.TickN st.fl K.ctrs st.cnts (k + 1) (D.set k z) du) := by
        have := HST.out
        rw [decide_eq_false (show ¬ z = ((q : Int), c1, c2).2.1 from hzc)] at this
        show Gp.TickN _ _ _ _ _ _
        simpa using this
      have hne : (z == c1) = false := beq_eq_false_iff_ne.2 hzc
      go_wp2_with fail
      go_quiet (fail)
      go_wp2_with fail
      refine ⟨⟨k + 1, D.set k z, du, by omega, by go_num, HS2, HKX.out.trans (Keep.of_below (below_drewN (Below.refl _ _) _)), HDX.out.below (below_drewN (Below.refl _ _) _), HOX.out.below (below_drewN (Below.refl _ _) _)⟩, ?_⟩
      first | omega | (simp [intOf]; omega)
    · have HS2 : Hid (Gp.TickN st.fl K.ctrs st.cnts (k + 1) (D.set k z) (du ++ [c2])) := by
        have := HST.out
        rw [decide_eq_true (show z = ((q : Int), c1, c2).2.1 from hzc)] at this
        exact this
      subst hzc
      go_wp2_with fail
      go_quiet (fail)
      rename_i nq
      have HOY := hideT (HOX.out.below (below_drewN (Below.refl _ X) nq))
      have HLY := hideT (HLX.out.below (below_drewN (Below.refl _ X) nq))
      have HKY := hideT (HKX.out.trans (Keep.of_below (below_drewN (Below.refl _ X) nq)))
      have HDY := hideT (HDX.out.below (below_drewN (Below.refl _ X) nq))
      obtain ⟨Y, hY⟩ : ∃ Y, X.drewN nq = Y := ⟨_, rfl⟩
      rw [hY] at HOY HLY HKY HDY ⊢
      have y2 : Y.cell? ⟨wr.heap.size, 2, none⟩ = some (.int .i64 c2) := HLY.out.cell 2
      clear x1 x2 x3 hY
      go_wp2_with (first | (at_builtin; (refine wpList_appO (t := 48) (e := 3) (z := 1) (E := intE) Try.underlying48 infoC_I rfl (by omega) (by omega) (fun _ => rfl) intE_one (by rfl) _ _ (by rfl) (v := .slice oad du.length ocap) (by rfl) (by rfl) (HOY.out.below ((Below.refl _ Y).alloc (Nat.le_refl _) _)) [c2] rfl (fun _ => ⟨_, rfl, news1 Y #[.int .i64 c2] 3⟩) (by simp; omega) ?_; intro v' w3 o3 k3)) | fail)
      have HKZ : Hid (Keep (fun j => j = c) V w3) := (HKY.out.trans (Keep.of_below ((Below.refl _ Y).alloc (Nat.le_refl _) _))).on k3.keep (fun i hi e => by have := (HOY.out.lt e).2; omega)
      have HDZ : Hid (IntR w3 c (D.set k z)) := (HDY.out.below ((Below.refl _ Y).alloc (Nat.le_refl _) _)).keep k3.keep (fun e => by have := (HOY.out.lt e).2; have := HCV.out; omega)
      refine ⟨⟨k + 1, D.set k z, du ++ [c2], by omega, by go_num, HS2, HKZ, HDZ, o3⟩, ?_⟩
      first | omega | (simp [intOf]; omega)
end
end Go.Proofs.Ytkjekohncfhbiab
