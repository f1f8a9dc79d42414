/-
  The program's plainWithin, for every element that is not too large.
-/
import Derived.Test.YtjfonpbnohbpfaaGreatDoorBPlS
import Derived.Deep.RegionLaw
set_option linter.unusedSimpArgs false
set_option linter.unusedVariables false
namespace Go.Proofs.YtjfonpbnohbpfaaGreatDoor
open Go.RowKit
set_option maxRecDepth 100000
theorem plain_start {w w1 : World} (eb d : Nat) (lo : ByteArray) (hb : Below w.heap.size w w1) (he : w.heap.size ≤ eb) (hl : Lies w1 eb 50 #[.string lo, nilS, nilS, .int .i64 0]) : PSt w w1 eb d lo [] [] nilS nilS :=
  ⟨hl, he, ⟨World.ownsRow_nil _ _ _ _, by decide, fun p hp => by cases hp⟩, ⟨[], World.ownsRow_nil _ _ _ _, rfl, fun i q K h => by simp at h⟩, hb, by decide, fun h => by cases h⟩
def preOf (sp outer : ByteArray) : List Att := if sp = outer then [] else [(xmlnsB, sp)]
theorem plP_succ (d : Nat) (outer : ByteArray) (T : Tr) : Bp.plP (d + 1) outer T = Xp.mkT (Bp.loT T) (preOf (Bp.spT T) outer ++ Bp.alT T) ((Bp.klT T).map (Bp.plP d (Bp.spT T))) 0 := rfl
theorem kid_facts {W wr w2 : World} {eb d c0 : Nat} {lo : ByteArray} {L : List Att} {ks : List Tr} {av kv : Value} (h : PSt W wr eb d lo L ks av kv) {qs : List Quad} (ho : wr.ownsRow W.heap.size 50 4 kv qs.length (flatE qs)) (hqk : ∀ (i : Nat) (q : Quad) (K : Tr), qs[i]? = some q → ks[i]? = some K → EInR wr (PQ W wr eb av kv) d q.1 q.2.1 q.2.2.1 q.2.2.2 K) (hB : Below wr.heap.size wr w2) (hc : wr.heap.size ≤ c0) {r0 r1 r2 r3 : Value} {K : Tr} (hK : EInR w2 (fun k => c0 ≤ k ∧ k < w2.heap.size) d r0 r1 r2 r3 K) :
    w2.ownsRow W.heap.size 50 4 kv qs.length (flatE qs) ∧ (∀ (i : Nat) (q : Quad) (K : Tr), qs[i]? = some q → ks[i]? = some K → EInR w2 (PQ W w2 eb av kv) d q.1 q.2.1 q.2.2.1 q.2.2.2 K) ∧ EInR w2 (PQ W w2 eb av kv) d r0 r1 r2 r3 K ∧ (∀ g', kv.ownBlock = some g' ∨ w2.heap.size ≤ g' → g' ≠ eb) := by
  have hz := h.below.size
  have he := h.lies.lt
  have hs := hB.size
  have hR : ∀ k, c0 ≤ k ∧ k < w2.heap.size → PQ W w2 eb av kv k := by
    intro k hk
    refine ⟨by omega, hk.2, by omega, ?_, ?_⟩
    · intro e
      have := (own_lt h.att.1 e).1
      omega
    · intro e
      have := (own_lt ho e).1
      omega
  refine ⟨own_below ho hB, fun i q K h1 h2 => (hqk i q K h1 h2).turn (fun k hk => hB.block k hk.2.1) (fun k hk => ⟨hk.1, Nat.lt_of_lt_of_le hk.2.1 hs, hk.2.2⟩), hK.turn (fun _ _ => rfl) hR, ?_⟩
  intro g' hg
  rcases hg with hg | hg
  · exact fun e => h.ne (by rw [hg, e])
  · omega
set_option maxHeartbeats 8000000 in
theorem plain_step (d : Nat) (IH : PlIn d) : PlIn (d + 1) := by
  intro w outer n0 n1 n2 n3 n4 T hT hF
  obtain ⟨sp, lo, a2, l2, m2, a3, l3, m3, p, rfl, rfl, rfl, rfl, rfl, hsp, hlo, _⟩ := hT.five
  obtain ⟨fz1, fz2, fz3, fz4, fz5, fz6⟩ := hF
  rw [hlo] at fz1
  rw [hsp] at fz2
  have HSP := hideT hsp
  have HLO := hideT hlo
  obtain ⟨aa, acap, ab, ao, ea, haa, _, hac⟩ := arow_at hT.attrs
  obtain ⟨ka, kcap, kb, ko, ek, hka, _, hkc⟩ := hT.kid
  cases ea
  cases ek
  obtain ⟨na, hna⟩ : ∃ n, n = (Bp.alT T).length := ⟨_, rfl⟩
  obtain ⟨nk, hnk⟩ : ∃ n, n = (Bp.klT T).length := ⟨_, rfl⟩
  rw [← hna] at haa fz3 ⊢
  rw [← hnk] at hka fz5 ⊢
  have HNA := hideT hna
  have HNK := hideT hnk
  have HAA := hideT haa
  have HAC := hideT hac
  have HKA := hideT hka
  have HKC := hideT hkc
  have HF4 := hideT fz4
  have HF6 := hideT fz6
  have HIH := hideT IH
  obtain ⟨iA, hiA, zA0, zA1, zA2⟩ := info_parts infoA
  obtain ⟨iE, hiE, zE0, zE1, zE2⟩ := info_parts infoE
  obtain ⟨W, hW, BW, zW, LN, LR⟩ : ∃ W, (w.alloc (.cells #[.string sp, .string lo, .slice a2 na m2, .slice a3 nk m3, .int .i64 p] 45)).alloc (.cells #[.string ⟨#[]⟩, .slice none 0 0, .slice none 0 0, .int .i64 0] 50) = W ∧ Below w.heap.size w W ∧ W.heap.size = w.heap.size + 2 ∧ Lies W w.heap.size 45 #[.string sp, .string lo, .slice a2 na m2, .slice a3 nk m3, .int .i64 p] ∧ Lies W (w.heap.size + 1) 50 #[.string ⟨#[]⟩, .slice none 0 0, .slice none 0 0, .int .i64 0] := by
    obtain ⟨W1, e1⟩ : ∃ W1, w.alloc (.cells #[.string sp, .string lo, .slice a2 na m2, .slice a3 nk m3, .int .i64 p] 45) = W1 := ⟨_, rfl⟩
    obtain ⟨b1, k1, z1⟩ := of_alloc e1
    obtain ⟨W2, e2⟩ : ∃ W2, W1.alloc (.cells #[.string ⟨#[]⟩, .slice none 0 0, .slice none 0 0, .int .i64 0] 50) = W2 := ⟨_, rfl⟩
    obtain ⟨b2, k2, z2⟩ := of_alloc e2
    rw [e1, e2]
    rw [z1] at k2 z2
    exact ⟨W2, rfl, b1.trans (b2.mono (by omega)), z2, k1.below b2, k2⟩
  have HW := hideT hW
  have HBW := hideT BW
  have HZW := hideT zW
  have HLN := hideT LN
  have HLR := hideT LR
  have x1 : W.cell? ⟨w.heap.size, 1, none⟩ = some (.string lo) := LN.cell 1
  clear hT haa hac hka hkc hna hnk fz4 fz6 IH hW BW zW LN LR hsp hlo
  go_enter Tryz.func73, Tryz.ntmps73
  go_wp2_with fail
  try rw [HW.out]
  refine (cloneS lo W (by omega)).mono ?_
  rintro e w1 ⟨rfl, b1⟩
  obtain ⟨eb, heb⟩ : ∃ eb, eb = w1.heap.size := ⟨_, rfl⟩
  have q1 := b1.size
  have BV := hideT ((HBW.out.trans (b1.mono HBW.out.size)).alloc (Nat.le_trans HBW.out.size b1.size) (.cells #[.string lo, .slice none 0 0, .slice none 0 0, .int .i64 0] 50))
  have BWV := hideT (b1.alloc b1.size (.cells #[.string lo, .slice none 0 0, .slice none 0 0, .int .i64 0] 50))
  have PV : Hid (PSt W (w1.alloc (.cells #[.string lo, .slice none 0 0, .slice none 0 0, .int .i64 0] 50)) w1.heap.size d lo [] [] nilS nilS) := plain_start _ d lo BWV.out q1 (Lies.new w1 _ _)
  have v0 : (w1.alloc (.cells #[.string lo, .slice none 0 0, .slice none 0 0, .int .i64 0] 50)).cell? ⟨w.heap.size, 0, none⟩ = some (.string sp) := (HLN.out.below BWV.out).cell 0
  have v2 : (w1.alloc (.cells #[.string lo, .slice none 0 0, .slice none 0 0, .int .i64 0] 50)).cell? ⟨w.heap.size, 2, none⟩ = some (.slice a2 na m2) := (HLN.out.below BWV.out).cell 2
  have HLT : Hid (w.heap.size + 1 < w1.heap.size) := by have := HZW.out; show _ < _; omega
  clear b1 x1
  by_cases hs : sp = outer
  · subst hs
    go_wp2_with fail
    generalize hV : w1.alloc _ = V at PV BV BWV v0 v2 ⊢
    rw [← heb] at PV ⊢
    have HEB := hideT heb
    clear hV heb
    obtain ⟨pre, hpre⟩ : ∃ pre : List Att, pre = [] := ⟨_, rfl⟩
    obtain ⟨av0, hav0⟩ : ∃ av0 : Value, av0 = nilS := ⟨_, rfl⟩
    have PU : Hid (PSt W V eb d lo pre [] av0 nilS) := by rw [hpre, hav0]; exact PV.out
    have BWU := BWV
    have hpl : pre.length ≤ 1 := by rw [hpre]; simp
    have HPE : Hid (preOf sp sp = pre) := by show _ = _; rw [hpre]; exact if_pos rfl
    clear hpre hav0 PV
    go_loopw [29] (fun i wr => ∃ (k : Nat) (av : Value), k ≤ na ∧ i = .int .i64 k ∧ Hid (PSt W wr eb d lo (pre ++ (Bp.alT T).take k) [] av nilS)) (fun i _ => na - (intOf i).toNat)
    case atStart => exact ⟨0, av0, Nat.zero_le _, rfl, by rw [List.take_zero, List.append_nil]; exact PU⟩
    case round =>
      obtain ⟨k, av, hk, rfl, HP⟩ := hrel
      obtain ⟨L, hL⟩ : ∃ L, pre ++ (Bp.alT T).take k = L := ⟨_, rfl⟩
      rw [hL] at HP
      obtain ⟨avd, avc, rfl⟩ := slice_form HP.out.att.1
      have HL := hideT hL
      clear hL
      by_cases hlt : k < na
      · obtain ⟨⟨nm, vl⟩, hatt⟩ := Mp.at_lt (l := Bp.alT T) (k := k) (by have := HNA.out; omega)
        obtain ⟨_, c0, c1⟩ := HAC.out k _ hatt
        have BWR := hideT (HBW.out.trans (HP.out.below.mono HBW.out.size))
        have c0 := below_cell BWR.out _ _ c0
        have c1 := below_cell BWR.out _ _ c1
        dsimp only at c0 c1
        obtain rfl := HAA.out (by omega)
        obtain ⟨zn, zv⟩ := HF4.out (nm, vl) (List.mem_of_getElem? hatt)
        dsimp only at zn zv
        have HTK : Hid (pre ++ (Bp.alT T).take (k + 1) = L ++ [(nm, vl)]) := by show _ = _; rw [take_snoc hatt, ← List.append_assoc, HL.out]
        have hll : L.length < 8 := by rw [← HL.out, List.length_append, List.length_take]; omega
        clear hatt
        go_wp2_with fail
        generalize hV1 : wr.alloc _ = V1
        obtain ⟨BV1, LV1, zV1⟩ := of_alloc hV1
        have HP1 := hideT (HP.out.step BV1)
        have HLV := hideT LV1
        have y1 : V1.cell? ⟨eb, 1, none⟩ = some (.slice avd L.length avc) := HP1.out.lies.cell 1
        have s0 : V1.cell? ⟨wr.heap.size, 0, none⟩ = some (.string nm) := LV1.cell 0
        have s1 : V1.cell? ⟨wr.heap.size, 1, none⟩ = some (.string vl) := LV1.cell 1
        have lE1 := HP1.out.lies.lt
        have lA1 := LV1.lt
        clear hV1 BV1 LV1 zV1 c0 c1
        go_region_law (first | (refine step_append_lies _ (by rfl) _ _ _ (by rfl) W.heap.size 66 iA _ 2 32 Tryz.underlying42 hiA zA0 zA1 zA2 rfl (by omega) (.slice avd L.length avc) L.length (flatA L) (by rfl) (HP2.out.att.1.alloc _) ⟨w2.heap.size, 0, none⟩ 1 1 [.string nm, .string vl] (by rfl) (by rfl) (World.news_of_block (cs := #[.string nm, .string vl]) (t := 66) (fr := (0, 0)) (heap_alloc_new w2 _)) (by simp [Value.oneCell']) (by omega) (by unfold maxLen; omega) (by omega) (by first | (simp; done) | (simp; omega)) (w2.heap.size + 1) (by simp) ?_; intro g' cap3 w3' hown hgrow hat hlt'; obtain ⟨⟨y2, z2⟩, PX⟩ := HP2.out.attr ((Below.refl _ w2).alloc (Nat.le_refl _) _) hgrow nm vl hown (hat.imp id (fun e => (by omega))) ⟨(by omega), (by omega)⟩ (by omega)) | (go_simp; go_at_call 106; refine (newAttrD nm vl _ (by omega) (by omega)).mono ?_; rintro e w2 ⟨rfl, b2⟩; have b2' : Below V1.heap.size V1 w2 := (Below.refl _ V1).drew.trans b2; have P2 := HP1.out.step b2'; have y1' : w2.cell? ⟨eb, 1, none⟩ = some (.slice avd L.length avc) := P2.lies.cell 1; have s0' : w2.cell? ⟨wr.heap.size, 0, none⟩ = some (.string nm) := (HLV.out.below b2').cell 0; have s1' : w2.cell? ⟨wr.heap.size, 1, none⟩ = some (.string vl) := (HLV.out.below b2').cell 1; have lE2 := P2.lies.lt; have HP2 := hideT P2; have zz2 := P2.below.size))
        all_goals
          have PX2 : Hid (PSt W (w3'.setCell ⟨eb, 1, none⟩ (.slice (some ⟨g', 0, none⟩) (L.length + 1) cap3)) eb d lo (pre ++ (Bp.alT T).take (k + 1)) [] (.slice (some ⟨g', 0, none⟩) (L.length + 1) cap3) nilS) := by rw [HTK.out]; exact PX
          clear hown hgrow hat hlt' y1 s0 s1 y1' s0' s1' y2 z2 lE2 P2 HP2 b2 b2' PX zz2
          go_wp2_with fail
          refine ⟨⟨k + 1, _, by omega, by go_num, PX2⟩, ?_⟩
          first | omega | (simp [intOf]; omega)
      · have HTA : Hid (L = pre ++ Bp.alT T) := by show _ = _; rw [← HL.out, List.take_of_length_le (by have := HNA.out; omega)]
        have z3 : wr.cell? ⟨w.heap.size, 3, none⟩ = some (.slice a3 nk m3) := (HLN.out.below HP.out.below).cell 3
        go_wp2_with fail
        clear z3
        go_loopw [47] (fun i wr => ∃ (k : Nat) (kv : Value), k ≤ nk ∧ i = .int .i64 k ∧ Hid (PSt W wr eb d lo L (((Bp.klT T).take k).map (Bp.plP d sp)) (.slice avd L.length avc) kv)) (fun i _ => nk - (intOf i).toNat)
        case atStart => exact ⟨0, nilS, Nat.zero_le _, rfl, HP⟩
        case round =>
          obtain ⟨k2, kv, hk2, rfl, HQ⟩ := hrel
          obtain ⟨qs, ho, hqs, hqk⟩ := HQ.out.kids
          obtain ⟨kvd, kvc, rfl⟩ := slice_form ho
          have BWR := hideT (HBW.out.trans (HQ.out.below.mono HBW.out.size))
          have hql : qs.length = k2 := by rw [hqs, List.length_map, List.length_take]; have := HNK.out; omega
          have HQL := hideT hql
          have HOW := hideT ho
          have HQK := hideT hqk
          have HQS := hideT hqs
          clear ho hqk hqs hql
          by_cases hlt2 : k2 < nk
          · obtain ⟨K, hK⟩ := Mp.at_lt (l := Bp.klT T) (k := k2) (by have := HNK.out; omega)
            obtain ⟨d0, d1, d2, d3, d4, nK, f0, f1, f2, f3, f4⟩ := HKC.out k2 K hK
            obtain ⟨ksp, klo, ka2, kl2, km2, ka3, kl3, km3, kp, rfl, rfl, rfl, rfl, rfl, _, _, _⟩ := nK.five
            have f0 := below_cell BWR.out _ _ f0
            have f1 := below_cell BWR.out _ _ f1
            have f2 := below_cell BWR.out _ _ f2
            have f3 := below_cell BWR.out _ _ f3
            have f4 := below_cell BWR.out _ _ f4
            obtain rfl := HKA.out (by omega)
            have HNKK := hideT nK
            have HFK := hideT (HF6.out K (List.mem_of_getElem? hK))
            have HTK : Hid (((Bp.klT T).take (k2 + 1)).map (Bp.plP d sp) = ((Bp.klT T).take k2).map (Bp.plP d sp) ++ [Bp.plP d sp K]) := by show _ = _; rw [take_snoc hK, List.map_append]; rfl
            clear hK nK
            go_wp2_with fail
            generalize hV2 : wr.alloc _ = V2
            obtain ⟨BV2, LV2, zV2⟩ := of_alloc hV2
            have HQ1 := hideT (HQ.out.step BV2)
            have HLV := hideT LV2
            have y2 : V2.cell? ⟨eb, 2, none⟩ = some (.slice kvd qs.length kvc) := HQ1.out.lies.cell 2
            have s0 : V2.cell? ⟨wr.heap.size, 0, none⟩ = some (.string ksp) := LV2.cell 0
            have s1 : V2.cell? ⟨wr.heap.size, 1, none⟩ = some (.string klo) := LV2.cell 1
            have s2 : V2.cell? ⟨wr.heap.size, 2, none⟩ = some (.slice ka2 kl2 km2) := LV2.cell 2
            have s3 : V2.cell? ⟨wr.heap.size, 3, none⟩ = some (.slice ka3 kl3 km3) := LV2.cell 3
            have s4 : V2.cell? ⟨wr.heap.size, 4, none⟩ = some (.int .i64 kp) := LV2.cell 4
            have n0' : V2.cell? ⟨w.heap.size, 0, none⟩ = some (.string sp) := (HLN.out.below HQ1.out.below).cell 0
            have lE1 := HQ1.out.lies.lt
            have lA1 := LV2.lt
            have lN1 := (HLN.out.below HQ1.out.below).lt
            have TK : Hid (NInR V2.drew (· < V2.drew.heap.size) d (.string ksp) (.string klo) (.slice ka2 kl2 km2) (.slice ka3 kl3 km3) (.int .i64 kp) K) := HNKK.out.below ((BWR.out.trans (BV2.mono BWR.out.size)).drew)
            have HBV2 := hideT BV2
            clear hV2 BV2 LV2 zV2 f0 f1 f2 f3 f4
            go_region_law (first | (refine step_append_lies _ (by rfl) _ _ _ (by rfl) W.heap.size 50 iE _ 4 72 Tryz.underlying48 hiE zE0 zE1 zE2 rfl (by omega) (.slice kvd qs.length kvc) qs.length (flatE qs) (by rfl) (KF.out.1.alloc _) ⟨w2.heap.size, 0, none⟩ 1 1 [.string enm, .slice ea1 en1 ek1, .slice ea2 en2 ek2, .int .i64 ep] (by rfl) (by rfl) (World.news_of_block (cs := #[.string enm, .slice ea1 en1 ek1, .slice ea2 en2 ek2, .int .i64 ep]) (t := 50) (fr := (0, 0)) (heap_alloc_new w2 _)) (by simp [Value.oneCell']) (by omega) (by unfold maxLen; omega) (by omega) (by first | (simp; done) | (simp; omega)) (w2.heap.size + 1) (by simp) ?_; intro g' cap3 w3' hown hgrow hat hlt'; obtain ⟨⟨y3, z2⟩, PX⟩ := HP2.out.kid ((Below.refl _ w2).alloc (Nat.le_refl _) _) hgrow _ _ _ _ (Bp.plP d sp K) qs HQS.out KF.out.2.1 KF.out.1 hown (hat.imp id (fun e => (by omega))) KF.out.2.2.1 (KF.out.2.2.2 g' (hat.imp id (fun e => (by omega)))) (by have := HQL.out; have := HQS.out; omega)) | (go_simp; go_at_call 73; refine (HIH.out _ sp _ _ _ _ _ K TK.out HFK.out).mono ?_; rintro e w2 ⟨⟨r0', r1', r2', r3', rfl, hK2⟩, b2⟩; obtain ⟨enm, ea1, en1, ek1, ea2, en2, ek2, ep, rfl, rfl, rfl, rfl⟩ := hK2.toEIn.form; have b2' : Below V2.heap.size V2 w2 := (Below.refl _ V2).drew.trans b2; have KF := hideT (kid_facts HQ.out HOW.out HQK.out (HBV2.out.trans (b2'.mono HBV2.out.size)) HBV2.out.size hK2); have P2 := HQ1.out.step b2'; have y2' : w2.cell? ⟨eb, 2, none⟩ = some (.slice kvd qs.length kvc) := P2.lies.cell 2; have lE2 := P2.lies.lt; have HP2 := hideT P2; have zz2 := P2.below.size; have hqm : qs.length ≤ 1000000 := (by have := HQL.out; omega)))
            all_goals
              have PX2 : Hid (PSt W (w3'.setCell ⟨eb, 2, none⟩ (.slice (some ⟨g', 0, none⟩) (qs.length + 1) cap3)) eb d lo L (((Bp.klT T).take (k2 + 1)).map (Bp.plP d sp)) (.slice avd L.length avc) (.slice (some ⟨g', 0, none⟩) (qs.length + 1) cap3)) := by rw [HTK.out]; exact PX
              clear hown hgrow hat hlt' y2 y3 s0 s1 s2 s3 s4 n0' y2' z2 lE2 P2 HP2 b2 b2' PX zz2 hK2
              go_wp2_with fail
              refine ⟨⟨k2 + 1, _, by omega, by go_num, PX2⟩, ?_⟩
              first | omega | (simp [intOf]; omega)
          · have HTA2 : Hid (((Bp.klT T).take k2).map (Bp.plP d sp) = (Bp.klT T).map (Bp.plP d sp)) := by show _ = _; rw [List.take_of_length_le (by have := HNK.out; omega)]
            have LRW := hideT (HLR.out.below HQ.out.below)
            have e0 : wr.cell? ⟨eb, 0, none⟩ = some (.string lo) := HQ.out.lies.cell 0
            have e1 : wr.cell? ⟨eb, 1, none⟩ = some (.slice avd L.length avc) := HQ.out.lies.cell 1
            have e2 : wr.cell? ⟨eb, 2, none⟩ = some (.slice kvd qs.length kvc) := HQ.out.lies.cell 2
            have e3 : wr.cell? ⟨eb, 3, none⟩ = some (.int .i64 0) := HQ.out.lies.cell 3
            have r0 : wr.cell? ⟨w.heap.size + 1, 0, none⟩ = some (.string ⟨#[]⟩) := LRW.out.cell 0
            have r1 : wr.cell? ⟨w.heap.size + 1, 1, none⟩ = some (.slice none 0 0) := LRW.out.cell 1
            have r2 : wr.cell? ⟨w.heap.size + 1, 2, none⟩ = some (.slice none 0 0) := LRW.out.cell 2
            have r3 : wr.cell? ⟨w.heap.size + 1, 3, none⟩ = some (.int .i64 0) := LRW.out.cell 3
            have g0 : wr.frozen? ⟨w.heap.size + 1, 0, none⟩ = false := LRW.out.free 0
            have g1 : wr.frozen? ⟨w.heap.size + 1, 1, none⟩ = false := LRW.out.free 1
            have g2 : wr.frozen? ⟨w.heap.size + 1, 2, none⟩ = false := LRW.out.free 2
            have g3 : wr.frozen? ⟨w.heap.size + 1, 3, none⟩ = false := LRW.out.free 3
            go_wp2_with fail
            have hHW := HZW.out
            obtain ⟨X, hX, bX, lX, kX⟩ : ∃ X, (((wr.setCell ⟨w.heap.size + 1, 0, none⟩ (.string lo)).setCell ⟨w.heap.size + 1, 1, none⟩ (.slice avd L.length avc)).setCell ⟨w.heap.size + 1, 2, none⟩ (.slice kvd qs.length kvc)).setCell ⟨w.heap.size + 1, 3, none⟩ (.int .i64 0) = X ∧ Below w.heap.size w X ∧ Lies X (w.heap.size + 1) 50 #[.string lo, .slice avd L.length avc, .slice kvd qs.length kvc, .int .i64 0] ∧ Keep (· = w.heap.size + 1) wr X :=
              ⟨_, rfl, (((BWR.out.setCell (Nat.le_succ _) _).setCell (Nat.le_succ _) _).setCell (Nat.le_succ _) _).setCell (Nat.le_succ _) _, ((((LRW.out.set 0 _).set 1 _).set 2 _).set 3 _), (((Keep.set (S := (· = w.heap.size + 1)) wr ⟨w.heap.size + 1, 0, none⟩ _ rfl).trans (Keep.set _ ⟨w.heap.size + 1, 1, none⟩ _ rfl)).trans (Keep.set _ ⟨w.heap.size + 1, 2, none⟩ _ rfl)).trans (Keep.set _ ⟨w.heap.size + 1, 3, none⟩ _ rfl)⟩
            rw [hX]
            have r0 : X.cell? ⟨w.heap.size + 1, 0, none⟩ = some (.string lo) := lX.cell 0
            have r1 : X.cell? ⟨w.heap.size + 1, 1, none⟩ = some (.slice avd L.length avc) := lX.cell 1
            have r2 : X.cell? ⟨w.heap.size + 1, 2, none⟩ = some (.slice kvd qs.length kvc) := lX.cell 2
            have r3 : X.cell? ⟨w.heap.size + 1, 3, none⟩ = some (.int .i64 0) := lX.cell 3
            refine bodyPost_ret (v := .agg #[.string lo, .slice avd L.length avc, .slice kvd qs.length kvc, .int .i64 0]) (by simp [results, Tryz.results73, go_sem, r0, r1, r2, r3]) rfl ⟨⟨_, _, _, _, rfl, ?_⟩, bX⟩
            rw [plP_succ, HLO.out, HSP.out, HPE.out, ← HTA.out, ← HTA2.out]
            have hkb : ∀ k, W.heap.size ≤ k → k < wr.heap.size → X.heap[k]? = wr.heap[k]? := fun k h1 h2 => kX.block k h2 (by show ¬ k = w.heap.size + 1; omega)
            have AX : AOwn X W.heap.size (.slice avd L.length avc) L := ⟨own_keep HQ.out.att.1 (fun g hg => hkb g (own_lt HQ.out.att.1 hg).2 (own_lt HQ.out.att.1 hg).1), HQ.out.att.2⟩
            have KX : KRow X W.heap.size (newQ w X) d (.slice kvd qs.length kvc) (((Bp.klT T).take k2).map (Bp.plP d sp)) := HQ.out.kids.turn (fun g hg => hkb g (own_lt HOW.out hg).2 (own_lt HOW.out hg).1) (fun k hk => hkb k hk.1 hk.2.1) (fun k hk => ⟨Nat.le_trans (by omega) hk.1, Nat.lt_of_lt_of_le hk.2.1 kX.size⟩)
            exact tree_of fz1 AX KX (fun g hg => ⟨Nat.le_trans (by omega) (own_lt AX.1 hg).2, (own_lt AX.1 hg).1⟩) (fun g hg => ⟨Nat.le_trans (by omega) (own_lt HOW.out hg).2, Nat.lt_of_lt_of_le (own_lt HOW.out hg).1 kX.size⟩) HQ.out.len
  · have HNE := hideT hs
    have t1 : (sp.toList == outer.toList) = false := beq_eq_false_iff_ne.2 fun h => hs (toList_inj h)
    have t2 : ¬ sp.toList = outer.toList := fun h => hs (toList_inj h)
    have t3 : (sp.toList != outer.toList) = true := bne_iff_ne.2 t2
    clear hs
    go_wp2_with fail
    clear t1 t2 t3
    generalize hV : w1.alloc _ = V at PV BV BWV v0 v2 ⊢
    rw [← heb] at PV ⊢
    have HEB := hideT heb
    have lV : w1.heap.size < V.heap.size := by rw [← hV]; simp
    have lV' := hideT lV
    have lE : eb < V.heap.size := by rw [heb]; exact lV
    have lN : w.heap.size < V.heap.size := by have := HLT.out; omega
    clear hV heb lV
    have y1 : V.cell? ⟨eb, 1, none⟩ = some (.slice none 0 0) := PV.out.lies.cell 1
    go_cut [5] from 18 to 25 (fun ev wc => ev = .pointer (some ⟨eb, 0, none⟩) ∧ ∃ av0, Hid (PSt W wc eb d lo [(xmlnsB, sp)] [] av0 nilS))
    case first =>
      go_region_law (first | (refine step_append_lies _ (by rfl) _ _ _ (by rfl) W.heap.size 66 iA _ 2 32 Tryz.underlying42 hiA zA0 zA1 zA2 rfl (by omega) (.slice none 0 0) 0 [] (by rfl) (HP2.out.att.1.alloc _) ⟨w2.heap.size, 0, none⟩ 1 1 [.string xmlnsB, .string sp] (by rfl) (by rfl) (World.news_of_block (cs := #[.string xmlnsB, .string sp]) (t := 66) (fr := (0, 0)) (heap_alloc_new w2 _)) (by simp [Value.oneCell']) (by omega) (by unfold maxLen; omega) (by omega) (by first | (simp; done) | (simp; omega)) (w2.heap.size + 1) (by simp) ?_; intro g cap2 w3 hown hgrow hat hlt; obtain ⟨⟨y2, z2⟩, PX⟩ := HP2.out.attr ((Below.refl _ w2).alloc (Nat.le_refl _) _) hgrow xmlnsB sp hown (hat.imp id (fun e => (by omega))) ⟨(by decide), (by omega)⟩ (by decide)) | (go_simp; go_at_call 106; refine (newAttrD xmlnsB sp _ (by decide) (by omega)).mono ?_; rintro e w2 ⟨rfl, b2⟩; have b2' : Below V.heap.size V w2 := (Below.refl _ V).drew.trans b2; have P2 := PV.out.step b2'; have y1' : w2.cell? ⟨eb, 1, none⟩ = some (.slice none 0 0) := P2.lies.cell 1; have lE2 := P2.lies.lt; have HP2 := hideT P2; have zz2 := P2.below.size))
      all_goals
        have PX2 : Hid (PSt W (w3.setCell ⟨eb, 1, none⟩ (.slice (some ⟨g, 0, none⟩) 1 cap2)) eb d lo [(xmlnsB, sp)] [] (.slice (some ⟨g, 0, none⟩) 1 cap2) nilS) := PX
        clear hown hgrow hat hlt y1 y1' y2 z2 P2 HP2 b2 b2' PX
        go_wp2_with fail
        go_meet
        case rel => exact ⟨rfl, _, PX2⟩
    case rest =>
      obtain ⟨rfl, av0, PV⟩ := hcut
      have v2 : wc.cell? ⟨w.heap.size, 2, none⟩ = some (.slice a2 na m2) := (HLN.out.below PV.out.below).cell 2
      obtain ⟨pre, hpre⟩ : ∃ pre : List Att, pre = [(xmlnsB, sp)] := ⟨_, rfl⟩
      have PU : Hid (PSt W wc eb d lo pre [] av0 nilS) := by rw [hpre]; exact PV.out
      have hpl : pre.length ≤ 1 := by rw [hpre]; simp
      have HPE : Hid (preOf sp outer = pre) := by show _ = _; rw [hpre]; exact if_neg HNE.out
      clear hpre PV y1 lE lN v0
      go_wp2_with fail
      go_loopw [29] (fun i wr => ∃ (k : Nat) (av : Value), k ≤ na ∧ i = .int .i64 k ∧ Hid (PSt W wr eb d lo (pre ++ (Bp.alT T).take k) [] av nilS)) (fun i _ => na - (intOf i).toNat)
      case atStart => exact ⟨0, av0, Nat.zero_le _, rfl, by rw [List.take_zero, List.append_nil]; exact PU⟩
      case round =>
        obtain ⟨k, av, hk, rfl, HP⟩ := hrel
        obtain ⟨L, hL⟩ : ∃ L, pre ++ (Bp.alT T).take k = L := ⟨_, rfl⟩
        rw [hL] at HP
        obtain ⟨avd, avc, rfl⟩ := slice_form HP.out.att.1
        have HL := hideT hL
        clear hL
        by_cases hlt : k < na
        · obtain ⟨⟨nm, vl⟩, hatt⟩ := Mp.at_lt (l := Bp.alT T) (k := k) (by have := HNA.out; omega)
          obtain ⟨_, c0, c1⟩ := HAC.out k _ hatt
          have BWR := hideT (HBW.out.trans (HP.out.below.mono HBW.out.size))
          have c0 := below_cell BWR.out _ _ c0
          have c1 := below_cell BWR.out _ _ c1
          dsimp only at c0 c1
          obtain rfl := HAA.out (by omega)
          obtain ⟨zn, zv⟩ := HF4.out (nm, vl) (List.mem_of_getElem? hatt)
          dsimp only at zn zv
          have HTK : Hid (pre ++ (Bp.alT T).take (k + 1) = L ++ [(nm, vl)]) := by show _ = _; rw [take_snoc hatt, ← List.append_assoc, HL.out]
          have hll : L.length < 8 := by rw [← HL.out, List.length_append, List.length_take]; omega
          clear hatt
          go_wp2_with fail
          generalize hV1 : wr.alloc _ = V1
          obtain ⟨BV1, LV1, zV1⟩ := of_alloc hV1
          have HP1 := hideT (HP.out.step BV1)
          have HLV := hideT LV1
          have y1 : V1.cell? ⟨eb, 1, none⟩ = some (.slice avd L.length avc) := HP1.out.lies.cell 1
          have s0 : V1.cell? ⟨wr.heap.size, 0, none⟩ = some (.string nm) := LV1.cell 0
          have s1 : V1.cell? ⟨wr.heap.size, 1, none⟩ = some (.string vl) := LV1.cell 1
          have lE1 := HP1.out.lies.lt
          have lA1 := LV1.lt
          clear hV1 BV1 LV1 zV1 c0 c1
          go_region_law (first | (refine step_append_lies _ (by rfl) _ _ _ (by rfl) W.heap.size 66 iA _ 2 32 Tryz.underlying42 hiA zA0 zA1 zA2 rfl (by omega) (.slice avd L.length avc) L.length (flatA L) (by rfl) (HP2.out.att.1.alloc _) ⟨w2.heap.size, 0, none⟩ 1 1 [.string nm, .string vl] (by rfl) (by rfl) (World.news_of_block (cs := #[.string nm, .string vl]) (t := 66) (fr := (0, 0)) (heap_alloc_new w2 _)) (by simp [Value.oneCell']) (by omega) (by unfold maxLen; omega) (by omega) (by first | (simp; done) | (simp; omega)) (w2.heap.size + 1) (by simp) ?_; intro g' cap3 w3' hown hgrow hat hlt'; obtain ⟨⟨y2, z2⟩, PX⟩ := HP2.out.attr ((Below.refl _ w2).alloc (Nat.le_refl _) _) hgrow nm vl hown (hat.imp id (fun e => (by omega))) ⟨(by omega), (by omega)⟩ (by omega)) | (go_simp; go_at_call 106; refine (newAttrD nm vl _ (by omega) (by omega)).mono ?_; rintro e w2 ⟨rfl, b2⟩; have b2' : Below V1.heap.size V1 w2 := (Below.refl _ V1).drew.trans b2; have P2 := HP1.out.step b2'; have y1' : w2.cell? ⟨eb, 1, none⟩ = some (.slice avd L.length avc) := P2.lies.cell 1; have s0' : w2.cell? ⟨wr.heap.size, 0, none⟩ = some (.string nm) := (HLV.out.below b2').cell 0; have s1' : w2.cell? ⟨wr.heap.size, 1, none⟩ = some (.string vl) := (HLV.out.below b2').cell 1; have lE2 := P2.lies.lt; have HP2 := hideT P2; have zz2 := P2.below.size))
          all_goals
            have PX2 : Hid (PSt W (w3'.setCell ⟨eb, 1, none⟩ (.slice (some ⟨g', 0, none⟩) (L.length + 1) cap3)) eb d lo (pre ++ (Bp.alT T).take (k + 1)) [] (.slice (some ⟨g', 0, none⟩) (L.length + 1) cap3) nilS) := by rw [HTK.out]; exact PX
            clear hown hgrow hat hlt' y1 s0 s1 y1' s0' s1' y2 z2 lE2 P2 HP2 b2 b2' PX zz2
            go_wp2_with fail
            refine ⟨⟨k + 1, _, by omega, by go_num, PX2⟩, ?_⟩
            first | omega | (simp [intOf]; omega)
        · have HTA : Hid (L = pre ++ Bp.alT T) := by show _ = _; rw [← HL.out, List.take_of_length_le (by have := HNA.out; omega)]
          have z3 : wr.cell? ⟨w.heap.size, 3, none⟩ = some (.slice a3 nk m3) := (HLN.out.below HP.out.below).cell 3
          go_wp2_with fail
          clear z3
          go_loopw [47] (fun i wr => ∃ (k : Nat) (kv : Value), k ≤ nk ∧ i = .int .i64 k ∧ Hid (PSt W wr eb d lo L (((Bp.klT T).take k).map (Bp.plP d sp)) (.slice avd L.length avc) kv)) (fun i _ => nk - (intOf i).toNat)
          case atStart => exact ⟨0, nilS, Nat.zero_le _, rfl, HP⟩
          case round =>
            obtain ⟨k2, kv, hk2, rfl, HQ⟩ := hrel
            obtain ⟨qs, ho, hqs, hqk⟩ := HQ.out.kids
            obtain ⟨kvd, kvc, rfl⟩ := slice_form ho
            have BWR := hideT (HBW.out.trans (HQ.out.below.mono HBW.out.size))
            have hql : qs.length = k2 := by rw [hqs, List.length_map, List.length_take]; have := HNK.out; omega
            have HQL := hideT hql
            have HOW := hideT ho
            have HQK := hideT hqk
            have HQS := hideT hqs
            clear ho hqk hqs hql
            by_cases hlt2 : k2 < nk
            · obtain ⟨K, hK⟩ := Mp.at_lt (l := Bp.klT T) (k := k2) (by have := HNK.out; omega)
              obtain ⟨d0, d1, d2, d3, d4, nK, f0, f1, f2, f3, f4⟩ := HKC.out k2 K hK
              obtain ⟨ksp, klo, ka2, kl2, km2, ka3, kl3, km3, kp, rfl, rfl, rfl, rfl, rfl, _, _, _⟩ := nK.five
              have f0 := below_cell BWR.out _ _ f0
              have f1 := below_cell BWR.out _ _ f1
              have f2 := below_cell BWR.out _ _ f2
              have f3 := below_cell BWR.out _ _ f3
              have f4 := below_cell BWR.out _ _ f4
              obtain rfl := HKA.out (by omega)
              have HNKK := hideT nK
              have HFK := hideT (HF6.out K (List.mem_of_getElem? hK))
              have HTK : Hid (((Bp.klT T).take (k2 + 1)).map (Bp.plP d sp) = ((Bp.klT T).take k2).map (Bp.plP d sp) ++ [Bp.plP d sp K]) := by show _ = _; rw [take_snoc hK, List.map_append]; rfl
              clear hK nK
              go_wp2_with fail
              generalize hV2 : wr.alloc _ = V2
              obtain ⟨BV2, LV2, zV2⟩ := of_alloc hV2
              have HQ1 := hideT (HQ.out.step BV2)
              have HLV := hideT LV2
              have y2 : V2.cell? ⟨eb, 2, none⟩ = some (.slice kvd qs.length kvc) := HQ1.out.lies.cell 2
              have s0 : V2.cell? ⟨wr.heap.size, 0, none⟩ = some (.string ksp) := LV2.cell 0
              have s1 : V2.cell? ⟨wr.heap.size, 1, none⟩ = some (.string klo) := LV2.cell 1
              have s2 : V2.cell? ⟨wr.heap.size, 2, none⟩ = some (.slice ka2 kl2 km2) := LV2.cell 2
              have s3 : V2.cell? ⟨wr.heap.size, 3, none⟩ = some (.slice ka3 kl3 km3) := LV2.cell 3
              have s4 : V2.cell? ⟨wr.heap.size, 4, none⟩ = some (.int .i64 kp) := LV2.cell 4
              have n0' : V2.cell? ⟨w.heap.size, 0, none⟩ = some (.string sp) := (HLN.out.below HQ1.out.below).cell 0
              have lE1 := HQ1.out.lies.lt
              have lA1 := LV2.lt
              have lN1 := (HLN.out.below HQ1.out.below).lt
              have TK : Hid (NInR V2.drew (· < V2.drew.heap.size) d (.string ksp) (.string klo) (.slice ka2 kl2 km2) (.slice ka3 kl3 km3) (.int .i64 kp) K) := HNKK.out.below ((BWR.out.trans (BV2.mono BWR.out.size)).drew)
              have HBV2 := hideT BV2
              clear hV2 BV2 LV2 zV2 f0 f1 f2 f3 f4
              go_region_law (first | (refine step_append_lies _ (by rfl) _ _ _ (by rfl) W.heap.size 50 iE _ 4 72 Tryz.underlying48 hiE zE0 zE1 zE2 rfl (by omega) (.slice kvd qs.length kvc) qs.length (flatE qs) (by rfl) (KF.out.1.alloc _) ⟨w2.heap.size, 0, none⟩ 1 1 [.string enm, .slice ea1 en1 ek1, .slice ea2 en2 ek2, .int .i64 ep] (by rfl) (by rfl) (World.news_of_block (cs := #[.string enm, .slice ea1 en1 ek1, .slice ea2 en2 ek2, .int .i64 ep]) (t := 50) (fr := (0, 0)) (heap_alloc_new w2 _)) (by simp [Value.oneCell']) (by omega) (by unfold maxLen; omega) (by omega) (by first | (simp; done) | (simp; omega)) (w2.heap.size + 1) (by simp) ?_; intro g' cap3 w3' hown hgrow hat hlt'; obtain ⟨⟨y3, z2⟩, PX⟩ := HP2.out.kid ((Below.refl _ w2).alloc (Nat.le_refl _) _) hgrow _ _ _ _ (Bp.plP d sp K) qs HQS.out KF.out.2.1 KF.out.1 hown (hat.imp id (fun e => (by omega))) KF.out.2.2.1 (KF.out.2.2.2 g' (hat.imp id (fun e => (by omega)))) (by have := HQL.out; have := HQS.out; omega)) | (go_simp; go_at_call 73; refine (HIH.out _ sp _ _ _ _ _ K TK.out HFK.out).mono ?_; rintro e w2 ⟨⟨r0', r1', r2', r3', rfl, hK2⟩, b2⟩; obtain ⟨enm, ea1, en1, ek1, ea2, en2, ek2, ep, rfl, rfl, rfl, rfl⟩ := hK2.toEIn.form; have b2' : Below V2.heap.size V2 w2 := (Below.refl _ V2).drew.trans b2; have KF := hideT (kid_facts HQ.out HOW.out HQK.out (HBV2.out.trans (b2'.mono HBV2.out.size)) HBV2.out.size hK2); have P2 := HQ1.out.step b2'; have y2' : w2.cell? ⟨eb, 2, none⟩ = some (.slice kvd qs.length kvc) := P2.lies.cell 2; have lE2 := P2.lies.lt; have HP2 := hideT P2; have zz2 := P2.below.size; have hqm : qs.length ≤ 1000000 := (by have := HQL.out; omega)))
              all_goals
                have PX2 : Hid (PSt W (w3'.setCell ⟨eb, 2, none⟩ (.slice (some ⟨g', 0, none⟩) (qs.length + 1) cap3)) eb d lo L (((Bp.klT T).take (k2 + 1)).map (Bp.plP d sp)) (.slice avd L.length avc) (.slice (some ⟨g', 0, none⟩) (qs.length + 1) cap3)) := by rw [HTK.out]; exact PX
                clear hown hgrow hat hlt' y2 y3 s0 s1 s2 s3 s4 n0' y2' z2 lE2 P2 HP2 b2 b2' PX zz2 hK2
                go_wp2_with fail
                refine ⟨⟨k2 + 1, _, by omega, by go_num, PX2⟩, ?_⟩
                first | omega | (simp [intOf]; omega)
            · have HTA2 : Hid (((Bp.klT T).take k2).map (Bp.plP d sp) = (Bp.klT T).map (Bp.plP d sp)) := by show _ = _; rw [List.take_of_length_le (by have := HNK.out; omega)]
              have LRW := hideT (HLR.out.below HQ.out.below)
              have e0 : wr.cell? ⟨eb, 0, none⟩ = some (.string lo) := HQ.out.lies.cell 0
              have e1 : wr.cell? ⟨eb, 1, none⟩ = some (.slice avd L.length avc) := HQ.out.lies.cell 1
              have e2 : wr.cell? ⟨eb, 2, none⟩ = some (.slice kvd qs.length kvc) := HQ.out.lies.cell 2
              have e3 : wr.cell? ⟨eb, 3, none⟩ = some (.int .i64 0) := HQ.out.lies.cell 3
              have r0 : wr.cell? ⟨w.heap.size + 1, 0, none⟩ = some (.string ⟨#[]⟩) := LRW.out.cell 0
              have r1 : wr.cell? ⟨w.heap.size + 1, 1, none⟩ = some (.slice none 0 0) := LRW.out.cell 1
              have r2 : wr.cell? ⟨w.heap.size + 1, 2, none⟩ = some (.slice none 0 0) := LRW.out.cell 2
              have r3 : wr.cell? ⟨w.heap.size + 1, 3, none⟩ = some (.int .i64 0) := LRW.out.cell 3
              have g0 : wr.frozen? ⟨w.heap.size + 1, 0, none⟩ = false := LRW.out.free 0
              have g1 : wr.frozen? ⟨w.heap.size + 1, 1, none⟩ = false := LRW.out.free 1
              have g2 : wr.frozen? ⟨w.heap.size + 1, 2, none⟩ = false := LRW.out.free 2
              have g3 : wr.frozen? ⟨w.heap.size + 1, 3, none⟩ = false := LRW.out.free 3
              go_wp2_with fail
              have hHW := HZW.out
              obtain ⟨X, hX, bX, lX, kX⟩ : ∃ X, (((wr.setCell ⟨w.heap.size + 1, 0, none⟩ (.string lo)).setCell ⟨w.heap.size + 1, 1, none⟩ (.slice avd L.length avc)).setCell ⟨w.heap.size + 1, 2, none⟩ (.slice kvd qs.length kvc)).setCell ⟨w.heap.size + 1, 3, none⟩ (.int .i64 0) = X ∧ Below w.heap.size w X ∧ Lies X (w.heap.size + 1) 50 #[.string lo, .slice avd L.length avc, .slice kvd qs.length kvc, .int .i64 0] ∧ Keep (· = w.heap.size + 1) wr X :=
                ⟨_, rfl, (((BWR.out.setCell (Nat.le_succ _) _).setCell (Nat.le_succ _) _).setCell (Nat.le_succ _) _).setCell (Nat.le_succ _) _, ((((LRW.out.set 0 _).set 1 _).set 2 _).set 3 _), (((Keep.set (S := (· = w.heap.size + 1)) wr ⟨w.heap.size + 1, 0, none⟩ _ rfl).trans (Keep.set _ ⟨w.heap.size + 1, 1, none⟩ _ rfl)).trans (Keep.set _ ⟨w.heap.size + 1, 2, none⟩ _ rfl)).trans (Keep.set _ ⟨w.heap.size + 1, 3, none⟩ _ rfl)⟩
              rw [hX]
              have r0 : X.cell? ⟨w.heap.size + 1, 0, none⟩ = some (.string lo) := lX.cell 0
              have r1 : X.cell? ⟨w.heap.size + 1, 1, none⟩ = some (.slice avd L.length avc) := lX.cell 1
              have r2 : X.cell? ⟨w.heap.size + 1, 2, none⟩ = some (.slice kvd qs.length kvc) := lX.cell 2
              have r3 : X.cell? ⟨w.heap.size + 1, 3, none⟩ = some (.int .i64 0) := lX.cell 3
              refine bodyPost_ret (v := .agg #[.string lo, .slice avd L.length avc, .slice kvd qs.length kvc, .int .i64 0]) (by simp [results, Tryz.results73, go_sem, r0, r1, r2, r3]) rfl ⟨⟨_, _, _, _, rfl, ?_⟩, bX⟩
              rw [plP_succ, HLO.out, HSP.out, HPE.out, ← HTA.out, ← HTA2.out]
              have hkb : ∀ k, W.heap.size ≤ k → k < wr.heap.size → X.heap[k]? = wr.heap[k]? := fun k h1 h2 => kX.block k h2 (by show ¬ k = w.heap.size + 1; omega)
              have AX : AOwn X W.heap.size (.slice avd L.length avc) L := ⟨own_keep HQ.out.att.1 (fun g hg => hkb g (own_lt HQ.out.att.1 hg).2 (own_lt HQ.out.att.1 hg).1), HQ.out.att.2⟩
              have KX : KRow X W.heap.size (newQ w X) d (.slice kvd qs.length kvc) (((Bp.klT T).take k2).map (Bp.plP d sp)) := HQ.out.kids.turn (fun g hg => hkb g (own_lt HOW.out hg).2 (own_lt HOW.out hg).1) (fun k hk => hkb k hk.1 hk.2.1) (fun k hk => ⟨Nat.le_trans (by omega) hk.1, Nat.lt_of_lt_of_le hk.2.1 kX.size⟩)
              exact tree_of fz1 AX KX (fun g hg => ⟨Nat.le_trans (by omega) (own_lt AX.1 hg).2, (own_lt AX.1 hg).1⟩) (fun g hg => ⟨Nat.le_trans (by omega) (own_lt HOW.out hg).2, Nat.lt_of_lt_of_le (own_lt HOW.out hg).1 kX.size⟩) HQ.out.len
end Go.Proofs.YtjfonpbnohbpfaaGreatDoor
