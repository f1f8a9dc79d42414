/-
  The program's itemsOf: a model's items with their ways.
-/
import Derived.Test.YtdcahnaempabcabGreatNInO
import Derived.Test.YtdcahnaempabcabGreatPartX
import Derived.Deep.RegionLaw
set_option linter.unusedSimpArgs false
set_option linter.unusedVariables false
namespace Go.Proofs.YtdcahnaempabcabGreat
open Go.RowKit
set_option maxRecDepth 100000
def strE (s : ByteArray) : List Value := [.string s]
theorem str_flat (L : List ByteArray) : (L.map strE).flatten = L.map Value.string := (flat_one Value.string L).symm
theorem info_itemN : (Tryz.prog.info? 51).map (fun i => (i.zero, i.size, i.bytes)) = some (some (.agg #[.slice none 0 0, .string ⟨#[]⟩, .int .i64 0, .string ⟨#[]⟩, .bool false, .int .i64 0, .slice none 0 0, .slice none 0 0]), 8, 128) := by kernel_rfl
abbrev WP := (Value × Value × Value) × (List ByteArray × Mp.Item)
/-- An item with its way: what is read of it, in a world behind w0. -/
def WIn (w0 W : World) (x : WP) : Prop :=
  (∃ aw cw a5 c5 a6 c6, x.1 = (.slice aw x.2.1.length cw, .slice a5 x.2.2.entry.length c5, .slice a6 x.2.2.exit.length c6)) ∧ OwnE w0.heap.size 1 9 strE x.1.1 x.2.1 W ∧
    ((∀ s ∈ x.2.1, s.size ≤ 140737488355328) ∧ x.2.1.length ≤ 1000) ∧ SRow w0 x.1.2.1 x.2.2.entry ∧ SRow w0 x.1.2.2 x.2.2.exit ∧ (x.2.2.id.size ≤ 140737488355328 ∧ x.2.2.parent.size ≤ 140737488355328) ∧ lightI x.2.2
def wE (x : WP) : List Value := x.1.1 :: itemC x.2.2 x.1.2.1 x.1.2.2
theorem WIn.below {w0 w w' : World} {x : WP} (h : WIn w0 w x) (hb : Below w.heap.size w w') : WIn w0 w' x := ⟨h.1, h.2.1.below hb, h.2.2⟩
theorem WIn.gb {w0 w w' : World} {x : WP} {H z n : Nat} {t : TypeId} {u : Value} {ys : List Value} (h : WIn w0 w x) (hu : w.ownsRow H t z u n ys) (h1 : t ≠ 9) (hg : w.grownBy w' u.ownBlock) : WIn w0 w' x :=
  ⟨h.1, own_gb h.2.1 hg (own_ne2 h.2.1 hu h1), h.2.2⟩
theorem OwnE.frow {H : Nat} {v : Value} {l : List ByteArray} {w : World} {t : TypeId} (h : OwnE H 1 t strE v l w) (hl : l.length ≤ 1000) (hz : ∀ s ∈ l, s.size ≤ 140737488355328) : FRow w v l := (OwnE.newR (R := strR) (enc := strE) (fun _ => rfl) h (Nat.le_trans hl (by omega)) (fun _ x hx => ⟨rfl, hz x hx⟩)).here
/-- slices.Clone of a row of texts. -/
theorem cloneSD (w : World) (ad : Option Addr) (n cap : Nat) (l : List ByteArray) (h : FRow w (.slice ad n cap) l) (hn : n ≤ 1000) :
    Calls Tryz.prog 47 #[.slice ad n cap] w fun e w' => (∃ wa wc, e = .returned (.slice wa n wc) ∧ OwnE w.heap.size 1 9 strE (.slice wa n wc) l w') ∧ Below w.heap.size w w' := by
  obtain ⟨hn1, hl1, _, b, o, ha, hc⟩ := frow_at h
  rcases Nat.eq_zero_or_pos n with h0 | h0
  · subst h0
    have hl : l = [] := List.eq_nil_of_length_eq_zero hn1.symm
    subst hl
    cases ad with
    | none =>
      refine (Any.slices_Clone_string_nil Tryz.clone 0 cap w).mono ?_
      rintro e w' ⟨rfl, rfl⟩
      exact ⟨⟨none, 0, rfl, ⟨rfl, .inl ⟨rfl, rfl⟩⟩⟩, Below.refl _ _⟩
    | some a =>
      refine (Any.slices_Clone_string_zero Tryz.clone a cap w).mono ?_
      rintro e w' ⟨v', rfl, h1, _, h3⟩
      obtain ⟨wa, wc, rfl⟩ := slice_form h1
      exact ⟨⟨wa, wc, rfl, h1⟩, h3⟩
  · obtain rfl := ha h0
    refine (Any.slices_Clone_string Tryz.clone b o n cap l w (by omega) (by omega) (fun j hj => ?_)).mono ?_
    · have hx : l[j]? = some l[j] := List.getElem?_eq_getElem hj
      rw [(hc j _ hx).2, List.getD_eq_getElem?_getD, hx]
      rfl
    · rintro e w' ⟨v', rfl, h1, _, h3⟩
      obtain ⟨wa, wc, rfl⟩ := slice_form h1
      rw [List.take_of_length_le (by omega), ← str_flat] at h1
      refine ⟨⟨wa, wc, rfl, ?_⟩, h3⟩
      unfold OwnE
      rw [← hn1]
      exact h1
theorem zip_take {l : List Mp.Item} {acc : List (List ByteArray)} {k : Nat} {x : Mp.Item} (h : acc.length = k) (hx : l[k]? = some x) (v : List ByteArray) : (acc ++ [v]).zip (l.take (k + 1)) = acc.zip (l.take k) ++ [(v, x)] := by
  rw [Mp.take_at hx, List.zip_append (by rw [h, List.length_take]; have := (List.getElem?_eq_some_iff.1 hx).1; omega)]
  rfl
theorem parents_before {m : Mp.Model} (hB : Mp.isB m = true) (j : Nat) (x : Mp.Item) (hx : m.items[j]? = some x) : Mp.placeZ m.items x.parent < j := by
  obtain ⟨i1, i2, ho, hp⟩ := Np.parts_of hB
  by_cases h0 : j = 0
  · have h1 := ((hp j x hx).2.2.2.2.2.1 h0)
    unfold Mp.planB at h1
    simp only [Bool.and_eq_true, decide_eq_true_eq] at h1
    have h2 : x.parent = Mp.e0 := h1.1.1.1.2
    have h3 : Mp.placeZ m.items x.parent = -1 := by
      rw [h2]
      exact placeZ_none fun j y hy => (hp j y hy).1
    omega
  · exact ((hp j x hx).2.2.2.2.2.2 h0).2.2.1
/-- One item more. -/
theorem items_step {w w1 WW w3 w4 : World} {k nw : Nat} {ra wa : Option Addr} {rc wc cap1 cap2 g1 g2 : Nat} {L : List WP} {pw : List ByteArray} {x : Mp.Item} {p5 p6 : Option Addr} {c5 c6 : Nat} {C : Array Value} {q1 q2 : Obj}
    (hB1 : Below w.heap.size w w1) (hO : WW.ownsRow w.heap.size 51 8 (.slice ra k rc) k (L.map wE).flatten) (hW : ∀ y ∈ L, WIn w w1 y) (hWW : Below w1.heap.size w1 WW)
    (oW : WW.ownsRow w1.heap.size 9 1 (.slice wa nw wc) nw (pw.map Value.string))
    (hown1 : w3.ownsRow w1.heap.size 9 1 (.slice (some ⟨g1, 0, none⟩) (nw + 1) cap1) (nw + 1) (pw.map Value.string ++ [.string x.id])) (hgrow1 : ((WW.alloc q1).drew).grownBy w3 (Value.slice wa nw wc).ownBlock)
    (hown2 : w4.ownsRow w.heap.size 51 8 (.slice (some ⟨g2, 0, none⟩) (k + 1) cap2) (k + 1) ((L.map wE).flatten ++ [.slice (some ⟨g1, 0, none⟩) (nw + 1) cap1, .string x.id, .int .i64 x.kind, .string x.parent, .bool x.req, .int .i64 x.ticks, .slice p5 x.entry.length c5, .slice p6 x.exit.length c6])) (hgrow2 : (w3.alloc q2).grownBy w4 (Value.slice ra k rc).ownBlock)
    (hl : Lies WW w.heap.size 32 C) (hpw : pw.length = nw) (hnw : nw ≤ k) (hk : k ≤ 16) (hz : ∀ s ∈ pw, s.size ≤ 140737488355328) (hx : x.id.size ≤ 140737488355328 ∧ x.parent.size ≤ 140737488355328) (h5 : SRow w (.slice p5 x.entry.length c5) x.entry) (h6 : SRow w (.slice p6 x.exit.length c6) x.exit) (hL : lightI x) :
    w4.ownsRow w.heap.size 51 8 (.slice (some ⟨g2, 0, none⟩) (k + 1) cap2) (k + 1) ((L ++ [(((.slice (some ⟨g1, 0, none⟩) (nw + 1) cap1, .slice p5 x.entry.length c5, .slice p6 x.exit.length c6), (pw ++ [x.id], x)) : WP)]).map wE).flatten ∧
      (∀ y ∈ L ++ [(((.slice (some ⟨g1, 0, none⟩) (nw + 1) cap1, .slice p5 x.entry.length c5, .slice p6 x.exit.length c6), (pw ++ [x.id], x)) : WP)], WIn w w4 y) ∧ Below w.heap.size w w4 ∧ Lies w4 w.heap.size 32 C := by
  have hs1 := hB1.size
  have hsW := hWW.size
  have bA : Below WW.heap.size WW ((WW.alloc q1).drew) := ((Below.refl _ WW).alloc (Nat.le_refl _) q1).drew
  have b3 : Below w1.heap.size w1 w3 := (hWW.trans (bA.mono hsW)).grown hgrow1 (Nat.le_trans hsW bA.size) (fun g hg => (own_lt oW hg).2)
  have bB : Below w3.heap.size w3 (w3.alloc q2) := (Below.refl _ w3).alloc (Nat.le_refl _) q2
  have hO3 : w3.ownsRow w.heap.size 51 8 (.slice ra k rc) k (L.map wE).flatten := own_gb (own_below hO bA) hgrow1 (own_ne2 (own_below hO bA) (own_below oW bA) (by decide))
  have hO4 := own_below hO3 bB
  have l3 : Lies w3 w.heap.size 32 C := lies_gb (hl.below bA) hgrow1 (own_ne (own_below oW bA) (hl.below bA) (by decide))
  have l4 : Lies w4 w.heap.size 32 C := lies_gb (l3.below bB) hgrow2 (own_ne hO4 (l3.below bB) (by decide))
  have b13 : Below w.heap.size w w3 := hB1.trans (b3.mono hs1)
  have b4 : Below w.heap.size w w4 := (b13.trans (bB.mono b13.size)).grown hgrow2 (Nat.le_trans b13.size bB.size) (fun g hg => (own_lt hO4 hg).2)
  refine ⟨?_, ?_, b4, l4⟩
  · rw [List.map_append, List.flatten_append]
    exact hown2
  · intro y hy
    rcases List.mem_append.1 hy with hy | hy
    · exact (((hW y hy).below b3).below bB).gb hO4 (by decide) hgrow2
    · rw [List.mem_singleton.1 hy]
      have hln : (pw ++ [x.id]).length = nw + 1 := by rw [List.length_append, hpw]; rfl
      refine ⟨⟨some ⟨g1, 0, none⟩, cap1, p5, c5, p6, c6, by rw [hln]⟩, ?_, ⟨fun s hs => ?_, by rw [hln]; omega⟩, h5, h6, hx, hL⟩
      · show World.ownsRow _ _ _ _ _ (pw ++ [x.id]).length _
        rw [hln, str_flat, List.map_append]
        exact own_lower (own_gb (own_below hown1 bB) hgrow2 (own_ne2 (own_below hown1 bB) hO4 (by decide))) hs1
      · rcases List.mem_append.1 hs with hs | hs
        · exact hz s hs
        · rw [List.mem_singleton.1 hs]; exact hx.1
set_option maxHeartbeats 8000000 in
theorem itemsOfD (w : World) (l : List Mp.Item) (vf : Value) (ai : Option Addr) (n ci : Nat) (hm : IRow w (.slice ai n ci) l) (h16 : n ≤ 16) (hvf : vf.oneCell' = true) (hP : ∀ (j : Nat) x, l[j]? = some x → Mp.placeZ l x.parent < j) (hL : ∀ x ∈ l, lightI x) :
    Calls Tryz.prog 20 #[.agg #[vf, .slice ai n ci]] w fun e w' => ∃ (ra : Option Addr) (rc : Nat) (L : List WP), e = .returned (.slice ra L.length rc) ∧ w'.ownsRow w.heap.size 51 8 (.slice ra L.length rc) L.length (L.map wE).flatten ∧ (∀ x ∈ L, WIn w w' x) ∧ L.map (·.2) = (Np.ways l).zip l ∧ Below w.heap.size w w' := by
  obtain ⟨hn1, hl1, _, b1, o1, ha1, hc1⟩ := irow_at hm
  have HC1 := hideT hc1
  have HA1 := hideT ha1
  have HI := hideT hm
  have HN := hideT hn1
  have HPP := hideT hP
  have HLt := hideT hL
  obtain ⟨i0, hi0, hz0, hz1, hz2⟩ := info_parts info_itemN
  obtain ⟨j0, hj0, jz0, jz1, jz2⟩ := info_parts infoS
  obtain ⟨V, hV⟩ : ∃ V, w.alloc (.cells #[vf, .slice ai n ci] 32) = V := ⟨_, rfl⟩
  have BV : Hid (Below w.heap.size w V) := by rw [← hV]; exact (Below.refl _ w).alloc (Nat.le_refl _) _
  have LV : Hid (Lies V w.heap.size 32 #[vf, .slice ai n ci]) := by rw [← hV]; exact Lies.new _ _ _
  have v0 : V.cell? ⟨w.heap.size, 0, none⟩ = some vf := LV.out.cell 0
  have v1 : V.cell? ⟨w.heap.size, 1, none⟩ = some (.slice ai n ci) := LV.out.cell 1
  clear hc1 ha1 hn1 hP hL hm
  go_enter Tryz.func20, Tryz.ntmps20
  go_wp2_with fail
  clear v0 v1
  go_loopw [3, 11] (fun rv i wr => ∃ (k : Nat) (ra : Option Addr) (rc : Nat) (L : List WP) (acc : List (List ByteArray)), k ≤ n ∧ i = .int .i64 k ∧ rv = .slice ra k rc ∧ Hid (L.length = k) ∧ Hid (acc.length = k) ∧ Hid (wr.ownsRow w.heap.size 51 8 (.slice ra k rc) k (L.map wE).flatten) ∧ Hid (∀ x ∈ L, WIn w wr x) ∧ Hid (L.map (·.2) = acc.zip (l.take k)) ∧ Hid (∀ x ∈ L, x.2.1.length ≤ k) ∧ Hid (Np.ways l = Np.waysF l acc (l.drop k)) ∧ Hid (Below w.heap.size w wr) ∧ Hid (Lies wr w.heap.size 32 #[vf, .slice ai n ci])) (fun _ i _ => n - (intOf i).toNat)
  case atStart => exact ⟨0, none, 0, [], [], Nat.zero_le _, rfl, rfl, rfl, rfl, ⟨rfl, .inl ⟨rfl, rfl⟩⟩, fun x hx => by simp at hx, rfl, fun x hx => by simp at hx, rfl, BV.out, LV.out⟩
  case round =>
    obtain ⟨k, ra, rc, L, acc, hk, rfl, rfl, HLK, HAK, HO, HW, HM, HWL, HWF, HB, HL⟩ := hrel
    by_cases hlt : k < n
    rotate_left
    · have hkn : k = n := by omega
      have HF : Hid (L.map (·.2) = (Np.ways l).zip l) := by
        show _ = _
        rw [HM.out, HWF.out, Mp.drop_all (by have := HN.out; omega), Np.waysF, List.take_of_length_le (by have := HN.out; omega)]
      go_wp2_with fail
      go_ret
      have hl := HLK.out
      subst hl
      exact ⟨ra, rc, L, rfl, HO.out, HW.out, HF.out, HB.out⟩
    obtain ⟨⟨x0, x1, x2, x3, x4, x5, x6⟩, hx⟩ := Mp.at_lt (l := l) (k := k) (by have := HN.out; omega)
    obtain ⟨p5, c5, p6, c6, IX⟩ := HC1.out k _ hx
    have HLI := hideT (HLt.out _ (List.mem_of_getElem? hx))
    have HPX := hideT (HPP.out k _ hx)
    obtain ⟨z0, z2, r1, r2, d0, d1, d2, d3, d4, d5', d6'⟩ := IX
    dsimp only at z0 z2 r1 r2 d0 d1 d2 d3 d4 d5' d6' HPX
    have d0 := below_cell HB.out _ _ d0
    have d1 := below_cell HB.out _ _ d1
    have d2 := below_cell HB.out _ _ d2
    have d3 := below_cell HB.out _ _ d3
    have d4 := below_cell HB.out _ _ d4
    have d5' := below_cell HB.out _ _ d5'
    have d6' := below_cell HB.out _ _ d6'
    obtain rfl := HA1.out (by omega)
    have HX := hideT hx
    have HZ := hideT (And.intro z0 z2)
    have HR := hideT (And.intro r1 r2)
    have m0 : wr.cell? ⟨w.heap.size, 0, none⟩ = some vf := HL.out.cell 0
    have m1 : wr.cell? ⟨w.heap.size, 1, none⟩ = some (.slice (some ⟨b1, o1, none⟩) n ci) := HL.out.cell 1
    have BA := hideT ((Below.refl wr.heap.size wr).alloc (Nat.le_refl _) (.cells #[.string x0, .int .i64 x1, .string x2, .bool x3, .int .i64 x4, .slice p5 x5.length c5, .slice p6 x6.length c6] 29))
    have m0 := below_cell BA.out _ _ m0
    have m1 := below_cell BA.out _ _ m1
    have LB := hideT (Lies.new wr 29 #[.string x0, .int .i64 x1, .string x2, .bool x3, .int .i64 x4, .slice p5 x5.length c5, .slice p6 x6.length c6])
    have HIA := hideT (irow_below HI.out (HB.out.trans (BA.out.mono HB.out.size)))
    clear hx z0 z2 r1 r2
    have t1 : (0 : Int) ≤ (k : Int) := by omega
    have t2 : (k : Int) < (n : Int) := by omega
    go_wp2_with fail
    refine (placeD _ vf (some ⟨b1, o1, none⟩) n ci l x2 HIA.out).mono ?_
    rintro e w1 ⟨rfl, b1'⟩
    have B1 := hideT (BA.out.trans (b1'.mono BA.out.size))
    have LB1 := hideT (LB.out.below b1')
    have HO1 := hideT (own_below HO.out B1.out)
    have HL1 := hideT (HL.out.below B1.out)
    have HW1 : Hid (∀ y ∈ L, WIn w w1 y) := fun y hy => (HW.out y hy).below B1.out
    obtain ⟨z, hz⟩ : ∃ z, Mp.placeZ l x2 = z := ⟨_, rfl⟩
    rw [hz] at HPX ⊢
    have HZZ := hideT hz
    clear b1' d0 d1 d2 d3 d4 d5' d6' m0 m1 hz
    by_cases h0 : 0 ≤ z
    rotate_left
    · have h0' : ¬ (0 : Int) ≤ z := h0
      have h0'' : z < 0 := by omega
      have BE := B1
      have BWW : Hid (Below w1.heap.size w1 w1) := Below.refl _ _
      have HPL : Hid (([] : List ByteArray).length = 0) := rfl
      have HPZ : Hid (∀ s ∈ ([] : List ByteArray), s.size ≤ 140737488355328) := fun s hs => by simp at hs
      have HPW : Hid (Np.wayF l acc ⟨x0, x1, x2, x3, x4, x5, x6⟩ = ([] : List ByteArray) ++ [x0]) := by
        show _ = _
        unfold Np.wayF
        have : Mp.placeO l x2 = none := by
          have h1 := HZZ.out
          unfold Mp.placeZ at h1
          cases hh : Mp.placeO l x2 with
          | none => rfl
          | some q => rw [hh] at h1; dsimp only at h1; omega
        dsimp only
        rw [this]
      have LBE := LB1
      have HOE := HO1
      have HLE := HL1
      have OWE : Hid (w1.ownsRow w1.heap.size 9 1 (.slice none 0 0) 0 (([] : List ByteArray).map Value.string)) := ⟨rfl, .inl ⟨rfl, rfl⟩⟩
      go_wp2_with fail
      have s0 : w1.cell? ⟨wr.heap.size, 0, none⟩ = some (.string x0) := LBE.out.cell 0
      have s1 : w1.cell? ⟨wr.heap.size, 1, none⟩ = some (.int .i64 x1) := LBE.out.cell 1
      have s2 : w1.cell? ⟨wr.heap.size, 2, none⟩ = some (.string x2) := LBE.out.cell 2
      have s3 : w1.cell? ⟨wr.heap.size, 3, none⟩ = some (.bool x3) := LBE.out.cell 3
      have s4 : w1.cell? ⟨wr.heap.size, 4, none⟩ = some (.int .i64 x4) := LBE.out.cell 4
      have s5 : w1.cell? ⟨wr.heap.size, 5, none⟩ = some (.slice p5 x5.length c5) := LBE.out.cell 5
      have s6 : w1.cell? ⟨wr.heap.size, 6, none⟩ = some (.slice p6 x6.length c6) := LBE.out.cell 6
      have sz := BE.out.size
      have sz2 := HB.out.size
      have szl := LBE.out.lt
      go_region_law (first
        | (refine step_append_lies _ (by rfl) _ _ _ (by rfl) w1.heap.size 9 j0 _ 1 16 Tryz.underlying26 hj0 jz0 jz1 jz2 rfl (by omega) (.slice none 0 0) 0 (([] : List ByteArray).map Value.string) (by rfl) ((OWE.out.alloc _).drew) ⟨w1.heap.size, 0, none⟩ 1 1 [.string x0] (by rfl) (by rfl) (World.news_of_block (cs := #[.string x0]) (t := 9) (fr := (0, 0)) (heap_alloc_new w1 _)) (by simp [Value.oneCell']) (by omega) (by unfold maxLen; omega) (by omega) (by first | (simp; done) | (simp; omega)) (w1.heap.size + 1) (by simp) ?_; intro g1 cap1 w3 hown1 hgrow1 hat1 hlt1; have L3 := lies_gb (LBE.out.below (((Below.refl _ w1).alloc (Nat.le_refl _) (.cells #[.string x0] 9)).drew)) hgrow1 (own_ne ((OWE.out.alloc (.cells #[.string x0] 9)).drew) (LBE.out.below (((Below.refl _ w1).alloc (Nat.le_refl _) (.cells #[.string x0] 9)).drew)) (by decide)); have u0 : w3.cell? ⟨wr.heap.size, 0, none⟩ = some (.string x0) := L3.cell 0; have u1 : w3.cell? ⟨wr.heap.size, 1, none⟩ = some (.int .i64 x1) := L3.cell 1; have u2 : w3.cell? ⟨wr.heap.size, 2, none⟩ = some (.string x2) := L3.cell 2; have u3 : w3.cell? ⟨wr.heap.size, 3, none⟩ = some (.bool x3) := L3.cell 3; have u4 : w3.cell? ⟨wr.heap.size, 4, none⟩ = some (.int .i64 x4) := L3.cell 4; have u5 : w3.cell? ⟨wr.heap.size, 5, none⟩ = some (.slice p5 x5.length c5) := L3.cell 5; have u6 : w3.cell? ⟨wr.heap.size, 6, none⟩ = some (.slice p6 x6.length c6) := L3.cell 6; have O3 := hideT (own_gb ((HOE.out.alloc (.cells #[.string x0] 9)).drew) hgrow1 (own_ne2 ((HOE.out.alloc (.cells #[.string x0] 9)).drew) ((OWE.out.alloc (.cells #[.string x0] 9)).drew) (by decide))))
        | (refine step_append_lies _ (by rfl) _ _ _ (by rfl) w.heap.size 51 i0 _ 8 128 Tryz.underlying47 hi0 hz0 hz1 hz2 rfl (by omega) (.slice ra k rc) k (L.map wE).flatten (by rfl) (O3.out.alloc _) ⟨w3.heap.size, 0, none⟩ 1 1 [.slice (some ⟨g1, 0, none⟩) (0 + 1) cap1, .string x0, .int .i64 x1, .string x2, .bool x3, .int .i64 x4, .slice p5 x5.length c5, .slice p6 x6.length c6] (by rfl) (by rfl) (news1 w3 #[.slice (some ⟨g1, 0, none⟩) (0 + 1) cap1, .string x0, .int .i64 x1, .string x2, .bool x3, .int .i64 x4, .slice p5 x5.length c5, .slice p6 x6.length c6] 51) (by simp [Value.oneCell']) (by omega) (by unfold maxLen; omega) (by omega) (by have := hgrow1.size; first | (simp at this ⊢; omega) | (simp; omega)) (w3.heap.size + 1) (by simp) ?_; intro g2 cap2 w4 hown2 hgrow2 hat2 hlt2))
      all_goals
        obtain ⟨st1, st2, st3, st4⟩ := items_step (x := ⟨x0, x1, x2, x3, x4, x5, x6⟩) (w := w) (pw := ([] : List ByteArray)) (HB.out.trans (B1.out.mono HB.out.size)) HOE.out HW1.out BWW.out OWE.out hown1 hgrow1 hown2 hgrow2 HLE.out HPL.out (by omega) (by omega) HPZ.out HZ.out HR.out.1 HR.out.2 HLI.out
        have ST1 := hideT st1
        have ST2 := hideT st2
        have ST3 := hideT st3
        have ST4 := hideT st4
        have SM : Hid ((L ++ [(((Value.slice (some ⟨g1, 0, none⟩) (0 + 1) cap1, Value.slice p5 x5.length c5, Value.slice p6 x6.length c6), (([] : List ByteArray) ++ [x0], (⟨x0, x1, x2, x3, x4, x5, x6⟩ : Mp.Item))) : WP)]).map (·.2) = (acc ++ [([] : List ByteArray) ++ [x0]]).zip (l.take (k + 1))) := by
          show _ = _
          rw [List.map_append, HM.out, zip_take HAK.out HX.out]
          rfl
        have SF : Hid (Np.ways l = Np.waysF l (acc ++ [([] : List ByteArray) ++ [x0]]) (l.drop (k + 1))) := by
          show _ = _
          rw [HWF.out, Mp.drop_at HX.out, Np.waysF, HPW.out]
        have SL : Hid (∀ x ∈ L ++ [(((Value.slice (some ⟨g1, 0, none⟩) (0 + 1) cap1, Value.slice p5 x5.length c5, Value.slice p6 x6.length c6), (([] : List ByteArray) ++ [x0], (⟨x0, x1, x2, x3, x4, x5, x6⟩ : Mp.Item))) : WP)], x.2.1.length ≤ k + 1) := by
          intro x hx
          rcases List.mem_append.1 hx with hx | hx
          · have := HWL.out x hx
            omega
          · rw [List.mem_singleton.1 hx]
            show (([] : List ByteArray) ++ [x0]).length ≤ k + 1
            rw [List.length_append, HPL.out]
            simp only [List.length_singleton]
            omega
        clear st1 st2 st3 st4 hown1 hgrow1 hat1 hown2 hgrow2 hat2 s0 s1 s2 s3 s4 s5 s6 u0 u1 u2 u3 u4 u5 u6 L3
        go_wp2_with fail
        refine ⟨⟨k + 1, some ⟨g2, 0, none⟩, cap2, _, _, by omega, by go_num, rfl, by show List.length _ = _; rw [List.length_append, HLK.out]; rfl, by show List.length _ = _; rw [List.length_append, HAK.out]; rfl, ST1, ST2, SM, SL, SF, ST3, ST4⟩, ?_⟩
        first | omega | (simp [intOf]; omega)
    · obtain ⟨p, rfl⟩ : ∃ p : Nat, z = p := ⟨z.toNat, by omega⟩
      have hpk : p < k := by have := HPX.out; omega
      obtain ⟨⟨⟨vw, v5, v6⟩, pw, py⟩, hy⟩ := Mp.at_lt (l := L) (k := p) (by have := HLK.out; omega)
      have hyL := List.mem_of_getElem? hy
      have hW := HW1.out _ hyL
      have hlen := HWL.out _ hyL
      obtain ⟨⟨aw, cw, a5', c5', a6', c6', he⟩, hown, hzz, _⟩ := hW
      have he' : (vw, v5, v6) = (Value.slice aw pw.length cw, Value.slice a5' py.entry.length c5', Value.slice a6' py.exit.length c6') := he
      rw [Prod.mk.injEq, Prod.mk.injEq] at he'
      obtain ⟨rfl, rfl, rfl⟩ := he'
      obtain ⟨g, rfl, hgH, hgs, _⟩ := own_ownBlock HO1.out (by omega)
      have c0 : w1.cell? ⟨g, p * 8, none⟩ = some (.slice aw pw.length cw) := by
        have := own_cell HO1.out (flat_at (enc := wE) (z := 8) (fun _ => rfl) hy (j := 0) rfl)
        simpa using this
      have HFR := hideT (hown.frow hzz.2 hzz.1)
      have HPZ := hideT hzz.1
      have HPW : Hid (Np.wayF l acc ⟨x0, x1, x2, x3, x4, x5, x6⟩ = pw ++ [x0]) := by
        show _ = _
        unfold Np.wayF
        have h1 : Mp.placeO l x2 = some p := by
          have := Np.placeO_of HZZ.out (by omega)
          rwa [Int.toNat_natCast] at this
        have h2 : acc[p]? = some pw := by
          have h3 : (L.map (·.2))[p]? = some (pw, py) := by rw [List.getElem?_map, hy]; rfl
          rw [HM.out] at h3
          exact (List.getElem?_zip_eq_some.1 h3).1
        dsimp only
        rw [h1]
        dsimp only
        rw [h2]
        rfl
      obtain ⟨nw, hnw⟩ : ∃ nw, pw.length = nw := ⟨_, rfl⟩
      have hnk : nw ≤ k := by rw [← hnw]; exact hlen
      rw [hnw] at c0 HFR
      have HPL := hideT hnw
      have t3 : (0 : Int) ≤ (p : Int) := by omega
      have t4 : (p : Int) < (k : Int) := by omega
      clear hy hyL hlen hown hzz he hnw
      go_wp2_with fail
      refine (cloneSD w1 aw nw cw pw HFR.out (by omega)).mono ?_
      rintro e w2 ⟨⟨wa, wc, rfl, ow⟩, b2⟩
      have BWW := hideT b2
      have BE := hideT (B1.out.trans (b2.mono B1.out.size))
      have LBE := hideT (LB1.out.below b2)
      have HOE := hideT (own_below HO1.out b2)
      have HLE := hideT (HL1.out.below b2)
      have OWE : Hid (w2.ownsRow w1.heap.size 9 1 (.slice wa nw wc) nw (pw.map Value.string)) := by
        have h := ow
        unfold OwnE at h
        rw [str_flat, HPL.out] at h
        exact h
      have hs12 := b2.size
      clear ow b2 c0
      go_wp2_with fail
      have s0 : w2.cell? ⟨wr.heap.size, 0, none⟩ = some (.string x0) := LBE.out.cell 0
      have s1 : w2.cell? ⟨wr.heap.size, 1, none⟩ = some (.int .i64 x1) := LBE.out.cell 1
      have s2 : w2.cell? ⟨wr.heap.size, 2, none⟩ = some (.string x2) := LBE.out.cell 2
      have s3 : w2.cell? ⟨wr.heap.size, 3, none⟩ = some (.bool x3) := LBE.out.cell 3
      have s4 : w2.cell? ⟨wr.heap.size, 4, none⟩ = some (.int .i64 x4) := LBE.out.cell 4
      have s5 : w2.cell? ⟨wr.heap.size, 5, none⟩ = some (.slice p5 x5.length c5) := LBE.out.cell 5
      have s6 : w2.cell? ⟨wr.heap.size, 6, none⟩ = some (.slice p6 x6.length c6) := LBE.out.cell 6
      have sz := BE.out.size
      have sz2 := HB.out.size
      have szl := LBE.out.lt
      go_region_law (first
        | (refine step_append_lies _ (by rfl) _ _ _ (by rfl) w1.heap.size 9 j0 _ 1 16 Tryz.underlying26 hj0 jz0 jz1 jz2 rfl (by omega) (.slice wa nw wc) nw (pw.map Value.string) (by rfl) ((OWE.out.alloc _).drew) ⟨w2.heap.size, 0, none⟩ 1 1 [.string x0] (by rfl) (by rfl) (World.news_of_block (cs := #[.string x0]) (t := 9) (fr := (0, 0)) (heap_alloc_new w2 _)) (by simp [Value.oneCell']) (by omega) (by unfold maxLen; omega) (by omega) (by first | (simp; done) | (simp; omega)) (w2.heap.size + 1) (by simp) ?_; intro g1 cap1 w3 hown1 hgrow1 hat1 hlt1; have L3 := lies_gb (LBE.out.below (((Below.refl _ w2).alloc (Nat.le_refl _) (.cells #[.string x0] 9)).drew)) hgrow1 (own_ne ((OWE.out.alloc (.cells #[.string x0] 9)).drew) (LBE.out.below (((Below.refl _ w2).alloc (Nat.le_refl _) (.cells #[.string x0] 9)).drew)) (by decide)); have u0 : w3.cell? ⟨wr.heap.size, 0, none⟩ = some (.string x0) := L3.cell 0; have u1 : w3.cell? ⟨wr.heap.size, 1, none⟩ = some (.int .i64 x1) := L3.cell 1; have u2 : w3.cell? ⟨wr.heap.size, 2, none⟩ = some (.string x2) := L3.cell 2; have u3 : w3.cell? ⟨wr.heap.size, 3, none⟩ = some (.bool x3) := L3.cell 3; have u4 : w3.cell? ⟨wr.heap.size, 4, none⟩ = some (.int .i64 x4) := L3.cell 4; have u5 : w3.cell? ⟨wr.heap.size, 5, none⟩ = some (.slice p5 x5.length c5) := L3.cell 5; have u6 : w3.cell? ⟨wr.heap.size, 6, none⟩ = some (.slice p6 x6.length c6) := L3.cell 6; have O3 := hideT (own_gb ((HOE.out.alloc (.cells #[.string x0] 9)).drew) hgrow1 (own_ne2 ((HOE.out.alloc (.cells #[.string x0] 9)).drew) ((OWE.out.alloc (.cells #[.string x0] 9)).drew) (by decide))))
        | (refine step_append_lies _ (by rfl) _ _ _ (by rfl) w.heap.size 51 i0 _ 8 128 Tryz.underlying47 hi0 hz0 hz1 hz2 rfl (by omega) (.slice (some ⟨g, 0, none⟩) k rc) k (L.map wE).flatten (by rfl) (O3.out.alloc _) ⟨w3.heap.size, 0, none⟩ 1 1 [.slice (some ⟨g1, 0, none⟩) (nw + 1) cap1, .string x0, .int .i64 x1, .string x2, .bool x3, .int .i64 x4, .slice p5 x5.length c5, .slice p6 x6.length c6] (by rfl) (by rfl) (news1 w3 #[.slice (some ⟨g1, 0, none⟩) (nw + 1) cap1, .string x0, .int .i64 x1, .string x2, .bool x3, .int .i64 x4, .slice p5 x5.length c5, .slice p6 x6.length c6] 51) (by simp [Value.oneCell']) (by omega) (by unfold maxLen; omega) (by omega) (by have := hgrow1.size; first | (simp at this ⊢; omega) | (simp; omega)) (w3.heap.size + 1) (by simp) ?_; intro g2 cap2 w4 hown2 hgrow2 hat2 hlt2))
      all_goals
        obtain ⟨st1, st2, st3, st4⟩ := items_step (x := ⟨x0, x1, x2, x3, x4, x5, x6⟩) (w := w) (pw := pw) (HB.out.trans (B1.out.mono HB.out.size)) HOE.out HW1.out BWW.out OWE.out hown1 hgrow1 hown2 hgrow2 HLE.out HPL.out (by omega) (by omega) HPZ.out HZ.out HR.out.1 HR.out.2 HLI.out
        have ST1 := hideT st1
        have ST2 := hideT st2
        have ST3 := hideT st3
        have ST4 := hideT st4
        have SM : Hid ((L ++ [(((Value.slice (some ⟨g1, 0, none⟩) (nw + 1) cap1, Value.slice p5 x5.length c5, Value.slice p6 x6.length c6), (pw ++ [x0], (⟨x0, x1, x2, x3, x4, x5, x6⟩ : Mp.Item))) : WP)]).map (·.2) = (acc ++ [pw ++ [x0]]).zip (l.take (k + 1))) := by
          show _ = _
          rw [List.map_append, HM.out, zip_take HAK.out HX.out]
          rfl
        have SF : Hid (Np.ways l = Np.waysF l (acc ++ [pw ++ [x0]]) (l.drop (k + 1))) := by
          show _ = _
          rw [HWF.out, Mp.drop_at HX.out, Np.waysF, HPW.out]
        have SL : Hid (∀ x ∈ L ++ [(((Value.slice (some ⟨g1, 0, none⟩) (nw + 1) cap1, Value.slice p5 x5.length c5, Value.slice p6 x6.length c6), (pw ++ [x0], (⟨x0, x1, x2, x3, x4, x5, x6⟩ : Mp.Item))) : WP)], x.2.1.length ≤ k + 1) := by
          intro x hx
          rcases List.mem_append.1 hx with hx | hx
          · have := HWL.out x hx
            omega
          · rw [List.mem_singleton.1 hx]
            show (pw ++ [x0]).length ≤ k + 1
            rw [List.length_append, HPL.out]
            simp only [List.length_singleton]
            omega
        clear st1 st2 st3 st4 hown1 hgrow1 hat1 hown2 hgrow2 hat2 s0 s1 s2 s3 s4 s5 s6 u0 u1 u2 u3 u4 u5 u6 L3
        go_wp2_with fail
        refine ⟨⟨k + 1, some ⟨g2, 0, none⟩, cap2, _, _, by omega, by go_num, rfl, by show List.length _ = _; rw [List.length_append, HLK.out]; rfl, by show List.length _ = _; rw [List.length_append, HAK.out]; rfl, ST1, ST2, SM, SL, SF, ST3, ST4⟩, ?_⟩
        first | omega | (simp [intOf]; omega)
end Go.Proofs.YtdcahnaempabcabGreat
