/-
  The program's sort of items by their ways, and each over items.
-/
import Derived.Test.YtdcahnaempabcabGreatNItems
import Derived.Test.YtdcahnaempabcabGreatPartV
set_option linter.unusedSimpArgs false
set_option linter.unusedVariables false
namespace Go.Proofs.YtdcahnaempabcabGreat
open Go.RowKit
set_option maxRecDepth 100000
theorem wE_one {w0 W : World} {x : WP} (h : WIn w0 W x) (v : Value) (hv : v ∈ wE x) : v.oneCell' = true := by
  obtain ⟨⟨vw, v5, v6⟩, p, y⟩ := x
  obtain ⟨⟨aw, cw, a5, c5, a6, c6, e⟩, _⟩ := h
  have e' : (vw, v5, v6) = (Value.slice aw p.length cw, Value.slice a5 y.entry.length c5, Value.slice a6 y.exit.length c6) := e
  rw [Prod.mk.injEq, Prod.mk.injEq] at e'
  obtain ⟨rfl, rfl, rfl⟩ := e'
  simp [wE, itemC] at hv
  rcases hv with rfl | rfl | rfl | rfl | rfl | rfl | rfl | rfl <;> rfl
abbrev WE (w0 W : World) := { x : WP // WIn w0 W x }
def weE {w0 W : World} (x : WE w0 W) : List Value := wE x.1
def weC {w0 W : World} (x y : WE w0 W) : Int := Np.wayC x.1.2 y.1.2
theorem weCmpD {w0 W : World} (x y : WE w0 W) (U : World) (hU : ∀ z, WIn w0 W z → WIn w0 U z) :
    Calls Tryz.prog 22 #[.agg (weE x).toArray, .agg (weE y).toArray] U fun e w' => e = .returned (.int .i64 (weC x y)) ∧ Gr U w' := by
  obtain ⟨⟨⟨vw, v5, v6⟩, p, xi⟩, hx⟩ := x
  obtain ⟨⟨⟨uw, u5, u6⟩, q, yi⟩, hy⟩ := y
  have hx' := hU _ hx
  have hy' := hU _ hy
  obtain ⟨⟨aw, cw, a5, c5, a6, c6, e⟩, _⟩ := id hx
  obtain ⟨⟨bw, dw, b5, d5, b6, d6, e'⟩, _⟩ := id hy
  have e2 : (vw, v5, v6) = (Value.slice aw p.length cw, Value.slice a5 xi.entry.length c5, Value.slice a6 xi.exit.length c6) := e
  have e3 : (uw, u5, u6) = (Value.slice bw q.length dw, Value.slice b5 yi.entry.length d5, Value.slice b6 yi.exit.length d6) := e'
  rw [Prod.mk.injEq, Prod.mk.injEq] at e2 e3
  obtain ⟨rfl, rfl, rfl⟩ := e2
  obtain ⟨rfl, rfl, rfl⟩ := e3
  exact itemCmpD U aw bw _ _ cw dw xi yi _ _ _ _ p q (hx'.2.1.frow hx'.2.2.1.2 hx'.2.2.1.1) (hy'.2.1.frow hy'.2.2.1.2 hy'.2.2.1.1)
theorem weC_swo {w0 W : World} [Inhabited (WE w0 W)] : Sort.SWO (ltOf (weC (w0 := w0) (W := W))) :=
  ⟨fun x => Np.cmpS_tot.row.swo.irrefl x.1.2.1, fun x y z => Np.cmpS_tot.row.swo.trans x.1.2.1 y.1.2.1 z.1.2.1, fun x y z => Np.cmpS_tot.row.swo.ntrans x.1.2.1 y.1.2.1 z.1.2.1⟩
theorem pmap_W {w0 W : World} : ∀ (L : List WP) (H : ∀ x ∈ L, WIn w0 W x), (L.pmap (fun p hp => (⟨p, hp⟩ : WE w0 W)) H).map weE = L.map wE ∧ (L.pmap (fun p hp => (⟨p, hp⟩ : WE w0 W)) H).map (·.1) = L
  | [], _ => ⟨rfl, rfl⟩
  | p :: L, H => by
    obtain ⟨h1, h2⟩ := pmap_W L (fun q hq => H q (List.mem_cons_of_mem _ hq))
    rw [List.pmap_cons, List.map_cons, List.map_cons, List.map_cons]
    exact ⟨by rw [h1]; rfl, by rw [h2]⟩
set_option maxHeartbeats 1000000 in
theorem sortItemD (w0 W : World) (H : Nat) (ad : Option Addr) (n cap : Nat) (L : List WP) (h : W.ownsRow H 51 8 (.slice ad n cap) n (L.map wE).flatten) (hW : ∀ x ∈ L, WIn w0 W x) (hn : n = L.length) (hl : n ≤ 1000) (hinj : ∀ a b, a ∈ L.map (·.2) → b ∈ L.map (·.2) → a.1 = b.1 → a = b) :
    Calls Tryz.prog 21 #[.slice ad n cap, .func (.func 22) #[] #[]] W fun e w' => e = .returned (.tuple #[]) ∧ (∃ L' : List WP, L'.length = L.length ∧ (∀ x ∈ L', WIn w0 w' x) ∧ L'.map (·.2) = (L.map (·.2)).mergeSort (Np.leC Np.wayC) ∧ w'.ownsRow H 51 8 (.slice ad n cap) n (L'.map wE).flatten) ∧ W.grownBy w' (Value.slice ad n cap).ownBlock := by
  rcases Nat.eq_zero_or_pos n with h0 | h0
  · subst h0
    have he : L = [] := List.eq_nil_of_length_eq_zero hn.symm
    subst he
    refine (AnyF.slices_SortFunc_none Tryz.sortItem ad cap _ W).mono ?_
    rintro e w' ⟨rfl, rfl⟩
    exact ⟨rfl, ⟨[], rfl, fun x hx => by simp at hx, by simp, h⟩, gb_refl _ _⟩
  · obtain ⟨hE, hSS⟩ := pmap_W L hW
    obtain ⟨LS, hLS⟩ : ∃ LS, L.pmap (fun p hp => (⟨p, hp⟩ : WE w0 W)) hW = LS := ⟨_, rfl⟩
    rw [hLS] at hE hSS
    have hlen : LS.length = L.length := by rw [← hLS, List.length_pmap]
    rw [← hE] at h
    obtain ⟨g, rfl, hg, hgs, _⟩ := own_ownBlock h h0
    obtain ⟨x0, hx0⟩ := Mp.at_lt (l := LS) (k := 0) (by omega)
    haveI : Inhabited (WE w0 W) := ⟨x0⟩
    have eg : ∀ args w, (callFunc 22 args).run Tryz.prog w = .ok (.enter 22 args) w := enters_of Tryz.func22 (by kernel_rfl) rfl
    have hc := AnyQ.slices_SortFunc (α := WE w0 W) Tryz.sortItem 8 Tryz.isAgg51 Tryz.sizeOf51 weE (fun _ => rfl) (fun x v hv => wE_one x.2 v hv) weC weC_swo 22 #[] g 0 cap LS.toArray W eg
      (fun m os dk _ x y => (weCmpD x y _ fun z hz => hz.gb h (by decide) (sort_grown weE 8 dk)).mono fun e w' ⟨h1, h2⟩ => ⟨h1, h2.eq⟩) (holds_own weE 8 (fun _ => rfl) h (by omega)) hgs (by simp; omega)
    have hsz : LS.toArray.size = n := by rw [hn, ← hlen]; simp
    rw [hsz] at hc
    refine hc.mono ?_
    rintro e w' ⟨rfl, d', q, os, hp, hs, rfl⟩
    have hsz' : d'.size = LS.toArray.size := by have := hp.1; exact this
    have hpl : d'.toList.Perm LS := by
      have := perm_list (d := LS.toArray) (d' := d') (by rw [hsz]; exact hp)
      simpa using this
    have hso := sorted_list (c := Np.rowC Np.cmpS) (fun x : WE w0 W => x.1.2.1) (d := LS.toArray) (d' := d') hsz' (by rw [hsz]; exact hs) Np.cmpS_tot.row
    have hpm : (d'.toList.map (·.1)).Perm L := by
      have := hpl.map (·.1)
      rwa [hSS] at this
    refine ⟨rfl, ⟨d'.toList.map (·.1), by rw [List.length_map, hpl.length_eq, hlen], fun x hx => ?_, ?_, ?_⟩, sort_grown weE 8 _⟩
    · exact (hW x (hpm.mem_iff.1 hx)).gb h (by decide) (sort_grown weE 8 _)
    · have hp2 : ((d'.toList.map (·.1)).map (·.2)).Perm (L.map (·.2)) := hpm.map (·.2)
      refine List.Perm.eq_of_pairwise (le := fun a b => Np.wayC a b ≤ 0) (fun a b ha hb h1 h2 => ?_) ?_ ?_ (hp2.trans (List.mergeSort_perm _ _).symm)
      · have h3 := Np.cmpS_tot.row.anti a.1 b.1
        have h4 : Np.rowC Np.cmpS a.1 b.1 ≤ 0 := h1
        have h5 : Np.rowC Np.cmpS b.1 a.1 ≤ 0 := h2
        exact hinj a b (hp2.mem_iff.1 ha) ((List.mergeSort_perm _ _).mem_iff.1 hb) ((Np.cmpS_tot.row.eq0 _ _).1 (by omega))
      · rw [List.pairwise_map, List.pairwise_map]
        rw [List.pairwise_map] at hso
        exact hso
      · refine (List.pairwise_mergeSort Np.wayC_tr Np.wayC_to _).imp fun {a b} hab => ?_
        have h3 := Np.cmpS_tot.row.anti a.1 b.1
        unfold Np.leC ltOf at hab
        simp only [Bool.not_eq_true', decide_eq_false_iff_not] at hab
        have h4 : ¬ Np.rowC Np.cmpS b.1 a.1 < 0 := hab
        show Np.rowC Np.cmpS a.1 b.1 ≤ 0
        omega
    · have := own_sortedK (m := q) (os := os) (L' := d'.toList) weE 8 (fun _ => rfl) h (by omega) (by rw [hpl.length_eq])
      rw [Array.toArray_toList] at this
      rw [List.map_map]
      exact this
/-- Items with their ways, read. -/
theorem wrow_at {w : World} {H : Nat} {ad : Option Addr} {n cap : Nat} {L : List WP} (h : w.ownsRow H 51 8 (.slice ad n cap) n (L.map wE).flatten) (h0 : 0 < n) : ∃ g, ad = some ⟨g, 0, none⟩ ∧ ∀ (i : Nat) x, L[i]? = some x → ∀ (j : Nat) c, (wE x)[j]? = some c → w.cell? ⟨g, i * 8 + j, none⟩ = some c := by
  obtain ⟨g, rfl, _⟩ := own_ownBlock h h0
  exact ⟨g, rfl, fun i x hx j c hc => own_cell h (flat_at (enc := wE) (z := 8) (fun _ => rfl) hx hc)⟩
set_option maxHeartbeats 4000000 in
theorem eachID (w w0 : World) (H : Nat) (a1 : Option Addr) (n c1 : Nat) (L : List WP) (h1 : w.ownsRow H 51 8 (.slice a1 n c1) n (L.map wE).flatten) (hW : ∀ x ∈ L, WIn w0 w x) (hB0 : Below w0.heap.size w0 w) (hnL : n = L.length) (hn : n ≤ 1000) (l : List Mp.Item) (hl : l = L.map fun x => Np.itemN x.2.2) :
    Calls Tryz.prog 23 #[.slice a1 n c1, .func (.func 24) #[] #[]] w (CPost 7 itemR l w) := by
  have HN0 := hideT hnL
  have HN1 : Hid (n = l.length) := by show n = _; rw [hl, List.length_map]; exact hnL
  have hl1 : n ≤ 10000000000000 := by omega
  have HWI := hideT hW
  have HB0 := hideT hB0
  have HLL := hideT hl
  have HRW := hideT h1
  have hn1 := HN1.out
  clear h1 hW hB0 hl hnL
  by_cases h0 : n = 0
  · subst h0
    have HL : Hid (l = []) := List.eq_nil_of_length_eq_zero hn1.symm
    clear hn1
    go_enter Tryz.func23, Tryz.ntmps23
    go_wp2_with fail
    go_ret
    rw [HL.out]
    exact ⟨none, 0, rfl, fun w' _ => rowR_nil w', Below.refl _ _⟩
  obtain ⟨g, rfl, hcc⟩ := wrow_at HRW.out (by omega)
  have HCC := hideT hcc
  clear hcc
  obtain ⟨i0, hi0, hz0, hz1, hz2⟩ := info_parts infoItm
  have t0 : ((n : Int) == 0) = false := beq_eq_false_iff_ne.2 (by omega)
  obtain ⟨W, hrun, r1, r2⟩ := run_make_full (P := Tryz.prog) w w.heap.size 30 29 i0 _ 7 Tryz.underlying30 hi0 hz0 hz1 .i64 .i64 n (by rw [hz2]; omega) (by unfold maxLen; omega) (Nat.le_refl _)
  have BT0 : Hid (Built w.heap.size w.heap.size 7 29 itemR l n 0 W) := ⟨_, r1, fun j x hj => absurd hj (Nat.not_lt_zero _)⟩
  have BW0 : Hid (Below w.heap.size w W) := (Below.refl _ w).grown r2 (Nat.le_refl _) (fun k hk => by cases hk)
  clear hn1 r1 r2 hi0 hz0 hz1 hz2
  go_enter Tryz.func23, Tryz.ntmps23
  go_wp2_with fail
  clear hrun
  go_loopw [16] (fun i wr => ∃ k : Nat, k ≤ n ∧ i = .int .i64 k ∧ Hid (Built w.heap.size w.heap.size 7 29 itemR l n k wr) ∧ Hid (Below w.heap.size w wr)) (fun i _ => n - (intOf i).toNat)
  case atStart => exact ⟨0, by omega, rfl, BT0, BW0⟩
  case round =>
    obtain ⟨k, hk, rfl, HB, HW⟩ := hrel
    by_cases hlt : k < n
    rotate_left
    · have HE : Hid (k = n) := by show k = n; omega
      have HB1 : Hid (Built w.heap.size w.heap.size 7 29 itemR l n n wr) := by have := HB.out; rw [HE.out] at this; exact this
      go_wp2_with fail
      go_ret
      refine ⟨some ⟨w.heap.size, 0, none⟩, n, ?_, HB1.out.done HN1.out hl1 (Nat.le_refl _), HW.out⟩
      exact congrArg (fun q => Ending.returned (.slice (some ⟨w.heap.size, 0, none⟩) q n)) HN1.out
    obtain ⟨⟨⟨vw, v5, v6⟩, wp, ⟨x0, x1, x2, x3, x4, x5, x6⟩⟩, hx⟩ := Mp.at_lt (l := L) (k := k) (by have := HN0.out; omega)
    have hWx := HWI.out _ (List.mem_of_getElem? hx)
    have hcx := HCC.out k _ hx
    obtain ⟨⟨aw, cw, p5, c5, p6, c6, he⟩, hown, _, r1, r2, hz, hli⟩ := hWx
    have he' : (vw, v5, v6) = (Value.slice aw wp.length cw, Value.slice p5 x5.length c5, Value.slice p6 x6.length c6) := he
    rw [Prod.mk.injEq, Prod.mk.injEq] at he'
    obtain ⟨rfl, rfl, rfl⟩ := he'
    have HX : Hid (l[k]? = some (Np.itemN ⟨x0, x1, x2, x3, x4, x5, x6⟩)) := by
      show _ = _
      rw [HLL.out, List.getElem?_map, hx]
      rfl
    have d0 := below_cell HW.out _ _ (hcx 0 _ rfl)
    have d1 := below_cell HW.out _ _ (hcx 1 _ rfl)
    have d2 := below_cell HW.out _ _ (hcx 2 _ rfl)
    have d3 := below_cell HW.out _ _ (hcx 3 _ rfl)
    have d4 := below_cell HW.out _ _ (hcx 4 _ rfl)
    have d5' := below_cell HW.out _ _ (hcx 5 _ rfl)
    have d6' := below_cell HW.out _ _ (hcx 6 _ rfl)
    have d7' := below_cell HW.out _ _ (hcx 7 _ rfl)
    rw [Nat.add_zero] at d0
    have BA := hideT ((Below.refl wr.heap.size wr).alloc (Nat.le_refl _) (.cells #[.slice aw wp.length cw, .string x0, .int .i64 x1, .string x2, .bool x3, .int .i64 x4, .slice p5 x5.length c5, .slice p6 x6.length c6] 51))
    have BW := hideT (HW.out.trans (BA.out.mono HW.out.size))
    have BW0 := hideT (HB0.out.trans (BW.out.mono HB0.out.size))
    have R1 := hideT (srow_below r1 BW0.out)
    have R2 := hideT (srow_below r2 BW0.out)
    have HLI := hideT hli
    have HZ := hideT hz
    clear hx r1 r2 hcx hown he hli hz
    dsimp only at R1 R2 HZ
    have t1 : (0 : Int) ≤ (k : Int) := by omega
    have t2 : (k : Int) < (n : Int) := by omega
    go_wp2_with fail
    refine (inOrderD _ ⟨x0, x1, x2, x3, x4, x5, x6⟩ aw wp.length cw p5 c5 p6 c6 R1.out R2.out HLI.out HZ.out).mono ?_
    rintro e w1 ⟨q5, d5, q6, d6, rfl, nw, p⟩
    have B1 := hideT (BA.out.trans (p.mono BA.out.size))
    have HB1 := hideT (HB.out.below B1.out)
    have HW1 := hideT (HW.out.trans (B1.out.mono HW.out.size))
    have hge : w.heap.size + 1 ≤ (wr.alloc (.cells #[.slice aw wp.length cw, .string x0, .int .i64 x1, .string x2, .bool x3, .int .i64 x4, .slice p5 x5.length c5, .slice p6 x6.length c6] 51)).heap.size + 3 := by have := BW.out.size; omega
    have NW := hideT (nw.low hge)
    clear nw hge
    dsimp only [Np.itemN] at NW
    obtain ⟨⟨u0, e0⟩, f0⟩ := HB1.out.cells hlt 0 (by omega)
    obtain ⟨⟨u1, e1⟩, f1⟩ := HB1.out.cells hlt 1 (by omega)
    obtain ⟨⟨u2, e2⟩, f2⟩ := HB1.out.cells hlt 2 (by omega)
    obtain ⟨⟨u3, e3⟩, f3⟩ := HB1.out.cells hlt 3 (by omega)
    obtain ⟨⟨u4, e4⟩, f4⟩ := HB1.out.cells hlt 4 (by omega)
    obtain ⟨⟨u5, e5⟩, f5⟩ := HB1.out.cells hlt 5 (by omega)
    obtain ⟨⟨u6, e6⟩, f6⟩ := HB1.out.cells hlt 6 (by omega)
    rw [Nat.add_zero] at e0 f0
    have HB2 := hideT (HB1.out.put hlt [.string x0, .int .i64 x1, .string x2, .bool x3, .int .i64 x4, .slice q5 (Np.sentsN x5).length d5, .slice q6 (Np.sentsN x6).length d6] rfl (Np.itemN ⟨x0, x1, x2, x3, x4, x5, x6⟩) HX.out NW.out)
    have HW2 := hideT (setAll_below (Nat.le_refl _) [.string x0, .int .i64 x1, .string x2, .bool x3, .int .i64 x4, .slice q5 (Np.sentsN x5).length d5, .slice q6 (Np.sentsN x6).length d6] _ (k * 7) HW1.out)
    clear p d0 d1 d2 d3 d4 d5' d6' d7'
    dsimp only [Np.itemN]
    go_wp2_with fail
    refine ⟨⟨k + 1, by omega, by go_num, HB2, HW2⟩, ?_⟩
    first | omega | (simp [intOf]; omega)
end Go.Proofs.YtdcahnaempabcabGreat
