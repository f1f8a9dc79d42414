/-
  The program's Normal.
-/
import Derived.Test.YtdcahnaempabcabGreatNCopyF
import Derived.Test.YtdcahnaempabcabGreatShelfU
import Derived.Test.YtdcahnaempabcabGreatPartX
import Derived.Sort.OwnSorted
set_option linter.unusedSimpArgs false
set_option linter.unusedVariables false
namespace Go.Proofs.YtdcahnaempabcabGreat
open Go.RowKit
set_option maxRecDepth 100000
theorem light_of {m : Mp.Model} (h : Mp.isB m = true) : light m := by
  unfold Mp.isB Mp.filesB Mp.idsB at h
  simp only [Bool.and_eq_true, decide_eq_true_eq, List.all_eq_true] at h
  obtain ⟨⟨⟨⟨f1, i1⟩, _⟩, _⟩, hi⟩ := h
  have hs : ∀ l : List Mp.Sent, Mp.sentsB m l = true → l.length < 400 ∧ ∀ s ∈ l, lightS s := by
    intro l hl
    unfold Mp.sentsB at hl
    rw [Bool.and_eq_true, decide_eq_true_eq, List.all_eq_true] at hl
    refine ⟨by omega, fun s hs => ?_⟩
    have h1 := hl.2 s hs
    unfold Mp.sentB Mp.onB Mp.ifB at h1
    simp only [Bool.and_eq_true, decide_eq_true_eq] at h1
    have h2 := h1.1.2.1
    have h3 := h1.2.1
    refine ⟨?_, ?_⟩ <;> omega
  refine ⟨by omega, by omega, fun x hx => ?_⟩
  have h1 := hi x hx
  unfold Mp.itemB at h1
  simp only [Bool.and_eq_true] at h1
  exact ⟨(hs _ h1.1.2).1, (hs _ h1.2).1, (hs _ h1.1.2).2, (hs _ h1.2).2⟩
theorem sort_texts (l : List ByteArray) : ((l.map fun s => s.data.toList).mergeSort fun x y => decide (x ≤ y)).map (fun b => (⟨b.toArray⟩ : ByteArray)) = Np.sortC Np.cmpS l := by
  have hid : (l.map fun s => s.data.toList).map (fun b => (⟨b.toArray⟩ : ByteArray)) = l := by
    rw [List.map_map]
    have : ((fun b : List UInt8 => (⟨b.toArray⟩ : ByteArray)) ∘ fun s : ByteArray => s.data.toList) = id := funext fun s => by
      obtain ⟨⟨a⟩⟩ := s
      rfl
    rw [this, List.map_id]
  have tr : ∀ a b c : List UInt8, decide (a ≤ b) = true → decide (b ≤ c) = true → decide (a ≤ c) = true := fun a b c h1 h2 => by simp only [decide_eq_true_eq] at *; exact List.le_trans h1 h2
  have to : ∀ a b : List UInt8, (decide (a ≤ b) || decide (b ≤ a)) = true := fun a b => by simp only [Bool.or_eq_true, decide_eq_true_eq]; exact List.le_total a b
  refine Np.sortC_eq Np.cmpS_tot ?_ ?_
  · rw [List.pairwise_map]
    refine (List.pairwise_mergeSort tr to _).imp fun {a b} hab => ?_
    have h1 := of_decide_eq_true hab
    have h2 : ¬ b < a := by rw [← List.not_lt] at h1; exact h1
    have h3 := bytesLess_eq b a
    have h4 := less_row b a
    rw [h3, decide_eq_false h2] at h4
    have h5 := of_decide_eq_false h4.symm
    have h6 := Np.byteC_tot.row.anti a b
    show Lib.compareBytes _ _ ≤ 0
    rw [Np.bytes_row]
    show Np.rowC Np.byteC a b ≤ 0
    omega
  · have h1 := (List.mergeSort_perm (l.map fun s => s.data.toList) fun x y => decide (x ≤ y)).map (fun b => (⟨b.toArray⟩ : ByteArray))
    rwa [hid] at h1
theorem sortFilesD (w : World) (H : Nat) (ad : Option Addr) (n cap : Nat) (l : List ByteArray) (h : w.ownsRow H 9 1 (.slice ad n cap) n (l.map Value.string)) (hn : n = l.length) (hl : n ≤ 1000) :
    Calls Tryz.prog 19 #[.slice ad n cap] w fun e w' => e = .returned (.tuple #[]) ∧ w'.ownsRow H 9 1 (.slice ad n cap) n ((Np.sortC Np.cmpS l).map Value.string) ∧ w.grownBy w' (Value.slice ad n cap).ownBlock := by
  rcases Nat.eq_zero_or_pos n with h0 | h0
  · subst h0
    have he : l = [] := List.eq_nil_of_length_eq_zero hn.symm
    subst he
    refine (Tryz.slices_Sort_string_none ad cap w).mono ?_
    rintro e w' ⟨rfl, rfl⟩
    exact ⟨rfl, by simpa [Np.sortC] using h, gb_refl _ _⟩
  · rcases h.2 with ⟨_, h1⟩ | ⟨g, cap', cur, h1, hg, hb, hc1, hc2, hc3, hc4⟩
    · omega
    · cases h1
      obtain ⟨ss, hss⟩ : ∃ ss, (l.map fun s => s.data.toList) = ss := ⟨_, rfl⟩
      have hlen : ss.length = n := by rw [← hss, List.length_map, hn]
      have henc : ss.map encStr = l.map Value.string := by
        rw [← hss, List.map_map]
        refine List.map_congr_left fun s _ => ?_
        obtain ⟨⟨a⟩⟩ := s
        rfl
      have hH := holds_of_block (ss := ss) hb (by rw [hlen, henc, ← hc4, Nat.mul_one])
      have hc := Tryz.slices_Sort_string g 0 cap ss w hH (Array.getElem?_eq_some_iff.1 hb).1 (by omega)
      rw [hlen] at hc
      refine hc.mono ?_
      rintro e w' ⟨rfl, q, os, rfl⟩
      refine ⟨rfl, ?_, grownBy_sorted _⟩
      have h2 := ownsRow_sorted (n := q) (os := os) (base := H) (ss := ss) (ts := ss.mergeSort fun x y => decide (x ≤ y)) (by simp) hg hb (by omega) hc2 hc3
      rw [hlen] at h2
      have h3 : (ss.mergeSort fun x y => decide (x ≤ y)).map encStr = (Np.sortC Np.cmpS l).map Value.string := by
        rw [← sort_texts l, hss, List.map_map]
        rfl
      rwa [h3] at h2
/-- What the program's Normal answers. -/
def normA (m : Mp.Model) : Mp.Model := if Mp.isB m = true then Np.normB m else ⟨[], []⟩
def NMPost (m : Mp.Model) (w : World) (e : Ending) (w' : World) : Prop := ∃ af cf ai ci, e = .returned (.agg #[.slice af m.files.length cf, .slice ai m.items.length ci]) ∧ NewR (w.heap.size + 2) (fun w => ModelAt w af cf ai ci m) w' ∧ Below w.heap.size w w'
set_option maxHeartbeats 8000000 in
theorem normalD (w : World) (m : Mp.Model) (af ai : Option Addr) (cf ci : Nat) (hm : ModelAt w af cf ai ci m) :
    Calls Tryz.prog 6 #[.agg #[.slice af m.files.length cf, .slice ai m.items.length ci]] w (NMPost (normA m) w) := by
  obtain ⟨fs, is⟩ := m
  obtain ⟨V, hV, BV, LA, LR, VS⟩ := two_newU w 32 32 #[.slice af fs.length cf, .slice ai is.length ci] #[.slice none 0 0, .slice none 0 0]
  have HM := hideT hm
  have HB := hideT BV
  have HLA := hideT LA
  have HLR := hideT LR
  have HS := hideT VS
  have HMV := hideT (hm.below BV)
  have v0 : V.cell? ⟨w.heap.size, 0, none⟩ = some (.slice af fs.length cf) := LA.cell 0
  have v1 : V.cell? ⟨w.heap.size, 1, none⟩ = some (.slice ai is.length ci) := LA.cell 1
  clear BV LA LR VS hm
  dsimp only
  go_enter Tryz.func6, Tryz.ntmps6
  go_wp2_with fail
  refine (isD V ⟨fs, is⟩ af ai cf ci HMV.out).mono ?_
  rintro e w1 ⟨rfl, b1⟩
  have B1 := hideT b1
  have LA1 := hideT (HLA.out.below b1)
  have LR1 := hideT (HLR.out.below b1)
  clear b1 v0 v1
  cases hb : Mp.isB ⟨fs, is⟩
  · have HF : Hid (normA ⟨fs, is⟩ = ⟨[], []⟩) := if_neg (by rw [hb]; simp)
    have r0 : w1.cell? ⟨w.heap.size + 1, 0, none⟩ = some (.slice none 0 0) := LR1.out.cell 0
    have r1 : w1.cell? ⟨w.heap.size + 1, 1, none⟩ = some (.slice none 0 0) := LR1.out.cell 1
    have f0 : w1.frozen? ⟨w.heap.size + 1, 0, none⟩ = false := LR1.out.free 0
    have f1 : w1.frozen? ⟨w.heap.size + 1, 1, none⟩ = false := LR1.out.free 1
    clear hb
    go_wp2_with fail
    rw [HF.out]
    obtain ⟨Y, hY⟩ : ∃ Y, setAll w1 (w.heap.size + 1) 0 [.slice none 0 0, .slice none 0 0] = Y := ⟨_, rfl⟩
    change bodyPost _ _ _ _ _ (setAll w1 (w.heap.size + 1) 0 [.slice none 0 0, .slice none 0 0])
    have bY : Below w.heap.size w Y := by rw [← hY]; exact setAll_below (Nat.le_succ _) _ _ _ (HB.out.trans (B1.out.mono HB.out.size))
    have lY : Lies Y (w.heap.size + 1) 32 #[.slice none 0 0, .slice none 0 0] := by rw [← hY]; exact (LR1.out.set 0 _).set 1 _
    rw [hY]
    have q0 : Y.cell? ⟨w.heap.size + 1, 0, none⟩ = some (.slice none 0 0) := lY.cell 0
    have q1 : Y.cell? ⟨w.heap.size + 1, 1, none⟩ = some (.slice none 0 0) := lY.cell 1
    exact bodyPost_ret (v := .agg #[.slice none 0 0, .slice none 0 0]) (by simp [results, Tryz.results6, go_sem, q0, q1]) rfl ⟨none, 0, none, 0, rfl, fun w' _ => ⟨rowR_nil w', rowR_nil w'⟩, bY⟩
  · have HF : Hid (normA ⟨fs, is⟩ = ⟨Np.sortC Np.cmpS fs, Np.itemsN is⟩) := if_pos hb
    have HLg := hideT (light_of hb)
    have HPB := hideT (parents_before hb)
    have HTR := hideT (Np.tree_of hb)
    have HON := hideT (Np.parts_of hb).2.2.1
    have hi16 : is.length ≤ 16 := (Np.parts_of hb).2.1
    have hfl : fs.length ≤ 1000 := by have := HLg.out.1; exact Nat.le_of_lt (Nat.lt_trans this (by decide))
    have HM1 := hideT (HMV.out.below B1.out)
    have u0 : w1.cell? ⟨w.heap.size, 0, none⟩ = some (.slice af fs.length cf) := LA1.out.cell 0
    have u1 : w1.cell? ⟨w.heap.size, 1, none⟩ = some (.slice ai is.length ci) := LA1.out.cell 1
    clear hb
    go_wp2_with fail
    refine (copyOD af ai cf ci fs is w1 HM1.out.files HM1.out.items HLg.out).mono ?_
    rintro e w2 ⟨a1, d1, a2, d2, BB, rfl, oF, hBB, hBB2, nI, b2⟩
    have B2 := hideT b2
    have LA2 := hideT (LA1.out.below b2)
    have LR2 := hideT (LR1.out.below b2)
    have OF := hideT oF
    have HBB := hideT hBB
    have NI := hideT nI
    have s1 := HB.out.size
    have s2 := B1.out.size
    have s3 := b2.size
    rw [HS.out] at s2
    have x0 : w2.cell? ⟨w.heap.size, 0, none⟩ = some (.slice af fs.length cf) := LA2.out.cell 0
    have x1 : w2.cell? ⟨w.heap.size, 1, none⟩ = some (.slice ai is.length ci) := LA2.out.cell 1
    have f0 : w2.frozen? ⟨w.heap.size, 0, none⟩ = false := LA2.out.free 0
    have f1 : w2.frozen? ⟨w.heap.size, 1, none⟩ = false := LA2.out.free 1
    obtain ⟨w3, h3⟩ : ∃ w3, (w2.setCell ⟨w.heap.size, 0, none⟩ (.slice a1 fs.length d1)).setCell ⟨w.heap.size, 1, none⟩ (.slice a2 is.length d2) = w3 := ⟨_, rfl⟩
    have LA3 : Hid (Lies w3 w.heap.size 32 #[.slice a1 fs.length d1, .slice a2 is.length d2]) := by rw [← h3]; exact (LA2.out.set 0 _).set 1 _
    have LR3 : Hid (Lies w3 (w.heap.size + 1) 32 #[.slice none 0 0, .slice none 0 0]) := by rw [← h3]; exact (LR2.out.off ⟨w.heap.size, 0, none⟩ _ (by show w.heap.size + 1 ≠ w.heap.size; omega)).off ⟨w.heap.size, 1, none⟩ _ (by show w.heap.size + 1 ≠ w.heap.size; omega)
    have G3 : w2.grownBy w3 (some w.heap.size) := by rw [← h3]; exact gb_set (gb_set (gb_refl _ _) 0 _) 1 _
    have B3 : Hid (Below w.heap.size w w3) := (HB.out.trans ((B1.out.mono s1).trans (B2.out.mono (by omega)))).grown G3 (by omega) (fun g hg => by cases hg; exact Nat.le_refl _)
    have OF3 : Hid (w3.ownsRow (w1.heap.size + 2) 9 1 (.slice a1 fs.length d1) fs.length (fs.map Value.string)) := by
      have h := own_gb OF.out G3 (fun g hg e => own_ne OF.out LA2.out (by decide) (by rw [hg]; exact e.symm))
      rw [str_flat] at h
      exact h
    have NI3 : Hid (NewR BB (fun w => IRow w (.slice a2 is.length d2) is) w3) := NI.out.step fun a c ha hc => gb_keep G3 a c (by omega) hc
    have y0 : w3.cell? ⟨w.heap.size, 0, none⟩ = some (.slice a1 fs.length d1) := LA3.out.cell 0
    clear hBB oF nI b2 u0 u1
    go_wp2_with fail
    clear x0 x1 f0 f1
    refine (sortFilesD w3 (w1.heap.size + 2) a1 fs.length d1 fs OF3.out rfl hfl).mono ?_
    rintro e w4 ⟨rfl, o4, g4⟩
    have O4 := hideT o4
    have LA4 : Hid (Lies w4 w.heap.size 32 #[.slice a1 fs.length d1, .slice a2 is.length d2]) := lies_gb LA3.out g4 (own_ne OF3.out LA3.out (by decide))
    have LR4 : Hid (Lies w4 (w.heap.size + 1) 32 #[.slice none 0 0, .slice none 0 0]) := lies_gb LR3.out g4 (own_ne OF3.out LR3.out (by decide))
    have B4 : Hid (Below w.heap.size w w4) := B3.out.grown g4 B3.out.size (fun g hg => by have := (own_lt OF3.out hg).2; omega)
    have I4 : Hid (IRow w4 (.slice a2 is.length d2) is) := by
      refine NI3.out w4 fun a c ha hc => ?_
      have hl := cell_lt hc
      have h5 := g4.block a.block hl (fun e => by have := HBB.out a.block e.symm; omega)
      unfold World.cell? at hc ⊢
      rw [h5]
      exact hc
    have z0 : w4.cell? ⟨w.heap.size, 0, none⟩ = some (.slice a1 fs.length d1) := LA4.out.cell 0
    have z1 : w4.cell? ⟨w.heap.size, 1, none⟩ = some (.slice a2 is.length d2) := LA4.out.cell 1
    clear o4 g4 y0
    go_wp2_with fail
    refine (itemsOfD w4 is (.slice a1 fs.length d1) a2 is.length d2 I4.out hi16 rfl HPB.out HLg.out.2.2).mono ?_
    rintro e w5 ⟨ra, rc, L, rfl, o5, hW5, hm5, b5⟩
    have O5 := hideT o5
    have W5 := hideT hW5
    have M5 := hideT hm5
    have B5 := hideT b5
    have hlen : L.length = is.length := by
      have h1 := congrArg List.length hm5
      rw [List.length_map, List.length_zip, Np.ways_length, Nat.min_self] at h1
      exact h1
    have hL16 : L.length ≤ 1000 := by omega
    have INJ : Hid (∀ a b, a ∈ L.map (·.2) → b ∈ L.map (·.2) → a.1 = b.1 → a = b) := by
      intro a b ha hb e
      rw [hm5, Np.ways_W HON.out, Np.zip_map] at ha hb
      obtain ⟨x, hx, rfl⟩ := List.mem_map.1 ha
      obtain ⟨y, hy, rfl⟩ := List.mem_map.1 hb
      rw [HTR.out.inj hx hy e]
    have LA5 := hideT (LA4.out.below b5)
    have LR5 := hideT (LR4.out.below b5)
    have O45 := hideT (own_below O4.out b5)
    clear o5 hW5 hm5 b5 z0 z1 hlen
    go_wp2_with fail
    refine (sortItemD w4 w5 w4.heap.size ra L.length rc L O5.out W5.out rfl hL16 INJ.out).mono ?_
    rintro e w6 ⟨rfl, ⟨L6, hl6, hW6, hm6, o6⟩, g6⟩
    have HL6 : Hid (L.length = L6.length) := hl6.symm
    have W6 := hideT hW6
    have O6 := hideT o6
    have IT : Hid (Np.itemsN is = L6.map fun x => Np.itemN x.2.2) := by
      show _ = _
      unfold Np.itemsN Np.byWay
      rw [← M5.out, ← hm6, List.map_map]
      rfl
    have LA6 : Hid (Lies w6 w.heap.size 32 #[.slice a1 fs.length d1, .slice a2 is.length d2]) := lies_gb LA5.out g6 (own_ne O5.out LA5.out (by decide))
    have LR6 : Hid (Lies w6 (w.heap.size + 1) 32 #[.slice none 0 0, .slice none 0 0]) := lies_gb LR5.out g6 (own_ne O5.out LR5.out (by decide))
    have F6 : Hid (w6.ownsRow (w1.heap.size + 2) 9 1 (.slice a1 fs.length d1) fs.length ((Np.sortC Np.cmpS fs).map Value.string)) := own_gb O45.out g6 (own_ne2 O45.out O5.out (by decide))
    have B46 : Hid (Below w4.heap.size w4 w6) := B5.out.grown g6 B5.out.size (fun g hg => (own_lt O5.out hg).2)
    have q0 : w6.cell? ⟨w.heap.size, 0, none⟩ = some (.slice a1 fs.length d1) := LA6.out.cell 0
    clear hl6 hW6 hm6 o6 g6
    go_wp2_with fail
    go_region_held3 (fun w' => w'.cell? ⟨w.heap.size, 0, none⟩ = some (.slice a1 fs.length d1)) (go_keep) (first
      | (go_at_call 23; refine (eachID _ w4 w4.heap.size ra L.length rc L6 (own_below O6.out (below_drewN (Below.refl _ w6) 1)) (fun x hx => (W6.out x hx).below (below_drewN (Below.refl _ w6) 1)) (below_drewN B46.out 1) HL6.out hL16 (Np.itemsN is) IT.out).mono ?_; rintro e w7 ⟨a7, d7, rfl, n7, b7⟩; have bV7 : Below w6.heap.size w6 w7 := (below_drewN (Below.refl _ w6) 1).trans b7; have p0 := below_cell bV7 _ _ q0; have LR7 := LR6.out.below bV7; have m0 : w7.cell? ⟨w.heap.size + 1, 0, none⟩ = some (.slice none 0 0) := LR7.cell 0; have g0 : w7.frozen? ⟨w.heap.size + 1, 0, none⟩ = false := LR7.free 0; have m1 : w7.cell? ⟨w.heap.size + 1, 1, none⟩ = some (.slice none 0 0) := LR7.cell 1; have g1 : w7.frozen? ⟨w.heap.size + 1, 1, none⟩ = false := LR7.free 1))
    have hsz6 : w.heap.size + 2 ≤ w6.heap.size := by
      have h1 := B46.out.size
      have h2 := B4.out.size
      have h3 := LR4.out.lt
      omega
    have N7 := hideT n7
    have F7 := hideT (own_below F6.out bV7)
    have LR7' := hideT LR7
    have BW7 : Hid (Below w.heap.size w w7) := (B4.out.trans (B46.out.mono B4.out.size)).trans (bV7.mono (by omega))
    clear n7 b7 bV7 p0 LR7
    go_wp2_with fail
    clear m0 m1 g0 g1 q0
    rw [HF.out]
    obtain ⟨Y, hY⟩ : ∃ Y, setAll w7 (w.heap.size + 1) 0 [.slice a1 fs.length d1, .slice a7 (Np.itemsN is).length d7] = Y := ⟨_, rfl⟩
    change bodyPost _ _ _ _ _ (setAll w7 (w.heap.size + 1) 0 [.slice a1 fs.length d1, .slice a7 (Np.itemsN is).length d7])
    have bY : Below w.heap.size w Y := by rw [← hY]; exact setAll_below (Nat.le_succ _) _ _ _ BW7.out
    have lY : Lies Y (w.heap.size + 1) 32 #[.slice a1 fs.length d1, .slice a7 (Np.itemsN is).length d7] := by rw [← hY]; exact (LR7'.out.set 0 _).set 1 _
    have gY : w7.grownBy Y (some (w.heap.size + 1)) := by rw [← hY]; exact gb_setAll _ _ _ (gb_refl _ _)
    rw [hY]
    have q0 : Y.cell? ⟨w.heap.size + 1, 0, none⟩ = some (.slice a1 fs.length d1) := lY.cell 0
    have q1 : Y.cell? ⟨w.heap.size + 1, 1, none⟩ = some (.slice a7 (Np.itemsN is).length d7) := lY.cell 1
    have hsf : (Np.sortC Np.cmpS fs).length = fs.length := Np.sortC_length _ _
    have FY : OwnE (w1.heap.size + 2) 1 9 strE (.slice a1 fs.length d1) (Np.sortC Np.cmpS fs) Y := by
      unfold OwnE
      rw [hsf, str_flat]
      exact own_gb F7.out gY (fun g hg e => own_ne F7.out LR7'.out (by decide) (by rw [hg]; exact e.symm))
    have hz : ∀ s ∈ Np.sortC Np.cmpS fs, s.size ≤ 140737488355328 := fun s hs => by
      have hs' := Np.mem_sortC.1 hs
      obtain ⟨j, hj⟩ := List.getElem?_of_mem hs'
      obtain ⟨_, _, _, b, o, _, hc⟩ := frow_at HM.out.files
      exact (hc j s hj).1
    have FN : NewR (w1.heap.size + 2) (fun w => FRow w (.slice a1 fs.length d1) (Np.sortC Np.cmpS fs)) Y := OwnE.newR (R := strR) (enc := strE) (fun _ => rfl) FY (by rw [hsf]; omega) (fun _ x hx => ⟨rfl, hz x hx⟩)
    have IN : NewR w6.heap.size (fun w => IRow w (.slice a7 (Np.itemsN is).length d7) (Np.itemsN is)) Y := NewR.step N7.out fun a c ha hc => gb_keep gY a c (by have h1 : w6.heap.size ≤ a.block := ha; omega) hc
    refine bodyPost_ret (v := .agg #[.slice a1 fs.length d1, .slice a7 (Np.itemsN is).length d7]) (by simp [results, Tryz.results6, go_sem, q0, q1]) rfl ⟨a1, d1, a7, d7, ?_, ?_, bY⟩
    · show Ending.returned _ = Ending.returned (.agg #[.slice a1 (Np.sortC Np.cmpS fs).length d1, _])
      rw [hsf]
    · have e1 : NewR (w.heap.size + 2) (fun w => FRow w (.slice a1 fs.length d1) (Np.sortC Np.cmpS fs)) Y := FN.low (by omega)
      have e2 : NewR (w.heap.size + 2) (fun w => IRow w (.slice a7 (Np.itemsN is).length d7) (Np.itemsN is)) Y := IN.low hsz6
      intro w' hw
      refine ⟨?_, e2 w' hw⟩
      show FRow w' (.slice a1 (Np.sortC Np.cmpS fs).length d1) _
      rw [hsf]
      exact e1 w' hw
end Go.Proofs.YtdcahnaempabcabGreat
