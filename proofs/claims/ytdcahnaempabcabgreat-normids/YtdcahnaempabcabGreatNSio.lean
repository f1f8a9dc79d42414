/-
  The program's sentriesInOrder.
-/
import Derived.Test.YtdcahnaempabcabGreatNSents
import Derived.Test.YtdcahnaempabcabGreatPartA
set_option linter.unusedSimpArgs false
set_option linter.unusedVariables false
namespace Go.Proofs.YtdcahnaempabcabGreat
open Go.RowKit
set_option maxRecDepth 100000
theorem info_sentN : (Tryz.prog.info? 60).map (fun i => (i.zero, i.size, i.bytes)) = some (some (.agg #[.slice none 0 0, .slice none 0 0]), 2, 48) := by kernel_rfl
abbrev pE (p : (Value × Value) × Mp.Sent) : List Value := [p.1.1, p.1.2]
theorem lies_gb {w w' : World} {b : Nat} {t : TypeId} {C : Array Value} {r : Option Nat} (h : Lies w b t C) (hg : w.grownBy w' r) (hr : r ≠ some b) : Lies w' b t C := by
  have hl := h.lt
  unfold Lies at *
  rw [hg.block b hl (Ne.symm hr), h]
/-- A sentry put in order: its events and conditions, from the world where it was made to the one where its row is stored. -/
theorem sent_made {B b : Nat} {w1 w2 w3 : World} {s1 : List Mp.On} {s2 : List Mp.Cond} {q1 q2 : Option Addr} {d1 d2 : Nat} {q3 : Option Addr} {d3 : Nat}
    (hB : B ≤ w1.heap.size) (o1 : OwnE B 2 84 onE (.slice q1 s1.length d1) s1 w1) (o2 : OwnE B 3 89 condE (.slice q2 s2.length d2) s2 w1) (hb : Lies w1 b 60 #[.slice q1 s1.length d1, .slice q2 s2.length d2])
    (p2 : w2.ownsRow B 84 2 (.slice q1 s1.length d1) s1.length ((Np.sortC Np.onC s1).map onE).flatten) (g2 : w1.grownBy w2 (Value.slice q1 s1.length d1).ownBlock)
    (p3 : OwnE B 3 89 condE (.slice q3 (Np.sortU Np.condC s2).length d3) (Np.sortU Np.condC s2) w3) (g3 : w2.grownBy w3 (Value.slice q2 s2.length d2).ownBlock)
    (hz1 : ∀ x ∈ s1, x.1.size ≤ 140737488355328) (hz2 : ∀ x ∈ s2, x.1.size ≤ 140737488355328 ∧ x.2.1.size ≤ 140737488355328) (l1 : s1.length ≤ 1000) (l2 : s2.length ≤ 1000) :
    Lies w3 b 60 #[.slice q1 s1.length d1, .slice q2 s2.length d2] ∧ SIn B w3 ((.slice q1 s1.length d1, .slice q3 (Np.sortU Np.condC s2).length d3), Np.sentN (s1, s2)) := by
  have b2 : Lies w2 b 60 #[.slice q1 s1.length d1, .slice q2 s2.length d2] := lies_gb hb g2 (own_ne o1 hb (by decide))
  have o2' : OwnE B 3 89 condE (.slice q2 s2.length d2) s2 w2 := own_gb o2 g2 (own_ne2 o2 o1 (by decide))
  have b3 := lies_gb b2 g3 (own_ne o2' b2 (by decide))
  have p2' := own_gb p2 g3 (own_ne2 p2 o2' (by decide))
  have hl : (Np.sortC Np.onC s1).length = s1.length := Np.sortC_length _ _
  refine ⟨b3, ⟨q1, d1, q3, d3, ?_⟩, ?_, p3, ⟨fun x hx => hz1 x (Np.mem_sortC.1 hx), fun x hx => hz2 x ((Np.mem_sortU Np.condC_tot).1 hx)⟩, ?_, ?_⟩
  · show _ = (Value.slice q1 (Np.sortC Np.onC s1).length d1, _)
    rw [hl]
    rfl
  · show World.ownsRow _ _ _ _ _ (Np.sortC Np.onC s1).length _
    rw [hl]
    exact p2'
  · show (Np.sortC Np.onC s1).length ≤ 1000
    omega
  · show (Np.sortU Np.condC s2).length ≤ 1000
    have := Np.sortU_length Np.condC s2
    omega
theorem SIn.lower {B B' : Nat} {w : World} {p : (Value × Value) × Mp.Sent} (h : SIn B w p) (hb : B' ≤ B) : SIn B' w p := ⟨h.1, own_lower h.2.1 hb, own_lower h.2.2.1 hb, h.2.2.2⟩
/-- A store into a sentry's box. -/
theorem SIn.box {B b j : Nat} {w : World} {p : (Value × Value) × Mp.Sent} {C : Array Value} (h : SIn B w p) (hb : Lies w b 60 C) (u : Value) : SIn B (w.setCell ⟨b, j, none⟩ u) p :=
  ⟨h.1, own_gb h.2.1 (gb_set (gb_refl w (some b)) j u) (fun g hg e => own_ne h.2.1 hb (by decide) (by rw [hg]; exact e.symm)), own_gb h.2.2.1 (gb_set (gb_refl w (some b)) j u) (fun g hg e => own_ne h.2.2.1 hb (by decide) (by rw [hg]; exact e.symm)), h.2.2.2⟩
theorem pmap_E {B : Nat} {w : World} : ∀ (L : List ((Value × Value) × Mp.Sent)) (H : ∀ p ∈ L, SIn B w p), (L.pmap (fun p hp => (⟨p, hp⟩ : SE B w)) H).map seE = L.map pE ∧ (L.pmap (fun p hp => (⟨p, hp⟩ : SE B w)) H).map seS = L.map (·.2)
  | [], _ => ⟨rfl, rfl⟩
  | p :: L, H => by
    obtain ⟨h1, h2⟩ := pmap_E L (fun q hq => H q (List.mem_cons_of_mem _ hq))
    rw [List.pmap_cons, List.map_cons, List.map_cons, List.map_cons, List.map_cons]
    exact ⟨by rw [h1]; rfl, by rw [h2]; rfl⟩
set_option maxHeartbeats 4000000 in
theorem sioD (w : World) (ad : Option Addr) (n cap : Nat) (l : List Mp.Sent) (h : SRow w (.slice ad n cap) l) (hn : n ≤ 1000) (hL : ∀ s ∈ l, lightS s) :
    Calls Tryz.prog 50 #[.slice ad n cap] w (CPost 2 sentR (Np.sentsN l) w) := by
  obtain ⟨hn1, hl1, _, b1, o1, ha1, hc1⟩ := srow_at h
  have HN1 := hideT hn1
  have HC1 := hideT hc1
  have HA1 := hideT ha1
  have HLt := hideT hL
  obtain ⟨i0, hi0, hz0, hz1, hz2⟩ := info_parts info_sentN
  clear hc1 ha1 h hL hn1
  go_enter Tryz.func50, Tryz.ntmps50
  go_wp2_with fail
  go_loopw [3, 9] (fun rv i wr => ∃ (k : Nat) (ra : Option Addr) (rc : Nat) (L : List ((Value × Value) × Mp.Sent)), k ≤ n ∧ i = .int .i64 k ∧ rv = .slice ra k rc ∧ L.length = k ∧ Hid (wr.ownsRow w.heap.size 60 2 (.slice ra k rc) k (L.map pE).flatten) ∧ Hid (∀ p ∈ L, SIn w.heap.size wr p) ∧ Hid (L.map (·.2) = (l.take k).map Np.sentN) ∧ Hid (Below w.heap.size w wr)) (fun _ i _ => n - (intOf i).toNat)
  case atStart => exact ⟨0, none, 0, [], Nat.zero_le _, rfl, rfl, rfl, ⟨rfl, .inl ⟨rfl, rfl⟩⟩, fun p hp => by simp at hp, rfl, Below.refl _ _⟩
  case round =>
    obtain ⟨k, ra, rc, L, hk, rfl, rfl, hLk, HO, HS, HM, HW⟩ := hrel
    have HLK := hideT hLk
    clear hLk
    by_cases hlt : k < n
    · obtain ⟨⟨s1, s2⟩, hx⟩ := Mp.at_lt (l := l) (k := k) (by have := HN1.out; omega)
      obtain ⟨p1, c3, p2, c4, r1, r2, d0, d1⟩ := HC1.out k _ hx
      have hlt2 := HLt.out _ (List.mem_of_getElem? hx)
      dsimp only [lightS] at r1 r2 d0 d1 hlt2
      have d0 := below_cell HW.out _ _ d0
      have d1 := below_cell HW.out _ _ d1
      obtain rfl := HA1.out (by omega)
      have HX := hideT hx
      have Z1 := hideT (orow_z r1)
      have Z2 := hideT (crow_z r2)
      have BA := hideT ((Below.refl wr.heap.size wr).alloc (Nat.le_refl _) (.cells #[.slice p1 s1.length c3, .slice p2 s2.length c4] 25))
      have R1 := hideT (orow_below r1 (HW.out.trans (BA.out.mono HW.out.size)))
      have R2 := hideT (crow_below r2 (HW.out.trans (BA.out.mono HW.out.size)))
      have l1 := hlt2.1
      have l2 := hlt2.2
      clear hx r1 r2 hlt2
      have t1 : (0 : Int) ≤ (k : Int) := by omega
      have t2 : (k : Int) < (n : Int) := by omega
      go_wp2_with fail
      refine (sentryOfD p1 p2 c3 c4 s1 s2 _ R1.out R2.out (by omega) (by omega)).mono ?_
      rintro e w1 ⟨q1, e1, q2, e2, rfl, n1, n2, b1'⟩
      dsimp only at n1 n2
      have BA1 := hideT (BA.out.trans (b1'.mono BA.out.size))
      obtain ⟨C, hC⟩ : ∃ C, w1.alloc (.cells #[.slice q1 s1.length e1, .slice q2 s2.length e2] 60) = C := ⟨_, rfl⟩
      have LC : Hid (Lies C w1.heap.size 60 #[.slice q1 s1.length e1, .slice q2 s2.length e2]) := by rw [← hC]; exact Lies.new _ _ _
      have BC1 : Below w1.heap.size w1 C := by rw [← hC]; exact (Below.refl _ _).alloc (Nat.le_refl _) _
      have BC : Hid (Below wr.heap.size wr C) := BA1.out.trans (BC1.mono BA1.out.size)
      have hge : wr.heap.size ≤ (wr.alloc (.cells #[.slice p1 s1.length c3, .slice p2 s2.length c4] 25)).heap.size + 2 := by have := BA.out.size; omega
      have N1 : Hid (OwnE wr.heap.size 2 84 onE (.slice q1 s1.length e1) s1 C) := own_lower (n1.below BC1) hge
      have N2 : Hid (OwnE wr.heap.size 3 89 condE (.slice q2 s2.length e2) s2 C) := own_lower (n2.below BC1) hge
      have x0 : C.cell? ⟨w1.heap.size, 0, none⟩ = some (.slice q1 s1.length e1) := LC.out.cell 0
      clear n1 n2 b1' BC1 hge
      dsimp only
      go_wp2_with fail
      refine (sortOnD C wr.heap.size q1 s1.length e1 s1 N1.out rfl (by omega)).mono ?_
      rintro e w2 ⟨rfl, o2, g2⟩
      have O2 := hideT o2
      have G2 := hideT g2
      have N2' : Hid (OwnE wr.heap.size 3 89 condE (.slice q2 s2.length e2) s2 w2) := own_gb N2.out g2 (own_ne2 N2.out N1.out (by decide))
      have LC2 : Hid (Lies w2 w1.heap.size 60 #[.slice q1 s1.length e1, .slice q2 s2.length e2]) := lies_gb LC.out g2 (own_ne N1.out LC.out (by decide))
      have x1 : w2.cell? ⟨w1.heap.size, 1, none⟩ = some (.slice q2 s2.length e2) := LC2.out.cell 1
      have BW2 : Hid (Below wr.heap.size wr w2) := BC.out.grown g2 BC.out.size (fun g hg => (own_lt N1.out hg).2)
      clear o2 g2 x0
      go_wp2_with fail
      refine (onceCondD w2 wr.heap.size q2 s2.length e2 s2 N2'.out rfl (by omega)).mono ?_
      rintro e w3 ⟨q3, e3, rfl, o3, g3⟩
      obtain ⟨lc3, sin⟩ := sent_made BC.out.size N1.out N2.out LC.out O2.out G2.out o3 g3 Z1.out Z2.out (by omega) (by omega)
      have LC3 := hideT lc3
      have SN := hideT sin
      have BW3 : Hid (Below wr.heap.size wr w3) := BW2.out.grown g3 BW2.out.size (fun g hg => (own_lt N2'.out hg).2)
      have y1 : w3.cell? ⟨w1.heap.size, 1, none⟩ = some (.slice q2 s2.length e2) := lc3.cell 1
      have f1 : w3.frozen? ⟨w1.heap.size, 1, none⟩ = false := lc3.free 1
      clear lc3 sin o3 g3 x1
      have y0 : w3.cell? ⟨w1.heap.size, 0, none⟩ = some (.slice q1 s1.length e1) := LC3.out.cell 0
      obtain ⟨w4, h4⟩ : ∃ w4, w3.setCell ⟨w1.heap.size, 1, none⟩ (.slice q3 (Np.sortU Np.condC s2).length e3) = w4 := ⟨_, rfl⟩
      have LC4 : Hid (Lies w4 w1.heap.size 60 #[.slice q1 s1.length e1, .slice q3 (Np.sortU Np.condC s2).length e3]) := by rw [← h4]; exact LC3.out.set 1 _
      have SN4 : Hid (SIn w.heap.size w4 ((.slice q1 s1.length e1, .slice q3 (Np.sortU Np.condC s2).length e3), Np.sentN (s1, s2))) := by rw [← h4]; exact (SN.out.box LC3.out _).lower HW.out.size
      have BW4 : Hid (Below wr.heap.size wr w4) := by rw [← h4]; exact BW3.out.setCell (by have := BA1.out.size; exact this) _
      have z0 : w4.cell? ⟨w1.heap.size, 0, none⟩ = some (.slice q1 s1.length e1) := LC4.out.cell 0
      have z1 : w4.cell? ⟨w1.heap.size, 1, none⟩ = some (.slice q3 (Np.sortU Np.condC s2).length e3) := LC4.out.cell 1
      have HO4 := hideT (own_below HO.out BW4.out)
      have HWs := BW4.out.size
      have HWs2 := HW.out.size
      go_wp2_with (first | (at_builtin; refine wpList_append_lies _ (by rfl) _ _ _ (by rfl) w.heap.size 60 i0 _ 2 48 Tryz.underlying127 hi0 hz0 hz1 hz2 rfl (by omega) (.slice ra k rc) k (L.map pE).flatten (by rfl) (HO4.out.alloc _) ⟨w4.heap.size, 0, none⟩ 1 1 [.slice q1 s1.length e1, .slice q3 (Np.sortU Np.condC s2).length e3] (by rfl) (by rfl) (news1 w4 #[.slice q1 s1.length e1, .slice q3 (Np.sortU Np.condC s2).length e3] 60) (by simp [Value.oneCell']) (by omega) (by unfold maxLen; omega) (by omega) (by simp; omega) (w4.heap.size + 1) (by simp) ?_; intro gb cap2 w5 hown hgrow hat hlt3) | fail)
      have BAl := hideT ((Below.refl w4.heap.size w4).alloc (Nat.le_refl _) (.cells #[.slice q1 s1.length e1, .slice q3 (Np.sortU Np.condC s2).length e3] 60))
      have HOa := hideT (HO4.out.alloc (.cells #[.slice q1 s1.length e1, .slice q3 (Np.sortU Np.condC s2).length e3] 60))
      have HS5 : Hid (∀ p ∈ L ++ [((.slice q1 s1.length e1, .slice q3 (Np.sortU Np.condC s2).length e3), Np.sentN (s1, s2))], SIn w.heap.size w5 p) := by
        intro p hp
        rcases List.mem_append.1 hp with hp | hp
        · exact ((((HS.out p hp).below BW4.out).below BAl.out).gb HOa.out (by decide) (by decide) hgrow)
        · rw [List.mem_singleton.1 hp]
          exact (SN4.out.below BAl.out).gb HOa.out (by decide) (by decide) hgrow
      have HM5 : Hid ((L ++ [(((Value.slice q1 s1.length e1, Value.slice q3 (Np.sortU Np.condC s2).length e3), Np.sentN (s1, s2)) : (Value × Value) × Mp.Sent)]).map (·.2) = (l.take (k + 1)).map Np.sentN) := by
        show _ = _
        rw [List.map_append, HM.out, Mp.take_at HX.out, List.map_append]
        rfl
      have HO5 : Hid (w5.ownsRow w.heap.size 60 2 (.slice (some ⟨gb, 0, none⟩) (k + 1) cap2) (k + 1) ((L ++ [(((Value.slice q1 s1.length e1, Value.slice q3 (Np.sortU Np.condC s2).length e3), Np.sentN (s1, s2)) : (Value × Value) × Mp.Sent)]).map pE).flatten) := by
        have e : ((L ++ [(((Value.slice q1 s1.length e1, Value.slice q3 (Np.sortU Np.condC s2).length e3), Np.sentN (s1, s2)) : (Value × Value) × Mp.Sent)]).map pE).flatten = (L.map pE).flatten ++ [.slice q1 s1.length e1, .slice q3 (Np.sortU Np.condC s2).length e3] := by
          rw [List.map_append, List.flatten_append]
          rfl
        show World.ownsRow _ _ _ _ _ _ _
        rw [e]
        exact hown
      have HW5 : Hid (Below w.heap.size w w5) := ((HW.out.trans (BW4.out.mono HW.out.size)).trans (BAl.out.mono (by omega))).grown hgrow (by simp; omega) (fun g hg => (own_lt HOa.out hg).2)
      clear hown hgrow hat
      refine ⟨⟨k + 1, some ⟨gb, 0, none⟩, cap2, _, by omega, by go_num, rfl, by rw [List.length_append, HLK.out]; rfl, HO5, HS5, HM5, HW5⟩, ?_⟩
      first | omega | (simp [intOf]; omega)
    · have hkn : k = n := by omega
      subst hkn
      obtain ⟨hE, hSS⟩ := pmap_E L HS.out
      obtain ⟨LS, hLS⟩ : ∃ LS, L.pmap (fun p hp => (⟨p, hp⟩ : SE w.heap.size wr)) HS.out = LS := ⟨_, rfl⟩
      rw [hLS] at hE hSS
      have hlen : LS.length = L.length := by rw [← hLS, List.length_pmap]
      have HOs : Hid (wr.ownsRow w.heap.size 60 2 (.slice ra k rc) k (LS.map seE).flatten) := by show World.ownsRow _ _ _ _ _ _ _; rw [hE]; exact HO.out
      have HMs : Hid (LS.map seS = l.map Np.sentN) := by
        show _ = _
        rw [hSS, HM.out, List.take_of_length_le (by have := HN1.out; omega)]
      have HLs : Hid (k = LS.length) := by show k = _; rw [hlen, HLK.out]
      clear hE hSS hLS hlen
      go_wp2_with fail
      refine (onceSentD wr w.heap.size w.heap.size ra k rc LS HOs.out HLs.out hn).mono ?_
      rintro e w2 ⟨a2, c2, L2, rfl, hm2, o2, g2⟩
      have HO2 := hideT o2
      have HM2 : Hid (L2.map seS = Np.sentsN l) := by
        show _ = _
        rw [hm2, HMs.out]
        rfl
      have HIn : Hid (∀ z, SIn w.heap.size wr z → SIn w.heap.size w2 z) := fun z hz => hz.gb HOs.out (by decide) (by decide) g2
      have HW2 : Hid (Below w.heap.size w w2) := HW.out.grown g2 HW.out.size (fun g hg => (own_lt HOs.out hg).2)
      have hl2 : L2.length ≤ 1000 := by
        have h1 := Np.sentsN_length l
        rw [← HM2.out, List.length_map] at h1
        have := HN1.out
        omega
      have HSR : Hid (SRow w2 (.slice a2 L2.length c2) (L2.map seS)) := by
        refine rowR_of_own (CS := L2.map seE) (by rw [List.length_map]; exact HO2.out) (by rw [List.length_map]; omega) (by rw [List.length_map, List.length_map]) (fun x hx => by obtain ⟨y, _, rfl⟩ := List.mem_map.1 hx; rfl) fun i x cs hx hcs => ?_
        rw [List.getElem?_map] at hx hcs
        cases hh : L2[i]? with
        | none => rw [hh] at hx; cases hx
        | some y =>
          rw [hh] at hx hcs
          cases hx
          cases hcs
          exact (HIn.out y.1 y.2).sentR
      have HLi : Hid (∀ s ∈ L2.map seS, lightS s) := by
        intro s hs
        rw [HM2.out] at hs
        obtain ⟨t, ht, rfl⟩ := Np.mem_sentsN.1 hs
        obtain ⟨h1, h2⟩ := HLt.out t ht
        refine ⟨?_, ?_⟩
        · show (Np.sortC Np.onC t.1).length < 400
          rw [Np.sortC_length]
          exact h1
        · show (Np.sortU Np.condC t.2).length < 400
          have := Np.sortU_length Np.condC t.2
          omega
      clear o2 g2 hm2
      go_wp2_with fail
      refine (eachSP w2 a2 L2.length c2 (L2.map seS) HSR.out hl2 HLi.out).mono ?_
      rintro e w3 ⟨a3, c3, rfl, nr, b3⟩
      have NR := hideT nr
      have B3 := hideT b3
      clear nr b3
      go_wp2_with fail
      go_ret
      rw [← HM2.out]
      exact ⟨a3, c3, (congrArg (fun q => Ending.returned (Value.slice a3 q c3)) (List.length_map seS).symm : Ending.returned (Value.slice a3 L2.length c3) = _), NR.out.low HW2.out.size, HW2.out.trans (B3.out.mono HW2.out.size)⟩
end Go.Proofs.YtdcahnaempabcabGreat
