/-
  ModelLess: without its last item a model that may be may still be, if no sentry asks for that.
-/
import Derived.Test.YtfbnlplafkangabMLessP
import Derived.Test.YtfbnlplafkangabMApp
import Derived.Test.YtfbnlplafkangabMHeavy
import Derived.Test.YtfbnlplafkangabMLaw
set_option linter.unusedSimpArgs false
set_option linter.unusedVariables false
namespace Go.Proofs.Ytfbnlplafkangab
open Go.RowKit
def XR (w w2 : World) (m : Mp.Model) (af : Option Addr) (cf b o ci n : Nat) (ws : World) : Prop :=
  MR w m af (some ⟨b, o, none⟩) cf ci ws ∧ Lies ws w2.heap.size 25 #[.slice af m.files.length cf, .slice (some ⟨b, o, none⟩) n ci]
theorem XR.below {w w2 : World} {m : Mp.Model} {af : Option Addr} {cf b o ci n : Nat} {ws w' : World} (h : XR w w2 m af cf b o ci n ws) (hb : Below ws.heap.size ws w') : XR w w2 m af cf b o ci n w' := ⟨h.1.below hb, h.2.below hb⟩
def anyO (id : ByteArray) (l : List Mp.On) : Bool := l.any fun o => decide (o.1 = id)
set_option maxHeartbeats 8000000 in
set_option maxRecDepth 100000 in
theorem modelLess_walk (af : Option Addr) (cf : Nat) (ai : Option Addr) (ci : Nat) (m : Mp.Model) {w : World} (hm : ModelAt w af cf ai ci m) :
    Calls Try.prog 3 #[.agg #[.slice af m.files.length cf, .slice ai m.items.length ci]] w fun e w' => e = .returned (.bool true) ∧ Below w.heap.size w w' := by
  obtain ⟨_, hil, hicap, b, o, ha, hc⟩ := irow_at hm.items
  obtain ⟨_, hfl, hfcap, _⟩ := frow_at hm.files
  have HC := hideT hc
  have HA := hideT ha
  have HM := hideT hm
  have M0 := hideT (MR.new w m af ai cf ci)
  clear hc ha hm
  go_enter Try.func3, Try.ntmps3
  go_wp2_with fail
  refine (heavyD _ m af ai cf ci (HM.out.below M0.out.1)).mono ?_
  rintro e w1 ⟨bh, rfl, hlight, p1⟩
  have M1 := hideT (M0.out.below p1)
  clear p1
  cases bh
  rotate_left
  · go_wp2_with fail
    go_ret
    exact ⟨rfl, M1.out.1⟩
  have HLI := hideT (hlight rfl)
  clear hlight
  have x0 : w1.cell? ⟨w.heap.size, 0, none⟩ = some (.slice af m.files.length cf) := M1.out.2.cell 0
  have x1 : w1.cell? ⟨w.heap.size, 1, none⟩ = some (.slice ai m.items.length ci) := M1.out.2.cell 1
  obtain ⟨bi, HI⟩ : ∃ y, Hid (Mp.isB m = y) := ⟨_, rfl⟩
  go_wp2_with fail
  refine (isRefV _ m af ai cf ci (HM.out.below M1.out.1) bi HI).mono ?_
  rintro e w2 ⟨rfl, p2⟩
  have M2 := hideT (M1.out.below p2)
  clear p2 x0 x1
  cases bi
  · go_wp2_with fail
    go_ret
    exact ⟨rfl, M2.out.1⟩
  have x0 : w2.cell? ⟨w.heap.size, 0, none⟩ = some (.slice af m.files.length cf) := M2.out.2.cell 0
  have x1 : w2.cell? ⟨w.heap.size, 1, none⟩ = some (.slice ai m.items.length ci) := M2.out.2.cell 1
  by_cases h2 : m.items.length < 2
  · go_wp2_with fail
    go_ret
    exact ⟨rfl, M2.out.1⟩
  obtain ⟨n, hn⟩ : ∃ n, m.items.length = n + 1 := ⟨m.items.length - 1, by omega⟩
  have hn1 : 1 ≤ n := by omega
  obtain ⟨y, hy⟩ := Mp.at_lt (l := m.items) (k := n) (by omega)
  have HY := hideT hy
  have HN := hideT hn
  obtain rfl := HA.out (by omega)
  have HLESS := hideT (Mp.less_is HI.out hn hn1 hy)
  rw [hn] at x1 hil hicap h2
  rw [hn]
  have hM := HM.out
  clear hn hy
  have t0 : (0 : Int) ≤ (n : Int) := by omega
  have t1 : (n : Int) ≤ (ci : Int) := by omega
  go_wp2_with fail
  go_region_held3 (fun w' => w'.cell? ⟨w.heap.size, 0, none⟩ = some (.slice af m.files.length cf) ∧ w'.cell? ⟨w.heap.size, 1, none⟩ = some (.slice (some ⟨b, o, none⟩) (n + 1) ci)) (go_keep) (fail)
  have X4 : Hid (XR w w2 m af cf b o ci n ((w2.alloc (.cells #[.slice af m.files.length cf, .slice (some ⟨b, o, none⟩) n ci] 25)).drew)) := ⟨M2.out.below (((Below.refl _ _).alloc (Nat.le_refl _) _).drew), (Lies.new _ _ _).below ((Below.refl _ _).drew)⟩
  clear x0 x1 hM
  go_wp2_with fail
  go_loopw [5, 6] (fun a i ws => ∃ (k : Nat) (B : Bool), k ≤ n ∧ i = .int .i64 k ∧ a = .bool B ∧ Hid (B = (m.items.take k).any fun x => Mp.askS y.id (x.entry ++ x.exit)) ∧ Hid (XR w w2 m af cf b o ci n ws)) (fun _ i _ => n - (intOf i).toNat)
  case atStart => exact ⟨0, false, by omega, rfl, rfl, rfl, X4⟩
  case round =>
    obtain ⟨k, B, hk, rfl, rfl, HB, HW⟩ := hrel
    have x1 : wr.cell? ⟨w.heap.size, 1, none⟩ = some (.slice (some ⟨b, o, none⟩) (n + 1) ci) := by
      have := HW.out.1.2.cell 1
      rw [HN.out] at this
      exact this
    by_cases hlt : k < n
    · obtain ⟨x, hx⟩ := Mp.at_lt (l := m.items) (k := k) (by have := HN.out; omega)
      obtain ⟨a5, c5, a6, c6, I0⟩ := HC.out k _ hx
      have d5 := below_cell HW.out.1.1 _ _ I0.c5
      have d6 := below_cell HW.out.1.1 _ _ I0.c6
      have hlx := HLI.out.2.2 x (List.mem_of_getElem? hx)
      have hl5 : x.entry.length < 400 := hlx.1
      have hl6 : x.exit.length < 400 := hlx.2.1
      have HX := hideT hx
      have B9 : Below wr.heap.size wr ((wr.alloc (.cells #[] 33)).drew) := ((Below.refl _ _).alloc (Nat.le_refl _) _).drew
      have own0 : ((wr.alloc (.cells #[] 33)).drew).ownsRow wr.heap.size 33 2 (.slice (some ⟨wr.heap.size, 0, none⟩) 0 0) 0 [] := own_of_lies (n := 0) (z := 2) ((Lies.new wr 33 #[]).below ((Below.refl _ _).drew)) (Nat.le_refl _) rfl (by decide)
      obtain ⟨ad1, cap1, wA, CS1, hr1, ho1, hg1, n1, z1, r1⟩ := app_run wr _ B9 27 wr.heap.size _ 0 0 [] own0 B9.size a5 x.entry.length c5 x.entry (srow_below I0.entry HW.out.1.1) (by omega) (by omega)
      have BA : Below wr.heap.size wr wA := Keep.below B9 (Keep.grown hg1) (fun i hi e => by have := (own_lt own0 e).2; omega)
      obtain ⟨ad2, cap2, wB, CS2, hr2, ho2, hg2, n2, z2, r2⟩ := app_run wr wA BA 27 wr.heap.size ad1 cap1 (0 + x.entry.length) _ ho1 BA.size a6 x.exit.length c6 x.exit (srow_below I0.exit HW.out.1.1) (by omega) (by omega)
      have BB : Below wr.heap.size wr wB := Keep.below BA (Keep.grown hg2) (fun i hi e => by have := (own_lt ho1 e).2; omega)
      have BAB : ∀ a c, ((wr.alloc (.cells #[] 33)).drew).cell? a = some c → True := fun _ _ _ => trivial
      have e5 := below_cell BA _ _ d5
      have e6 := below_cell BA _ _ d6
      have e1 := below_cell BA _ _ x1
      have g5 := below_cell BB _ _ d5
      have g6 := below_cell BB _ _ d6
      have g1 := below_cell BB _ _ x1
      have t2 : (0 : Int) ≤ (k : Int) := by omega
      have t3 : (k : Int) < (n : Int) + 1 := by omega
      have HR1 := hideT hr1
      have HR2 := hideT hr2
      have HO2 := hideT ho2
      have HBB := hideT BB
      have HBA := hideT BA
      clear hr1 hr2 ho2 BB BA ho1 hg1 hg2 own0 BAB B9 hx
      go_wp2_with fail
      go_region_held3 (fun w' => w'.cell? ⟨w.heap.size, 1, none⟩ = some (.slice (some ⟨b, o, none⟩) (n + 1) ci) ∧ w'.cell? ⟨b, o + k * 7 + 5, none⟩ = some (.slice a5 x.entry.length c5) ∧ w'.cell? ⟨b, o + k * 7 + 6, none⟩ = some (.slice a6 x.exit.length c6)) (go_keep) (first
        | (refine step_app (by rfl) _ _ _ (by rfl) (.slice (some ⟨wr.heap.size, 0, none⟩) 0 0) (.slice a5 x.entry.length c5) (by rfl) (by rfl) _ _ 27 (by rfl) HR1.out ?_)
        | (refine step_app (by rfl) _ _ _ (by rfl) (.slice ad1 (0 + x.entry.length) cap1) (.slice a6 x.exit.length c6) (by rfl) (by rfl) _ _ 27 (by rfl) HR2.out ?_))
      obtain ⟨L, hL⟩ : ∃ L, L = x.entry ++ x.exit := ⟨_, rfl⟩
      have hLl : L.length = 0 + x.entry.length + x.exit.length := by rw [hL, List.length_append]; omega
      have SL : SRow wB (.slice ad2 L.length cap2) L := by
        have ho := HO2.out
        rw [← hLl, List.nil_append, ← List.flatten_append] at ho
        refine rowR_of_own ho (by omega) (by rw [List.length_append, n1, n2, hL, List.length_append]) (fun cs hcs => ?_) (fun i s cs hs hcs => ?_)
        · rcases List.mem_append.1 hcs with h | h
          · exact z1 cs h
          · exact z2 cs h
        · refine sentR_turn ?_ (below_cell HBB.out)
          rw [hL] at hs
          rcases Nat.lt_or_ge i x.entry.length with hi | hi
          · rw [List.getElem?_append_left hi] at hs
            rw [List.getElem?_append_left (by omega)] at hcs
            exact r1 i s cs hs hcs
          · rw [List.getElem?_append_right hi] at hs
            rw [List.getElem?_append_right (by omega), n1] at hcs
            exact r2 _ s cs hs hcs
      have hLl2 : x.entry.length + x.exit.length = L.length := by omega
      simp only [Nat.zero_add]
      rw [hLl2]
      have hLb : L.length < 1000 := by omega
      have HLL := hideT hL
      obtain ⟨_, _, _, lb, lo, hla, hlc⟩ := srow_at SL
      have HLA := hideT hla
      have HLC := hideT hlc
      have XB := hideT (HW.out.below HBB.out)
      have HYC := hideT (HC.out n y HY.out)
      obtain ⟨WB, hWB⟩ : ∃ WB, WB = wB := ⟨wB, rfl⟩
      subst hWB
      clear SL hL hLl hLl2 hla hlc e5 e6 e1 g5 g6 g1 d5 d6 x1 HR1 HR2 HO2 HBA n1 z1 r1 n2 z2 r2 hlx hl5 hl6 I0
      go_wp2_with fail
      go_loopw [5, 8] (fun a i ws => ∃ (k2 : Nat) (B2 : Bool), k2 ≤ L.length ∧ i = .int .i64 k2 ∧ a = .bool B2 ∧ Hid (B2 = (B || (L.take k2).any fun s => anyO y.id s.1)) ∧ Hid (Below WB.heap.size WB ws)) (fun _ i _ => L.length - (intOf i).toNat)
      case atStart => exact ⟨0, B, by omega, rfl, rfl, (by show B = (B || _); simp), Below.refl _ _⟩
      case round =>
        obtain ⟨k2, B2, hk2, rfl, rfl, HB2, HV⟩ := hrel
        by_cases hlt2 : k2 < L.length
        · obtain ⟨s, hs⟩ := Mp.at_lt (l := L) (k := k2) hlt2
          obtain ⟨p1, q1, p2, q2, r1, r2, f0, f1⟩ := HLC.out k2 s hs
          obtain rfl := HLA.out (by omega)
          have HS := hideT hs
          have HF0 := hideT f0
          obtain ⟨_, hol, _, ob, oo, hoa, hoc⟩ := orow_at r1
          have HOA := hideT hoa
          have HOC := hideT hoc
          obtain ⟨W2', hW2'⟩ : ∃ W2', W2' = wr := ⟨wr, rfl⟩
          subst hW2'
          clear hs r1 r2 f0 f1 hoa hoc
          have t4 : (0 : Int) ≤ (k2 : Int) := by omega
          have t5 : (k2 : Int) < (L.length : Int) := by omega
          go_wp2_with fail
          go_loopw [5, 9] (fun a i ws => ∃ (j : Nat) (B3 : Bool), j ≤ s.1.length ∧ i = .int .i64 j ∧ a = .bool B3 ∧ Hid (B3 = (B2 || anyO y.id (s.1.take j))) ∧ Hid (Below WB.heap.size WB ws)) (fun _ i _ => s.1.length - (intOf i).toNat)
          case atStart => exact ⟨0, B2, by omega, rfl, rfl, (by show B2 = (B2 || _); simp [anyO]), HV⟩
          case round =>
            obtain ⟨j, B3, hj, rfl, rfl, HB3, HU⟩ := hrel
            have f0 := below_cell HU.out _ _ HF0.out
            by_cases hj2 : j < s.1.length
            · obtain ⟨⟨o1, o2⟩, ho⟩ := Mp.at_lt (l := s.1) (k := j) hj2
              obtain ⟨_, g0, g1⟩ := HOC.out j _ ho
              have g0 := below_cell HU.out _ _ g0
              have XU := XB.out.below HU.out
              have x1 : wr.cell? ⟨w.heap.size, 1, none⟩ = some (.slice (some ⟨b, o, none⟩) (n + 1) ci) := by
                have := XU.1.2.cell 1
                rw [HN.out] at this
                exact this
              obtain ⟨_, _, _, _, J0⟩ := HYC.out
              have g2 := below_cell XU.1.1 _ _ J0.c0
              obtain rfl := HOA.out (by omega)
              dsimp only at g0
              have HT : Hid (anyO y.id (s.1.take (j + 1)) = (anyO y.id (s.1.take j) || decide (o1 = y.id))) := by
                show _ = _
                unfold anyO
                rw [Mp.take_at ho, List.any_append]
                simp
              have s0 : (0 : Int) ≤ (j : Int) := by omega
              have s1 : (j : Int) < (s.1.length : Int) := by omega
              clear XU J0 g1 ho
              cases B3
              · by_cases e : o1 = y.id
                · have HR : Hid (true = (B2 || anyO y.id (s.1.take (j + 1)))) := by show _ = _; rw [HT.out, decide_eq_true e]; simp
                  subst e
                  go_wp2_with fail
                  go_quiet (fail)
                  go_wp2_with fail
                  refine ⟨⟨j + 1, true, by omega, by go_num, rfl, HR, below_drewN HU.out _⟩, ?_⟩
                  first | omega | (simp [intOf]; omega)
                · have HR : Hid (false = (B2 || anyO y.id (s.1.take (j + 1)))) := by show _ = _; rw [HT.out, decide_eq_false e, Bool.or_false]; exact HB3.out
                  have e1 : (o1.toList == y.id.toList) = false := beq_eq_false_iff_ne.2 fun h => e (toList_inj h)
                  clear e
                  go_wp2_with fail
                  go_quiet (fail)
                  go_wp2_with fail
                  refine ⟨⟨j + 1, false, by omega, by go_num, by first | rfl | simp, HR, below_drewN HU.out _⟩, ?_⟩
                  first | omega | (simp [intOf]; omega)
              · have HR : Hid (true = (B2 || anyO y.id (s.1.take (j + 1)))) := by
                  show _ = _
                  rw [HT.out, ← Bool.or_assoc, ← HB3.out]
                  rfl
                go_wp2_with fail
                go_quiet (fail)
                go_wp2_with fail
                refine ⟨⟨j + 1, true, by omega, by go_num, rfl, HR, below_drewN HU.out _⟩, ?_⟩
                first | omega | (simp [intOf]; omega)
            · have HR : Hid (B3 = (B || (L.take (k2 + 1)).any fun s => anyO y.id s.1)) := by
                show _ = _
                have e3 := HB3.out
                rw [show s.1.take j = s.1 from List.take_of_length_le (by omega), HB2.out] at e3
                rw [e3, Mp.take_at HS.out, List.any_append, Bool.or_assoc]
                simp
              go_wp2_with fail
              refine ⟨⟨k2 + 1, B3, by omega, by go_num, rfl, HR, HU⟩, ?_⟩
              first | omega | (simp [intOf]; omega)
        · have HR : Hid (B2 = (m.items.take (k + 1)).any fun x => Mp.askS y.id (x.entry ++ x.exit)) := by
            show _ = _
            have e3 := HB2.out
            rw [show L.take k2 = L from List.take_of_length_le (by omega), HB.out] at e3
            rw [e3, Mp.take_at HX.out, List.any_append, HLL.out]
            simp [Mp.askS, anyO]
          go_wp2_with fail
          refine ⟨⟨k + 1, B2, by omega, by go_num, rfl, HR, XB.out.below HV.out⟩, ?_⟩
          first | omega | (simp [intOf]; omega)
    · obtain rfl : k = n := by omega
      have hmod : ModelAt wr af cf (some ⟨b, o, none⟩) ci ⟨m.files, m.items.take k⟩ := by
        have h1 := HM.out.below HW.out.1.1
        have h2 := rowR_take h1.items k ci (by have := HN.out; omega) (by omega)
        refine ⟨h1.files, ?_⟩
        show IRow wr (.slice (some ⟨b, o, none⟩) (m.items.take k).length ci) (m.items.take k)
        rw [List.length_take, Nat.min_eq_left (by have := HN.out; omega)]
        exact h2
      have HMOD := hideT hmod
      have HLEN : Hid ((m.items.take k).length = k) := by show _ = _; rw [List.length_take]; have := HN.out; omega
      have HLB : Hid (Mp.isB ⟨m.files, m.items.take k⟩ = !B) := by show _ = _; rw [HLESS.out, HB.out]
      have y0 : wr.cell? ⟨w2.heap.size, 0, none⟩ = some (.slice af m.files.length cf) := HW.out.2.cell 0
      have y1 : wr.cell? ⟨w2.heap.size, 1, none⟩ = some (.slice (some ⟨b, o, none⟩) k ci) := HW.out.2.cell 1
      clear hmod hlt
      go_wp2_with fail
      refine (isVV _ _ _ _ _ _ _ _ HMOD.out rfl HLEN.out (!B) HLB).mono ?_
      rintro e w5 ⟨rfl, p5⟩
      have X5 := hideT (HW.out.below p5)
      clear p5 y0 y1 x1
      cases B
      all_goals
        go_wp2_with fail
        refine (knownD _).mono ?_
        rintro e w6 ⟨rfl, p6⟩
        go_wp2_with fail
        go_ret
        exact ⟨rfl, (X5.out.below p6).1.1⟩
end Go.Proofs.Ytfbnlplafkangab
