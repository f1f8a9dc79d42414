/-
  The walk of the law: behind each act nothing is left to do.
-/
import Derived.Test.YtpipjkbgbhefcaaGreatCActs
import Derived.Test.YtpipjkbgbhefcaaGreatCQuiet
import Derived.Test.YtpipjkbgbhefcaaGreatMHeavy
import Derived.Test.YtpipjkbgbhefcaaGreatMLaw
set_option linter.unusedSimpArgs false
set_option linter.unusedVariables false
namespace Go.Proofs.YtpipjkbgbhefcaaGreat
open Go.RowKit
set_option maxRecDepth 100000
section PQ
variable {w0 w w' : World} {K : Kc} {m : Mp.Model} {st : Cp.St}
theorem Lc.good (h : Lc w0 w K m st) : Cp.Good m st := by
  obtain ⟨v, L, N, ha, hb⟩ := h
  exact ha.good
theorem Lc.met (h : Lc w0 w K m st) (s : ByteArray) (ex : Bool) (i : Int) (b : Bool) (hb : Hid (metP m st s ex i = b)) :
    Calls Tryz.prog 19 #[cP K, .string s, .bool ex, .int .i64 i] w fun e w' => e = .returned (.bool b) ∧ Lc w0 w' K m st := by
  have h' := h
  obtain ⟨v, L, N, ha, hbb⟩ := h
  refine (metD ha.c ha.ok s ex i).mono ?_
  rintro e w' ⟨rfl, hw⟩
  exact ⟨by rw [hb.out], h'.below hw⟩
theorem Lc.stateB (h : Lc w0 w K m st) (s : ByteArray) (x : Int) (hx : Hid (Cp.stateN m st s = x)) :
    Calls Tryz.prog 18 #[cP K, .string s] w fun e w' => e = .returned (.int .i64 x) ∧ Below w.heap.size w w' := by
  obtain ⟨v, L, N, ha, hb⟩ := h
  refine (stateD ha.c s).mono ?_
  rintro e w' ⟨rfl, b⟩
  exact ⟨by rw [hx.out], b⟩
theorem Lc.metB (h : Lc w0 w K m st) (s : ByteArray) (ex : Bool) (i : Int) (b : Bool) (hb : Hid (metP m st s ex i = b)) :
    Calls Tryz.prog 19 #[cP K, .string s, .bool ex, .int .i64 i] w fun e w' => e = .returned (.bool b) ∧ Below w.heap.size w w' := by
  obtain ⟨v, L, N, ha, hbb⟩ := h
  refine (metD ha.c ha.ok s ex i).mono ?_
  rintro e w' ⟨rfl, hw⟩
  exact ⟨by rw [hb.out], hw⟩
end PQ
theorem met_exit {m : Mp.Model} {st : Cp.St} (hl : Mp.isB m = true) (q : Cp.Quiet m st) {k : Nat} (hk : k < m.items.length) (hs : Cp.at0 st.s k = 1 ∨ Cp.at0 st.s k = 2) {j : Nat} (hj : j < (Cp.itm m k).exit.length) : metP m st (Cp.itm m k).id true (j : Int) = false := by
  unfold metP sentL
  rw [Cp.place_self hl hk]
  simp only [if_true, Int.toNat_natCast]
  obtain ⟨x, hx⟩ := Mp.at_lt hj
  rw [hx]
  show (decide (0 ≤ (j : Int)) && Cp.hold m st x) = false
  rw [Cp.quiet_exit q hk hs (List.mem_of_getElem? hx)]
  simp
theorem met_entry {m : Mp.Model} {st : Cp.St} (hl : Mp.isB m = true) (q : Cp.Quiet m st) {k : Nat} (hk : k < m.items.length) (hs : Cp.at0 st.s k = 1) {j : Nat} (hj : j < (Cp.itm m k).entry.length) : metP m st (Cp.itm m k).id false (j : Int) = false := by
  unfold metP sentL
  rw [Cp.place_self hl hk]
  simp only [Int.toNat_natCast]
  obtain ⟨x, hx⟩ := Mp.at_lt hj
  have e : (if false = true then (Cp.itm m k).exit else (Cp.itm m k).entry)[j]? = some x := hx
  rw [e]
  show (decide (0 ≤ (j : Int)) && Cp.hold m st x) = false
  rw [Cp.quiet_entry hl q hk hs (List.mem_of_getElem? hx)]
  simp
theorem state_self {m : Mp.Model} {st : Cp.St} (hl : Mp.isB m = true) {k : Nat} (hk : k < m.items.length) : Cp.stateN m st (Cp.itm m k).id = Cp.at0 st.s k := by
  unfold Cp.stateN
  rw [Cp.place_self hl hk]
set_option maxHeartbeats 16000000 in
theorem planQuiet_walk (af : Option Addr) (cf : Nat) (ai : Option Addr) (ci : Nat) (m : Mp.Model) {w : World} (hm : ModelAt w af cf ai ci m) (v : Value) (l : List Cp.ActP) (hl : ActRow w v l) :
    Calls Tryz.prog 7 #[.agg #[.slice af m.files.length cf, .slice ai m.items.length ci], v] w fun e w' => e = .returned (.bool true) ∧ Below w.heap.size w w' := by
  obtain ⟨aa, ca, rfl⟩ := row_val hl
  obtain ⟨W, hW⟩ : ∃ W, w.alloc (.cells #[.slice af m.files.length cf, .slice ai m.items.length ci] 25) = W := ⟨_, rfl⟩
  obtain ⟨B1, L1, z1⟩ := of_alloc hW
  have x0 : W.cell? ⟨w.heap.size, 0, none⟩ = some (.slice af m.files.length cf) := L1.cell 0
  have x1 : W.cell? ⟨w.heap.size, 1, none⟩ = some (.slice ai m.items.length ci) := L1.cell 1
  have HL1 := hideT L1
  have HB := hideT B1
  have HM := hideT (hm.below B1)
  have HA := hideT (actrow_below hl B1)
  have HH := hideT (heavyD W m af ai cf ci (hm.below B1))
  clear hm hl B1 L1 z1
  go_enter Tryz.func7, Tryz.ntmps7
  go_wp2_with fail
  refine HH.out.mono ?_
  rintro e w1 ⟨b, rfl, hlt, b1⟩
  have HLT := hideT hlt
  have HB1 := hideT b1
  clear hlt b1
  cases b with
  | true =>
    go_wp2_with fail
    go_ret
    exact ⟨rfl, HB.out.trans (HB1.out.mono HB.out.size)⟩
  | false =>
  have HT := hideT (textsD w1 aa _ ca l (actrow_below HA.out HB1.out))
  clear x0 x1
  go_wp2_with fail
  refine HT.out.mono ?_
  rintro e w2 ⟨b, rfl, hlen, b2⟩
  have HLN := hideT hlen
  have HB2 := hideT (belowS HB1.out b2)
  clear hlen b2 HT
  cases b with
  | false =>
    go_wp2_with fail
    go_ret
    exact ⟨rfl, belowS HB.out HB2.out⟩
  | true =>
  have HM2 := hideT (HM.out.below HB2.out)
  have HL2 := hideT (HL1.out.below HB2.out)
  have x0 : w2.cell? ⟨w.heap.size, 0, none⟩ = some (.slice af m.files.length cf) := HL2.out.cell 0
  have x1 : w2.cell? ⟨w.heap.size, 1, none⟩ = some (.slice ai m.items.length ci) := HL2.out.cell 1
  obtain ⟨ib, hib⟩ : ∃ b, Mp.isB m = b := ⟨_, rfl⟩
  have HI := hideT (isRefV w2 m af ai cf ci HM2.out ib hib)
  have HIB := hideT hib
  clear hib
  go_wp2_with fail
  refine HI.out.mono ?_
  rintro e w3 ⟨rfl, b3⟩
  have HB3 := hideT (belowS HB2.out b3)
  clear b3 HI
  cases ib with
  | false =>
    go_wp2_with fail
    go_ret
    exact ⟨rfl, belowS HB.out HB3.out⟩
  | true =>
  have HM3 := hideT (HM.out.below HB3.out)
  have HL3 := hideT (HL1.out.below HB3.out)
  have x0 : w3.cell? ⟨w.heap.size, 0, none⟩ = some (.slice af m.files.length cf) := HL3.out.cell 0
  have x1 : w3.cell? ⟨w.heap.size, 1, none⟩ = some (.slice ai m.items.length ci) := HL3.out.cell 1
  have HNW := hideT (Lc.new (w0 := W) HB3.out m af ai cf ci HM3.out (HLT.out trivial) HIB.out _ _ rfl rfl (Cp.newP m) rfl)
  go_wp2_with fail
  refine HNW.out.mono ?_
  rintro e w4 ⟨K, rfl, c4⟩
  have C4 := hideT c4
  clear c4 HNW x0 x1
  obtain ⟨n, hn⟩ : ∃ n, l.length = n := ⟨_, rfl⟩
  have HLL := hideT hn
  have hn60 : n ≤ 60 := by rw [← hn]; exact HLN.out trivial
  rw [hn]
  clear hn
  have HAn : Hid (ActRow W (.slice aa n ca) l) := by have := HA.out; rw [HLL.out] at this; exact this
  obtain ⟨v1, v2, v3, ab, ao, haa, hac⟩ := actrow_at HAn.out
  clear v1 v2 v3
  have HAA := hideT haa
  have HAC := hideT hac
  obtain ⟨v1, v2, v3, ib, io, hia, hic⟩ := irow_at HM.out.items
  clear v1 v2 v3
  have hn1 := (Mp.is_parts HIB.out).1
  obtain rfl := hia hn1
  have HIC := hideT hic
  have h16 := Cp.items_le HIB.out
  obtain ⟨q, hq⟩ : ∃ q, m.items.length = q := ⟨_, rfl⟩
  have HQL := hideT hq
  have HL1q : Hid (Lies W w.heap.size 25 #[.slice af m.files.length cf, .slice (some ⟨ib, io, none⟩) q ci]) := by have := HL1.out; rw [hq] at this; exact this
  rw [hq] at hn1 h16
  clear haa hac hia hic hq
  go_wp2_with fail
  go_loopw [7] (fun i wr => ∃ j : Nat, j ≤ n ∧ i = .int .i64 j ∧ ∃ st, Hid (Lc W wr K m st) ∧ Hid (Cp.Quiet m st) ∧ Hid (st.now ≤ j)) (fun i _ => n - (intOf i).toNat)
  case atStart => exact ⟨0, Nat.zero_le _, rfl, _, C4.out, Cp.quiet_new HIB.out, by show (Cp.newP m).now ≤ _; rw [Cp.new_now]; exact Int.le_refl _⟩
  case round =>
    obtain ⟨j, hj, rfl, st, CJ, HQ, HNW⟩ := hrel
    by_cases hlt : j < n
    · obtain ⟨a, ha⟩ := Mp.at_lt (l := l) (k := j) (by have := HLL.out; omega)
      obtain ⟨_, d0, d1, d2, d3, d4⟩ := HAC.out j a ha
      have HBJ := hideT CJ.out.base
      have d0 := below_cell HBJ.out _ _ d0
      have d1 := below_cell HBJ.out _ _ d1
      have d2 := below_cell HBJ.out _ _ d2
      have d3 := below_cell HBJ.out _ _ d3
      have d4 := below_cell HBJ.out _ _ d4
      obtain rfl := HAA.out (by omega)
      have t0 : (0 : Int) ≤ (j : Int) := by omega
      have t1 : (j : Int) < (n : Int) := by omega
      have HDQ := hideT (Cp.do_quiet HIB.out CJ.out.good HQ.out a)
      have HDO := hideT (CJ.out.do (by have := HNW.out; omega) a (Cp.doP m st a).1 (Cp.doP m st a).2 rfl)
      clear ha
      go_wp2_with fail
      refine HDO.out.mono ?_
      rintro e w5 ⟨rfl, c5⟩
      have C5 := hideT c5
      clear c5 d0 d1 d2 d3 d4 HDO
      go_wp2_with fail
      refine ⟨⟨j + 1, by omega, by go_num, _, C5.out, HDQ.out.1, ?_⟩, ?_⟩
      · have h1 := HDQ.out.2
        have h2 := HNW.out
        show (Cp.doP m st a).2.now ≤ _
        omega
      · first | omega | (simp [intOf]; omega)
    have t1 : (n : Int) ≤ (j : Int) := by omega
    have CQ := hideT CJ.out
    clear CJ
    go_wp2_with fail
    go_loopw [8] (fun i wk => ∃ k : Nat, 1 ≤ k ∧ k ≤ q ∧ i = .int .i64 k ∧ Hid (Lc W wk K m st)) (fun i _ => q - (intOf i).toNat)
    case atStart => exact ⟨1, Nat.le_refl _, hn1, rfl, CQ.out⟩
    case round =>
      obtain ⟨k, hk1, hk, rfl, CK⟩ := hrel
      have HBK := hideT CK.out.base
      have y1 : wr.cell? ⟨w.heap.size, 1, none⟩ = some (.slice (some ⟨ib, io, none⟩) q ci) := (HL1q.out.below HBK.out).cell 1
      by_cases hlk : k < q
      rotate_left
      · have t2 : (q : Int) ≤ (k : Int) := by omega
        go_wp2_with fail
        refine (known9 wr).mono ?_
        rintro e w9 ⟨rfl, b9⟩
        have HB9 := hideT (belowS HB.out (belowS HBK.out b9))
        clear b9
        go_wp2_with fail
        go_ret
        exact ⟨rfl, HB9.out⟩
      have hkm : k < m.items.length := by have := HQL.out; omega
      have HKM := hideT hkm
      obtain ⟨a5, c5, a6, c6, I0⟩ := HIC.out k _ (Cp.itm_at hkm)
      have I1 := I0.turn (below_cell HBK.out)
      have d0 := I1.c0
      have d1 := I1.c1
      have d2 := I1.c2
      have d3 := I1.c3
      have d4 := I1.c4
      have d5 := I1.c5
      have d6 := I1.c6
      have t2 : (0 : Int) ≤ (k : Int) := by omega
      have t3 : (k : Int) < (q : Int) := by omega
      obtain ⟨X, hX⟩ : ∃ X, wr.alloc (.cells #[.string (Cp.itm m k).id, .int .i64 (Cp.itm m k).kind, .string (Cp.itm m k).parent, .bool (Cp.itm m k).req, .int .i64 (Cp.itm m k).ticks, .slice a5 (Cp.itm m k).entry.length c5, .slice a6 (Cp.itm m k).exit.length c6] 48) = X := ⟨_, rfl⟩
      obtain ⟨BX, LX, zX⟩ := of_alloc hX
      have CX := hideT (CK.out.below BX)
      obtain ⟨s, hs⟩ : ∃ s, Cp.at0 st.s k = s := ⟨_, rfl⟩
      have HS : Hid (Cp.stateN m st (Cp.itm m k).id = s) := by show _ = _; rw [state_self HIB.out hkm]; exact hs
      obtain ⟨kd, hkd⟩ : ∃ kd, (Cp.itm m k).kind = kd := ⟨_, rfl⟩
      have HF1 : Hid (s = 1 ∨ s = 2 → ∀ j : Nat, j < (Cp.itm m k).exit.length → metP m st (Cp.itm m k).id true (j : Int) = false) := fun h j hj => met_exit HIB.out HQ.out hkm (by rw [hs]; exact h) hj
      have HF2 : Hid (s = 1 → ∀ j : Nat, j < (Cp.itm m k).entry.length → metP m st (Cp.itm m k).id false (j : Int) = false) := fun h j hj => met_entry HIB.out HQ.out hkm (by rw [hs]; exact h) hj
      have HF3 : Hid (s = 1 → kd ≤ 3 → (Cp.itm m k).entry.length = 0 → False) := fun h1 h2 h3 => Cp.quiet_free HQ.out hkm (by rw [hs]; exact h1) (by rw [hkd]; exact h2) (Cp.kind_ok HIB.out hkm).1 h3
      obtain ⟨id, hid⟩ : ∃ x, (Cp.itm m k).id = x := ⟨_, rfl⟩
      obtain ⟨ne, hne⟩ : ∃ x, (Cp.itm m k).entry.length = x := ⟨_, rfl⟩
      obtain ⟨nx, hnx⟩ : ∃ x, (Cp.itm m k).exit.length = x := ⟨_, rfl⟩
      rw [hid] at HS HF1 HF2 d0 LX hX
      rw [hne] at HF2 HF3 d5 LX hX
      rw [hnx] at HF1 d6 LX hX
      rw [hkd] at d1 LX hX
      have HLX := hideT LX
      have HNE : Hid (ne ≤ 10000000000000 ∧ nx ≤ 10000000000000) := by
        obtain ⟨_, r1, _⟩ := srow_at I1.entry
        obtain ⟨_, r2, _⟩ := srow_at I1.exit
        show ne ≤ _ ∧ nx ≤ _
        omega
      have hb1 : ne ≤ 10000000000000 := HNE.out.1
      have hb2 : nx ≤ 10000000000000 := HNE.out.2
      have x0 : X.cell? ⟨wr.heap.size, 0, none⟩ = some (.string id) := LX.cell 0
      obtain ⟨xb, hxb⟩ : ∃ xb, wr.heap.size = xb := ⟨_, rfl⟩
      rw [hxb] at x0 HLX
      clear I0 I1 LX BX hs hkd hid hne hnx hkm
      go_wp2_with fail
      refine (CX.out.stateB id s HS).mono ?_
      rintro e w5 ⟨rfl, b5⟩
      have HB5 := hideT b5
      clear b5 d0 d1 d2 d3 d4 d5 d6 y1 x0
      go_wp2_with fail
      go_loopw [11] (fun i wi => ∃ j : Nat, j ≤ nx ∧ i = .int .i64 j ∧ Hid (Below X.heap.size X wi)) (fun i _ => nx - (intOf i).toNat)
      case atStart => exact ⟨0, Nat.zero_le _, rfl, HB5.out⟩
      case round =>
        obtain ⟨j, hj, rfl, HBI⟩ := hrel
        have HLI := hideT (HLX.out.below HBI.out)
        have p0 : wr.cell? ⟨xb, 0, none⟩ = some (.string id) := HLI.out.cell 0
        have p6 : wr.cell? ⟨xb, 6, none⟩ = some (.slice a6 nx c6) := HLI.out.cell 6
        by_cases hlj : j < nx
        · have t4 : (j : Int) < (nx : Int) := by omega
          by_cases h12 : s = 1 ∨ s = 2
          · have HMT := hideT ((CX.out.below HBI.out).metB id true (j : Int) false (HF1.out h12 j hlj))
            rcases h12 with rfl | rfl
            all_goals
              go_wp2_with fail
              refine HMT.out.mono ?_
              rintro e w6 ⟨rfl, b6⟩
              have HB6 := hideT (belowS HBI.out b6)
              clear b6 p0 p6
              go_wp2_with fail
              refine ⟨⟨j + 1, by omega, by go_num, HB6⟩, ?_⟩
              first | omega | (simp [intOf]; omega)
          · have s1 : (s == (1 : Int)) = false := beq_eq_false_iff_ne.2 fun e => h12 (.inl e)
            have s2 : (s == (2 : Int)) = false := beq_eq_false_iff_ne.2 fun e => h12 (.inr e)
            clear h12
            go_wp2_with fail
            refine ⟨⟨j + 1, by omega, by go_num, HBI⟩, ?_⟩
            first | omega | (simp [intOf]; omega)
        have t4 : (nx : Int) ≤ (j : Int) := by omega
        go_wp2_with fail
        have HBC := hideT HBI.out
        clear p0 p6 HLI
        go_loopw [12] (fun i wi => ∃ j : Nat, j ≤ ne ∧ i = .int .i64 j ∧ Hid (Below X.heap.size X wi)) (fun i _ => ne - (intOf i).toNat)
        case atStart => exact ⟨0, Nat.zero_le _, rfl, HBC.out⟩
        case round =>
          obtain ⟨j, hj, rfl, HBI⟩ := hrel
          have HLI := hideT (HLX.out.below HBI.out)
          have p0 : wr.cell? ⟨xb, 0, none⟩ = some (.string id) := HLI.out.cell 0
          have p1 : wr.cell? ⟨xb, 1, none⟩ = some (.int .i64 kd) := HLI.out.cell 1
          have p5 : wr.cell? ⟨xb, 5, none⟩ = some (.slice a5 ne c5) := HLI.out.cell 5
          by_cases hlj : j < ne
          · have t4 : (j : Int) < (ne : Int) := by omega
            by_cases h1 : s = 1
            · have HMT := hideT ((CX.out.below HBI.out).metB id false (j : Int) false (HF2.out h1 j hlj))
              subst h1
              go_wp2_with fail
              refine HMT.out.mono ?_
              rintro e w6 ⟨rfl, b6⟩
              have HB6 := hideT (belowS HBI.out b6)
              clear b6 p0 p1 p5
              go_wp2_with fail
              refine ⟨⟨j + 1, by omega, by go_num, HB6⟩, ?_⟩
              first | omega | (simp [intOf]; omega)
            · have s1 : (s == (1 : Int)) = false := beq_eq_false_iff_ne.2 h1
              clear h1
              go_wp2_with fail
              refine ⟨⟨j + 1, by omega, by go_num, HBI⟩, ?_⟩
              first | omega | (simp [intOf]; omega)
          have t4 : (ne : Int) ≤ (j : Int) := by omega
          have CE := hideT (CX.out.below HBI.out)
          by_cases h1 : s = 1
          · subst h1
            by_cases h3 : kd ≤ 3
            · have h0 : ne ≠ 0 := fun e => HF3.out rfl h3 e
              have e0 : ((ne : Int) == 0) = false := beq_eq_false_iff_ne.2 (by omega)
              clear h0
              go_wp2_with fail
              refine ⟨⟨k + 1, by omega, by omega, by go_num, CE.out⟩, ?_⟩
              first | omega | (simp [intOf]; omega)
            · have h3' : 3 < kd := by omega
              clear h3
              go_wp2_with fail
              refine ⟨⟨k + 1, by omega, by omega, by go_num, CE.out⟩, ?_⟩
              first | omega | (simp [intOf]; omega)
          · have s1 : (s == (1 : Int)) = false := beq_eq_false_iff_ne.2 h1
            clear h1
            go_wp2_with fail
            refine ⟨⟨k + 1, by omega, by omega, by go_num, CE.out⟩, ?_⟩
            first | omega | (simp [intOf]; omega)
end Go.Proofs.YtpipjkbgbhefcaaGreat
