/-
  Whether flags are read and written in strata as they may be. (Written by RStrata.py.)
-/
import Derived.Test.YtkjekohncfhbiaaRFirst
set_option linter.unusedSimpArgs false
set_option linter.unusedVariables false
namespace Go.Proofs.Ytkjekohncfhbiaa
open Go.RowKit
set_option maxRecDepth 100000
set_option maxHeartbeats 16000000 in
theorem strataMayBeD (w : World) (A : PA) (p : Rp.Prog) (h : ProgAt w A p) (hb : 0 ≤ p.lasting ∧ p.lasting ≤ p.flags ∧ p.flags ≤ 800) (hr : Rp.RulesP p) :
    Calls Try.prog 47 #[.agg #[.int .i64 p.flags, .int .i64 p.lasting, .slice A.a2 p.first.length A.c2, .slice A.a3 p.over.length A.c3, .int .i64 p.frm, .slice A.a5 p.files.length A.c5, .slice A.a6 p.rules.length A.c6, .slice A.a7 p.ctrs.length A.c7, .slice A.a8 p.users.length A.c8, .slice A.a9 p.notes.length A.c9]] w (BPost (Rp.StrataP p) w) := by
  obtain ⟨N, hN⟩ : ∃ N : Nat, p.flags = (N : Int) := ⟨p.flags.toNat, by omega⟩
  obtain ⟨a2, c2, a3, c3, a5, c5, a6, c6, a7, c7, a8, c8, a9, c9⟩ := A
  show Calls _ _ #[.agg #[.int .i64 p.flags, .int .i64 p.lasting, .slice a2 p.first.length c2, .slice a3 p.over.length c3, .int .i64 p.frm, .slice a5 p.files.length c5, .slice a6 p.rules.length c6, .slice a7 p.ctrs.length c7, .slice a8 p.users.length c8, .slice a9 p.notes.length c9]] w _
  have B0 := hideT ((Below.refl w.heap.size w).alloc (Nat.le_refl _) (.cells #[.int .i64 p.flags, .int .i64 p.lasting, .slice a2 p.first.length c2, .slice a3 p.over.length c3, .int .i64 p.frm, .slice a5 p.files.length c5, .slice a6 p.rules.length c6, .slice a7 p.ctrs.length c7, .slice a8 p.users.length c8, .slice a9 p.notes.length c9] 29))
  have L0 := hideT (PBox.newC w a2 a3 a5 a6 a7 a8 a9 c2 c3 c5 c6 c7 c8 c9 p)
  have HP := hideT h
  obtain ⟨_, hl, _, b, o, ha, hc⟩ := rrow_at (show RRow w (.slice a6 p.rules.length c6) p.rules from h.rules)
  have HC := hideT hc
  have HA := hideT ha
  have HN := hideT hN
  have HRU := hideT hr
  have hN8 : N ≤ 800 := by omega
  have HIF : Hid (∀ r ∈ p.rules, Rp.LitsP r.2.1 p.flags) := fun r hr' => by
    obtain ⟨i, hi⟩ := List.getElem?_of_mem hr'
    exact (hr.2 i r hi).2.1.1
  have HBD : Hid (0 ≤ p.lasting ∧ p.lasting ≤ p.flags) := ⟨hb.1, hb.2.1⟩
  clear hc ha h hN hr hb
  go_enter Try.func47, Try.ntmps47
  go_wp2_with fail
  refine (firstReadsD _ ⟨a2, c2, a3, c3, a5, c5, a6, c6, a7, c7, a8, c8, a9, c9⟩ p (HP.out.below B0.out) N HN.out hN8 HIF.out).mono ?_
  rintro e w0 ⟨g, R, rfl, hg, z2, hRD, b2⟩
  have B2 := hideT (B0.out.trans (b2.mono B0.out.size))
  have L2 := hideT (L0.out.below b2)
  have hgw : w.heap.size < g := by simp at hg; omega
  have Z2 := hideT z2
  have HRD := hideT hRD
  clear z2 hRD b2 hg
  obtain ⟨x0, x1, x2, x3, x4, x5, x6, x7, x8, x9⟩ := L2.out.cellsC
  go_wp2_with fail
  clear x0 x1 x2 x3 x4 x5 x6 x7 x8 x9
  go_loopw [13] (fun i wr => ∃ k : Nat, k ≤ p.rules.length ∧ i = .int .i64 k ∧ Hid (∀ (j : Nat) r, j < k → p.rules[j]? = some r → ∀ x ∈ r.2.2.2, Rp.WriteP p r.1 x.1) ∧ Hid (Below w0.heap.size w0 wr)) (fun i _ => p.rules.length - (intOf i).toNat)
  case atStart => exact ⟨0, by omega, rfl, (fun j y hj => absurd hj (by omega)), Below.refl _ _⟩
  case round =>
    obtain ⟨k, hk, rfl, HB, HW⟩ := hrel
    have BW0 := hideT (B2.out.trans (HW.out.mono B2.out.size))
    by_cases hlt : k < p.rules.length
    rotate_left
    · have HF : Hid (Rp.StrataP p) := Rp.all_of (Rp.all_done HB.out (by omega))
      go_wp2_with fail
      go_ret
      exact bpost_yes HF.out BW0.out
    obtain ⟨⟨s, l1, l2, l3⟩, hx⟩ := Mp.at_lt (l := p.rules) (k := k) hlt
    obtain ⟨i1, n1, i2, n2, i3, n3, I0⟩ := HC.out k _ hx
    obtain ⟨r1, r2, r3, d0, d1, d2, d3⟩ := I0.turn (below_cell BW0.out)
    dsimp only at r1 r2 r3 d0 d1 d2 d3
    obtain rfl := HA.out (by omega)
    have HX := hideT hx
    have HRL := hideT (HRU.out.2 k _ hx)
    have HNO : Hid (∀ x ∈ l3, ¬ Rp.WriteP p s x.1 → ¬ Rp.StrataP p) := fun x hx' h H => h (H _ (List.mem_of_getElem? HX.out) x hx')
    obtain ⟨m, hm⟩ : ∃ m, p.rules.length = m + 1 := ⟨p.rules.length - 1, by omega⟩
    obtain ⟨q, hq⟩ := Mp.at_lt (l := p.rules) (k := m) (by omega)
    obtain ⟨u1, v1, u2, v2, u3, v3, Iq⟩ := HC.out m _ hq
    have m0w := Iq.c0
    obtain ⟨z, hz⟩ : ∃ z, q.1 = z := ⟨_, rfl⟩
    rw [hz] at m0w
    have HZ : Hid (Rp.lastS p = z) := by show _ = _; rw [Rp.lastS_at hq hm, hz]
    have M0 := hideT m0w
    have t7 : IntKind.i64.wrap ((p.rules.length : Int) - 1) = (m : Int) := by rw [IntKind.wrap_i64]; omega
    have t8 : (0 : Int) ≤ (m : Int) := by omega
    have t9 : (m : Int) < (p.rules.length : Int) := by omega
    have HMM := hideT hm
    obtain ⟨_, hl3, _, b3, o3, ha3, hc3⟩ := lrow_at (show LRow w (.slice i3 l3.length n3) l3 from I0.thens)
    have HC3 := hideT hc3
    have HA3 := hideT ha3
    clear hx I0 r1 r2 r3 hc3 ha3 hm hq hz m0w Iq
    have BA := hideT ((Below.refl wr.heap.size wr).alloc (Nat.le_refl _) (.cells #[.int .i64 s, .slice i1 l1.length n1, .slice i2 l2.length n2, .slice i3 l3.length n3] 61))
    have LA := hideT (Lies.new wr 61 #[.int .i64 s, .slice i1 l1.length n1, .slice i2 l2.length n2, .slice i3 l3.length n3])
    have t0 : (0 : Int) ≤ (k : Int) := by omega
    have t1 : (k : Int) < (p.rules.length : Int) := by omega
    obtain ⟨W0, hW0⟩ : ∃ W0, W0 = wr := ⟨wr, rfl⟩
    subst hW0
    have BW1 := hideT (HW.out.trans (BA.out.mono HW.out.size))
    go_wp2_with fail
    clear d0 d1 d2 d3
    go_loopw [20] (fun i ws => ∃ j : Nat, j ≤ l3.length ∧ i = .int .i64 j ∧ Hid (∀ (i : Nat) x, i < j → l3[i]? = some x → Rp.WriteP p s x.1) ∧ Hid (Below w0.heap.size w0 ws) ∧ Hid (Lies ws W0.heap.size 61 #[.int .i64 s, .slice i1 l1.length n1, .slice i2 l2.length n2, .slice i3 l3.length n3])) (fun i _ => l3.length - (intOf i).toNat)
    case atStart => exact ⟨0, by omega, rfl, (fun j y hj => absurd hj (by omega)), BW1, LA⟩
    case round =>
      obtain ⟨j, hj, rfl, HD, HV, HRu⟩ := hrel
      by_cases hjl : j < l3.length
      rotate_left
      · have HF : Hid (∀ (j : Nat) r, j < k + 1 → p.rules[j]? = some r → ∀ x ∈ r.2.2.2, Rp.WriteP p r.1 x.1) := Rp.all_step HB.out HX.out (Rp.all_of (Rp.all_done HD.out (by show l3.length ≤ j; omega)))
        go_wp2_with fail
        refine ⟨⟨k + 1, by omega, by go_num, HF, HV⟩, ?_⟩
        first | omega | (simp [intOf]; omega)
      obtain ⟨⟨g0, g1⟩, hy⟩ := Mp.at_lt (l := l3) (k := j) hjl
      have hin := HRL.out.2.1.2.2.1 _ (List.mem_of_getElem? hy)
      dsimp only at hin
      obtain ⟨f, hf⟩ : ∃ f : Nat, g0 = (f : Int) := ⟨g0.toNat, by have := hin.1; omega⟩
      subst hf
      have hfN : f < N := by have := hin.2; have := HN.out; omega
      obtain ⟨d0, d1⟩ := HC3.out j _ hy
      dsimp only at d0 d1
      have BW3 := hideT (B2.out.trans (HV.out.mono B2.out.size))
      have d0 := below_cell BW3.out _ _ d0
      have d1 := below_cell BW3.out _ _ d1
      obtain rfl := HA3.out (by omega)
      have HY := hideT hy
      have HNW : Hid (¬ Rp.WriteP p s (f : Int) → ¬ Rp.StrataP p) := fun h => HNO.out _ (List.mem_of_getElem? HY.out) h
      clear hy hin
      have t3 : (0 : Int) ≤ (j : Int) := by omega
      have t4 : (j : Int) < (l3.length : Int) := by omega
      have t5 : (0 : Int) ≤ (f : Int) := by omega
      have t6 : (f : Int) < (N : Int) := by omega
      have BB := hideT ((Below.refl wr.heap.size wr).alloc (Nat.le_refl _) (.cells #[.int .i64 f, .bool g1] 57))
      have LB := hideT (Lies.new wr 57 #[.int .i64 f, .bool g1])
      obtain ⟨v, hv⟩ : ∃ v, R[f]? = some v := ⟨_, List.getElem?_eq_getElem (by rw [HRD.out.1]; exact hfN)⟩
      have HVV := hideT (HRD.out.2 f v hv)
      obtain ⟨W1, hW1⟩ : ∃ W1, W1 = wr := ⟨wr, rfl⟩
      subst hW1
      obtain ⟨V, hV⟩ : ∃ V, W1.alloc (.cells #[.int .i64 f, .bool g1] 57) = V := ⟨_, rfl⟩
      rw [hV] at BB LB
      have BV0 := hideT (HV.out.trans (BB.out.mono HV.out.size))
      have BV := hideT (B2.out.trans (BV0.out.mono B2.out.size))
      have LV := hideT (HRu.out.below BB.out)
      have v0 : V.cell? ⟨g, f, none⟩ = some (.int .i64 v) := ZB.cell (Lies.below Z2.out BV0.out) hv
      have y0 : V.cell? ⟨W0.heap.size, 0, none⟩ = some (.int .i64 s) := LV.out.cell 0
      have e0 : V.cell? ⟨W1.heap.size, 0, none⟩ = some (.int .i64 f) := LB.out.cell 0
      have m0 := below_cell BV.out _ _ M0.out
      obtain ⟨x0, x1, x2, x3, x4, x5, x6, x7, x8, x9⟩ := (L2.out.below BV0.out).cellsC
      clear hv
      by_cases q1 : Rp.InP (f : Int) p.lasting
      · have Q := hideT q1
        have Q2 : Hid (¬ Rp.PassP p (f : Int)) := fun h => by have := h.1; have := Q.out.2; omega
        clear q1
        by_cases q2 : s = z
        · have t10 : (s != z) = false := by simp [q2]
          have HR : Hid (∀ (i : Nat) x, i < j + 1 → l3[i]? = some x → Rp.WriteP p s x.1) := Rp.all_step HD.out HY.out ⟨fun _ => by rw [HZ.out]; exact q2, fun h => (Q2.out h).elim⟩
          have Q3 := hideT q2
          clear q2
          go_wp2_with fail
          refine wp_region_held_drew (S := (fun w' => w'.cell? ⟨w.heap.size, 0, none⟩ = some (.int .i64 p.flags) ∧ w'.cell? ⟨w.heap.size, 1, none⟩ = some (.int .i64 p.lasting) ∧ w'.cell? ⟨w.heap.size, 2, none⟩ = some (.slice a2 p.first.length c2) ∧ w'.cell? ⟨w.heap.size, 3, none⟩ = some (.slice a3 p.over.length c3) ∧ w'.cell? ⟨w.heap.size, 4, none⟩ = some (.int .i64 p.frm) ∧ w'.cell? ⟨w.heap.size, 5, none⟩ = some (.slice a5 p.files.length c5) ∧ w'.cell? ⟨w.heap.size, 6, none⟩ = some (.slice (some ⟨b, o, none⟩) p.rules.length c6) ∧ w'.cell? ⟨w.heap.size, 7, none⟩ = some (.slice a7 p.ctrs.length c7) ∧ w'.cell? ⟨w.heap.size, 8, none⟩ = some (.slice a8 p.users.length c8) ∧ w'.cell? ⟨w.heap.size, 9, none⟩ = some (.slice a9 p.notes.length c9) ∧ w'.cell? ⟨W1.heap.size, 0, none⟩ = some (.int .i64 (f : Int)) ∧ w'.cell? ⟨W0.heap.size, 0, none⟩ = some (.int .i64 s) ∧ w'.cell? ⟨b, o + m * 4, none⟩ = some (.int .i64 z) ∧ w'.cell? ⟨g, f, none⟩ = some (.int .i64 v))) (by kernel_rfl) ?_ (fun hHeld => ?_)
          · try dsimp only
            go_keep
          refine wpAnyH_take (i := 0) (oi := { dst := some 24, op := Go.Op.load 29 (Go.Operand.tmp 1), type := 29, pos := "is.go:131", after := #[], guard := none }) (v := ?va0) rfl (by kernel_rfl) (by kernel_rfl) (by kernel_rfl) (fun _ _ _ h => h) (Or.inl ⟨by rfl, ?hya0⟩) (by assumption) ?resta0
          case hya0 => first | (intro w hSw; (try dsimp only at hSw); go_simp; done) | (intro w hSw; (try dsimp only at hSw); go_simp; with_reducible rfl)
          try simp only [Act.put, List.setIfInBounds_toArray, List.set_cons_zero, List.set_cons_succ]
          refine wpAnyH_take (i := 1) (oi := { dst := some 25, op := Go.Op.fieldAddr 57 (Go.Operand.tmp 7) 0, type := 0, pos := "is.go:131", after := #[], guard := none }) (v := ?va1) rfl (by kernel_rfl) (by kernel_rfl) (by kernel_rfl) (fun _ _ _ h => h) (Or.inl ⟨by rfl, ?hya1⟩) (by assumption) ?resta1
          case hya1 => first | (intro w hSw; (try dsimp only at hSw); go_simp; done) | (intro w hSw; (try dsimp only at hSw); go_simp; with_reducible rfl)
          try simp only [Act.put, List.setIfInBounds_toArray, List.set_cons_zero, List.set_cons_succ]
          refine wpAnyH_take (i := 2) (oi := { dst := some 26, op := Go.Op.load 3 (Go.Operand.tmp 25), type := 3, pos := "is.go:131", after := #[{ on := 1, ground := Go.Ground.data }], guard := none }) (v := ?va2) rfl (by kernel_rfl) (by kernel_rfl) (by kernel_rfl) (fun _ _ _ h => h) (Or.inl ⟨by rfl, ?hya2⟩) (by assumption) ?resta2
          case hya2 => first | (intro w hSw; (try dsimp only at hSw); go_simp; done) | (intro w hSw; (try dsimp only at hSw); go_simp; with_reducible rfl)
          try simp only [Act.put, List.setIfInBounds_toArray, List.set_cons_zero, List.set_cons_succ]
          refine wpAnyH_ready (rs := [3]) (by kernel_rfl) (by simp) ?_
          refine AllReadyH.cons (o := { dst := some 27, op := Go.Op.call { callee := Go.Callee.value (Go.Operand.func 68), args := #[Go.Operand.tmp 24, Go.Operand.tmp 26], argTypes := #[29, 3] }, type := 4, pos := "is.go:131", after := #[{ on := 0, ground := Go.Ground.data }, { on := 2, ground := Go.Ground.data }], guard := none }) rfl (fun Kx hK => ?_) AllReadyH.nil
          rw [if_pos (by rfl)]
          go_simp
          go_at_call 68
          refine (lastsD _ ⟨a2, c2, a3, c3, a5, c5, some ⟨b, o, none⟩, c6, a7, c7, a8, c8, a9, c9⟩ p (f : Int)).mono ?_
          rintro e w1 h1
          obtain ⟨rfl, b1⟩ := h1.yes Q.out
          clear h1
          have z_x0 : w1.cell? ⟨w.heap.size, 0, none⟩ = some (.int .i64 p.flags) := below_cell b1 _ _ x0
          have z_x1 : w1.cell? ⟨w.heap.size, 1, none⟩ = some (.int .i64 p.lasting) := below_cell b1 _ _ x1
          have z_x2 : w1.cell? ⟨w.heap.size, 2, none⟩ = some (.slice a2 p.first.length c2) := below_cell b1 _ _ x2
          have z_x3 : w1.cell? ⟨w.heap.size, 3, none⟩ = some (.slice a3 p.over.length c3) := below_cell b1 _ _ x3
          have z_x4 : w1.cell? ⟨w.heap.size, 4, none⟩ = some (.int .i64 p.frm) := below_cell b1 _ _ x4
          have z_x5 : w1.cell? ⟨w.heap.size, 5, none⟩ = some (.slice a5 p.files.length c5) := below_cell b1 _ _ x5
          have z_x6 : w1.cell? ⟨w.heap.size, 6, none⟩ = some (.slice (some ⟨b, o, none⟩) p.rules.length c6) := below_cell b1 _ _ x6
          have z_x7 : w1.cell? ⟨w.heap.size, 7, none⟩ = some (.slice a7 p.ctrs.length c7) := below_cell b1 _ _ x7
          have z_x8 : w1.cell? ⟨w.heap.size, 8, none⟩ = some (.slice a8 p.users.length c8) := below_cell b1 _ _ x8
          have z_x9 : w1.cell? ⟨w.heap.size, 9, none⟩ = some (.slice a9 p.notes.length c9) := below_cell b1 _ _ x9
          have z_e0 : w1.cell? ⟨W1.heap.size, 0, none⟩ = some (.int .i64 (f : Int)) := below_cell b1 _ _ e0
          have z_y0 : w1.cell? ⟨W0.heap.size, 0, none⟩ = some (.int .i64 s) := below_cell b1 _ _ y0
          have z_m0 : w1.cell? ⟨b, o + m * 4, none⟩ = some (.int .i64 z) := below_cell b1 _ _ m0
          have z_v0 : w1.cell? ⟨g, f, none⟩ = some (.int .i64 v) := below_cell b1 _ _ v0
          have HB1 := hideT b1
          have HL1 := hideT (LV.out.below (show Below V.heap.size V w1 from (show Below V.heap.size V V.drew from below_drewN (Below.refl _ _) 1).trans b1))
          refine hK.out _ _ ?_ (fun hHeld3 => ?_)
          · exact ⟨below_cell b1 _ _ x0, below_cell b1 _ _ x1, below_cell b1 _ _ x2, below_cell b1 _ _ x3, below_cell b1 _ _ x4, below_cell b1 _ _ x5, below_cell b1 _ _ x6, below_cell b1 _ _ x7, below_cell b1 _ _ x8, below_cell b1 _ _ x9, below_cell b1 _ _ e0, below_cell b1 _ _ y0, below_cell b1 _ _ m0, below_cell b1 _ _ v0⟩
          clear hK Kx
          try simp only [Act.put, List.setIfInBounds_toArray, List.set_cons_zero, List.set_cons_succ]
          refine wpAnyH_take (i := 4) (oi := { dst := some 28, op := Go.Op.move (Go.Operand.tmp 27), type := 4, pos := "is.go:131", after := #[{ on := 3, ground := Go.Ground.data }, { on := 3, ground := Go.Ground.chain }], guard := none }) (v := ?va4) rfl (by kernel_rfl) (by kernel_rfl) (by kernel_rfl) (fun _ _ _ h => h) (Or.inl ⟨by rfl, ?hya4⟩) (by assumption) ?resta4
          case hya4 => first | (intro w hSw; (try dsimp only at hSw); go_simp; done) | (intro w hSw; (try dsimp only at hSw); go_simp; with_reducible rfl)
          try simp only [Act.put, List.setIfInBounds_toArray, List.set_cons_zero, List.set_cons_succ]
          refine wpAnyH_take (i := 5) (oi := { dst := some 29, op := Go.Op.fieldAddr 61 (Go.Operand.tmp 5) 0, type := 0, pos := "is.go:131", after := #[{ on := 4, ground := Go.Ground.guard }], guard := some (4, true) }) (v := ?va5) rfl (by kernel_rfl) (by kernel_rfl) (by kernel_rfl) (fun _ _ _ h => h) (Or.inl ⟨by rfl, ?hya5⟩) (by assumption) ?resta5
          case hya5 => first | (intro w hSw; (try dsimp only at hSw); go_simp; done) | (intro w hSw; (try dsimp only at hSw); go_simp; with_reducible rfl)
          try simp only [Act.put, List.setIfInBounds_toArray, List.set_cons_zero, List.set_cons_succ]
          refine wpAnyH_take (i := 6) (oi := { dst := some 30, op := Go.Op.load 3 (Go.Operand.tmp 29), type := 3, pos := "is.go:131", after := #[{ on := 5, ground := Go.Ground.data }, { on := 4, ground := Go.Ground.guard }], guard := some (4, true) }) (v := ?va6) rfl (by kernel_rfl) (by kernel_rfl) (by kernel_rfl) (fun _ _ _ h => h) (Or.inl ⟨by rfl, ?hya6⟩) (by assumption) ?resta6
          case hya6 => first | (intro w hSw; (try dsimp only at hSw); go_simp; done) | (intro w hSw; (try dsimp only at hSw); go_simp; with_reducible rfl)
          try simp only [Act.put, List.setIfInBounds_toArray, List.set_cons_zero, List.set_cons_succ]
          refine wpAnyH_take (i := 7) (oi := { dst := some 31, op := Go.Op.fieldAddr 29 (Go.Operand.tmp 1) 6, type := 0, pos := "is.go:131", after := #[{ on := 4, ground := Go.Ground.guard }], guard := some (4, true) }) (v := ?va7) rfl (by kernel_rfl) (by kernel_rfl) (by kernel_rfl) (fun _ _ _ h => h) (Or.inl ⟨by rfl, ?hya7⟩) (by assumption) ?resta7
          case hya7 => first | (intro w hSw; (try dsimp only at hSw); go_simp; done) | (intro w hSw; (try dsimp only at hSw); go_simp; with_reducible rfl)
          try simp only [Act.put, List.setIfInBounds_toArray, List.set_cons_zero, List.set_cons_succ]
          refine wpAnyH_take (i := 8) (oi := { dst := some 32, op := Go.Op.load 24 (Go.Operand.tmp 31), type := 24, pos := "is.go:131", after := #[{ on := 7, ground := Go.Ground.data }, { on := 4, ground := Go.Ground.guard }], guard := some (4, true) }) (v := ?va8) rfl (by kernel_rfl) (by kernel_rfl) (by kernel_rfl) (fun _ _ _ h => h) (Or.inl ⟨by rfl, ?hya8⟩) (by assumption) ?resta8
          case hya8 => first | (intro w hSw; (try dsimp only at hSw); go_simp; done) | (intro w hSw; (try dsimp only at hSw); go_simp; with_reducible rfl)
          try simp only [Act.put, List.setIfInBounds_toArray, List.set_cons_zero, List.set_cons_succ]
          refine wpAnyH_take (i := 9) (oi := { dst := some 33, op := Go.Op.fieldAddr 29 (Go.Operand.tmp 1) 6, type := 0, pos := "is.go:131", after := #[{ on := 4, ground := Go.Ground.guard }], guard := some (4, true) }) (v := ?va9) rfl (by kernel_rfl) (by kernel_rfl) (by kernel_rfl) (fun _ _ _ h => h) (Or.inl ⟨by rfl, ?hya9⟩) (by assumption) ?resta9
          case hya9 => first | (intro w hSw; (try dsimp only at hSw); go_simp; done) | (intro w hSw; (try dsimp only at hSw); go_simp; with_reducible rfl)
          try simp only [Act.put, List.setIfInBounds_toArray, List.set_cons_zero, List.set_cons_succ]
          refine wpAnyH_take (i := 10) (oi := { dst := some 34, op := Go.Op.load 24 (Go.Operand.tmp 33), type := 24, pos := "is.go:131", after := #[{ on := 9, ground := Go.Ground.data }, { on := 4, ground := Go.Ground.guard }], guard := some (4, true) }) (v := ?va10) rfl (by kernel_rfl) (by kernel_rfl) (by kernel_rfl) (fun _ _ _ h => h) (Or.inl ⟨by rfl, ?hya10⟩) (by assumption) ?resta10
          case hya10 => first | (intro w hSw; (try dsimp only at hSw); go_simp; done) | (intro w hSw; (try dsimp only at hSw); go_simp; with_reducible rfl)
          try simp only [Act.put, List.setIfInBounds_toArray, List.set_cons_zero, List.set_cons_succ]
          refine wpAnyH_take (i := 11) (oi := { dst := some 35, op := Go.Op.call { callee := Go.Callee.builtin Go.Builtin.len, args := #[Go.Operand.tmp 34], argTypes := #[24] }, type := 3, pos := "is.go:131", after := #[{ on := 10, ground := Go.Ground.data }, { on := 4, ground := Go.Ground.guard }], guard := some (4, true) }) (v := ?va11) rfl (by kernel_rfl) (by kernel_rfl) (by kernel_rfl) (fun _ _ _ h => h) (Or.inl ⟨by rfl, ?hya11⟩) (by assumption) ?resta11
          case hya11 => first | (intro w hSw; (try dsimp only at hSw); go_simp; done) | (intro w hSw; (try dsimp only at hSw); go_simp; with_reducible rfl)
          try simp only [Act.put, List.setIfInBounds_toArray, List.set_cons_zero, List.set_cons_succ]
          refine wpAnyH_take (i := 12) (oi := { dst := some 36, op := Go.Op.binOp Go.BinOp.sub 3 (Go.Operand.tmp 35) (Go.Operand.const (Go.Value.int Go.IntKind.i64 1)) 3, type := 3, pos := "is.go:131", after := #[{ on := 11, ground := Go.Ground.data }, { on := 4, ground := Go.Ground.guard }], guard := some (4, true) }) (v := ?va12) rfl (by kernel_rfl) (by kernel_rfl) (by kernel_rfl) (fun _ _ _ h => h) (Or.inl ⟨by rfl, ?hya12⟩) (by assumption) ?resta12
          case hya12 => first | (intro w hSw; (try dsimp only at hSw); go_simp; done) | (intro w hSw; (try dsimp only at hSw); go_simp; with_reducible rfl)
          try simp only [Act.put, List.setIfInBounds_toArray, List.set_cons_zero, List.set_cons_succ]
          refine wpAnyH_take (i := 13) (oi := { dst := some 37, op := Go.Op.indexAddr 24 (Go.Operand.tmp 32) (Go.Operand.tmp 36), type := 0, pos := "is.go:131", after := #[{ on := 8, ground := Go.Ground.data }, { on := 12, ground := Go.Ground.data }, { on := 4, ground := Go.Ground.guard }], guard := some (4, true) }) (v := ?va13) rfl (by kernel_rfl) (by kernel_rfl) (by kernel_rfl) (fun _ _ _ h => h) (Or.inl ⟨by rfl, ?hya13⟩) (by assumption) ?resta13
          case hya13 => first | (intro w hSw; (try dsimp only at hSw); go_simp; done) | (intro w hSw; (try dsimp only at hSw); go_simp; with_reducible rfl)
          try simp only [Act.put, List.setIfInBounds_toArray, List.set_cons_zero, List.set_cons_succ]
          refine wpAnyH_take (i := 14) (oi := { dst := some 38, op := Go.Op.fieldAddr 61 (Go.Operand.tmp 37) 0, type := 0, pos := "is.go:131", after := #[{ on := 13, ground := Go.Ground.data }, { on := 4, ground := Go.Ground.guard }], guard := some (4, true) }) (v := ?va14) rfl (by kernel_rfl) (by kernel_rfl) (by kernel_rfl) (fun _ _ _ h => h) (Or.inl ⟨by rfl, ?hya14⟩) (by assumption) ?resta14
          case hya14 => first | (intro w hSw; (try dsimp only at hSw); go_simp; done) | (intro w hSw; (try dsimp only at hSw); go_simp; with_reducible rfl)
          try simp only [Act.put, List.setIfInBounds_toArray, List.set_cons_zero, List.set_cons_succ]
          refine wpAnyH_take (i := 15) (oi := { dst := some 39, op := Go.Op.load 3 (Go.Operand.tmp 38), type := 3, pos := "is.go:131", after := #[{ on := 14, ground := Go.Ground.data }, { on := 4, ground := Go.Ground.guard }], guard := some (4, true) }) (v := ?va15) rfl (by kernel_rfl) (by kernel_rfl) (by kernel_rfl) (fun _ _ _ h => h) (Or.inl ⟨by rfl, ?hya15⟩) (by assumption) ?resta15
          case hya15 => first | (intro w hSw; (try dsimp only at hSw); go_simp; done) | (intro w hSw; (try dsimp only at hSw); go_simp; with_reducible rfl)
          try simp only [Act.put, List.setIfInBounds_toArray, List.set_cons_zero, List.set_cons_succ]
          refine wpAnyH_take (i := 16) (oi := { dst := some 40, op := Go.Op.binOp Go.BinOp.neq 3 (Go.Operand.tmp 30) (Go.Operand.tmp 39) 3, type := 4, pos := "is.go:131", after := #[{ on := 6, ground := Go.Ground.data }, { on := 15, ground := Go.Ground.data }, { on := 4, ground := Go.Ground.guard }], guard := some (4, true) }) (v := ?va16) rfl (by kernel_rfl) (by kernel_rfl) (by kernel_rfl) (fun _ _ _ h => h) (Or.inl ⟨by rfl, ?hya16⟩) (by assumption) ?resta16
          case hya16 => first | (intro w hSw; (try dsimp only at hSw); go_simp; done) | (intro w hSw; (try dsimp only at hSw); go_simp; with_reducible rfl)
          try simp only [Act.put, List.setIfInBounds_toArray, List.set_cons_zero, List.set_cons_succ]
          refine wpAnyH_take (i := 17) (oi := { dst := some 41, op := Go.Op.pick (Go.Operand.tmp 28) (Go.Operand.tmp 40) (Go.Operand.const (Go.Value.bool false)), type := 4, pos := "is.go:131", after := #[{ on := 4, ground := Go.Ground.data }, { on := 16, ground := Go.Ground.data }], guard := none }) (v := ?va17) rfl (by kernel_rfl) (by kernel_rfl) (by kernel_rfl) (fun _ _ _ h => h) (Or.inl ⟨by rfl, ?hya17⟩) (by assumption) ?resta17
          case hya17 => first | (intro w hSw; (try dsimp only at hSw); go_simp; done) | (intro w hSw; (try dsimp only at hSw); go_simp; with_reducible rfl)
          try simp only [Act.put, List.setIfInBounds_toArray, List.set_cons_zero, List.set_cons_succ]
          refine wpAnyH_take (i := 18) (oi := { dst := some 42, op := Go.Op.move (Go.Operand.tmp 41), type := 4, pos := "is.go:131", after := #[{ on := 17, ground := Go.Ground.data }, { on := 4, ground := Go.Ground.chain }], guard := none }) (v := ?va18) rfl (by kernel_rfl) (by kernel_rfl) (by kernel_rfl) (fun _ _ _ h => h) (Or.inl ⟨by rfl, ?hya18⟩) (by assumption) ?resta18
          case hya18 => first | (intro w hSw; (try dsimp only at hSw); go_simp; done) | (intro w hSw; (try dsimp only at hSw); go_simp; with_reducible rfl)
          try simp only [Act.put, List.setIfInBounds_toArray, List.set_cons_zero, List.set_cons_succ]
          refine wpAnyH_take (i := 19) (oi := { dst := some 43, op := Go.Op.load 29 (Go.Operand.tmp 1), type := 29, pos := "is.go:131", after := #[{ on := 18, ground := Go.Ground.guard }], guard := some (18, false) }) (v := ?va19) rfl (by kernel_rfl) (by kernel_rfl) (by kernel_rfl) (fun _ _ _ h => h) (Or.inl ⟨by rfl, ?hya19⟩) (by assumption) ?resta19
          case hya19 => first | (intro w hSw; (try dsimp only at hSw); go_simp; done) | (intro w hSw; (try dsimp only at hSw); go_simp; with_reducible rfl)
          try simp only [Act.put, List.setIfInBounds_toArray, List.set_cons_zero, List.set_cons_succ]
          refine wpAnyH_take (i := 20) (oi := { dst := some 44, op := Go.Op.fieldAddr 57 (Go.Operand.tmp 7) 0, type := 0, pos := "is.go:131", after := #[{ on := 18, ground := Go.Ground.guard }], guard := some (18, false) }) (v := ?va20) rfl (by kernel_rfl) (by kernel_rfl) (by kernel_rfl) (fun _ _ _ h => h) (Or.inl ⟨by rfl, ?hya20⟩) (by assumption) ?resta20
          case hya20 => first | (intro w hSw; (try dsimp only at hSw); go_simp; done) | (intro w hSw; (try dsimp only at hSw); go_simp; with_reducible rfl)
          try simp only [Act.put, List.setIfInBounds_toArray, List.set_cons_zero, List.set_cons_succ]
          refine wpAnyH_take (i := 21) (oi := { dst := some 45, op := Go.Op.load 3 (Go.Operand.tmp 44), type := 3, pos := "is.go:131", after := #[{ on := 20, ground := Go.Ground.data }, { on := 18, ground := Go.Ground.guard }], guard := some (18, false) }) (v := ?va21) rfl (by kernel_rfl) (by kernel_rfl) (by kernel_rfl) (fun _ _ _ h => h) (Or.inl ⟨by rfl, ?hya21⟩) (by assumption) ?resta21
          case hya21 => first | (intro w hSw; (try dsimp only at hSw); go_simp; done) | (intro w hSw; (try dsimp only at hSw); go_simp; with_reducible rfl)
          try simp only [Act.put, List.setIfInBounds_toArray, List.set_cons_zero, List.set_cons_succ]
          refine wpAnyH_ready (rs := [22]) (by kernel_rfl) (by simp) ?_
          refine AllReadyH.cons (o := { dst := some 46, op := Go.Op.call { callee := Go.Callee.value (Go.Operand.func 69), args := #[Go.Operand.tmp 43, Go.Operand.tmp 45], argTypes := #[29, 3] }, type := 4, pos := "is.go:131", after := #[{ on := 19, ground := Go.Ground.data }, { on := 21, ground := Go.Ground.data }, { on := 18, ground := Go.Ground.chain }, { on := 18, ground := Go.Ground.guard }], guard := some (18, false) }) rfl (fun Kx hK => ?_) AllReadyH.nil
          rw [if_pos (by rfl)]
          go_simp
          go_at_call 69
          refine (passesD _ ⟨a2, c2, a3, c3, a5, c5, some ⟨b, o, none⟩, c6, a7, c7, a8, c8, a9, c9⟩ p (f : Int)).mono ?_
          rintro e w2 h1
          obtain ⟨rfl, b2⟩ := h1.no Q2.out
          clear h1
          have HB2 := hideT b2
          refine hK.out _ _ ?_ (fun hHeld22 => ?_)
          · exact ⟨below_cell b2 _ _ z_x0, below_cell b2 _ _ z_x1, below_cell b2 _ _ z_x2, below_cell b2 _ _ z_x3, below_cell b2 _ _ z_x4, below_cell b2 _ _ z_x5, below_cell b2 _ _ z_x6, below_cell b2 _ _ z_x7, below_cell b2 _ _ z_x8, below_cell b2 _ _ z_x9, below_cell b2 _ _ z_e0, below_cell b2 _ _ z_y0, below_cell b2 _ _ z_m0, below_cell b2 _ _ z_v0⟩
          clear hK Kx
          try simp only [Act.put, List.setIfInBounds_toArray, List.set_cons_zero, List.set_cons_succ]
          refine wpAnyH_take (i := 23) (oi := { dst := some 47, op := Go.Op.move (Go.Operand.tmp 46), type := 4, pos := "is.go:131", after := #[{ on := 22, ground := Go.Ground.data }, { on := 22, ground := Go.Ground.chain }, { on := 18, ground := Go.Ground.guard }], guard := some (18, false) }) (v := ?va23) rfl (by kernel_rfl) (by kernel_rfl) (by kernel_rfl) (fun _ _ _ h => h) (Or.inl ⟨by rfl, ?hya23⟩) (by assumption) ?resta23
          case hya23 => first | (intro w hSw; (try dsimp only at hSw); go_simp; done) | (intro w hSw; (try dsimp only at hSw); go_simp; with_reducible rfl)
          try simp only [Act.put, List.setIfInBounds_toArray, List.set_cons_zero, List.set_cons_succ]
          refine wpAnyH_take (i := 24) (oi := { dst := some 48, op := Go.Op.fieldAddr 61 (Go.Operand.tmp 5) 0, type := 0, pos := "is.go:131", after := #[{ on := 23, ground := Go.Ground.guard }], guard := some (23, true) }) (v := undef) rfl (by kernel_rfl) (by kernel_rfl) (by kernel_rfl) (fun _ _ _ h => h) (Or.inr ⟨by rfl, rfl⟩) (by assumption) ?_
          try simp only [Act.put, List.setIfInBounds_toArray, List.set_cons_zero, List.set_cons_succ]
          refine wpAnyH_take (i := 25) (oi := { dst := some 49, op := Go.Op.load 3 (Go.Operand.tmp 48), type := 3, pos := "is.go:131", after := #[{ on := 24, ground := Go.Ground.data }, { on := 23, ground := Go.Ground.guard }], guard := some (23, true) }) (v := undef) rfl (by kernel_rfl) (by kernel_rfl) (by kernel_rfl) (fun _ _ _ h => h) (Or.inr ⟨by rfl, rfl⟩) (by assumption) ?_
          try simp only [Act.put, List.setIfInBounds_toArray, List.set_cons_zero, List.set_cons_succ]
          refine wpAnyH_take (i := 26) (oi := { dst := some 50, op := Go.Op.move (Go.Operand.tmp 3), type := 22, pos := "is.go:131", after := #[{ on := 23, ground := Go.Ground.guard }], guard := some (23, true) }) (v := undef) rfl (by kernel_rfl) (by kernel_rfl) (by kernel_rfl) (fun _ _ _ h => h) (Or.inr ⟨by rfl, rfl⟩) (by assumption) ?_
          try simp only [Act.put, List.setIfInBounds_toArray, List.set_cons_zero, List.set_cons_succ]
          refine wpAnyH_take (i := 27) (oi := { dst := some 51, op := Go.Op.fieldAddr 57 (Go.Operand.tmp 7) 0, type := 0, pos := "is.go:131", after := #[{ on := 23, ground := Go.Ground.guard }], guard := some (23, true) }) (v := undef) rfl (by kernel_rfl) (by kernel_rfl) (by kernel_rfl) (fun _ _ _ h => h) (Or.inr ⟨by rfl, rfl⟩) (by assumption) ?_
          try simp only [Act.put, List.setIfInBounds_toArray, List.set_cons_zero, List.set_cons_succ]
          refine wpAnyH_take (i := 28) (oi := { dst := some 52, op := Go.Op.load 3 (Go.Operand.tmp 51), type := 3, pos := "is.go:131", after := #[{ on := 27, ground := Go.Ground.data }, { on := 23, ground := Go.Ground.guard }], guard := some (23, true) }) (v := undef) rfl (by kernel_rfl) (by kernel_rfl) (by kernel_rfl) (fun _ _ _ h => h) (Or.inr ⟨by rfl, rfl⟩) (by assumption) ?_
          try simp only [Act.put, List.setIfInBounds_toArray, List.set_cons_zero, List.set_cons_succ]
          refine wpAnyH_take (i := 29) (oi := { dst := some 53, op := Go.Op.indexAddr 22 (Go.Operand.tmp 50) (Go.Operand.tmp 52), type := 0, pos := "is.go:131", after := #[{ on := 26, ground := Go.Ground.data }, { on := 28, ground := Go.Ground.data }, { on := 23, ground := Go.Ground.guard }], guard := some (23, true) }) (v := undef) rfl (by kernel_rfl) (by kernel_rfl) (by kernel_rfl) (fun _ _ _ h => h) (Or.inr ⟨by rfl, rfl⟩) (by assumption) ?_
          try simp only [Act.put, List.setIfInBounds_toArray, List.set_cons_zero, List.set_cons_succ]
          refine wpAnyH_take (i := 30) (oi := { dst := some 54, op := Go.Op.load 3 (Go.Operand.tmp 53), type := 3, pos := "is.go:131", after := #[{ on := 29, ground := Go.Ground.data }, { on := 23, ground := Go.Ground.guard }], guard := some (23, true) }) (v := undef) rfl (by kernel_rfl) (by kernel_rfl) (by kernel_rfl) (fun _ _ _ h => h) (Or.inr ⟨by rfl, rfl⟩) (by assumption) ?_
          try simp only [Act.put, List.setIfInBounds_toArray, List.set_cons_zero, List.set_cons_succ]
          refine wpAnyH_take (i := 31) (oi := { dst := some 55, op := Go.Op.binOp Go.BinOp.geq 3 (Go.Operand.tmp 49) (Go.Operand.tmp 54) 3, type := 4, pos := "is.go:131", after := #[{ on := 25, ground := Go.Ground.data }, { on := 30, ground := Go.Ground.data }, { on := 23, ground := Go.Ground.guard }], guard := some (23, true) }) (v := undef) rfl (by kernel_rfl) (by kernel_rfl) (by kernel_rfl) (fun _ _ _ h => h) (Or.inr ⟨by rfl, rfl⟩) (by assumption) ?_
          try simp only [Act.put, List.setIfInBounds_toArray, List.set_cons_zero, List.set_cons_succ]
          refine wpAnyH_take (i := 32) (oi := { dst := some 56, op := Go.Op.pick (Go.Operand.tmp 47) (Go.Operand.tmp 55) (Go.Operand.const (Go.Value.bool false)), type := 4, pos := "is.go:131", after := #[{ on := 23, ground := Go.Ground.data }, { on := 31, ground := Go.Ground.data }, { on := 18, ground := Go.Ground.guard }], guard := some (18, false) }) (v := ?va32) rfl (by kernel_rfl) (by kernel_rfl) (by kernel_rfl) (fun _ _ _ h => h) (Or.inl ⟨by rfl, ?hya32⟩) (by assumption) ?resta32
          case hya32 => first | (intro w hSw; (try dsimp only at hSw); go_simp; done) | (intro w hSw; (try dsimp only at hSw); go_simp; with_reducible rfl)
          try simp only [Act.put, List.setIfInBounds_toArray, List.set_cons_zero, List.set_cons_succ]
          refine wpAnyH_take (i := 33) (oi := { dst := some 57, op := Go.Op.pick (Go.Operand.tmp 42) (Go.Operand.const (Go.Value.bool true)) (Go.Operand.tmp 56), type := 4, pos := "is.go:131", after := #[{ on := 18, ground := Go.Ground.data }, { on := 32, ground := Go.Ground.data }], guard := none }) (v := ?va33) rfl (by kernel_rfl) (by kernel_rfl) (by kernel_rfl) (fun _ _ _ h => h) (Or.inl ⟨by rfl, ?hya33⟩) (by assumption) ?resta33
          case hya33 => first | (intro w hSw; (try dsimp only at hSw); go_simp; done) | (intro w hSw; (try dsimp only at hSw); go_simp; with_reducible rfl)
          try simp only [Act.put, List.setIfInBounds_toArray, List.set_cons_zero, List.set_cons_succ]
          refine wpAnyH_done (by kernel_rfl) ?_ _
          have BT1 := hideT ((BV.out.trans ((show Below V.heap.size V V.drew from below_drewN (Below.refl _ _) 1).mono BV.out.size)).trans (HB1.out.mono (by have := BV.out.size; have := (show Below V.heap.size V V.drew from below_drewN (Below.refl _ _) 1).size; omega)))
          have BG1 := hideT ((BV0.out.trans ((show Below V.heap.size V V.drew from below_drewN (Below.refl _ _) 1).mono BV0.out.size)).trans (HB1.out.mono (by have := BV0.out.size; have := (show Below V.heap.size V V.drew from below_drewN (Below.refl _ _) 1).size; omega)))
          have BG := hideT (BG1.out.trans (HB2.out.mono BG1.out.size))
          have BT := hideT (BT1.out.trans (HB2.out.mono BT1.out.size))
          have LT := hideT (HL1.out.below HB2.out)
          all_goals go_wp2_with fail
          all_goals (refine ⟨⟨j + 1, by omega, by go_num, HR, BG, LT⟩, ?_⟩; first | omega | (simp [intOf]; omega))
        · have t10 : (s != z) = true := bne_iff_ne.2 q2
          have HF : Hid (¬ Rp.StrataP p) := HNW.out fun H => q2 (by rw [← HZ.out]; exact H.1 Q.out)
          clear q2
          go_wp2_with fail
          refine wp_region_held_drew (S := (fun w' => w'.cell? ⟨w.heap.size, 0, none⟩ = some (.int .i64 p.flags) ∧ w'.cell? ⟨w.heap.size, 1, none⟩ = some (.int .i64 p.lasting) ∧ w'.cell? ⟨w.heap.size, 2, none⟩ = some (.slice a2 p.first.length c2) ∧ w'.cell? ⟨w.heap.size, 3, none⟩ = some (.slice a3 p.over.length c3) ∧ w'.cell? ⟨w.heap.size, 4, none⟩ = some (.int .i64 p.frm) ∧ w'.cell? ⟨w.heap.size, 5, none⟩ = some (.slice a5 p.files.length c5) ∧ w'.cell? ⟨w.heap.size, 6, none⟩ = some (.slice (some ⟨b, o, none⟩) p.rules.length c6) ∧ w'.cell? ⟨w.heap.size, 7, none⟩ = some (.slice a7 p.ctrs.length c7) ∧ w'.cell? ⟨w.heap.size, 8, none⟩ = some (.slice a8 p.users.length c8) ∧ w'.cell? ⟨w.heap.size, 9, none⟩ = some (.slice a9 p.notes.length c9) ∧ w'.cell? ⟨W1.heap.size, 0, none⟩ = some (.int .i64 (f : Int)) ∧ w'.cell? ⟨W0.heap.size, 0, none⟩ = some (.int .i64 s) ∧ w'.cell? ⟨b, o + m * 4, none⟩ = some (.int .i64 z) ∧ w'.cell? ⟨g, f, none⟩ = some (.int .i64 v))) (by kernel_rfl) ?_ (fun hHeld => ?_)
          · try dsimp only
            go_keep
          refine wpAnyH_take (i := 0) (oi := { dst := some 24, op := Go.Op.load 29 (Go.Operand.tmp 1), type := 29, pos := "is.go:131", after := #[], guard := none }) (v := ?vb0) rfl (by kernel_rfl) (by kernel_rfl) (by kernel_rfl) (fun _ _ _ h => h) (Or.inl ⟨by rfl, ?hyb0⟩) (by assumption) ?restb0
          case hyb0 => first | (intro w hSw; (try dsimp only at hSw); go_simp; done) | (intro w hSw; (try dsimp only at hSw); go_simp; with_reducible rfl)
          try simp only [Act.put, List.setIfInBounds_toArray, List.set_cons_zero, List.set_cons_succ]
          refine wpAnyH_take (i := 1) (oi := { dst := some 25, op := Go.Op.fieldAddr 57 (Go.Operand.tmp 7) 0, type := 0, pos := "is.go:131", after := #[], guard := none }) (v := ?vb1) rfl (by kernel_rfl) (by kernel_rfl) (by kernel_rfl) (fun _ _ _ h => h) (Or.inl ⟨by rfl, ?hyb1⟩) (by assumption) ?restb1
          case hyb1 => first | (intro w hSw; (try dsimp only at hSw); go_simp; done) | (intro w hSw; (try dsimp only at hSw); go_simp; with_reducible rfl)
          try simp only [Act.put, List.setIfInBounds_toArray, List.set_cons_zero, List.set_cons_succ]
          refine wpAnyH_take (i := 2) (oi := { dst := some 26, op := Go.Op.load 3 (Go.Operand.tmp 25), type := 3, pos := "is.go:131", after := #[{ on := 1, ground := Go.Ground.data }], guard := none }) (v := ?vb2) rfl (by kernel_rfl) (by kernel_rfl) (by kernel_rfl) (fun _ _ _ h => h) (Or.inl ⟨by rfl, ?hyb2⟩) (by assumption) ?restb2
          case hyb2 => first | (intro w hSw; (try dsimp only at hSw); go_simp; done) | (intro w hSw; (try dsimp only at hSw); go_simp; with_reducible rfl)
          try simp only [Act.put, List.setIfInBounds_toArray, List.set_cons_zero, List.set_cons_succ]
          refine wpAnyH_ready (rs := [3]) (by kernel_rfl) (by simp) ?_
          refine AllReadyH.cons (o := { dst := some 27, op := Go.Op.call { callee := Go.Callee.value (Go.Operand.func 68), args := #[Go.Operand.tmp 24, Go.Operand.tmp 26], argTypes := #[29, 3] }, type := 4, pos := "is.go:131", after := #[{ on := 0, ground := Go.Ground.data }, { on := 2, ground := Go.Ground.data }], guard := none }) rfl (fun Kx hK => ?_) AllReadyH.nil
          rw [if_pos (by rfl)]
          go_simp
          go_at_call 68
          refine (lastsD _ ⟨a2, c2, a3, c3, a5, c5, some ⟨b, o, none⟩, c6, a7, c7, a8, c8, a9, c9⟩ p (f : Int)).mono ?_
          rintro e w1 h1
          obtain ⟨rfl, b1⟩ := h1.yes Q.out
          clear h1
          have z_x0 : w1.cell? ⟨w.heap.size, 0, none⟩ = some (.int .i64 p.flags) := below_cell b1 _ _ x0
          have z_x1 : w1.cell? ⟨w.heap.size, 1, none⟩ = some (.int .i64 p.lasting) := below_cell b1 _ _ x1
          have z_x2 : w1.cell? ⟨w.heap.size, 2, none⟩ = some (.slice a2 p.first.length c2) := below_cell b1 _ _ x2
          have z_x3 : w1.cell? ⟨w.heap.size, 3, none⟩ = some (.slice a3 p.over.length c3) := below_cell b1 _ _ x3
          have z_x4 : w1.cell? ⟨w.heap.size, 4, none⟩ = some (.int .i64 p.frm) := below_cell b1 _ _ x4
          have z_x5 : w1.cell? ⟨w.heap.size, 5, none⟩ = some (.slice a5 p.files.length c5) := below_cell b1 _ _ x5
          have z_x6 : w1.cell? ⟨w.heap.size, 6, none⟩ = some (.slice (some ⟨b, o, none⟩) p.rules.length c6) := below_cell b1 _ _ x6
          have z_x7 : w1.cell? ⟨w.heap.size, 7, none⟩ = some (.slice a7 p.ctrs.length c7) := below_cell b1 _ _ x7
          have z_x8 : w1.cell? ⟨w.heap.size, 8, none⟩ = some (.slice a8 p.users.length c8) := below_cell b1 _ _ x8
          have z_x9 : w1.cell? ⟨w.heap.size, 9, none⟩ = some (.slice a9 p.notes.length c9) := below_cell b1 _ _ x9
          have z_e0 : w1.cell? ⟨W1.heap.size, 0, none⟩ = some (.int .i64 (f : Int)) := below_cell b1 _ _ e0
          have z_y0 : w1.cell? ⟨W0.heap.size, 0, none⟩ = some (.int .i64 s) := below_cell b1 _ _ y0
          have z_m0 : w1.cell? ⟨b, o + m * 4, none⟩ = some (.int .i64 z) := below_cell b1 _ _ m0
          have z_v0 : w1.cell? ⟨g, f, none⟩ = some (.int .i64 v) := below_cell b1 _ _ v0
          have HB1 := hideT b1
          have HL1 := hideT (LV.out.below (show Below V.heap.size V w1 from (show Below V.heap.size V V.drew from below_drewN (Below.refl _ _) 1).trans b1))
          refine hK.out _ _ ?_ (fun hHeld3 => ?_)
          · exact ⟨below_cell b1 _ _ x0, below_cell b1 _ _ x1, below_cell b1 _ _ x2, below_cell b1 _ _ x3, below_cell b1 _ _ x4, below_cell b1 _ _ x5, below_cell b1 _ _ x6, below_cell b1 _ _ x7, below_cell b1 _ _ x8, below_cell b1 _ _ x9, below_cell b1 _ _ e0, below_cell b1 _ _ y0, below_cell b1 _ _ m0, below_cell b1 _ _ v0⟩
          clear hK Kx
          try simp only [Act.put, List.setIfInBounds_toArray, List.set_cons_zero, List.set_cons_succ]
          refine wpAnyH_take (i := 4) (oi := { dst := some 28, op := Go.Op.move (Go.Operand.tmp 27), type := 4, pos := "is.go:131", after := #[{ on := 3, ground := Go.Ground.data }, { on := 3, ground := Go.Ground.chain }], guard := none }) (v := ?vb4) rfl (by kernel_rfl) (by kernel_rfl) (by kernel_rfl) (fun _ _ _ h => h) (Or.inl ⟨by rfl, ?hyb4⟩) (by assumption) ?restb4
          case hyb4 => first | (intro w hSw; (try dsimp only at hSw); go_simp; done) | (intro w hSw; (try dsimp only at hSw); go_simp; with_reducible rfl)
          try simp only [Act.put, List.setIfInBounds_toArray, List.set_cons_zero, List.set_cons_succ]
          refine wpAnyH_take (i := 5) (oi := { dst := some 29, op := Go.Op.fieldAddr 61 (Go.Operand.tmp 5) 0, type := 0, pos := "is.go:131", after := #[{ on := 4, ground := Go.Ground.guard }], guard := some (4, true) }) (v := ?vb5) rfl (by kernel_rfl) (by kernel_rfl) (by kernel_rfl) (fun _ _ _ h => h) (Or.inl ⟨by rfl, ?hyb5⟩) (by assumption) ?restb5
          case hyb5 => first | (intro w hSw; (try dsimp only at hSw); go_simp; done) | (intro w hSw; (try dsimp only at hSw); go_simp; with_reducible rfl)
          try simp only [Act.put, List.setIfInBounds_toArray, List.set_cons_zero, List.set_cons_succ]
          refine wpAnyH_take (i := 6) (oi := { dst := some 30, op := Go.Op.load 3 (Go.Operand.tmp 29), type := 3, pos := "is.go:131", after := #[{ on := 5, ground := Go.Ground.data }, { on := 4, ground := Go.Ground.guard }], guard := some (4, true) }) (v := ?vb6) rfl (by kernel_rfl) (by kernel_rfl) (by kernel_rfl) (fun _ _ _ h => h) (Or.inl ⟨by rfl, ?hyb6⟩) (by assumption) ?restb6
          case hyb6 => first | (intro w hSw; (try dsimp only at hSw); go_simp; done) | (intro w hSw; (try dsimp only at hSw); go_simp; with_reducible rfl)
          try simp only [Act.put, List.setIfInBounds_toArray, List.set_cons_zero, List.set_cons_succ]
          refine wpAnyH_take (i := 7) (oi := { dst := some 31, op := Go.Op.fieldAddr 29 (Go.Operand.tmp 1) 6, type := 0, pos := "is.go:131", after := #[{ on := 4, ground := Go.Ground.guard }], guard := some (4, true) }) (v := ?vb7) rfl (by kernel_rfl) (by kernel_rfl) (by kernel_rfl) (fun _ _ _ h => h) (Or.inl ⟨by rfl, ?hyb7⟩) (by assumption) ?restb7
          case hyb7 => first | (intro w hSw; (try dsimp only at hSw); go_simp; done) | (intro w hSw; (try dsimp only at hSw); go_simp; with_reducible rfl)
          try simp only [Act.put, List.setIfInBounds_toArray, List.set_cons_zero, List.set_cons_succ]
          refine wpAnyH_take (i := 8) (oi := { dst := some 32, op := Go.Op.load 24 (Go.Operand.tmp 31), type := 24, pos := "is.go:131", after := #[{ on := 7, ground := Go.Ground.data }, { on := 4, ground := Go.Ground.guard }], guard := some (4, true) }) (v := ?vb8) rfl (by kernel_rfl) (by kernel_rfl) (by kernel_rfl) (fun _ _ _ h => h) (Or.inl ⟨by rfl, ?hyb8⟩) (by assumption) ?restb8
          case hyb8 => first | (intro w hSw; (try dsimp only at hSw); go_simp; done) | (intro w hSw; (try dsimp only at hSw); go_simp; with_reducible rfl)
          try simp only [Act.put, List.setIfInBounds_toArray, List.set_cons_zero, List.set_cons_succ]
          refine wpAnyH_take (i := 9) (oi := { dst := some 33, op := Go.Op.fieldAddr 29 (Go.Operand.tmp 1) 6, type := 0, pos := "is.go:131", after := #[{ on := 4, ground := Go.Ground.guard }], guard := some (4, true) }) (v := ?vb9) rfl (by kernel_rfl) (by kernel_rfl) (by kernel_rfl) (fun _ _ _ h => h) (Or.inl ⟨by rfl, ?hyb9⟩) (by assumption) ?restb9
          case hyb9 => first | (intro w hSw; (try dsimp only at hSw); go_simp; done) | (intro w hSw; (try dsimp only at hSw); go_simp; with_reducible rfl)
          try simp only [Act.put, List.setIfInBounds_toArray, List.set_cons_zero, List.set_cons_succ]
          refine wpAnyH_take (i := 10) (oi := { dst := some 34, op := Go.Op.load 24 (Go.Operand.tmp 33), type := 24, pos := "is.go:131", after := #[{ on := 9, ground := Go.Ground.data }, { on := 4, ground := Go.Ground.guard }], guard := some (4, true) }) (v := ?vb10) rfl (by kernel_rfl) (by kernel_rfl) (by kernel_rfl) (fun _ _ _ h => h) (Or.inl ⟨by rfl, ?hyb10⟩) (by assumption) ?restb10
          case hyb10 => first | (intro w hSw; (try dsimp only at hSw); go_simp; done) | (intro w hSw; (try dsimp only at hSw); go_simp; with_reducible rfl)
          try simp only [Act.put, List.setIfInBounds_toArray, List.set_cons_zero, List.set_cons_succ]
          refine wpAnyH_take (i := 11) (oi := { dst := some 35, op := Go.Op.call { callee := Go.Callee.builtin Go.Builtin.len, args := #[Go.Operand.tmp 34], argTypes := #[24] }, type := 3, pos := "is.go:131", after := #[{ on := 10, ground := Go.Ground.data }, { on := 4, ground := Go.Ground.guard }], guard := some (4, true) }) (v := ?vb11) rfl (by kernel_rfl) (by kernel_rfl) (by kernel_rfl) (fun _ _ _ h => h) (Or.inl ⟨by rfl, ?hyb11⟩) (by assumption) ?restb11
          case hyb11 => first | (intro w hSw; (try dsimp only at hSw); go_simp; done) | (intro w hSw; (try dsimp only at hSw); go_simp; with_reducible rfl)
          try simp only [Act.put, List.setIfInBounds_toArray, List.set_cons_zero, List.set_cons_succ]
          refine wpAnyH_take (i := 12) (oi := { dst := some 36, op := Go.Op.binOp Go.BinOp.sub 3 (Go.Operand.tmp 35) (Go.Operand.const (Go.Value.int Go.IntKind.i64 1)) 3, type := 3, pos := "is.go:131", after := #[{ on := 11, ground := Go.Ground.data }, { on := 4, ground := Go.Ground.guard }], guard := some (4, true) }) (v := ?vb12) rfl (by kernel_rfl) (by kernel_rfl) (by kernel_rfl) (fun _ _ _ h => h) (Or.inl ⟨by rfl, ?hyb12⟩) (by assumption) ?restb12
          case hyb12 => first | (intro w hSw; (try dsimp only at hSw); go_simp; done) | (intro w hSw; (try dsimp only at hSw); go_simp; with_reducible rfl)
          try simp only [Act.put, List.setIfInBounds_toArray, List.set_cons_zero, List.set_cons_succ]
          refine wpAnyH_take (i := 13) (oi := { dst := some 37, op := Go.Op.indexAddr 24 (Go.Operand.tmp 32) (Go.Operand.tmp 36), type := 0, pos := "is.go:131", after := #[{ on := 8, ground := Go.Ground.data }, { on := 12, ground := Go.Ground.data }, { on := 4, ground := Go.Ground.guard }], guard := some (4, true) }) (v := ?vb13) rfl (by kernel_rfl) (by kernel_rfl) (by kernel_rfl) (fun _ _ _ h => h) (Or.inl ⟨by rfl, ?hyb13⟩) (by assumption) ?restb13
          case hyb13 => first | (intro w hSw; (try dsimp only at hSw); go_simp; done) | (intro w hSw; (try dsimp only at hSw); go_simp; with_reducible rfl)
          try simp only [Act.put, List.setIfInBounds_toArray, List.set_cons_zero, List.set_cons_succ]
          refine wpAnyH_take (i := 14) (oi := { dst := some 38, op := Go.Op.fieldAddr 61 (Go.Operand.tmp 37) 0, type := 0, pos := "is.go:131", after := #[{ on := 13, ground := Go.Ground.data }, { on := 4, ground := Go.Ground.guard }], guard := some (4, true) }) (v := ?vb14) rfl (by kernel_rfl) (by kernel_rfl) (by kernel_rfl) (fun _ _ _ h => h) (Or.inl ⟨by rfl, ?hyb14⟩) (by assumption) ?restb14
          case hyb14 => first | (intro w hSw; (try dsimp only at hSw); go_simp; done) | (intro w hSw; (try dsimp only at hSw); go_simp; with_reducible rfl)
          try simp only [Act.put, List.setIfInBounds_toArray, List.set_cons_zero, List.set_cons_succ]
          refine wpAnyH_take (i := 15) (oi := { dst := some 39, op := Go.Op.load 3 (Go.Operand.tmp 38), type := 3, pos := "is.go:131", after := #[{ on := 14, ground := Go.Ground.data }, { on := 4, ground := Go.Ground.guard }], guard := some (4, true) }) (v := ?vb15) rfl (by kernel_rfl) (by kernel_rfl) (by kernel_rfl) (fun _ _ _ h => h) (Or.inl ⟨by rfl, ?hyb15⟩) (by assumption) ?restb15
          case hyb15 => first | (intro w hSw; (try dsimp only at hSw); go_simp; done) | (intro w hSw; (try dsimp only at hSw); go_simp; with_reducible rfl)
          try simp only [Act.put, List.setIfInBounds_toArray, List.set_cons_zero, List.set_cons_succ]
          refine wpAnyH_take (i := 16) (oi := { dst := some 40, op := Go.Op.binOp Go.BinOp.neq 3 (Go.Operand.tmp 30) (Go.Operand.tmp 39) 3, type := 4, pos := "is.go:131", after := #[{ on := 6, ground := Go.Ground.data }, { on := 15, ground := Go.Ground.data }, { on := 4, ground := Go.Ground.guard }], guard := some (4, true) }) (v := ?vb16) rfl (by kernel_rfl) (by kernel_rfl) (by kernel_rfl) (fun _ _ _ h => h) (Or.inl ⟨by rfl, ?hyb16⟩) (by assumption) ?restb16
          case hyb16 => first | (intro w hSw; (try dsimp only at hSw); go_simp; done) | (intro w hSw; (try dsimp only at hSw); go_simp; with_reducible rfl)
          try simp only [Act.put, List.setIfInBounds_toArray, List.set_cons_zero, List.set_cons_succ]
          refine wpAnyH_take (i := 17) (oi := { dst := some 41, op := Go.Op.pick (Go.Operand.tmp 28) (Go.Operand.tmp 40) (Go.Operand.const (Go.Value.bool false)), type := 4, pos := "is.go:131", after := #[{ on := 4, ground := Go.Ground.data }, { on := 16, ground := Go.Ground.data }], guard := none }) (v := ?vb17) rfl (by kernel_rfl) (by kernel_rfl) (by kernel_rfl) (fun _ _ _ h => h) (Or.inl ⟨by rfl, ?hyb17⟩) (by assumption) ?restb17
          case hyb17 => first | (intro w hSw; (try dsimp only at hSw); go_simp; done) | (intro w hSw; (try dsimp only at hSw); go_simp; with_reducible rfl)
          try simp only [Act.put, List.setIfInBounds_toArray, List.set_cons_zero, List.set_cons_succ]
          refine wpAnyH_take (i := 18) (oi := { dst := some 42, op := Go.Op.move (Go.Operand.tmp 41), type := 4, pos := "is.go:131", after := #[{ on := 17, ground := Go.Ground.data }, { on := 4, ground := Go.Ground.chain }], guard := none }) (v := ?vb18) rfl (by kernel_rfl) (by kernel_rfl) (by kernel_rfl) (fun _ _ _ h => h) (Or.inl ⟨by rfl, ?hyb18⟩) (by assumption) ?restb18
          case hyb18 => first | (intro w hSw; (try dsimp only at hSw); go_simp; done) | (intro w hSw; (try dsimp only at hSw); go_simp; with_reducible rfl)
          try simp only [Act.put, List.setIfInBounds_toArray, List.set_cons_zero, List.set_cons_succ]
          refine wpAnyH_take (i := 19) (oi := { dst := some 43, op := Go.Op.load 29 (Go.Operand.tmp 1), type := 29, pos := "is.go:131", after := #[{ on := 18, ground := Go.Ground.guard }], guard := some (18, false) }) (v := undef) rfl (by kernel_rfl) (by kernel_rfl) (by kernel_rfl) (fun _ _ _ h => h) (Or.inr ⟨by rfl, rfl⟩) (by assumption) ?_
          try simp only [Act.put, List.setIfInBounds_toArray, List.set_cons_zero, List.set_cons_succ]
          refine wpAnyH_take (i := 20) (oi := { dst := some 44, op := Go.Op.fieldAddr 57 (Go.Operand.tmp 7) 0, type := 0, pos := "is.go:131", after := #[{ on := 18, ground := Go.Ground.guard }], guard := some (18, false) }) (v := undef) rfl (by kernel_rfl) (by kernel_rfl) (by kernel_rfl) (fun _ _ _ h => h) (Or.inr ⟨by rfl, rfl⟩) (by assumption) ?_
          try simp only [Act.put, List.setIfInBounds_toArray, List.set_cons_zero, List.set_cons_succ]
          refine wpAnyH_take (i := 21) (oi := { dst := some 45, op := Go.Op.load 3 (Go.Operand.tmp 44), type := 3, pos := "is.go:131", after := #[{ on := 20, ground := Go.Ground.data }, { on := 18, ground := Go.Ground.guard }], guard := some (18, false) }) (v := undef) rfl (by kernel_rfl) (by kernel_rfl) (by kernel_rfl) (fun _ _ _ h => h) (Or.inr ⟨by rfl, rfl⟩) (by assumption) ?_
          try simp only [Act.put, List.setIfInBounds_toArray, List.set_cons_zero, List.set_cons_succ]
          refine wpAnyH_take (i := 22) (oi := { dst := some 46, op := Go.Op.call { callee := Go.Callee.value (Go.Operand.func 69), args := #[Go.Operand.tmp 43, Go.Operand.tmp 45], argTypes := #[29, 3] }, type := 4, pos := "is.go:131", after := #[{ on := 19, ground := Go.Ground.data }, { on := 21, ground := Go.Ground.data }, { on := 18, ground := Go.Ground.chain }, { on := 18, ground := Go.Ground.guard }], guard := some (18, false) }) (v := undef) rfl (by kernel_rfl) (by kernel_rfl) (by kernel_rfl) (fun _ _ _ h => h) (Or.inr ⟨by rfl, rfl⟩) (by assumption) ?_
          try simp only [Act.put, List.setIfInBounds_toArray, List.set_cons_zero, List.set_cons_succ]
          refine wpAnyH_take (i := 23) (oi := { dst := some 47, op := Go.Op.move (Go.Operand.tmp 46), type := 4, pos := "is.go:131", after := #[{ on := 22, ground := Go.Ground.data }, { on := 22, ground := Go.Ground.chain }, { on := 18, ground := Go.Ground.guard }], guard := some (18, false) }) (v := undef) rfl (by kernel_rfl) (by kernel_rfl) (by kernel_rfl) (fun _ _ _ h => h) (Or.inr ⟨by rfl, rfl⟩) (by assumption) ?_
          try simp only [Act.put, List.setIfInBounds_toArray, List.set_cons_zero, List.set_cons_succ]
          refine wpAnyH_take (i := 24) (oi := { dst := some 48, op := Go.Op.fieldAddr 61 (Go.Operand.tmp 5) 0, type := 0, pos := "is.go:131", after := #[{ on := 23, ground := Go.Ground.guard }], guard := some (23, true) }) (v := undef) rfl (by kernel_rfl) (by kernel_rfl) (by kernel_rfl) (fun _ _ _ h => h) (Or.inr ⟨by rfl, rfl⟩) (by assumption) ?_
          try simp only [Act.put, List.setIfInBounds_toArray, List.set_cons_zero, List.set_cons_succ]
          refine wpAnyH_take (i := 25) (oi := { dst := some 49, op := Go.Op.load 3 (Go.Operand.tmp 48), type := 3, pos := "is.go:131", after := #[{ on := 24, ground := Go.Ground.data }, { on := 23, ground := Go.Ground.guard }], guard := some (23, true) }) (v := undef) rfl (by kernel_rfl) (by kernel_rfl) (by kernel_rfl) (fun _ _ _ h => h) (Or.inr ⟨by rfl, rfl⟩) (by assumption) ?_
          try simp only [Act.put, List.setIfInBounds_toArray, List.set_cons_zero, List.set_cons_succ]
          refine wpAnyH_take (i := 26) (oi := { dst := some 50, op := Go.Op.move (Go.Operand.tmp 3), type := 22, pos := "is.go:131", after := #[{ on := 23, ground := Go.Ground.guard }], guard := some (23, true) }) (v := undef) rfl (by kernel_rfl) (by kernel_rfl) (by kernel_rfl) (fun _ _ _ h => h) (Or.inr ⟨by rfl, rfl⟩) (by assumption) ?_
          try simp only [Act.put, List.setIfInBounds_toArray, List.set_cons_zero, List.set_cons_succ]
          refine wpAnyH_take (i := 27) (oi := { dst := some 51, op := Go.Op.fieldAddr 57 (Go.Operand.tmp 7) 0, type := 0, pos := "is.go:131", after := #[{ on := 23, ground := Go.Ground.guard }], guard := some (23, true) }) (v := undef) rfl (by kernel_rfl) (by kernel_rfl) (by kernel_rfl) (fun _ _ _ h => h) (Or.inr ⟨by rfl, rfl⟩) (by assumption) ?_
          try simp only [Act.put, List.setIfInBounds_toArray, List.set_cons_zero, List.set_cons_succ]
          refine wpAnyH_take (i := 28) (oi := { dst := some 52, op := Go.Op.load 3 (Go.Operand.tmp 51), type := 3, pos := "is.go:131", after := #[{ on := 27, ground := Go.Ground.data }, { on := 23, ground := Go.Ground.guard }], guard := some (23, true) }) (v := undef) rfl (by kernel_rfl) (by kernel_rfl) (by kernel_rfl) (fun _ _ _ h => h) (Or.inr ⟨by rfl, rfl⟩) (by assumption) ?_
          try simp only [Act.put, List.setIfInBounds_toArray, List.set_cons_zero, List.set_cons_succ]
          refine wpAnyH_take (i := 29) (oi := { dst := some 53, op := Go.Op.indexAddr 22 (Go.Operand.tmp 50) (Go.Operand.tmp 52), type := 0, pos := "is.go:131", after := #[{ on := 26, ground := Go.Ground.data }, { on := 28, ground := Go.Ground.data }, { on := 23, ground := Go.Ground.guard }], guard := some (23, true) }) (v := undef) rfl (by kernel_rfl) (by kernel_rfl) (by kernel_rfl) (fun _ _ _ h => h) (Or.inr ⟨by rfl, rfl⟩) (by assumption) ?_
          try simp only [Act.put, List.setIfInBounds_toArray, List.set_cons_zero, List.set_cons_succ]
          refine wpAnyH_take (i := 30) (oi := { dst := some 54, op := Go.Op.load 3 (Go.Operand.tmp 53), type := 3, pos := "is.go:131", after := #[{ on := 29, ground := Go.Ground.data }, { on := 23, ground := Go.Ground.guard }], guard := some (23, true) }) (v := undef) rfl (by kernel_rfl) (by kernel_rfl) (by kernel_rfl) (fun _ _ _ h => h) (Or.inr ⟨by rfl, rfl⟩) (by assumption) ?_
          try simp only [Act.put, List.setIfInBounds_toArray, List.set_cons_zero, List.set_cons_succ]
          refine wpAnyH_take (i := 31) (oi := { dst := some 55, op := Go.Op.binOp Go.BinOp.geq 3 (Go.Operand.tmp 49) (Go.Operand.tmp 54) 3, type := 4, pos := "is.go:131", after := #[{ on := 25, ground := Go.Ground.data }, { on := 30, ground := Go.Ground.data }, { on := 23, ground := Go.Ground.guard }], guard := some (23, true) }) (v := undef) rfl (by kernel_rfl) (by kernel_rfl) (by kernel_rfl) (fun _ _ _ h => h) (Or.inr ⟨by rfl, rfl⟩) (by assumption) ?_
          try simp only [Act.put, List.setIfInBounds_toArray, List.set_cons_zero, List.set_cons_succ]
          refine wpAnyH_take (i := 32) (oi := { dst := some 56, op := Go.Op.pick (Go.Operand.tmp 47) (Go.Operand.tmp 55) (Go.Operand.const (Go.Value.bool false)), type := 4, pos := "is.go:131", after := #[{ on := 23, ground := Go.Ground.data }, { on := 31, ground := Go.Ground.data }, { on := 18, ground := Go.Ground.guard }], guard := some (18, false) }) (v := undef) rfl (by kernel_rfl) (by kernel_rfl) (by kernel_rfl) (fun _ _ _ h => h) (Or.inr ⟨by rfl, rfl⟩) (by assumption) ?_
          try simp only [Act.put, List.setIfInBounds_toArray, List.set_cons_zero, List.set_cons_succ]
          refine wpAnyH_take (i := 33) (oi := { dst := some 57, op := Go.Op.pick (Go.Operand.tmp 42) (Go.Operand.const (Go.Value.bool true)) (Go.Operand.tmp 56), type := 4, pos := "is.go:131", after := #[{ on := 18, ground := Go.Ground.data }, { on := 32, ground := Go.Ground.data }], guard := none }) (v := ?vb33) rfl (by kernel_rfl) (by kernel_rfl) (by kernel_rfl) (fun _ _ _ h => h) (Or.inl ⟨by rfl, ?hyb33⟩) (by assumption) ?restb33
          case hyb33 => first | (intro w hSw; (try dsimp only at hSw); go_simp; done) | (intro w hSw; (try dsimp only at hSw); go_simp; with_reducible rfl)
          try simp only [Act.put, List.setIfInBounds_toArray, List.set_cons_zero, List.set_cons_succ]
          refine wpAnyH_done (by kernel_rfl) ?_ _
          have BT := hideT ((BV.out.trans ((show Below V.heap.size V V.drew from below_drewN (Below.refl _ _) 1).mono BV.out.size)).trans (HB1.out.mono (by have := BV.out.size; have := (show Below V.heap.size V V.drew from below_drewN (Below.refl _ _) 1).size; omega)))
          all_goals go_wp2_with fail
          all_goals go_ret
          all_goals exact bpost_no HF.out BT.out
      have Q := hideT q1
      have Q2 : Hid (Rp.PassP p (f : Int)) := ⟨Int.not_lt.1 (fun h => Q.out ⟨t5, h⟩), by have := HN.out; omega⟩
      clear q1
      by_cases q2 : s < v
      · have HR : Hid (∀ (i : Nat) x, i < j + 1 → l3[i]? = some x → Rp.WriteP p s x.1) := Rp.all_step HD.out HY.out ⟨fun h => (Q.out h).elim, fun _ q hq l hl e => ((HVV.out s).1 q2).2 q.1 ⟨q, hq, rfl, l, hl, e⟩⟩
        have t10 : ¬ v ≤ s := by omega
        go_wp2_with fail
        refine wp_region_held_drew (S := (fun w' => w'.cell? ⟨w.heap.size, 0, none⟩ = some (.int .i64 p.flags) ∧ w'.cell? ⟨w.heap.size, 1, none⟩ = some (.int .i64 p.lasting) ∧ w'.cell? ⟨w.heap.size, 2, none⟩ = some (.slice a2 p.first.length c2) ∧ w'.cell? ⟨w.heap.size, 3, none⟩ = some (.slice a3 p.over.length c3) ∧ w'.cell? ⟨w.heap.size, 4, none⟩ = some (.int .i64 p.frm) ∧ w'.cell? ⟨w.heap.size, 5, none⟩ = some (.slice a5 p.files.length c5) ∧ w'.cell? ⟨w.heap.size, 6, none⟩ = some (.slice (some ⟨b, o, none⟩) p.rules.length c6) ∧ w'.cell? ⟨w.heap.size, 7, none⟩ = some (.slice a7 p.ctrs.length c7) ∧ w'.cell? ⟨w.heap.size, 8, none⟩ = some (.slice a8 p.users.length c8) ∧ w'.cell? ⟨w.heap.size, 9, none⟩ = some (.slice a9 p.notes.length c9) ∧ w'.cell? ⟨W1.heap.size, 0, none⟩ = some (.int .i64 (f : Int)) ∧ w'.cell? ⟨W0.heap.size, 0, none⟩ = some (.int .i64 s) ∧ w'.cell? ⟨b, o + m * 4, none⟩ = some (.int .i64 z) ∧ w'.cell? ⟨g, f, none⟩ = some (.int .i64 v))) (by kernel_rfl) ?_ (fun hHeld => ?_)
        · try dsimp only
          go_keep
        refine wpAnyH_take (i := 0) (oi := { dst := some 24, op := Go.Op.load 29 (Go.Operand.tmp 1), type := 29, pos := "is.go:131", after := #[], guard := none }) (v := ?vc0) rfl (by kernel_rfl) (by kernel_rfl) (by kernel_rfl) (fun _ _ _ h => h) (Or.inl ⟨by rfl, ?hyc0⟩) (by assumption) ?restc0
        case hyc0 => first | (intro w hSw; (try dsimp only at hSw); go_simp; done) | (intro w hSw; (try dsimp only at hSw); go_simp; with_reducible rfl)
        try simp only [Act.put, List.setIfInBounds_toArray, List.set_cons_zero, List.set_cons_succ]
        refine wpAnyH_take (i := 1) (oi := { dst := some 25, op := Go.Op.fieldAddr 57 (Go.Operand.tmp 7) 0, type := 0, pos := "is.go:131", after := #[], guard := none }) (v := ?vc1) rfl (by kernel_rfl) (by kernel_rfl) (by kernel_rfl) (fun _ _ _ h => h) (Or.inl ⟨by rfl, ?hyc1⟩) (by assumption) ?restc1
        case hyc1 => first | (intro w hSw; (try dsimp only at hSw); go_simp; done) | (intro w hSw; (try dsimp only at hSw); go_simp; with_reducible rfl)
        try simp only [Act.put, List.setIfInBounds_toArray, List.set_cons_zero, List.set_cons_succ]
        refine wpAnyH_take (i := 2) (oi := { dst := some 26, op := Go.Op.load 3 (Go.Operand.tmp 25), type := 3, pos := "is.go:131", after := #[{ on := 1, ground := Go.Ground.data }], guard := none }) (v := ?vc2) rfl (by kernel_rfl) (by kernel_rfl) (by kernel_rfl) (fun _ _ _ h => h) (Or.inl ⟨by rfl, ?hyc2⟩) (by assumption) ?restc2
        case hyc2 => first | (intro w hSw; (try dsimp only at hSw); go_simp; done) | (intro w hSw; (try dsimp only at hSw); go_simp; with_reducible rfl)
        try simp only [Act.put, List.setIfInBounds_toArray, List.set_cons_zero, List.set_cons_succ]
        refine wpAnyH_ready (rs := [3]) (by kernel_rfl) (by simp) ?_
        refine AllReadyH.cons (o := { dst := some 27, op := Go.Op.call { callee := Go.Callee.value (Go.Operand.func 68), args := #[Go.Operand.tmp 24, Go.Operand.tmp 26], argTypes := #[29, 3] }, type := 4, pos := "is.go:131", after := #[{ on := 0, ground := Go.Ground.data }, { on := 2, ground := Go.Ground.data }], guard := none }) rfl (fun Kx hK => ?_) AllReadyH.nil
        rw [if_pos (by rfl)]
        go_simp
        go_at_call 68
        refine (lastsD _ ⟨a2, c2, a3, c3, a5, c5, some ⟨b, o, none⟩, c6, a7, c7, a8, c8, a9, c9⟩ p (f : Int)).mono ?_
        rintro e w1 h1
        obtain ⟨rfl, b1⟩ := h1.no Q.out
        clear h1
        have z_x0 : w1.cell? ⟨w.heap.size, 0, none⟩ = some (.int .i64 p.flags) := below_cell b1 _ _ x0
        have z_x1 : w1.cell? ⟨w.heap.size, 1, none⟩ = some (.int .i64 p.lasting) := below_cell b1 _ _ x1
        have z_x2 : w1.cell? ⟨w.heap.size, 2, none⟩ = some (.slice a2 p.first.length c2) := below_cell b1 _ _ x2
        have z_x3 : w1.cell? ⟨w.heap.size, 3, none⟩ = some (.slice a3 p.over.length c3) := below_cell b1 _ _ x3
        have z_x4 : w1.cell? ⟨w.heap.size, 4, none⟩ = some (.int .i64 p.frm) := below_cell b1 _ _ x4
        have z_x5 : w1.cell? ⟨w.heap.size, 5, none⟩ = some (.slice a5 p.files.length c5) := below_cell b1 _ _ x5
        have z_x6 : w1.cell? ⟨w.heap.size, 6, none⟩ = some (.slice (some ⟨b, o, none⟩) p.rules.length c6) := below_cell b1 _ _ x6
        have z_x7 : w1.cell? ⟨w.heap.size, 7, none⟩ = some (.slice a7 p.ctrs.length c7) := below_cell b1 _ _ x7
        have z_x8 : w1.cell? ⟨w.heap.size, 8, none⟩ = some (.slice a8 p.users.length c8) := below_cell b1 _ _ x8
        have z_x9 : w1.cell? ⟨w.heap.size, 9, none⟩ = some (.slice a9 p.notes.length c9) := below_cell b1 _ _ x9
        have z_e0 : w1.cell? ⟨W1.heap.size, 0, none⟩ = some (.int .i64 (f : Int)) := below_cell b1 _ _ e0
        have z_y0 : w1.cell? ⟨W0.heap.size, 0, none⟩ = some (.int .i64 s) := below_cell b1 _ _ y0
        have z_m0 : w1.cell? ⟨b, o + m * 4, none⟩ = some (.int .i64 z) := below_cell b1 _ _ m0
        have z_v0 : w1.cell? ⟨g, f, none⟩ = some (.int .i64 v) := below_cell b1 _ _ v0
        have HB1 := hideT b1
        have HL1 := hideT (LV.out.below (show Below V.heap.size V w1 from (show Below V.heap.size V V.drew from below_drewN (Below.refl _ _) 1).trans b1))
        refine hK.out _ _ ?_ (fun hHeld3 => ?_)
        · exact ⟨below_cell b1 _ _ x0, below_cell b1 _ _ x1, below_cell b1 _ _ x2, below_cell b1 _ _ x3, below_cell b1 _ _ x4, below_cell b1 _ _ x5, below_cell b1 _ _ x6, below_cell b1 _ _ x7, below_cell b1 _ _ x8, below_cell b1 _ _ x9, below_cell b1 _ _ e0, below_cell b1 _ _ y0, below_cell b1 _ _ m0, below_cell b1 _ _ v0⟩
        clear hK Kx
        try simp only [Act.put, List.setIfInBounds_toArray, List.set_cons_zero, List.set_cons_succ]
        refine wpAnyH_take (i := 4) (oi := { dst := some 28, op := Go.Op.move (Go.Operand.tmp 27), type := 4, pos := "is.go:131", after := #[{ on := 3, ground := Go.Ground.data }, { on := 3, ground := Go.Ground.chain }], guard := none }) (v := ?vc4) rfl (by kernel_rfl) (by kernel_rfl) (by kernel_rfl) (fun _ _ _ h => h) (Or.inl ⟨by rfl, ?hyc4⟩) (by assumption) ?restc4
        case hyc4 => first | (intro w hSw; (try dsimp only at hSw); go_simp; done) | (intro w hSw; (try dsimp only at hSw); go_simp; with_reducible rfl)
        try simp only [Act.put, List.setIfInBounds_toArray, List.set_cons_zero, List.set_cons_succ]
        refine wpAnyH_take (i := 5) (oi := { dst := some 29, op := Go.Op.fieldAddr 61 (Go.Operand.tmp 5) 0, type := 0, pos := "is.go:131", after := #[{ on := 4, ground := Go.Ground.guard }], guard := some (4, true) }) (v := undef) rfl (by kernel_rfl) (by kernel_rfl) (by kernel_rfl) (fun _ _ _ h => h) (Or.inr ⟨by rfl, rfl⟩) (by assumption) ?_
        try simp only [Act.put, List.setIfInBounds_toArray, List.set_cons_zero, List.set_cons_succ]
        refine wpAnyH_take (i := 6) (oi := { dst := some 30, op := Go.Op.load 3 (Go.Operand.tmp 29), type := 3, pos := "is.go:131", after := #[{ on := 5, ground := Go.Ground.data }, { on := 4, ground := Go.Ground.guard }], guard := some (4, true) }) (v := undef) rfl (by kernel_rfl) (by kernel_rfl) (by kernel_rfl) (fun _ _ _ h => h) (Or.inr ⟨by rfl, rfl⟩) (by assumption) ?_
        try simp only [Act.put, List.setIfInBounds_toArray, List.set_cons_zero, List.set_cons_succ]
        refine wpAnyH_take (i := 7) (oi := { dst := some 31, op := Go.Op.fieldAddr 29 (Go.Operand.tmp 1) 6, type := 0, pos := "is.go:131", after := #[{ on := 4, ground := Go.Ground.guard }], guard := some (4, true) }) (v := undef) rfl (by kernel_rfl) (by kernel_rfl) (by kernel_rfl) (fun _ _ _ h => h) (Or.inr ⟨by rfl, rfl⟩) (by assumption) ?_
        try simp only [Act.put, List.setIfInBounds_toArray, List.set_cons_zero, List.set_cons_succ]
        refine wpAnyH_take (i := 8) (oi := { dst := some 32, op := Go.Op.load 24 (Go.Operand.tmp 31), type := 24, pos := "is.go:131", after := #[{ on := 7, ground := Go.Ground.data }, { on := 4, ground := Go.Ground.guard }], guard := some (4, true) }) (v := undef) rfl (by kernel_rfl) (by kernel_rfl) (by kernel_rfl) (fun _ _ _ h => h) (Or.inr ⟨by rfl, rfl⟩) (by assumption) ?_
        try simp only [Act.put, List.setIfInBounds_toArray, List.set_cons_zero, List.set_cons_succ]
        refine wpAnyH_take (i := 9) (oi := { dst := some 33, op := Go.Op.fieldAddr 29 (Go.Operand.tmp 1) 6, type := 0, pos := "is.go:131", after := #[{ on := 4, ground := Go.Ground.guard }], guard := some (4, true) }) (v := undef) rfl (by kernel_rfl) (by kernel_rfl) (by kernel_rfl) (fun _ _ _ h => h) (Or.inr ⟨by rfl, rfl⟩) (by assumption) ?_
        try simp only [Act.put, List.setIfInBounds_toArray, List.set_cons_zero, List.set_cons_succ]
        refine wpAnyH_take (i := 10) (oi := { dst := some 34, op := Go.Op.load 24 (Go.Operand.tmp 33), type := 24, pos := "is.go:131", after := #[{ on := 9, ground := Go.Ground.data }, { on := 4, ground := Go.Ground.guard }], guard := some (4, true) }) (v := undef) rfl (by kernel_rfl) (by kernel_rfl) (by kernel_rfl) (fun _ _ _ h => h) (Or.inr ⟨by rfl, rfl⟩) (by assumption) ?_
        try simp only [Act.put, List.setIfInBounds_toArray, List.set_cons_zero, List.set_cons_succ]
        refine wpAnyH_take (i := 11) (oi := { dst := some 35, op := Go.Op.call { callee := Go.Callee.builtin Go.Builtin.len, args := #[Go.Operand.tmp 34], argTypes := #[24] }, type := 3, pos := "is.go:131", after := #[{ on := 10, ground := Go.Ground.data }, { on := 4, ground := Go.Ground.guard }], guard := some (4, true) }) (v := undef) rfl (by kernel_rfl) (by kernel_rfl) (by kernel_rfl) (fun _ _ _ h => h) (Or.inr ⟨by rfl, rfl⟩) (by assumption) ?_
        try simp only [Act.put, List.setIfInBounds_toArray, List.set_cons_zero, List.set_cons_succ]
        refine wpAnyH_take (i := 12) (oi := { dst := some 36, op := Go.Op.binOp Go.BinOp.sub 3 (Go.Operand.tmp 35) (Go.Operand.const (Go.Value.int Go.IntKind.i64 1)) 3, type := 3, pos := "is.go:131", after := #[{ on := 11, ground := Go.Ground.data }, { on := 4, ground := Go.Ground.guard }], guard := some (4, true) }) (v := undef) rfl (by kernel_rfl) (by kernel_rfl) (by kernel_rfl) (fun _ _ _ h => h) (Or.inr ⟨by rfl, rfl⟩) (by assumption) ?_
        try simp only [Act.put, List.setIfInBounds_toArray, List.set_cons_zero, List.set_cons_succ]
        refine wpAnyH_take (i := 13) (oi := { dst := some 37, op := Go.Op.indexAddr 24 (Go.Operand.tmp 32) (Go.Operand.tmp 36), type := 0, pos := "is.go:131", after := #[{ on := 8, ground := Go.Ground.data }, { on := 12, ground := Go.Ground.data }, { on := 4, ground := Go.Ground.guard }], guard := some (4, true) }) (v := undef) rfl (by kernel_rfl) (by kernel_rfl) (by kernel_rfl) (fun _ _ _ h => h) (Or.inr ⟨by rfl, rfl⟩) (by assumption) ?_
        try simp only [Act.put, List.setIfInBounds_toArray, List.set_cons_zero, List.set_cons_succ]
        refine wpAnyH_take (i := 14) (oi := { dst := some 38, op := Go.Op.fieldAddr 61 (Go.Operand.tmp 37) 0, type := 0, pos := "is.go:131", after := #[{ on := 13, ground := Go.Ground.data }, { on := 4, ground := Go.Ground.guard }], guard := some (4, true) }) (v := undef) rfl (by kernel_rfl) (by kernel_rfl) (by kernel_rfl) (fun _ _ _ h => h) (Or.inr ⟨by rfl, rfl⟩) (by assumption) ?_
        try simp only [Act.put, List.setIfInBounds_toArray, List.set_cons_zero, List.set_cons_succ]
        refine wpAnyH_take (i := 15) (oi := { dst := some 39, op := Go.Op.load 3 (Go.Operand.tmp 38), type := 3, pos := "is.go:131", after := #[{ on := 14, ground := Go.Ground.data }, { on := 4, ground := Go.Ground.guard }], guard := some (4, true) }) (v := undef) rfl (by kernel_rfl) (by kernel_rfl) (by kernel_rfl) (fun _ _ _ h => h) (Or.inr ⟨by rfl, rfl⟩) (by assumption) ?_
        try simp only [Act.put, List.setIfInBounds_toArray, List.set_cons_zero, List.set_cons_succ]
        refine wpAnyH_take (i := 16) (oi := { dst := some 40, op := Go.Op.binOp Go.BinOp.neq 3 (Go.Operand.tmp 30) (Go.Operand.tmp 39) 3, type := 4, pos := "is.go:131", after := #[{ on := 6, ground := Go.Ground.data }, { on := 15, ground := Go.Ground.data }, { on := 4, ground := Go.Ground.guard }], guard := some (4, true) }) (v := undef) rfl (by kernel_rfl) (by kernel_rfl) (by kernel_rfl) (fun _ _ _ h => h) (Or.inr ⟨by rfl, rfl⟩) (by assumption) ?_
        try simp only [Act.put, List.setIfInBounds_toArray, List.set_cons_zero, List.set_cons_succ]
        refine wpAnyH_take (i := 17) (oi := { dst := some 41, op := Go.Op.pick (Go.Operand.tmp 28) (Go.Operand.tmp 40) (Go.Operand.const (Go.Value.bool false)), type := 4, pos := "is.go:131", after := #[{ on := 4, ground := Go.Ground.data }, { on := 16, ground := Go.Ground.data }], guard := none }) (v := ?vc17) rfl (by kernel_rfl) (by kernel_rfl) (by kernel_rfl) (fun _ _ _ h => h) (Or.inl ⟨by rfl, ?hyc17⟩) (by assumption) ?restc17
        case hyc17 => first | (intro w hSw; (try dsimp only at hSw); go_simp; done) | (intro w hSw; (try dsimp only at hSw); go_simp; with_reducible rfl)
        try simp only [Act.put, List.setIfInBounds_toArray, List.set_cons_zero, List.set_cons_succ]
        refine wpAnyH_take (i := 18) (oi := { dst := some 42, op := Go.Op.move (Go.Operand.tmp 41), type := 4, pos := "is.go:131", after := #[{ on := 17, ground := Go.Ground.data }, { on := 4, ground := Go.Ground.chain }], guard := none }) (v := ?vc18) rfl (by kernel_rfl) (by kernel_rfl) (by kernel_rfl) (fun _ _ _ h => h) (Or.inl ⟨by rfl, ?hyc18⟩) (by assumption) ?restc18
        case hyc18 => first | (intro w hSw; (try dsimp only at hSw); go_simp; done) | (intro w hSw; (try dsimp only at hSw); go_simp; with_reducible rfl)
        try simp only [Act.put, List.setIfInBounds_toArray, List.set_cons_zero, List.set_cons_succ]
        refine wpAnyH_take (i := 19) (oi := { dst := some 43, op := Go.Op.load 29 (Go.Operand.tmp 1), type := 29, pos := "is.go:131", after := #[{ on := 18, ground := Go.Ground.guard }], guard := some (18, false) }) (v := ?vc19) rfl (by kernel_rfl) (by kernel_rfl) (by kernel_rfl) (fun _ _ _ h => h) (Or.inl ⟨by rfl, ?hyc19⟩) (by assumption) ?restc19
        case hyc19 => first | (intro w hSw; (try dsimp only at hSw); go_simp; done) | (intro w hSw; (try dsimp only at hSw); go_simp; with_reducible rfl)
        try simp only [Act.put, List.setIfInBounds_toArray, List.set_cons_zero, List.set_cons_succ]
        refine wpAnyH_take (i := 20) (oi := { dst := some 44, op := Go.Op.fieldAddr 57 (Go.Operand.tmp 7) 0, type := 0, pos := "is.go:131", after := #[{ on := 18, ground := Go.Ground.guard }], guard := some (18, false) }) (v := ?vc20) rfl (by kernel_rfl) (by kernel_rfl) (by kernel_rfl) (fun _ _ _ h => h) (Or.inl ⟨by rfl, ?hyc20⟩) (by assumption) ?restc20
        case hyc20 => first | (intro w hSw; (try dsimp only at hSw); go_simp; done) | (intro w hSw; (try dsimp only at hSw); go_simp; with_reducible rfl)
        try simp only [Act.put, List.setIfInBounds_toArray, List.set_cons_zero, List.set_cons_succ]
        refine wpAnyH_take (i := 21) (oi := { dst := some 45, op := Go.Op.load 3 (Go.Operand.tmp 44), type := 3, pos := "is.go:131", after := #[{ on := 20, ground := Go.Ground.data }, { on := 18, ground := Go.Ground.guard }], guard := some (18, false) }) (v := ?vc21) rfl (by kernel_rfl) (by kernel_rfl) (by kernel_rfl) (fun _ _ _ h => h) (Or.inl ⟨by rfl, ?hyc21⟩) (by assumption) ?restc21
        case hyc21 => first | (intro w hSw; (try dsimp only at hSw); go_simp; done) | (intro w hSw; (try dsimp only at hSw); go_simp; with_reducible rfl)
        try simp only [Act.put, List.setIfInBounds_toArray, List.set_cons_zero, List.set_cons_succ]
        refine wpAnyH_ready (rs := [22]) (by kernel_rfl) (by simp) ?_
        refine AllReadyH.cons (o := { dst := some 46, op := Go.Op.call { callee := Go.Callee.value (Go.Operand.func 69), args := #[Go.Operand.tmp 43, Go.Operand.tmp 45], argTypes := #[29, 3] }, type := 4, pos := "is.go:131", after := #[{ on := 19, ground := Go.Ground.data }, { on := 21, ground := Go.Ground.data }, { on := 18, ground := Go.Ground.chain }, { on := 18, ground := Go.Ground.guard }], guard := some (18, false) }) rfl (fun Kx hK => ?_) AllReadyH.nil
        rw [if_pos (by rfl)]
        go_simp
        go_at_call 69
        refine (passesD _ ⟨a2, c2, a3, c3, a5, c5, some ⟨b, o, none⟩, c6, a7, c7, a8, c8, a9, c9⟩ p (f : Int)).mono ?_
        rintro e w2 h1
        obtain ⟨rfl, b2⟩ := h1.yes Q2.out
        clear h1
        have HB2 := hideT b2
        refine hK.out _ _ ?_ (fun hHeld22 => ?_)
        · exact ⟨below_cell b2 _ _ z_x0, below_cell b2 _ _ z_x1, below_cell b2 _ _ z_x2, below_cell b2 _ _ z_x3, below_cell b2 _ _ z_x4, below_cell b2 _ _ z_x5, below_cell b2 _ _ z_x6, below_cell b2 _ _ z_x7, below_cell b2 _ _ z_x8, below_cell b2 _ _ z_x9, below_cell b2 _ _ z_e0, below_cell b2 _ _ z_y0, below_cell b2 _ _ z_m0, below_cell b2 _ _ z_v0⟩
        clear hK Kx
        try simp only [Act.put, List.setIfInBounds_toArray, List.set_cons_zero, List.set_cons_succ]
        refine wpAnyH_take (i := 23) (oi := { dst := some 47, op := Go.Op.move (Go.Operand.tmp 46), type := 4, pos := "is.go:131", after := #[{ on := 22, ground := Go.Ground.data }, { on := 22, ground := Go.Ground.chain }, { on := 18, ground := Go.Ground.guard }], guard := some (18, false) }) (v := ?vc23) rfl (by kernel_rfl) (by kernel_rfl) (by kernel_rfl) (fun _ _ _ h => h) (Or.inl ⟨by rfl, ?hyc23⟩) (by assumption) ?restc23
        case hyc23 => first | (intro w hSw; (try dsimp only at hSw); go_simp; done) | (intro w hSw; (try dsimp only at hSw); go_simp; with_reducible rfl)
        try simp only [Act.put, List.setIfInBounds_toArray, List.set_cons_zero, List.set_cons_succ]
        refine wpAnyH_take (i := 24) (oi := { dst := some 48, op := Go.Op.fieldAddr 61 (Go.Operand.tmp 5) 0, type := 0, pos := "is.go:131", after := #[{ on := 23, ground := Go.Ground.guard }], guard := some (23, true) }) (v := ?vc24) rfl (by kernel_rfl) (by kernel_rfl) (by kernel_rfl) (fun _ _ _ h => h) (Or.inl ⟨by rfl, ?hyc24⟩) (by assumption) ?restc24
        case hyc24 => first | (intro w hSw; (try dsimp only at hSw); go_simp; done) | (intro w hSw; (try dsimp only at hSw); go_simp; with_reducible rfl)
        try simp only [Act.put, List.setIfInBounds_toArray, List.set_cons_zero, List.set_cons_succ]
        refine wpAnyH_take (i := 25) (oi := { dst := some 49, op := Go.Op.load 3 (Go.Operand.tmp 48), type := 3, pos := "is.go:131", after := #[{ on := 24, ground := Go.Ground.data }, { on := 23, ground := Go.Ground.guard }], guard := some (23, true) }) (v := ?vc25) rfl (by kernel_rfl) (by kernel_rfl) (by kernel_rfl) (fun _ _ _ h => h) (Or.inl ⟨by rfl, ?hyc25⟩) (by assumption) ?restc25
        case hyc25 => first | (intro w hSw; (try dsimp only at hSw); go_simp; done) | (intro w hSw; (try dsimp only at hSw); go_simp; with_reducible rfl)
        try simp only [Act.put, List.setIfInBounds_toArray, List.set_cons_zero, List.set_cons_succ]
        refine wpAnyH_take (i := 26) (oi := { dst := some 50, op := Go.Op.move (Go.Operand.tmp 3), type := 22, pos := "is.go:131", after := #[{ on := 23, ground := Go.Ground.guard }], guard := some (23, true) }) (v := ?vc26) rfl (by kernel_rfl) (by kernel_rfl) (by kernel_rfl) (fun _ _ _ h => h) (Or.inl ⟨by rfl, ?hyc26⟩) (by assumption) ?restc26
        case hyc26 => first | (intro w hSw; (try dsimp only at hSw); go_simp; done) | (intro w hSw; (try dsimp only at hSw); go_simp; with_reducible rfl)
        try simp only [Act.put, List.setIfInBounds_toArray, List.set_cons_zero, List.set_cons_succ]
        refine wpAnyH_take (i := 27) (oi := { dst := some 51, op := Go.Op.fieldAddr 57 (Go.Operand.tmp 7) 0, type := 0, pos := "is.go:131", after := #[{ on := 23, ground := Go.Ground.guard }], guard := some (23, true) }) (v := ?vc27) rfl (by kernel_rfl) (by kernel_rfl) (by kernel_rfl) (fun _ _ _ h => h) (Or.inl ⟨by rfl, ?hyc27⟩) (by assumption) ?restc27
        case hyc27 => first | (intro w hSw; (try dsimp only at hSw); go_simp; done) | (intro w hSw; (try dsimp only at hSw); go_simp; with_reducible rfl)
        try simp only [Act.put, List.setIfInBounds_toArray, List.set_cons_zero, List.set_cons_succ]
        refine wpAnyH_take (i := 28) (oi := { dst := some 52, op := Go.Op.load 3 (Go.Operand.tmp 51), type := 3, pos := "is.go:131", after := #[{ on := 27, ground := Go.Ground.data }, { on := 23, ground := Go.Ground.guard }], guard := some (23, true) }) (v := ?vc28) rfl (by kernel_rfl) (by kernel_rfl) (by kernel_rfl) (fun _ _ _ h => h) (Or.inl ⟨by rfl, ?hyc28⟩) (by assumption) ?restc28
        case hyc28 => first | (intro w hSw; (try dsimp only at hSw); go_simp; done) | (intro w hSw; (try dsimp only at hSw); go_simp; with_reducible rfl)
        try simp only [Act.put, List.setIfInBounds_toArray, List.set_cons_zero, List.set_cons_succ]
        refine wpAnyH_take (i := 29) (oi := { dst := some 53, op := Go.Op.indexAddr 22 (Go.Operand.tmp 50) (Go.Operand.tmp 52), type := 0, pos := "is.go:131", after := #[{ on := 26, ground := Go.Ground.data }, { on := 28, ground := Go.Ground.data }, { on := 23, ground := Go.Ground.guard }], guard := some (23, true) }) (v := ?vc29) rfl (by kernel_rfl) (by kernel_rfl) (by kernel_rfl) (fun _ _ _ h => h) (Or.inl ⟨by rfl, ?hyc29⟩) (by assumption) ?restc29
        case hyc29 => first | (intro w hSw; (try dsimp only at hSw); go_simp; done) | (intro w hSw; (try dsimp only at hSw); go_simp; with_reducible rfl)
        try simp only [Act.put, List.setIfInBounds_toArray, List.set_cons_zero, List.set_cons_succ]
        refine wpAnyH_take (i := 30) (oi := { dst := some 54, op := Go.Op.load 3 (Go.Operand.tmp 53), type := 3, pos := "is.go:131", after := #[{ on := 29, ground := Go.Ground.data }, { on := 23, ground := Go.Ground.guard }], guard := some (23, true) }) (v := ?vc30) rfl (by kernel_rfl) (by kernel_rfl) (by kernel_rfl) (fun _ _ _ h => h) (Or.inl ⟨by rfl, ?hyc30⟩) (by assumption) ?restc30
        case hyc30 => first | (intro w hSw; (try dsimp only at hSw); go_simp; done) | (intro w hSw; (try dsimp only at hSw); go_simp; with_reducible rfl)
        try simp only [Act.put, List.setIfInBounds_toArray, List.set_cons_zero, List.set_cons_succ]
        refine wpAnyH_take (i := 31) (oi := { dst := some 55, op := Go.Op.binOp Go.BinOp.geq 3 (Go.Operand.tmp 49) (Go.Operand.tmp 54) 3, type := 4, pos := "is.go:131", after := #[{ on := 25, ground := Go.Ground.data }, { on := 30, ground := Go.Ground.data }, { on := 23, ground := Go.Ground.guard }], guard := some (23, true) }) (v := ?vc31) rfl (by kernel_rfl) (by kernel_rfl) (by kernel_rfl) (fun _ _ _ h => h) (Or.inl ⟨by rfl, ?hyc31⟩) (by assumption) ?restc31
        case hyc31 => first | (intro w hSw; (try dsimp only at hSw); go_simp; done) | (intro w hSw; (try dsimp only at hSw); go_simp; with_reducible rfl)
        try simp only [Act.put, List.setIfInBounds_toArray, List.set_cons_zero, List.set_cons_succ]
        refine wpAnyH_take (i := 32) (oi := { dst := some 56, op := Go.Op.pick (Go.Operand.tmp 47) (Go.Operand.tmp 55) (Go.Operand.const (Go.Value.bool false)), type := 4, pos := "is.go:131", after := #[{ on := 23, ground := Go.Ground.data }, { on := 31, ground := Go.Ground.data }, { on := 18, ground := Go.Ground.guard }], guard := some (18, false) }) (v := ?vc32) rfl (by kernel_rfl) (by kernel_rfl) (by kernel_rfl) (fun _ _ _ h => h) (Or.inl ⟨by rfl, ?hyc32⟩) (by assumption) ?restc32
        case hyc32 => first | (intro w hSw; (try dsimp only at hSw); go_simp; done) | (intro w hSw; (try dsimp only at hSw); go_simp; with_reducible rfl)
        try simp only [Act.put, List.setIfInBounds_toArray, List.set_cons_zero, List.set_cons_succ]
        refine wpAnyH_take (i := 33) (oi := { dst := some 57, op := Go.Op.pick (Go.Operand.tmp 42) (Go.Operand.const (Go.Value.bool true)) (Go.Operand.tmp 56), type := 4, pos := "is.go:131", after := #[{ on := 18, ground := Go.Ground.data }, { on := 32, ground := Go.Ground.data }], guard := none }) (v := ?vc33) rfl (by kernel_rfl) (by kernel_rfl) (by kernel_rfl) (fun _ _ _ h => h) (Or.inl ⟨by rfl, ?hyc33⟩) (by assumption) ?restc33
        case hyc33 => first | (intro w hSw; (try dsimp only at hSw); go_simp; done) | (intro w hSw; (try dsimp only at hSw); go_simp; with_reducible rfl)
        try simp only [Act.put, List.setIfInBounds_toArray, List.set_cons_zero, List.set_cons_succ]
        refine wpAnyH_done (by kernel_rfl) ?_ _
        have BT1 := hideT ((BV.out.trans ((show Below V.heap.size V V.drew from below_drewN (Below.refl _ _) 1).mono BV.out.size)).trans (HB1.out.mono (by have := BV.out.size; have := (show Below V.heap.size V V.drew from below_drewN (Below.refl _ _) 1).size; omega)))
        have BG1 := hideT ((BV0.out.trans ((show Below V.heap.size V V.drew from below_drewN (Below.refl _ _) 1).mono BV0.out.size)).trans (HB1.out.mono (by have := BV0.out.size; have := (show Below V.heap.size V V.drew from below_drewN (Below.refl _ _) 1).size; omega)))
        have BG := hideT (BG1.out.trans (HB2.out.mono BG1.out.size))
        have BT := hideT (BT1.out.trans (HB2.out.mono BT1.out.size))
        have LT := hideT (HL1.out.below HB2.out)
        all_goals go_wp2_with fail
        all_goals (refine ⟨⟨j + 1, by omega, by go_num, HR, BG, LT⟩, ?_⟩; first | omega | (simp [intOf]; omega))
      · have HF : Hid (¬ Rp.StrataP p) := HNW.out fun H => q2 ((HVV.out s).2 ⟨by have := HRL.out.1.2; show s < 21; have h2 : s ≤ 20 := this; omega, fun s' ⟨q, hq, hs, l, hl, e⟩ => by rw [← hs]; exact H.2 Q2.out q hq l hl e⟩)
        have t10 : v ≤ s := by omega
        go_wp2_with fail
        refine wp_region_held_drew (S := (fun w' => w'.cell? ⟨w.heap.size, 0, none⟩ = some (.int .i64 p.flags) ∧ w'.cell? ⟨w.heap.size, 1, none⟩ = some (.int .i64 p.lasting) ∧ w'.cell? ⟨w.heap.size, 2, none⟩ = some (.slice a2 p.first.length c2) ∧ w'.cell? ⟨w.heap.size, 3, none⟩ = some (.slice a3 p.over.length c3) ∧ w'.cell? ⟨w.heap.size, 4, none⟩ = some (.int .i64 p.frm) ∧ w'.cell? ⟨w.heap.size, 5, none⟩ = some (.slice a5 p.files.length c5) ∧ w'.cell? ⟨w.heap.size, 6, none⟩ = some (.slice (some ⟨b, o, none⟩) p.rules.length c6) ∧ w'.cell? ⟨w.heap.size, 7, none⟩ = some (.slice a7 p.ctrs.length c7) ∧ w'.cell? ⟨w.heap.size, 8, none⟩ = some (.slice a8 p.users.length c8) ∧ w'.cell? ⟨w.heap.size, 9, none⟩ = some (.slice a9 p.notes.length c9) ∧ w'.cell? ⟨W1.heap.size, 0, none⟩ = some (.int .i64 (f : Int)) ∧ w'.cell? ⟨W0.heap.size, 0, none⟩ = some (.int .i64 s) ∧ w'.cell? ⟨b, o + m * 4, none⟩ = some (.int .i64 z) ∧ w'.cell? ⟨g, f, none⟩ = some (.int .i64 v))) (by kernel_rfl) ?_ (fun hHeld => ?_)
        · try dsimp only
          go_keep
        refine wpAnyH_take (i := 0) (oi := { dst := some 24, op := Go.Op.load 29 (Go.Operand.tmp 1), type := 29, pos := "is.go:131", after := #[], guard := none }) (v := ?vd0) rfl (by kernel_rfl) (by kernel_rfl) (by kernel_rfl) (fun _ _ _ h => h) (Or.inl ⟨by rfl, ?hyd0⟩) (by assumption) ?restd0
        case hyd0 => first | (intro w hSw; (try dsimp only at hSw); go_simp; done) | (intro w hSw; (try dsimp only at hSw); go_simp; with_reducible rfl)
        try simp only [Act.put, List.setIfInBounds_toArray, List.set_cons_zero, List.set_cons_succ]
        refine wpAnyH_take (i := 1) (oi := { dst := some 25, op := Go.Op.fieldAddr 57 (Go.Operand.tmp 7) 0, type := 0, pos := "is.go:131", after := #[], guard := none }) (v := ?vd1) rfl (by kernel_rfl) (by kernel_rfl) (by kernel_rfl) (fun _ _ _ h => h) (Or.inl ⟨by rfl, ?hyd1⟩) (by assumption) ?restd1
        case hyd1 => first | (intro w hSw; (try dsimp only at hSw); go_simp; done) | (intro w hSw; (try dsimp only at hSw); go_simp; with_reducible rfl)
        try simp only [Act.put, List.setIfInBounds_toArray, List.set_cons_zero, List.set_cons_succ]
        refine wpAnyH_take (i := 2) (oi := { dst := some 26, op := Go.Op.load 3 (Go.Operand.tmp 25), type := 3, pos := "is.go:131", after := #[{ on := 1, ground := Go.Ground.data }], guard := none }) (v := ?vd2) rfl (by kernel_rfl) (by kernel_rfl) (by kernel_rfl) (fun _ _ _ h => h) (Or.inl ⟨by rfl, ?hyd2⟩) (by assumption) ?restd2
        case hyd2 => first | (intro w hSw; (try dsimp only at hSw); go_simp; done) | (intro w hSw; (try dsimp only at hSw); go_simp; with_reducible rfl)
        try simp only [Act.put, List.setIfInBounds_toArray, List.set_cons_zero, List.set_cons_succ]
        refine wpAnyH_ready (rs := [3]) (by kernel_rfl) (by simp) ?_
        refine AllReadyH.cons (o := { dst := some 27, op := Go.Op.call { callee := Go.Callee.value (Go.Operand.func 68), args := #[Go.Operand.tmp 24, Go.Operand.tmp 26], argTypes := #[29, 3] }, type := 4, pos := "is.go:131", after := #[{ on := 0, ground := Go.Ground.data }, { on := 2, ground := Go.Ground.data }], guard := none }) rfl (fun Kx hK => ?_) AllReadyH.nil
        rw [if_pos (by rfl)]
        go_simp
        go_at_call 68
        refine (lastsD _ ⟨a2, c2, a3, c3, a5, c5, some ⟨b, o, none⟩, c6, a7, c7, a8, c8, a9, c9⟩ p (f : Int)).mono ?_
        rintro e w1 h1
        obtain ⟨rfl, b1⟩ := h1.no Q.out
        clear h1
        have z_x0 : w1.cell? ⟨w.heap.size, 0, none⟩ = some (.int .i64 p.flags) := below_cell b1 _ _ x0
        have z_x1 : w1.cell? ⟨w.heap.size, 1, none⟩ = some (.int .i64 p.lasting) := below_cell b1 _ _ x1
        have z_x2 : w1.cell? ⟨w.heap.size, 2, none⟩ = some (.slice a2 p.first.length c2) := below_cell b1 _ _ x2
        have z_x3 : w1.cell? ⟨w.heap.size, 3, none⟩ = some (.slice a3 p.over.length c3) := below_cell b1 _ _ x3
        have z_x4 : w1.cell? ⟨w.heap.size, 4, none⟩ = some (.int .i64 p.frm) := below_cell b1 _ _ x4
        have z_x5 : w1.cell? ⟨w.heap.size, 5, none⟩ = some (.slice a5 p.files.length c5) := below_cell b1 _ _ x5
        have z_x6 : w1.cell? ⟨w.heap.size, 6, none⟩ = some (.slice (some ⟨b, o, none⟩) p.rules.length c6) := below_cell b1 _ _ x6
        have z_x7 : w1.cell? ⟨w.heap.size, 7, none⟩ = some (.slice a7 p.ctrs.length c7) := below_cell b1 _ _ x7
        have z_x8 : w1.cell? ⟨w.heap.size, 8, none⟩ = some (.slice a8 p.users.length c8) := below_cell b1 _ _ x8
        have z_x9 : w1.cell? ⟨w.heap.size, 9, none⟩ = some (.slice a9 p.notes.length c9) := below_cell b1 _ _ x9
        have z_e0 : w1.cell? ⟨W1.heap.size, 0, none⟩ = some (.int .i64 (f : Int)) := below_cell b1 _ _ e0
        have z_y0 : w1.cell? ⟨W0.heap.size, 0, none⟩ = some (.int .i64 s) := below_cell b1 _ _ y0
        have z_m0 : w1.cell? ⟨b, o + m * 4, none⟩ = some (.int .i64 z) := below_cell b1 _ _ m0
        have z_v0 : w1.cell? ⟨g, f, none⟩ = some (.int .i64 v) := below_cell b1 _ _ v0
        have HB1 := hideT b1
        have HL1 := hideT (LV.out.below (show Below V.heap.size V w1 from (show Below V.heap.size V V.drew from below_drewN (Below.refl _ _) 1).trans b1))
        refine hK.out _ _ ?_ (fun hHeld3 => ?_)
        · exact ⟨below_cell b1 _ _ x0, below_cell b1 _ _ x1, below_cell b1 _ _ x2, below_cell b1 _ _ x3, below_cell b1 _ _ x4, below_cell b1 _ _ x5, below_cell b1 _ _ x6, below_cell b1 _ _ x7, below_cell b1 _ _ x8, below_cell b1 _ _ x9, below_cell b1 _ _ e0, below_cell b1 _ _ y0, below_cell b1 _ _ m0, below_cell b1 _ _ v0⟩
        clear hK Kx
        try simp only [Act.put, List.setIfInBounds_toArray, List.set_cons_zero, List.set_cons_succ]
        refine wpAnyH_take (i := 4) (oi := { dst := some 28, op := Go.Op.move (Go.Operand.tmp 27), type := 4, pos := "is.go:131", after := #[{ on := 3, ground := Go.Ground.data }, { on := 3, ground := Go.Ground.chain }], guard := none }) (v := ?vd4) rfl (by kernel_rfl) (by kernel_rfl) (by kernel_rfl) (fun _ _ _ h => h) (Or.inl ⟨by rfl, ?hyd4⟩) (by assumption) ?restd4
        case hyd4 => first | (intro w hSw; (try dsimp only at hSw); go_simp; done) | (intro w hSw; (try dsimp only at hSw); go_simp; with_reducible rfl)
        try simp only [Act.put, List.setIfInBounds_toArray, List.set_cons_zero, List.set_cons_succ]
        refine wpAnyH_take (i := 5) (oi := { dst := some 29, op := Go.Op.fieldAddr 61 (Go.Operand.tmp 5) 0, type := 0, pos := "is.go:131", after := #[{ on := 4, ground := Go.Ground.guard }], guard := some (4, true) }) (v := undef) rfl (by kernel_rfl) (by kernel_rfl) (by kernel_rfl) (fun _ _ _ h => h) (Or.inr ⟨by rfl, rfl⟩) (by assumption) ?_
        try simp only [Act.put, List.setIfInBounds_toArray, List.set_cons_zero, List.set_cons_succ]
        refine wpAnyH_take (i := 6) (oi := { dst := some 30, op := Go.Op.load 3 (Go.Operand.tmp 29), type := 3, pos := "is.go:131", after := #[{ on := 5, ground := Go.Ground.data }, { on := 4, ground := Go.Ground.guard }], guard := some (4, true) }) (v := undef) rfl (by kernel_rfl) (by kernel_rfl) (by kernel_rfl) (fun _ _ _ h => h) (Or.inr ⟨by rfl, rfl⟩) (by assumption) ?_
        try simp only [Act.put, List.setIfInBounds_toArray, List.set_cons_zero, List.set_cons_succ]
        refine wpAnyH_take (i := 7) (oi := { dst := some 31, op := Go.Op.fieldAddr 29 (Go.Operand.tmp 1) 6, type := 0, pos := "is.go:131", after := #[{ on := 4, ground := Go.Ground.guard }], guard := some (4, true) }) (v := undef) rfl (by kernel_rfl) (by kernel_rfl) (by kernel_rfl) (fun _ _ _ h => h) (Or.inr ⟨by rfl, rfl⟩) (by assumption) ?_
        try simp only [Act.put, List.setIfInBounds_toArray, List.set_cons_zero, List.set_cons_succ]
        refine wpAnyH_take (i := 8) (oi := { dst := some 32, op := Go.Op.load 24 (Go.Operand.tmp 31), type := 24, pos := "is.go:131", after := #[{ on := 7, ground := Go.Ground.data }, { on := 4, ground := Go.Ground.guard }], guard := some (4, true) }) (v := undef) rfl (by kernel_rfl) (by kernel_rfl) (by kernel_rfl) (fun _ _ _ h => h) (Or.inr ⟨by rfl, rfl⟩) (by assumption) ?_
        try simp only [Act.put, List.setIfInBounds_toArray, List.set_cons_zero, List.set_cons_succ]
        refine wpAnyH_take (i := 9) (oi := { dst := some 33, op := Go.Op.fieldAddr 29 (Go.Operand.tmp 1) 6, type := 0, pos := "is.go:131", after := #[{ on := 4, ground := Go.Ground.guard }], guard := some (4, true) }) (v := undef) rfl (by kernel_rfl) (by kernel_rfl) (by kernel_rfl) (fun _ _ _ h => h) (Or.inr ⟨by rfl, rfl⟩) (by assumption) ?_
        try simp only [Act.put, List.setIfInBounds_toArray, List.set_cons_zero, List.set_cons_succ]
        refine wpAnyH_take (i := 10) (oi := { dst := some 34, op := Go.Op.load 24 (Go.Operand.tmp 33), type := 24, pos := "is.go:131", after := #[{ on := 9, ground := Go.Ground.data }, { on := 4, ground := Go.Ground.guard }], guard := some (4, true) }) (v := undef) rfl (by kernel_rfl) (by kernel_rfl) (by kernel_rfl) (fun _ _ _ h => h) (Or.inr ⟨by rfl, rfl⟩) (by assumption) ?_
        try simp only [Act.put, List.setIfInBounds_toArray, List.set_cons_zero, List.set_cons_succ]
        refine wpAnyH_take (i := 11) (oi := { dst := some 35, op := Go.Op.call { callee := Go.Callee.builtin Go.Builtin.len, args := #[Go.Operand.tmp 34], argTypes := #[24] }, type := 3, pos := "is.go:131", after := #[{ on := 10, ground := Go.Ground.data }, { on := 4, ground := Go.Ground.guard }], guard := some (4, true) }) (v := undef) rfl (by kernel_rfl) (by kernel_rfl) (by kernel_rfl) (fun _ _ _ h => h) (Or.inr ⟨by rfl, rfl⟩) (by assumption) ?_
        try simp only [Act.put, List.setIfInBounds_toArray, List.set_cons_zero, List.set_cons_succ]
        refine wpAnyH_take (i := 12) (oi := { dst := some 36, op := Go.Op.binOp Go.BinOp.sub 3 (Go.Operand.tmp 35) (Go.Operand.const (Go.Value.int Go.IntKind.i64 1)) 3, type := 3, pos := "is.go:131", after := #[{ on := 11, ground := Go.Ground.data }, { on := 4, ground := Go.Ground.guard }], guard := some (4, true) }) (v := undef) rfl (by kernel_rfl) (by kernel_rfl) (by kernel_rfl) (fun _ _ _ h => h) (Or.inr ⟨by rfl, rfl⟩) (by assumption) ?_
        try simp only [Act.put, List.setIfInBounds_toArray, List.set_cons_zero, List.set_cons_succ]
        refine wpAnyH_take (i := 13) (oi := { dst := some 37, op := Go.Op.indexAddr 24 (Go.Operand.tmp 32) (Go.Operand.tmp 36), type := 0, pos := "is.go:131", after := #[{ on := 8, ground := Go.Ground.data }, { on := 12, ground := Go.Ground.data }, { on := 4, ground := Go.Ground.guard }], guard := some (4, true) }) (v := undef) rfl (by kernel_rfl) (by kernel_rfl) (by kernel_rfl) (fun _ _ _ h => h) (Or.inr ⟨by rfl, rfl⟩) (by assumption) ?_
        try simp only [Act.put, List.setIfInBounds_toArray, List.set_cons_zero, List.set_cons_succ]
        refine wpAnyH_take (i := 14) (oi := { dst := some 38, op := Go.Op.fieldAddr 61 (Go.Operand.tmp 37) 0, type := 0, pos := "is.go:131", after := #[{ on := 13, ground := Go.Ground.data }, { on := 4, ground := Go.Ground.guard }], guard := some (4, true) }) (v := undef) rfl (by kernel_rfl) (by kernel_rfl) (by kernel_rfl) (fun _ _ _ h => h) (Or.inr ⟨by rfl, rfl⟩) (by assumption) ?_
        try simp only [Act.put, List.setIfInBounds_toArray, List.set_cons_zero, List.set_cons_succ]
        refine wpAnyH_take (i := 15) (oi := { dst := some 39, op := Go.Op.load 3 (Go.Operand.tmp 38), type := 3, pos := "is.go:131", after := #[{ on := 14, ground := Go.Ground.data }, { on := 4, ground := Go.Ground.guard }], guard := some (4, true) }) (v := undef) rfl (by kernel_rfl) (by kernel_rfl) (by kernel_rfl) (fun _ _ _ h => h) (Or.inr ⟨by rfl, rfl⟩) (by assumption) ?_
        try simp only [Act.put, List.setIfInBounds_toArray, List.set_cons_zero, List.set_cons_succ]
        refine wpAnyH_take (i := 16) (oi := { dst := some 40, op := Go.Op.binOp Go.BinOp.neq 3 (Go.Operand.tmp 30) (Go.Operand.tmp 39) 3, type := 4, pos := "is.go:131", after := #[{ on := 6, ground := Go.Ground.data }, { on := 15, ground := Go.Ground.data }, { on := 4, ground := Go.Ground.guard }], guard := some (4, true) }) (v := undef) rfl (by kernel_rfl) (by kernel_rfl) (by kernel_rfl) (fun _ _ _ h => h) (Or.inr ⟨by rfl, rfl⟩) (by assumption) ?_
        try simp only [Act.put, List.setIfInBounds_toArray, List.set_cons_zero, List.set_cons_succ]
        refine wpAnyH_take (i := 17) (oi := { dst := some 41, op := Go.Op.pick (Go.Operand.tmp 28) (Go.Operand.tmp 40) (Go.Operand.const (Go.Value.bool false)), type := 4, pos := "is.go:131", after := #[{ on := 4, ground := Go.Ground.data }, { on := 16, ground := Go.Ground.data }], guard := none }) (v := ?vd17) rfl (by kernel_rfl) (by kernel_rfl) (by kernel_rfl) (fun _ _ _ h => h) (Or.inl ⟨by rfl, ?hyd17⟩) (by assumption) ?restd17
        case hyd17 => first | (intro w hSw; (try dsimp only at hSw); go_simp; done) | (intro w hSw; (try dsimp only at hSw); go_simp; with_reducible rfl)
        try simp only [Act.put, List.setIfInBounds_toArray, List.set_cons_zero, List.set_cons_succ]
        refine wpAnyH_take (i := 18) (oi := { dst := some 42, op := Go.Op.move (Go.Operand.tmp 41), type := 4, pos := "is.go:131", after := #[{ on := 17, ground := Go.Ground.data }, { on := 4, ground := Go.Ground.chain }], guard := none }) (v := ?vd18) rfl (by kernel_rfl) (by kernel_rfl) (by kernel_rfl) (fun _ _ _ h => h) (Or.inl ⟨by rfl, ?hyd18⟩) (by assumption) ?restd18
        case hyd18 => first | (intro w hSw; (try dsimp only at hSw); go_simp; done) | (intro w hSw; (try dsimp only at hSw); go_simp; with_reducible rfl)
        try simp only [Act.put, List.setIfInBounds_toArray, List.set_cons_zero, List.set_cons_succ]
        refine wpAnyH_take (i := 19) (oi := { dst := some 43, op := Go.Op.load 29 (Go.Operand.tmp 1), type := 29, pos := "is.go:131", after := #[{ on := 18, ground := Go.Ground.guard }], guard := some (18, false) }) (v := ?vd19) rfl (by kernel_rfl) (by kernel_rfl) (by kernel_rfl) (fun _ _ _ h => h) (Or.inl ⟨by rfl, ?hyd19⟩) (by assumption) ?restd19
        case hyd19 => first | (intro w hSw; (try dsimp only at hSw); go_simp; done) | (intro w hSw; (try dsimp only at hSw); go_simp; with_reducible rfl)
        try simp only [Act.put, List.setIfInBounds_toArray, List.set_cons_zero, List.set_cons_succ]
        refine wpAnyH_take (i := 20) (oi := { dst := some 44, op := Go.Op.fieldAddr 57 (Go.Operand.tmp 7) 0, type := 0, pos := "is.go:131", after := #[{ on := 18, ground := Go.Ground.guard }], guard := some (18, false) }) (v := ?vd20) rfl (by kernel_rfl) (by kernel_rfl) (by kernel_rfl) (fun _ _ _ h => h) (Or.inl ⟨by rfl, ?hyd20⟩) (by assumption) ?restd20
        case hyd20 => first | (intro w hSw; (try dsimp only at hSw); go_simp; done) | (intro w hSw; (try dsimp only at hSw); go_simp; with_reducible rfl)
        try simp only [Act.put, List.setIfInBounds_toArray, List.set_cons_zero, List.set_cons_succ]
        refine wpAnyH_take (i := 21) (oi := { dst := some 45, op := Go.Op.load 3 (Go.Operand.tmp 44), type := 3, pos := "is.go:131", after := #[{ on := 20, ground := Go.Ground.data }, { on := 18, ground := Go.Ground.guard }], guard := some (18, false) }) (v := ?vd21) rfl (by kernel_rfl) (by kernel_rfl) (by kernel_rfl) (fun _ _ _ h => h) (Or.inl ⟨by rfl, ?hyd21⟩) (by assumption) ?restd21
        case hyd21 => first | (intro w hSw; (try dsimp only at hSw); go_simp; done) | (intro w hSw; (try dsimp only at hSw); go_simp; with_reducible rfl)
        try simp only [Act.put, List.setIfInBounds_toArray, List.set_cons_zero, List.set_cons_succ]
        refine wpAnyH_ready (rs := [22]) (by kernel_rfl) (by simp) ?_
        refine AllReadyH.cons (o := { dst := some 46, op := Go.Op.call { callee := Go.Callee.value (Go.Operand.func 69), args := #[Go.Operand.tmp 43, Go.Operand.tmp 45], argTypes := #[29, 3] }, type := 4, pos := "is.go:131", after := #[{ on := 19, ground := Go.Ground.data }, { on := 21, ground := Go.Ground.data }, { on := 18, ground := Go.Ground.chain }, { on := 18, ground := Go.Ground.guard }], guard := some (18, false) }) rfl (fun Kx hK => ?_) AllReadyH.nil
        rw [if_pos (by rfl)]
        go_simp
        go_at_call 69
        refine (passesD _ ⟨a2, c2, a3, c3, a5, c5, some ⟨b, o, none⟩, c6, a7, c7, a8, c8, a9, c9⟩ p (f : Int)).mono ?_
        rintro e w2 h1
        obtain ⟨rfl, b2⟩ := h1.yes Q2.out
        clear h1
        have HB2 := hideT b2
        refine hK.out _ _ ?_ (fun hHeld22 => ?_)
        · exact ⟨below_cell b2 _ _ z_x0, below_cell b2 _ _ z_x1, below_cell b2 _ _ z_x2, below_cell b2 _ _ z_x3, below_cell b2 _ _ z_x4, below_cell b2 _ _ z_x5, below_cell b2 _ _ z_x6, below_cell b2 _ _ z_x7, below_cell b2 _ _ z_x8, below_cell b2 _ _ z_x9, below_cell b2 _ _ z_e0, below_cell b2 _ _ z_y0, below_cell b2 _ _ z_m0, below_cell b2 _ _ z_v0⟩
        clear hK Kx
        try simp only [Act.put, List.setIfInBounds_toArray, List.set_cons_zero, List.set_cons_succ]
        refine wpAnyH_take (i := 23) (oi := { dst := some 47, op := Go.Op.move (Go.Operand.tmp 46), type := 4, pos := "is.go:131", after := #[{ on := 22, ground := Go.Ground.data }, { on := 22, ground := Go.Ground.chain }, { on := 18, ground := Go.Ground.guard }], guard := some (18, false) }) (v := ?vd23) rfl (by kernel_rfl) (by kernel_rfl) (by kernel_rfl) (fun _ _ _ h => h) (Or.inl ⟨by rfl, ?hyd23⟩) (by assumption) ?restd23
        case hyd23 => first | (intro w hSw; (try dsimp only at hSw); go_simp; done) | (intro w hSw; (try dsimp only at hSw); go_simp; with_reducible rfl)
        try simp only [Act.put, List.setIfInBounds_toArray, List.set_cons_zero, List.set_cons_succ]
        refine wpAnyH_take (i := 24) (oi := { dst := some 48, op := Go.Op.fieldAddr 61 (Go.Operand.tmp 5) 0, type := 0, pos := "is.go:131", after := #[{ on := 23, ground := Go.Ground.guard }], guard := some (23, true) }) (v := ?vd24) rfl (by kernel_rfl) (by kernel_rfl) (by kernel_rfl) (fun _ _ _ h => h) (Or.inl ⟨by rfl, ?hyd24⟩) (by assumption) ?restd24
        case hyd24 => first | (intro w hSw; (try dsimp only at hSw); go_simp; done) | (intro w hSw; (try dsimp only at hSw); go_simp; with_reducible rfl)
        try simp only [Act.put, List.setIfInBounds_toArray, List.set_cons_zero, List.set_cons_succ]
        refine wpAnyH_take (i := 25) (oi := { dst := some 49, op := Go.Op.load 3 (Go.Operand.tmp 48), type := 3, pos := "is.go:131", after := #[{ on := 24, ground := Go.Ground.data }, { on := 23, ground := Go.Ground.guard }], guard := some (23, true) }) (v := ?vd25) rfl (by kernel_rfl) (by kernel_rfl) (by kernel_rfl) (fun _ _ _ h => h) (Or.inl ⟨by rfl, ?hyd25⟩) (by assumption) ?restd25
        case hyd25 => first | (intro w hSw; (try dsimp only at hSw); go_simp; done) | (intro w hSw; (try dsimp only at hSw); go_simp; with_reducible rfl)
        try simp only [Act.put, List.setIfInBounds_toArray, List.set_cons_zero, List.set_cons_succ]
        refine wpAnyH_take (i := 26) (oi := { dst := some 50, op := Go.Op.move (Go.Operand.tmp 3), type := 22, pos := "is.go:131", after := #[{ on := 23, ground := Go.Ground.guard }], guard := some (23, true) }) (v := ?vd26) rfl (by kernel_rfl) (by kernel_rfl) (by kernel_rfl) (fun _ _ _ h => h) (Or.inl ⟨by rfl, ?hyd26⟩) (by assumption) ?restd26
        case hyd26 => first | (intro w hSw; (try dsimp only at hSw); go_simp; done) | (intro w hSw; (try dsimp only at hSw); go_simp; with_reducible rfl)
        try simp only [Act.put, List.setIfInBounds_toArray, List.set_cons_zero, List.set_cons_succ]
        refine wpAnyH_take (i := 27) (oi := { dst := some 51, op := Go.Op.fieldAddr 57 (Go.Operand.tmp 7) 0, type := 0, pos := "is.go:131", after := #[{ on := 23, ground := Go.Ground.guard }], guard := some (23, true) }) (v := ?vd27) rfl (by kernel_rfl) (by kernel_rfl) (by kernel_rfl) (fun _ _ _ h => h) (Or.inl ⟨by rfl, ?hyd27⟩) (by assumption) ?restd27
        case hyd27 => first | (intro w hSw; (try dsimp only at hSw); go_simp; done) | (intro w hSw; (try dsimp only at hSw); go_simp; with_reducible rfl)
        try simp only [Act.put, List.setIfInBounds_toArray, List.set_cons_zero, List.set_cons_succ]
        refine wpAnyH_take (i := 28) (oi := { dst := some 52, op := Go.Op.load 3 (Go.Operand.tmp 51), type := 3, pos := "is.go:131", after := #[{ on := 27, ground := Go.Ground.data }, { on := 23, ground := Go.Ground.guard }], guard := some (23, true) }) (v := ?vd28) rfl (by kernel_rfl) (by kernel_rfl) (by kernel_rfl) (fun _ _ _ h => h) (Or.inl ⟨by rfl, ?hyd28⟩) (by assumption) ?restd28
        case hyd28 => first | (intro w hSw; (try dsimp only at hSw); go_simp; done) | (intro w hSw; (try dsimp only at hSw); go_simp; with_reducible rfl)
        try simp only [Act.put, List.setIfInBounds_toArray, List.set_cons_zero, List.set_cons_succ]
        refine wpAnyH_take (i := 29) (oi := { dst := some 53, op := Go.Op.indexAddr 22 (Go.Operand.tmp 50) (Go.Operand.tmp 52), type := 0, pos := "is.go:131", after := #[{ on := 26, ground := Go.Ground.data }, { on := 28, ground := Go.Ground.data }, { on := 23, ground := Go.Ground.guard }], guard := some (23, true) }) (v := ?vd29) rfl (by kernel_rfl) (by kernel_rfl) (by kernel_rfl) (fun _ _ _ h => h) (Or.inl ⟨by rfl, ?hyd29⟩) (by assumption) ?restd29
        case hyd29 => first | (intro w hSw; (try dsimp only at hSw); go_simp; done) | (intro w hSw; (try dsimp only at hSw); go_simp; with_reducible rfl)
        try simp only [Act.put, List.setIfInBounds_toArray, List.set_cons_zero, List.set_cons_succ]
        refine wpAnyH_take (i := 30) (oi := { dst := some 54, op := Go.Op.load 3 (Go.Operand.tmp 53), type := 3, pos := "is.go:131", after := #[{ on := 29, ground := Go.Ground.data }, { on := 23, ground := Go.Ground.guard }], guard := some (23, true) }) (v := ?vd30) rfl (by kernel_rfl) (by kernel_rfl) (by kernel_rfl) (fun _ _ _ h => h) (Or.inl ⟨by rfl, ?hyd30⟩) (by assumption) ?restd30
        case hyd30 => first | (intro w hSw; (try dsimp only at hSw); go_simp; done) | (intro w hSw; (try dsimp only at hSw); go_simp; with_reducible rfl)
        try simp only [Act.put, List.setIfInBounds_toArray, List.set_cons_zero, List.set_cons_succ]
        refine wpAnyH_take (i := 31) (oi := { dst := some 55, op := Go.Op.binOp Go.BinOp.geq 3 (Go.Operand.tmp 49) (Go.Operand.tmp 54) 3, type := 4, pos := "is.go:131", after := #[{ on := 25, ground := Go.Ground.data }, { on := 30, ground := Go.Ground.data }, { on := 23, ground := Go.Ground.guard }], guard := some (23, true) }) (v := ?vd31) rfl (by kernel_rfl) (by kernel_rfl) (by kernel_rfl) (fun _ _ _ h => h) (Or.inl ⟨by rfl, ?hyd31⟩) (by assumption) ?restd31
        case hyd31 => first | (intro w hSw; (try dsimp only at hSw); go_simp; done) | (intro w hSw; (try dsimp only at hSw); go_simp; with_reducible rfl)
        try simp only [Act.put, List.setIfInBounds_toArray, List.set_cons_zero, List.set_cons_succ]
        refine wpAnyH_take (i := 32) (oi := { dst := some 56, op := Go.Op.pick (Go.Operand.tmp 47) (Go.Operand.tmp 55) (Go.Operand.const (Go.Value.bool false)), type := 4, pos := "is.go:131", after := #[{ on := 23, ground := Go.Ground.data }, { on := 31, ground := Go.Ground.data }, { on := 18, ground := Go.Ground.guard }], guard := some (18, false) }) (v := ?vd32) rfl (by kernel_rfl) (by kernel_rfl) (by kernel_rfl) (fun _ _ _ h => h) (Or.inl ⟨by rfl, ?hyd32⟩) (by assumption) ?restd32
        case hyd32 => first | (intro w hSw; (try dsimp only at hSw); go_simp; done) | (intro w hSw; (try dsimp only at hSw); go_simp; with_reducible rfl)
        try simp only [Act.put, List.setIfInBounds_toArray, List.set_cons_zero, List.set_cons_succ]
        refine wpAnyH_take (i := 33) (oi := { dst := some 57, op := Go.Op.pick (Go.Operand.tmp 42) (Go.Operand.const (Go.Value.bool true)) (Go.Operand.tmp 56), type := 4, pos := "is.go:131", after := #[{ on := 18, ground := Go.Ground.data }, { on := 32, ground := Go.Ground.data }], guard := none }) (v := ?vd33) rfl (by kernel_rfl) (by kernel_rfl) (by kernel_rfl) (fun _ _ _ h => h) (Or.inl ⟨by rfl, ?hyd33⟩) (by assumption) ?restd33
        case hyd33 => first | (intro w hSw; (try dsimp only at hSw); go_simp; done) | (intro w hSw; (try dsimp only at hSw); go_simp; with_reducible rfl)
        try simp only [Act.put, List.setIfInBounds_toArray, List.set_cons_zero, List.set_cons_succ]
        refine wpAnyH_done (by kernel_rfl) ?_ _
        have BT1 := hideT ((BV.out.trans ((show Below V.heap.size V V.drew from below_drewN (Below.refl _ _) 1).mono BV.out.size)).trans (HB1.out.mono (by have := BV.out.size; have := (show Below V.heap.size V V.drew from below_drewN (Below.refl _ _) 1).size; omega)))
        have BG1 := hideT ((BV0.out.trans ((show Below V.heap.size V V.drew from below_drewN (Below.refl _ _) 1).mono BV0.out.size)).trans (HB1.out.mono (by have := BV0.out.size; have := (show Below V.heap.size V V.drew from below_drewN (Below.refl _ _) 1).size; omega)))
        have BG := hideT (BG1.out.trans (HB2.out.mono BG1.out.size))
        have BT := hideT (BT1.out.trans (HB2.out.mono BT1.out.size))
        have LT := hideT (HL1.out.below HB2.out)
        all_goals go_wp2_with fail
        all_goals go_ret
        all_goals exact bpost_no HF.out BT.out
end Go.Proofs.Ytkjekohncfhbiaa
