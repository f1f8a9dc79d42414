/-
  Whether a rule may be. (Written by RRule.py.)
-/
import Derived.Test.YtkjekohncfhbiaaRFlags
import Derived.Test.YtkjekohncfhbiaaMEq
set_option linter.unusedSimpArgs false
set_option linter.unusedVariables false
namespace Go.Proofs.Ytkjekohncfhbiaa
open Go.RowKit
set_option maxRecDepth 100000
theorem isOpR (s : ByteArray) (w : World) :
    Calls Try.prog 78 #[.string s] w fun e w' => e = .returned (.bool (Mp.opB s)) ∧ w' = w := by
  go_enter Try.func78, Try.ntmps78
  go_wp2
  all_goals go_ret
  all_goals refine ⟨ret_b ?_, rfl⟩
  all_goals (try simp only [beq_iff_eq, beq_eq_false_iff_ne] at *)
  all_goals (try simp_all [Mp.opB, ba_eq, len_beq, int_beq])
  all_goals (try omega)
theorem isOpRV (s : ByteArray) (w : World) (b : Bool) (h : Hid (Mp.opB s = b)) :
    Calls Try.prog 78 #[.string s] w fun e w' => e = .returned (.bool b) ∧ w' = w := by
  rw [← h.out]
  exact isOpR s w
theorem in_of {p : Rp.Prog} (hb : 0 ≤ p.lasting ∧ p.lasting ≤ p.flags) {f : Int} (h : Rp.InP f p.lasting) : Rp.InP f p.flags := ⟨h.1, by have := h.2; omega⟩
theorem in_of_pass {p : Rp.Prog} (hb : 0 ≤ p.lasting ∧ p.lasting ≤ p.flags) {f : Int} (h : Rp.PassP p f) : Rp.InP f p.flags := ⟨by have := h.1; omega, h.2⟩
theorem in_not {p : Rp.Prog} {f : Int} (h1 : ¬ Rp.InP f p.lasting) (h2 : ¬ Rp.PassP p f) : ¬ Rp.InP f p.flags := fun h => by
  by_cases e : f < p.lasting
  · exact h1 ⟨h.1, e⟩
  · exact h2 ⟨by omega, h.2⟩
set_option maxHeartbeats 4000000 in
theorem ruleMayBeD (w : World) (A : PA) (p : Rp.Prog) (hf : FRow w (.slice A.a5 p.files.length A.c5) p.files) (hb : 0 ≤ p.lasting ∧ p.lasting ≤ p.flags) (s : Int) (l1 : List Rp.Lit) (l2 : List Mp.Cond) (l3 : List Rp.Lit) (i1 i2 i3 : Option Addr) (n1 n2 n3 : Nat)
    (r1 : LRow w (.slice i1 l1.length n1) l1) (r2 : CRow w (.slice i2 l2.length n2) l2) (r3 : LRow w (.slice i3 l3.length n3) l3) :
    Calls Try.prog 67 #[.agg #[.int .i64 p.flags, .int .i64 p.lasting, .slice A.a2 p.first.length A.c2, .slice A.a3 p.over.length A.c3, .int .i64 p.frm, .slice A.a5 p.files.length A.c5, .slice A.a6 p.rules.length A.c6, .slice A.a7 p.ctrs.length A.c7, .slice A.a8 p.users.length A.c8, .slice A.a9 p.notes.length A.c9], .agg #[.int .i64 s, .slice i1 l1.length n1, .slice i2 l2.length n2, .slice i3 l3.length n3]] w (BPost (Rp.RuleP p (s, l1, l2, l3)) w) := by
  have B0 := hideT (((Below.refl w.heap.size w).alloc (Nat.le_refl _) (.cells #[.int .i64 p.flags, .int .i64 p.lasting, .slice A.a2 p.first.length A.c2, .slice A.a3 p.over.length A.c3, .int .i64 p.frm, .slice A.a5 p.files.length A.c5, .slice A.a6 p.rules.length A.c6, .slice A.a7 p.ctrs.length A.c7, .slice A.a8 p.users.length A.c8, .slice A.a9 p.notes.length A.c9] 29)).alloc (by simp) (.cells #[.int .i64 s, .slice i1 l1.length n1, .slice i2 l2.length n2, .slice i3 l3.length n3] 61))
  have L0 := hideT ((PBox.new w A p).below ((Below.refl _ _).alloc (Nat.le_refl _) (.cells #[.int .i64 s, .slice i1 l1.length n1, .slice i2 l2.length n2, .slice i3 l3.length n3] 61)))
  have LR : Hid (Lies ((w.alloc (.cells #[.int .i64 p.flags, .int .i64 p.lasting, .slice A.a2 p.first.length A.c2, .slice A.a3 p.over.length A.c3, .int .i64 p.frm, .slice A.a5 p.files.length A.c5, .slice A.a6 p.rules.length A.c6, .slice A.a7 p.ctrs.length A.c7, .slice A.a8 p.users.length A.c8, .slice A.a9 p.notes.length A.c9] 29)).alloc (.cells #[.int .i64 s, .slice i1 l1.length n1, .slice i2 l2.length n2, .slice i3 l3.length n3] 61)) (w.heap.size + 1) 61 #[.int .i64 s, .slice i1 l1.length n1, .slice i2 l2.length n2, .slice i3 l3.length n3]) := by
    have := Lies.new (w.alloc (.cells #[.int .i64 p.flags, .int .i64 p.lasting, .slice A.a2 p.first.length A.c2, .slice A.a3 p.over.length A.c3, .int .i64 p.frm, .slice A.a5 p.files.length A.c5, .slice A.a6 p.rules.length A.c6, .slice A.a7 p.ctrs.length A.c7, .slice A.a8 p.users.length A.c8, .slice A.a9 p.notes.length A.c9] 29)) 61 #[.int .i64 s, .slice i1 l1.length n1, .slice i2 l2.length n2, .slice i3 l3.length n3]
    rwa [show (w.alloc (.cells #[.int .i64 p.flags, .int .i64 p.lasting, .slice A.a2 p.first.length A.c2, .slice A.a3 p.over.length A.c3, .int .i64 p.frm, .slice A.a5 p.files.length A.c5, .slice A.a6 p.rules.length A.c6, .slice A.a7 p.ctrs.length A.c7, .slice A.a8 p.users.length A.c8, .slice A.a9 p.notes.length A.c9] 29)).heap.size = w.heap.size + 1 by simp] at this
  have HFi := hideT hf
  have HBD := hideT hb
  obtain ⟨_, hl1, _, b1, o1, ha1, hc1⟩ := lrow_at r1
  obtain ⟨_, hl2, _, b2, o2, ha2, hc2⟩ := crow_at r2
  obtain ⟨_, hl3, _, b3, o3, ha3, hc3⟩ := lrow_at r3
  have HC1 := hideT hc1
  have HA1 := hideT ha1
  have HC2 := hideT hc2
  have HA2 := hideT ha2
  have HC3 := hideT hc3
  have HA3 := hideT ha3
  clear hc1 ha1 hc2 ha2 hc3 ha3 r1 r2 r3 hf hb
  go_enter Try.func67, Try.ntmps67
  go_wp2_with fail
  go_loopw [14] (fun i wr => ∃ k : Nat, k ≤ l1.length ∧ i = .int .i64 k ∧ Hid (∀ (j : Nat) x, j < k → l1[j]? = some x → Rp.InP x.1 p.flags) ∧ Hid (Below w.heap.size w wr ∧ PBox wr w.heap.size A p ∧ Lies wr (w.heap.size + 1) 61 #[.int .i64 s, .slice i1 l1.length n1, .slice i2 l2.length n2, .slice i3 l3.length n3])) (fun i _ => l1.length - (intOf i).toNat)
  case atStart => exact ⟨0, by omega, rfl, (fun j y hj => absurd hj (by omega)), B0.out, L0.out, LR.out⟩
  case round =>
    obtain ⟨k, hk, rfl, HB, HW⟩ := hrel
    by_cases hlt : k < l1.length
    · obtain ⟨⟨g0, g1⟩, hx⟩ := Mp.at_lt (l := l1) (k := k) hlt
      obtain ⟨d0, d1⟩ := HC1.out k _ hx
      dsimp only at d0 d1
      have d0 := below_cell HW.out.1 _ _ d0
      have d1 := below_cell HW.out.1 _ _ d1
      obtain rfl := HA1.out (by omega)
      have HX := hideT hx
      have HNO : Hid (¬ Rp.InP g0 p.flags → ¬ Rp.RuleP p (s, l1, l2, l3)) := fun h H => h (H.1 _ (List.mem_of_getElem? HX.out))
      clear hx
      have BA := hideT ((Below.refl wr.heap.size wr).alloc (Nat.le_refl _) (.cells #[.int .i64 g0, .bool g1] 54))
      have LA := hideT (Lies.new wr 54 #[.int .i64 g0, .bool g1])
      have BW := hideT (HW.out.1.trans (BA.out.mono HW.out.1.size))
      have LP := hideT (HW.out.2.1.below BA.out)
      have LR2 := hideT (HW.out.2.2.below BA.out)
      obtain ⟨x0, x1, x2, x3, x4, x5, x6, x7, x8, x9⟩ := HW.out.2.1.cells
      have t0 : (0 : Int) ≤ (k : Int) := by omega
      have t1 : (k : Int) < (l1.length : Int) := by omega
      have hz := HW.out.2.2.lt
      have hz1 := HW.out.2.1.lt
      by_cases q1 : Rp.InP g0 p.lasting
      · have HR : Hid (∀ (j : Nat) x, j < k + 1 → l1[j]? = some x → Rp.InP x.1 p.flags) := Rp.all_step HB.out HX.out (in_of HBD.out q1)
        have Q := hideT q1
        clear q1
        go_wp2_with fail
        refine (lastsD _ A p g0).mono ?_
        rintro e w1 k1
        obtain ⟨rfl, b1⟩ := k1.yes Q.out
        have B1 := hideT (BW.out.trans (b1.mono BW.out.size))
        have L1 := hideT (LP.out.below b1)
        have L2 := hideT (LR2.out.below b1)
        clear k1 b1 x0 x1 x2 x3 x4 x5 x6 x7 x8 x9
        go_wp2_with fail
        refine ⟨⟨k + 1, by omega, by go_num, HR, B1.out, L1.out, L2.out⟩, ?_⟩
        first | omega | (simp [intOf]; omega)
      have Q := hideT q1
      clear q1
      go_wp2_with fail
      refine (lastsD _ A p g0).mono ?_
      rintro e w1 k1
      obtain ⟨rfl, b1⟩ := k1.no Q.out
      have B1 := hideT (BW.out.trans (b1.mono BW.out.size))
      have L1 := hideT (LP.out.below b1)
      have L2 := hideT (LR2.out.below b1)
      have e0 : w1.cell? ⟨wr.heap.size, 0, none⟩ = some (.int .i64 g0) := (LA.out.below b1).cell 0
      clear k1 b1 x0 x1 x2 x3 x4 x5 x6 x7 x8 x9
      obtain ⟨x0, x1, x2, x3, x4, x5, x6, x7, x8, x9⟩ := L1.out.cells
      go_wp2_with fail
      refine (passesD _ A p g0).mono ?_
      clear x0 x1 x2 x3 x4 x5 x6 x7 x8 x9 e0
      rintro e w2 k1
      by_cases q2 : Rp.PassP p g0
      · have HR : Hid (∀ (j : Nat) x, j < k + 1 → l1[j]? = some x → Rp.InP x.1 p.flags) := Rp.all_step HB.out HX.out (in_of_pass HBD.out q2)
        obtain ⟨rfl, b1⟩ := k1.yes q2
        have B2 := hideT (B1.out.trans (b1.mono B1.out.size))
        have L3 := hideT (L1.out.below b1)
        have L4 := hideT (L2.out.below b1)
        clear k1 b1 q2
        go_wp2_with fail
        refine ⟨⟨k + 1, by omega, by go_num, HR, B2.out, L3.out, L4.out⟩, ?_⟩
        first | omega | (simp [intOf]; omega)
      · have HF : Hid (¬ Rp.RuleP p (s, l1, l2, l3)) := HNO.out (in_not Q.out q2)
        obtain ⟨rfl, b1⟩ := k1.no q2
        have B2 := hideT (B1.out.trans (b1.mono B1.out.size))
        clear k1 b1 q2
        go_wp2_with fail
        go_ret
        exact bpost_no HF.out B2.out
    have HL1 : Hid (Rp.LitsP l1 p.flags) := Rp.all_of (Rp.all_done HB.out (by omega))
    have y2 : wr.cell? ⟨w.heap.size + 1, 2, none⟩ = some (.slice i2 l2.length n2) := HW.out.2.2.cell 2
    go_wp2_with fail
    clear y2
    go_loopw [34] (fun i wr => ∃ k : Nat, k ≤ l2.length ∧ i = .int .i64 k ∧ Hid (∀ (j : Nat) c, j < k → l2[j]? = some c → Mp.has p.files c.1 = true ∧ Mp.opB c.2.1 = true) ∧ Hid (Below w.heap.size w wr ∧ PBox wr w.heap.size A p ∧ Lies wr (w.heap.size + 1) 61 #[.int .i64 s, .slice i1 l1.length n1, .slice i2 l2.length n2, .slice i3 l3.length n3])) (fun i _ => l2.length - (intOf i).toNat)
    case atStart => exact ⟨0, by omega, rfl, (fun j y hj => absurd hj (by omega)), HW.out⟩
    case round =>
      obtain ⟨k, hk, rfl, HB2, HW⟩ := hrel
      by_cases hlt : k < l2.length
      · obtain ⟨⟨g0, g1, g2⟩, hx⟩ := Mp.at_lt (l := l2) (k := k) hlt
        obtain ⟨_, d0, d1, d2⟩ := HC2.out k _ hx
        dsimp only at d0 d1 d2
        have d0 := below_cell HW.out.1 _ _ d0
        have d1 := below_cell HW.out.1 _ _ d1
        have d2 := below_cell HW.out.1 _ _ d2
        obtain rfl := HA2.out (by omega)
        have HX := hideT hx
        have HNO : Hid (¬ (Mp.has p.files g0 = true ∧ Mp.opB g1 = true) → ¬ Rp.RuleP p (s, l1, l2, l3)) := fun h H => h (H.2.1 _ (List.mem_of_getElem? HX.out))
        clear hx
        have BA := hideT ((Below.refl wr.heap.size wr).alloc (Nat.le_refl _) (.cells #[.string g0, .string g1, .int .i64 g2] 102))
        have BW := hideT (HW.out.1.trans (BA.out.mono HW.out.1.size))
        have LP := hideT (HW.out.2.1.below BA.out)
        have LR2 := hideT (HW.out.2.2.below BA.out)
        obtain ⟨x0, x1, x2, x3, x4, x5, x6, x7, x8, x9⟩ := HW.out.2.1.cells
        have t0 : (0 : Int) ≤ (k : Int) := by omega
        have t1 : (k : Int) < (l2.length : Int) := by omega
        have hz := HW.out.2.2.lt
        have hz1 := HW.out.2.1.lt
        obtain ⟨q1, Q1⟩ : ∃ x, Hid (Mp.has p.files g0 = x) := ⟨_, rfl⟩
        obtain ⟨q2, Q2⟩ : ∃ x, Hid (Mp.opB g1 = x) := ⟨_, rfl⟩
        cases q1
        · have HF : Hid (¬ Rp.RuleP p (s, l1, l2, l3)) := HNO.out fun h => by rw [Q1.out] at h; cases h.1
          go_wp2_with fail
          refine (containsSV _ _ _ _ p.files g0 (frow_below HFi.out BW.out) false Q1).mono ?_
          rintro e w1 ⟨rfl, rfl⟩
          clear x0 x1 x2 x3 x4 x5 x6 x7 x8 x9
          go_wp2_with fail
          go_ret
          exact bpost_no HF.out BW.out
        cases q2
        · have HF : Hid (¬ Rp.RuleP p (s, l1, l2, l3)) := HNO.out fun h => by rw [Q2.out] at h; cases h.2
          go_wp2_with fail
          refine (containsSV _ _ _ _ p.files g0 (frow_below HFi.out BW.out) true Q1).mono ?_
          rintro e w1 ⟨rfl, rfl⟩
          clear x0 x1 x2 x3 x4 x5 x6 x7 x8 x9
          go_wp2_with fail
          refine (isOpRV g1 _ false Q2).mono ?_
          rintro e w1 ⟨rfl, rfl⟩
          go_wp2_with fail
          go_ret
          exact bpost_no HF.out BW.out
        have HR : Hid (∀ (j : Nat) c, j < k + 1 → l2[j]? = some c → Mp.has p.files c.1 = true ∧ Mp.opB c.2.1 = true) := Rp.all_step HB2.out HX.out ⟨Q1.out, Q2.out⟩
        go_wp2_with fail
        refine (containsSV _ _ _ _ p.files g0 (frow_below HFi.out BW.out) true Q1).mono ?_
        rintro e w1 ⟨rfl, rfl⟩
        clear x0 x1 x2 x3 x4 x5 x6 x7 x8 x9
        go_wp2_with fail
        refine (isOpRV g1 _ true Q2).mono ?_
        rintro e w1 ⟨rfl, rfl⟩
        go_wp2_with fail
        refine ⟨⟨k + 1, by omega, by go_num, HR, BW.out, LP.out, LR2.out⟩, ?_⟩
        first | omega | (simp [intOf]; omega)
      have HL2 : Hid (Rp.CondsP p l2) := Rp.all_of (Rp.all_done HB2.out (by omega))
      have y3 : wr.cell? ⟨w.heap.size + 1, 3, none⟩ = some (.slice i3 l3.length n3) := HW.out.2.2.cell 3
      go_wp2_with fail
      clear y3
      go_loopw [54] (fun i wr => ∃ k : Nat, k ≤ l3.length ∧ i = .int .i64 k ∧ Hid (∀ (j : Nat) x, j < k → l3[j]? = some x → Rp.InP x.1 p.flags) ∧ Hid (Below w.heap.size w wr ∧ PBox wr w.heap.size A p ∧ Lies wr (w.heap.size + 1) 61 #[.int .i64 s, .slice i1 l1.length n1, .slice i2 l2.length n2, .slice i3 l3.length n3])) (fun i _ => l3.length - (intOf i).toNat)
      case atStart => exact ⟨0, by omega, rfl, (fun j y hj => absurd hj (by omega)), HW.out⟩
      case round =>
        obtain ⟨k, hk, rfl, HB, HW⟩ := hrel
        by_cases hlt : k < l3.length
        · obtain ⟨⟨g0, g1⟩, hx⟩ := Mp.at_lt (l := l3) (k := k) hlt
          obtain ⟨d0, d1⟩ := HC3.out k _ hx
          dsimp only at d0 d1
          have d0 := below_cell HW.out.1 _ _ d0
          have d1 := below_cell HW.out.1 _ _ d1
          obtain rfl := HA3.out (by omega)
          have HX := hideT hx
          have HNO : Hid (¬ Rp.InP g0 p.flags → ¬ Rp.RuleP p (s, l1, l2, l3)) := fun h H => h (H.2.2.1 _ (List.mem_of_getElem? HX.out))
          clear hx
          have BA := hideT ((Below.refl wr.heap.size wr).alloc (Nat.le_refl _) (.cells #[.int .i64 g0, .bool g1] 57))
          have LA := hideT (Lies.new wr 57 #[.int .i64 g0, .bool g1])
          have BW := hideT (HW.out.1.trans (BA.out.mono HW.out.1.size))
          have LP := hideT (HW.out.2.1.below BA.out)
          have LR2 := hideT (HW.out.2.2.below BA.out)
          obtain ⟨x0, x1, x2, x3, x4, x5, x6, x7, x8, x9⟩ := HW.out.2.1.cells
          have t0 : (0 : Int) ≤ (k : Int) := by omega
          have t1 : (k : Int) < (l3.length : Int) := by omega
          have hz := HW.out.2.2.lt
          have hz1 := HW.out.2.1.lt
          by_cases q1 : Rp.InP g0 p.lasting
          · have HR : Hid (∀ (j : Nat) x, j < k + 1 → l3[j]? = some x → Rp.InP x.1 p.flags) := Rp.all_step HB.out HX.out (in_of HBD.out q1)
            have Q := hideT q1
            clear q1
            go_wp2_with fail
            refine (lastsD _ A p g0).mono ?_
            rintro e w1 k1
            obtain ⟨rfl, b1⟩ := k1.yes Q.out
            have B1 := hideT (BW.out.trans (b1.mono BW.out.size))
            have L1 := hideT (LP.out.below b1)
            have L2 := hideT (LR2.out.below b1)
            clear k1 b1 x0 x1 x2 x3 x4 x5 x6 x7 x8 x9
            go_wp2_with fail
            refine ⟨⟨k + 1, by omega, by go_num, HR, B1.out, L1.out, L2.out⟩, ?_⟩
            first | omega | (simp [intOf]; omega)
          have Q := hideT q1
          clear q1
          go_wp2_with fail
          refine (lastsD _ A p g0).mono ?_
          rintro e w1 k1
          obtain ⟨rfl, b1⟩ := k1.no Q.out
          have B1 := hideT (BW.out.trans (b1.mono BW.out.size))
          have L1 := hideT (LP.out.below b1)
          have L2 := hideT (LR2.out.below b1)
          have e0 : w1.cell? ⟨wr.heap.size, 0, none⟩ = some (.int .i64 g0) := (LA.out.below b1).cell 0
          clear k1 b1 x0 x1 x2 x3 x4 x5 x6 x7 x8 x9
          obtain ⟨x0, x1, x2, x3, x4, x5, x6, x7, x8, x9⟩ := L1.out.cells
          go_wp2_with fail
          refine (passesD _ A p g0).mono ?_
          clear x0 x1 x2 x3 x4 x5 x6 x7 x8 x9 e0
          rintro e w2 k1
          by_cases q2 : Rp.PassP p g0
          · have HR : Hid (∀ (j : Nat) x, j < k + 1 → l3[j]? = some x → Rp.InP x.1 p.flags) := Rp.all_step HB.out HX.out (in_of_pass HBD.out q2)
            obtain ⟨rfl, b1⟩ := k1.yes q2
            have B2 := hideT (B1.out.trans (b1.mono B1.out.size))
            have L3 := hideT (L1.out.below b1)
            have L4 := hideT (L2.out.below b1)
            clear k1 b1 q2
            go_wp2_with fail
            refine ⟨⟨k + 1, by omega, by go_num, HR, B2.out, L3.out, L4.out⟩, ?_⟩
            first | omega | (simp [intOf]; omega)
          · have HF : Hid (¬ Rp.RuleP p (s, l1, l2, l3)) := HNO.out (in_not Q.out q2)
            obtain ⟨rfl, b1⟩ := k1.no q2
            have B2 := hideT (B1.out.trans (b1.mono B1.out.size))
            clear k1 b1 q2
            go_wp2_with fail
            go_ret
            exact bpost_no HF.out B2.out
        have HL3 : Hid (Rp.LitsP l3 p.flags) := Rp.all_of (Rp.all_done HB.out (by omega))
        have y3 : wr.cell? ⟨w.heap.size + 1, 3, none⟩ = some (.slice i3 l3.length n3) := HW.out.2.2.cell 3
        have HF : Hid (decide ((0 : Int) < (l3.length : Int)) = true ↔ Rp.RuleP p (s, l1, l2, l3)) := by
          show _ ↔ _
          rw [decide_eq_true_eq]
          exact ⟨fun h => ⟨HL1.out, HL2.out, HL3.out, by show 0 < l3.length; omega⟩, fun H => by have : 0 < l3.length := H.2.2.2; omega⟩
        go_wp2_with fail
        go_ret
        exact bpost HF.out (by first | rfl | (simp; done) | (simp; omega)) HW.out.1
end Go.Proofs.Ytkjekohncfhbiaa
