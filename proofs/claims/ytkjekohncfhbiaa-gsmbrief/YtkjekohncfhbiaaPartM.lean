/-
  Several texts in one: each opens with its own word.
-/
import Derived.Test.YtkjekohncfhbiaaGRound
/-
  Rounds, until one that turns no flag that lasts.
-/
set_option linter.unusedSimpArgs false
set_option linter.unusedVariables false
namespace Go.Proofs.Ytkjekohncfhbiaa
open Go.RowKit
set_option maxRecDepth 100000
namespace Gp
theorem eq_upto {α : Type} {l m : List α} {k : Nat} {x : α} (h : ∀ (j : Nat) y, j < k → l[j]? = some y → m[j]? = some y) (hx : l[k]? = some x) (hm : m[k]? = some x) : ∀ (j : Nat) y, j < k + 1 → l[j]? = some y → m[j]? = some y := by
  intro j y hj hy
  by_cases e : j < k
  · exact h j y e hy
  · obtain rfl : j = k := by omega
    rw [hx] at hy
    cases hy
    exact hm
theorem eq_all {α : Type} {l m : List α} {k : Nat} (hk : l.length ≤ k) (hlm : l.length ≤ m.length) (h : ∀ (j : Nat) y, j < k → l[j]? = some y → m[j]? = some y) : l = m.take l.length := by
  apply List.ext_getElem?
  intro j
  by_cases hj : j < l.length
  · rw [List.getElem?_take_of_lt hj, List.getElem?_eq_getElem hj]
    exact (h j _ (by omega) (List.getElem?_eq_getElem hj)).symm
  · rw [List.getElem?_eq_none (by omega), List.getElem?_eq_none (by rw [List.length_take]; omega)]
theorem eq_not {α : Type} {l m : List α} {k : Nat} {x y : α} (hx : l[k]? = some x) (hm : m[k]? = some y) (hn : x ≠ y) (n : Nat) (hkn : k < n) : l ≠ m.take n := by
  intro e
  rw [e, List.getElem?_take_of_lt hkn, hm] at hx
  cases hx
  exact hn rfl
theorem goOn_step {K : KP} {nums : List Int} {n : Nat} {fl : List Bool} (h : ¬ (roundS K 1 nums fl).take K.lasting.toNat = fl.take K.lasting.toNat) : goOn K nums (n + 1) fl = goOn K nums n (roundS K 1 nums fl) := by
  show (if _ then _ else _) = _
  rw [if_neg h]
theorem goOn_done {K : KP} {nums : List Int} {n : Nat} {fl : List Bool} (h : (roundS K 1 nums fl).take K.lasting.toNat = fl.take K.lasting.toNat) : goOn K nums (n + 1) fl = some (roundS K 1 nums fl) := by
  show (if _ then _ else _) = _
  rw [if_pos h]
end Gp
set_option maxHeartbeats 1000000 in
theorem equalB (w : World) (a b n c1 c2 : Nat) (l m : List Bool) (hl : FlagR w a l) (hm : FlagR w b m) (hn : l.length = n) (hnm : n ≤ m.length) (hnb : n ≤ 100000) (t : Bool) (ht : Hid (decide (l = m.take n) = t)) :
    Calls Try.prog 54 #[.slice (some ⟨a, 0, none⟩) n c1, .slice (some ⟨b, 0, none⟩) n c2] w (GB t w) := by
  have HL := hideT hl
  have HM := hideT hm
  have HN := hideT hn
  have HNM := hideT hnm
  clear hl hm hn hnm
  go_enter Try.func54, Try.ntmps54
  go_wp2_with fail
  go_loopw [13] (fun i wr => ∃ k : Nat, k ≤ n ∧ i = .int .i64 k ∧ Hid (∀ (j : Nat) y, j < k → l[j]? = some y → m[j]? = some y) ∧ Hid (Below w.heap.size w wr)) (fun i _ => n - (intOf i).toNat)
  case atStart => exact ⟨0, by omega, rfl, (fun j y hj => absurd hj (by omega)), Below.refl _ _⟩
  case round =>
    obtain ⟨k, hk, rfl, HB, HW⟩ := hrel
    by_cases hlt : k < n
    · obtain ⟨x, hx⟩ := Mp.at_lt (l := l) (k := k) (by have := HN.out; omega)
      obtain ⟨y, hy⟩ := Mp.at_lt (l := m) (k := k) (by have := HNM.out; omega)
      have c1 := (HL.out.below HW.out).cell hx
      have c2 := (HM.out.below HW.out).cell hy
      have HX := hideT hx
      have HY := hideT hy
      have t0 : (0 : Int) ≤ (k : Int) := by omega
      have t1 : (k : Int) < (n : Int) := by omega
      clear hx hy
      by_cases hxy : x = y
      · subst hxy
        have HR := hideT (Gp.eq_upto HB.out HX.out HY.out)
        go_wp2_with fail
        go_quiet (fail)
        go_wp2_with fail
        refine ⟨⟨k + 1, by omega, by go_num, HR, below_drewN HW.out _⟩, ?_⟩
        first | omega | (simp [intOf]; omega)
      · have HF : Hid (false = t) := by
          have := ht.out
          rw [decide_eq_false (Gp.eq_not HX.out HY.out hxy n hlt)] at this
          exact this
        have h1 : (x == y) = false := beq_eq_false_iff_ne.2 hxy
        go_wp2_with fail
        go_quiet (fail)
        go_wp2_with fail
        go_ret
        exact ⟨ret_b HF.out, below_drewN HW.out _⟩
    · have HF : Hid (true = t) := by
        have h1 := ht.out
        have h2 := Gp.eq_all (l := l) (m := m) (k := k) (by have := HN.out; omega) (by have := HN.out; have := HNM.out; omega) HB.out
        rw [HN.out] at h2
        rw [decide_eq_true h2] at h1
        exact h1
      go_wp2_with fail
      go_ret
      exact ⟨ret_b HF.out, HW.out⟩
/-- A machine's cells: what is kept, and how all is now. -/
abbrev maC (A : KA) (K : Gp.KP) (v7 v8 v9 : Value) : Array Value := #[.int .i64 K.lasting, .slice A.a1 K.over.length A.c1, .int .i64 K.frm, .slice A.a3 K.files.length A.c3, .slice A.a4 K.strata.length A.c4, .slice A.a5 K.ctrs.length A.c5, .slice A.a6 K.users.length A.c6, v7, v8, v9]
abbrev sl (b n : Nat) : Value := .slice (some ⟨b, 0, none⟩) n n
/-- What goOn leaves. -/
def OnPost (w : World) (b : Nat) (A : KA) (K : Gp.KP) (v7 v8 v9 : Value) (fb nb cb F N C : Nat) (r : Option (List Bool)) (e : Ending) (w' : World) : Prop :=
  match r with
  | some g => e = .returned (.bool true) ∧ Keep (fun k => k = fb ∨ k = b) w w' ∧ FlagR w' fb g ∧ Lies w' b 74 (maC A K (sl fb F) (sl nb N) (sl cb C))
  | none => e = .returned (.bool false) ∧ Keep (fun k => k = fb) w w' ∧ Lies w' b 74 (maC A K v7 v8 v9)
set_option maxHeartbeats 8000000 in
theorem goOnD (w : World) (b : Nat) (A : KA) (K : Gp.KP) (S : Nat → Prop) (v7 v8 v9 : Value) (hb : Lies w b 74 (maC A K v7 v8 v9)) (hs : Hang S (fun w => KeptAt w A K) w) (fb nb cb F N C : Nat) (fl : List Bool) (nums : List Int) (hf : FlagR w fb fl) (hF : fl.length = F) (hn : IntR w nb nums) (hN : nums.length = N) (hok : Gp.KOk K F) (hNf : N = K.files.length) (hSf : ¬ S fb) :
    Calls Try.prog 23 #[.pointer (some ⟨b, 0, none⟩), .agg (stC fb nb cb F N C)] w (OnPost w b A K v7 v8 v9 fb nb cb F N C (Gp.goOn K nums 100 fl)) := by
  obtain ⟨A1, C1, A3, C3, A4, C4, A5, C5, A6, C6⟩ := A
  obtain ⟨las, over, kfrm, files, strata, ctrs, users⟩ := K
  obtain ⟨L, hL⟩ : ∃ L : Nat, las = L := ⟨las.toNat, by have := hok.las.1; dsimp only at this; omega⟩
  subst hL
  obtain ⟨KK, hKK⟩ : ∃ KK : Gp.KP, (⟨(L : Int), over, kfrm, files, strata, ctrs, users⟩ : Gp.KP) = KK := ⟨_, rfl⟩
  have HKL : Hid (KK.lasting.toNat = L) := by show _ = _; rw [← hKK]; show ((L : Int)).toNat = L; omega
  have hlf : L ≤ F := by have := hok.las.2; dsimp only at this; omega
  obtain ⟨V, hV⟩ : ∃ V, w.alloc (.cells (stC fb nb cb F N C) 72) = V := ⟨_, rfl⟩
  have BV : Below w.heap.size w V := by rw [← hV]; exact (Below.refl _ w).alloc (Nat.le_refl _) _
  have LS : Lies V w.heap.size 72 (stC fb nb cb F N C) := by rw [← hV]; exact Lies.new _ _ _
  dsimp only [maC] at hb
  have HLB := hideT (hb.below BV)
  have HLB0 := hideT hb
  have HLS := hideT LS
  have HS := hideT ((hs.imp fun w h => h.strata).below BV)
  have HF := hideT (hf.below BV)
  have HFF := hideT hF
  have HN := hideT (hn.below BV)
  have HNN := hideT hN
  have HOK := hideT hok
  have HNF := hideT hNf
  have HSF := hideT hSf
  have HBV := hideT BV
  have HV := hideT hV
  have HNES : Hid (fb ≠ w.heap.size) := fun e => by
    have h1 := LS
    rw [← e] at h1
    exact lies_neG h1 (hf.below BV) (by decide) rfl
  have HNEB : Hid (fb ≠ b) := fun e => by
    have h1 := hb
    rw [← e] at h1
    exact lies_neG h1 hf (by decide) rfl
  have HBL : Hid (b < w.heap.size) := hb.lt
  have HNB : Hid (fb ≠ nb) := flag_int_ne hf hn
  have HKE := hideT hKK
  have HF8 : Hid (F ≤ 800) := hok.few
  rw [hKK]
  clear hb hs hf hF hn hN hok hNf hSf BV LS hV hKK
  have x0 : V.cell? ⟨b, 0, none⟩ = some (.int .i64 (L : Int)) := HLB.out.cell 0
  have z0 : V.cell? ⟨w.heap.size, 0, none⟩ = some (.slice (some ⟨fb, 0, none⟩) F F) := HLS.out.cell 0
  have t0 : (0 : Int) ≤ (L : Int) := by omega
  have t1 : (L : Int) ≤ (F : Int) := by omega
  go_enter Try.func23, Try.ntmps23
  go_wp2_with fail
  rw [HV.out]
  go_quiet (fail)
  go_wp2_with fail
  clear x0 z0
  go_loopw [15] (fun i wr => ∃ (k : Nat) (fk : List Bool), k ≤ 100 ∧ i = .int .i64 k ∧ Hid (Keep (fun j => j = fb) V wr) ∧ Hid (FlagR wr fb fk) ∧ Hid (fk.length = F) ∧ Hid (Gp.goOn KK nums 100 fl = Gp.goOn KK nums (100 - k) fk)) (fun i _ => 100 - (intOf i).toNat)
  case atStart => exact ⟨0, fl, by omega, rfl, Keep.of_below (below_drewN (Below.refl _ _) _), HF.out.below (below_drewN (Below.refl _ _) _), HFF.out, rfl⟩
  case round =>
    obtain ⟨k, fk, hk, rfl, HK, HFL, HLEN, HGO⟩ := hrel
    have HL1 := hideT (HLB.out.keep HK.out (fun e => HNEB.out e.symm))
    have HL2 := hideT (HLS.out.keep HK.out (fun e => HNES.out e.symm))
    by_cases hlt : k < 100
    rotate_left
    · have HE : Hid (Gp.goOn KK nums 100 fl = none) := by
        show _ = _
        rw [HGO.out, show 100 - k = 0 by omega]
        rfl
      go_wp2_with fail
      go_ret
      rw [HE.out, ← HKE.out]
      exact ⟨rfl, (Keep.of_below HBV.out).trans HK.out, HL1.out⟩
    have t2 : (k : Int) < 100 := by omega
    go_wp2_with fail
    refine (copyF wr fb L F fk HFL.out (by rw [HLEN.out]; exact hlf) (by rw [HLEN.out]; have := HF8.out; omega)).mono ?_
    rintro e w1 ⟨rfl, f1, b1⟩
    have HB1 := hideT b1
    have HFA := hideT f1
    have HFL1 := hideT (HFL.out.below b1)
    have HK1 := hideT (HK.out.trans (Keep.of_below b1))
    have HM1 := hideT (HL1.out.below b1)
    have HN1 := hideT ((HN.out.keep HK1.out (fun e => HNB.out e.symm)))
    have HS1 := hideT (HS.out.keep HK1.out (fun i _ h e => HSF.out (by rw [← e]; exact h)))
    have z0 : w1.cell? ⟨w.heap.size, 0, none⟩ = some (.slice (some ⟨fb, 0, none⟩) F F) := (HL2.out.below b1).cell 0
    have z1 : w1.cell? ⟨w.heap.size, 1, none⟩ = some (.slice (some ⟨nb, 0, none⟩) N N) := (HL2.out.below b1).cell 1
    have z2 : w1.cell? ⟨w.heap.size, 2, none⟩ = some (.slice (some ⟨cb, 0, none⟩) C C) := (HL2.out.below b1).cell 2
    have x0 : w1.cell? ⟨b, 0, none⟩ = some (.int .i64 (L : Int)) := HM1.out.cell 0
    have x1 : w1.cell? ⟨b, 1, none⟩ = some (.slice A1 over.length C1) := HM1.out.cell 1
    have x2 : w1.cell? ⟨b, 2, none⟩ = some (.int .i64 kfrm) := HM1.out.cell 2
    have x3 : w1.cell? ⟨b, 3, none⟩ = some (.slice A3 files.length C3) := HM1.out.cell 3
    have x4 : w1.cell? ⟨b, 4, none⟩ = some (.slice A4 strata.length C4) := HM1.out.cell 4
    have x5 : w1.cell? ⟨b, 5, none⟩ = some (.slice A5 ctrs.length C5) := HM1.out.cell 5
    have x6 : w1.cell? ⟨b, 6, none⟩ = some (.slice A6 users.length C6) := HM1.out.cell 6
    have HAL : Hid (wr.heap.size ≠ fb) := fun e => by
      have := Lies.lt HFL.out
      omega
    have HALT : Hid (∀ d, FlagR (w1.drewN d) fb fk) := fun d => HFL1.out.below (below_drewN (Below.refl _ _) d)
    clear f1 b1
    go_wp2_with fail
    go_region_held3 (fun w' => w'.cell? ⟨b, 0, none⟩ = some (.int .i64 (L : Int)) ∧ w'.cell? ⟨b, 1, none⟩ = some (.slice A1 over.length C1) ∧ w'.cell? ⟨b, 2, none⟩ = some (.int .i64 kfrm) ∧ w'.cell? ⟨b, 3, none⟩ = some (.slice A3 files.length C3) ∧ w'.cell? ⟨b, 4, none⟩ = some (.slice A4 strata.length C4) ∧ w'.cell? ⟨b, 5, none⟩ = some (.slice A5 ctrs.length C5) ∧ w'.cell? ⟨b, 6, none⟩ = some (.slice A6 users.length C6) ∧ w'.cell? ⟨w.heap.size, 0, none⟩ = some (.slice (some ⟨fb, 0, none⟩) F F) ∧ w'.cell? ⟨w.heap.size, 1, none⟩ = some (.slice (some ⟨nb, 0, none⟩) N N) ∧ w'.cell? ⟨w.heap.size, 2, none⟩ = some (.slice (some ⟨cb, 0, none⟩) C C)) (go_keep) (first
      | (go_at_call 53; (refine (roundD _ ⟨A1, C1, A3, C3, A4, C4, A5, C5, A6, C6⟩ ⟨(L : Int), over, kfrm, files, strata, ctrs, users⟩ S (HS1.out.below (below_drewN (Below.refl _ w1) _)) 1 fb nb cb F N C fk nums (HALT.out _) HLEN.out (HN1.out.below (below_drewN (Below.refl _ w1) _)) HNN.out HOK.out HNF.out HSF.out).mono ?_); rintro e w2 ⟨rfl, k2, f2⟩; have M2 := (HM1.out.below (below_drewN (Below.refl _ w1) 1)).keep k2 (fun e => HNEB.out e.symm); have Z2 := ((HL2.out.below HB1.out).below (below_drewN (Below.refl _ w1) 1)).keep k2 (fun e => HNES.out e.symm); have a0 : w2.cell? ⟨b, 0, none⟩ = some (.int .i64 (L : Int)) := M2.cell 0; have a1 : w2.cell? ⟨b, 1, none⟩ = some (.slice A1 over.length C1) := M2.cell 1; have a2 : w2.cell? ⟨b, 2, none⟩ = some (.int .i64 kfrm) := M2.cell 2; have a3 : w2.cell? ⟨b, 3, none⟩ = some (.slice A3 files.length C3) := M2.cell 3; have a4 : w2.cell? ⟨b, 4, none⟩ = some (.slice A4 strata.length C4) := M2.cell 4; have a5 : w2.cell? ⟨b, 5, none⟩ = some (.slice A5 ctrs.length C5) := M2.cell 5; have a6 : w2.cell? ⟨b, 6, none⟩ = some (.slice A6 users.length C6) := M2.cell 6; have g0 : w2.cell? ⟨w.heap.size, 0, none⟩ = some (.slice (some ⟨fb, 0, none⟩) F F) := Z2.cell 0; have g1 : w2.cell? ⟨w.heap.size, 1, none⟩ = some (.slice (some ⟨nb, 0, none⟩) N N) := Z2.cell 1; have g2 : w2.cell? ⟨w.heap.size, 2, none⟩ = some (.slice (some ⟨cb, 0, none⟩) C C) := Z2.cell 2))
    clear x0 x1 x2 x3 x4 x5 x6 z0 z1 z2
    have HM2 := hideT M2
    have HZ2 := hideT Z2
    rw [HKE.out] at f2
    have HK2 := hideT ((HK1.out.trans (Keep.of_below (below_drewN (Below.refl _ w1) 1))).trans k2)
    have HA2 := hideT ((HFA.out.below (below_drewN (Below.refl _ w1) 1)).keep k2 HAL.out)
    have HLE2 : Hid ((Gp.roundS KK 1 nums fk).length = F) := by show _ = _; rw [Gp.roundS_len (by rw [HKL.out, HLEN.out]; exact hlf)]; exact HLEN.out
    have HF2 := hideT f2
    clear M2 Z2 k2 f2 a0 a1 a2 a3 a4 a5 a6 g0 g1 g2
    obtain ⟨tt, htt⟩ : ∃ tt, Hid (decide (fk.take L = (Gp.roundS KK 1 nums fk).take L) = tt) := ⟨_, rfl⟩
    go_wp2_with fail
    refine (equalB w2 wr.heap.size fb L L F _ _ HA2.out HF2.out (by rw [List.length_take, HLEN.out]; omega) (by rw [HLE2.out]; exact hlf) (by have := HF8.out; omega) tt htt).mono ?_
    rintro e w3 ⟨rfl, b3⟩
    have HM3 := hideT (HM2.out.below b3)
    have HZ3 := hideT (HZ2.out.below b3)
    have HF3 := hideT (HF2.out.below b3)
    have HK3 := hideT (HK2.out.trans (Keep.of_below b3))
    clear b3
    cases tt
    · have HR : Hid (Gp.goOn KK nums 100 fl = Gp.goOn KK nums (100 - (k + 1)) (Gp.roundS KK 1 nums fk)) := by
        show _ = _
        rw [HGO.out, show 100 - k = (100 - (k + 1)) + 1 by omega]
        refine Gp.goOn_step ?_
        rw [HKL.out]
        exact fun e => of_decide_eq_false htt.out e.symm
      go_wp2_with fail
      refine ⟨⟨k + 1, Gp.roundS KK 1 nums fk, by omega, by go_num, HK3, HF3, HLE2, HR⟩, ?_⟩
      first | omega | (simp [intOf]; omega)
    · have HR : Hid (Gp.goOn KK nums 100 fl = some (Gp.roundS KK 1 nums fk)) := by
        show _ = _
        rw [HGO.out, show 100 - k = (100 - (k + 1)) + 1 by omega]
        refine Gp.goOn_done ?_
        rw [HKL.out]
        exact (of_decide_eq_true htt.out).symm
      have z0 : w3.cell? ⟨w.heap.size, 0, none⟩ = some (.slice (some ⟨fb, 0, none⟩) F F) := HZ3.out.cell 0
      have z1 : w3.cell? ⟨w.heap.size, 1, none⟩ = some (.slice (some ⟨nb, 0, none⟩) N N) := HZ3.out.cell 1
      have z2 : w3.cell? ⟨w.heap.size, 2, none⟩ = some (.slice (some ⟨cb, 0, none⟩) C C) := HZ3.out.cell 2
      have x7 : w3.cell? ⟨b, 7, none⟩ = some v7 := HM3.out.cell 7
      have x8 : w3.cell? ⟨b, 8, none⟩ = some v8 := HM3.out.cell 8
      have x9 : w3.cell? ⟨b, 9, none⟩ = some v9 := HM3.out.cell 9
      have f7 : w3.frozen? ⟨b, 7, none⟩ = false := HM3.out.free 7
      have f8 : w3.frozen? ⟨b, 8, none⟩ = false := HM3.out.free 8
      have f9 : w3.frozen? ⟨b, 9, none⟩ = false := HM3.out.free 9
      obtain ⟨X, hX⟩ : ∃ X, ((w3.setCell ⟨b, 7, none⟩ (.slice (some ⟨fb, 0, none⟩) F F)).setCell ⟨b, 8, none⟩ (.slice (some ⟨nb, 0, none⟩) N N)).setCell ⟨b, 9, none⟩ (.slice (some ⟨cb, 0, none⟩) C C) = X := ⟨_, rfl⟩
      have LX : Lies X b 74 (maC ⟨A1, C1, A3, C3, A4, C4, A5, C5, A6, C6⟩ KK (sl fb F) (sl nb N) (sl cb C)) := by
        rw [← hX, ← HKE.out]
        exact ((HM3.out.set 7 _).set 8 _).set 9 _
      have KX : Keep (fun k => k = b) w3 X := by
        rw [← hX]
        have h1 : Keep (fun k => k = b) w3 (w3.setCell ⟨b, 7, none⟩ (.slice (some ⟨fb, 0, none⟩) F F)) := Keep.set _ _ _ rfl
        exact (h1.trans (Keep.set _ _ _ rfl)).trans (Keep.set _ _ _ rfl)
      have FX := HF3.out.keep KX HNEB.out
      have HLX := hideT LX
      have HKX := hideT ((((Keep.of_below HBV.out).trans HK3.out).wide (R := fun k => k = fb ∨ k = b) (fun _ _ h => .inl h)).trans (KX.wide (fun _ _ h => .inr h)))
      have HFX := hideT FX
      have HXX := hideT hX
      clear LX KX FX hX
      go_wp2_with fail
      rw [HXX.out]
      go_wp2_with fail
      go_ret
      rw [HR.out]
      exact ⟨rfl, HKX.out, HFX.out, HLX.out⟩
end Go.Proofs.Ytkjekohncfhbiaa
/-
  A machine in memory; its state copied; going on from another one.
-/
set_option linter.unusedSimpArgs false
set_option linter.unusedVariables false
namespace Go.Proofs.Ytkjekohncfhbiaa
open Go.RowKit
set_option maxRecDepth 100000
/-- A machine: its box b, what is kept (it hangs on the blocks S), its rows. -/
structure MIn (w : World) (b : Nat) (A : KA) (K : Gp.KP) (S : Nat → Prop) (fb nb cb F N C : Nat) (st : Gp.St) : Prop where
  box : Lies w b 74 (maC A K (sl fb F) (sl nb N) (sl cb C))
  kept : Hang S (fun w => KeptAt w A K) w
  fl : FlagR w fb st.fl
  nums : IntR w nb st.nums
  cnts : IntR w cb st.cnts
  lf : st.fl.length = F
  ln : st.nums.length = N
  lc : st.cnts.length = C
  ok : Gp.KOk K F
  hn : N = K.files.length
  hc : C = K.ctrs.length
  nc : nb ≠ cb
  sb : ¬ S b
  zone : ∀ k, S k → k < w.heap.size
section
variable {w w' : World} {b : Nat} {A : KA} {K : Gp.KP} {S : Nat → Prop} {fb nb cb F N C : Nat} {st t : Gp.St}
theorem MIn.keep {T : Nat → Prop} (h : MIn w b A K S fb nb cb F N C st) (k : Keep T w w') (hb : ¬ T b) (hs : ∀ i, S i → ¬ T i) (h1 : ¬ T fb) (h2 : ¬ T nb) (h3 : ¬ T cb) : MIn w' b A K S fb nb cb F N C st :=
  ⟨h.box.keep k hb, h.kept.keep k (fun i _ h => hs i h), h.fl.keep k h1, h.nums.keep k h2, h.cnts.keep k h3, h.lf, h.ln, h.lc, h.ok, h.hn, h.hc, h.nc, h.sb, fun i hi => Nat.lt_of_lt_of_le (h.zone i hi) k.size⟩
theorem MIn.below (h : MIn w b A K S fb nb cb F N C st) (k : Below w.heap.size w w') : MIn w' b A K S fb nb cb F N C st := h.keep (T := fun _ => False) (Keep.of_below k) (fun e => e) (fun _ _ e => e) (fun e => e) (fun e => e) (fun e => e)
theorem MIn.f_ne (h : MIn w b A K S fb nb cb F N C st) : fb ≠ b ∧ fb ≠ nb ∧ fb ≠ cb ∧ nb ≠ b ∧ cb ≠ b :=
  ⟨lies_neG h.fl h.box (by decide), flag_int_ne h.fl h.nums, flag_int_ne h.fl h.cnts, lies_neG h.nums h.box (by decide), lies_neG h.cnts h.box (by decide)⟩
/-- Another state, in rows of its own. -/
structure NewS (w : World) (B : Nat) (f n c F N C : Nat) (t : Gp.St) : Prop where
  fl : FlagR w f t.fl
  nums : IntR w n t.nums
  cnts : IntR w c t.cnts
  lf : t.fl.length = F
  ln : t.nums.length = N
  lc : t.cnts.length = C
  nc : n ≠ c
  low : B ≤ f ∧ B ≤ n ∧ B ≤ c
theorem NewS.keep {B f n c : Nat} {T : Nat → Prop} (h : NewS w B f n c F N C t) (k : Keep T w w') (h1 : ¬ T f) (h2 : ¬ T n) (h3 : ¬ T c) : NewS w' B f n c F N C t := ⟨h.fl.keep k h1, h.nums.keep k h2, h.cnts.keep k h3, h.lf, h.ln, h.lc, h.nc, h.low⟩
theorem NewS.below {B f n c : Nat} (h : NewS w B f n c F N C t) (k : Below w.heap.size w w') : NewS w' B f n c F N C t := h.keep (T := fun _ => False) (Keep.of_below k) (fun e => e) (fun e => e) (fun e => e)
def NextPost (w : World) (F N C : Nat) (st : Gp.St) (e : Ending) (w' : World) : Prop := ∃ f n c, e = .returned (.agg (stC f n c F N C)) ∧ NewS w' w.heap.size f n c F N C st ∧ Below w.heap.size w w'
set_option maxHeartbeats 8000000 in
theorem nextD (h : MIn w b A K S fb nb cb F N C st) : Calls Try.prog 59 #[.pointer (some ⟨b, 0, none⟩)] w (NextPost w F N C st) := by
  obtain ⟨V, hV⟩ : ∃ V, w.alloc (.cells #[.slice none 0 0, .slice none 0 0, .slice none 0 0] 72) = V := ⟨_, rfl⟩
  have BV : Below w.heap.size w V := by rw [← hV]; exact (Below.refl _ w).alloc (Nat.le_refl _) _
  have LS : Lies V w.heap.size 72 #[.slice none 0 0, .slice none 0 0, .slice none 0 0] := by rw [← hV]; exact Lies.new _ _ _
  have HM := hideT (h.below BV)
  have HBV := hideT BV
  have HLS := hideT LS
  have HV := hideT hV
  have HF8 : Hid (F ≤ 800 ∧ N ≤ 6 ∧ C ≤ 3000) := ⟨h.ok.few, by rw [h.hn]; exact h.ok.files, by rw [h.hc]; exact h.ok.long.2.1⟩
  have HVS : Hid (w.heap.size < V.heap.size) := LS.lt
  have hbl := h.box.lt
  have hne1 : ¬ b = w.heap.size := by omega
  have hne2 : ¬ w.heap.size = b := by omega
  clear h BV LS hV hbl
  have x7 : V.cell? ⟨b, 7, none⟩ = some (.slice (some ⟨fb, 0, none⟩) F F) := HM.out.box.cell 7
  have x8 : V.cell? ⟨b, 8, none⟩ = some (.slice (some ⟨nb, 0, none⟩) N N) := HM.out.box.cell 8
  have x9 : V.cell? ⟨b, 9, none⟩ = some (.slice (some ⟨cb, 0, none⟩) C C) := HM.out.box.cell 9
  go_enter Try.func59, Try.ntmps59
  go_wp2_with fail
  rw [HV.out]
  go_region_held3 (fun w' => w'.cell? ⟨b, 7, none⟩ = some (.slice (some ⟨fb, 0, none⟩) F F) ∧ w'.cell? ⟨b, 8, none⟩ = some (.slice (some ⟨nb, 0, none⟩) N N) ∧ w'.cell? ⟨b, 9, none⟩ = some (.slice (some ⟨cb, 0, none⟩) C C)) (go_keep) (first
    | (go_at_call 39; (refine (copyF _ fb F F st.fl (HM.out.fl.below (below_drewN (Below.refl _ V) 1)) (by rw [HM.out.lf]; exact Nat.le_refl _) (by have := HF8.out.1; rw [HM.out.lf]; omega)).mono ?_); rintro e w1 ⟨rfl, f1, b1⟩; have B1 := (below_drewN (Below.refl _ V) 1).trans b1; have c7 := below_cell B1 _ _ x7; have c8 := below_cell B1 _ _ x8; have c9 := below_cell B1 _ _ x9)
    | (go_at_call_of 48 (Value.slice (some ⟨nb, 0, none⟩) N N); (refine (copyN _ nb N N st.nums (HM.out.nums.below B1) HM.out.ln.symm (by have := HF8.out.2.1; rw [HM.out.ln]; omega)).mono ?_); rintro e w2 ⟨rfl, f2, b2⟩; have B2 := B1.trans (b2.mono B1.size); have c7 := below_cell B2 _ _ x7; have c8 := below_cell B2 _ _ x8; have c9 := below_cell B2 _ _ x9)
    | (go_at_call_of 48 (Value.slice (some ⟨cb, 0, none⟩) C C); (refine (copyN _ cb C C st.cnts (HM.out.cnts.below B2) HM.out.lc.symm (by have := HF8.out.2.2; rw [HM.out.lc]; omega)).mono ?_); rintro e w3 ⟨rfl, f3, b3⟩; have B3 := B2.trans (b3.mono B2.size); have c7 := below_cell B3 _ _ x7; have c8 := below_cell B3 _ _ x8; have c9 := below_cell B3 _ _ x9; have L3 := HLS.out.below B3; have m0 : w3.cell? ⟨w.heap.size, 0, none⟩ = some (.slice none 0 0) := L3.cell 0; have m1 : w3.cell? ⟨w.heap.size, 1, none⟩ = some (.slice none 0 0) := L3.cell 1; have m2 : w3.cell? ⟨w.heap.size, 2, none⟩ = some (.slice none 0 0) := L3.cell 2; have g0 : w3.frozen? ⟨w.heap.size, 0, none⟩ = false := L3.free 0; have g1 : w3.frozen? ⟨w.heap.size, 1, none⟩ = false := L3.free 1; have g2 : w3.frozen? ⟨w.heap.size, 2, none⟩ = false := L3.free 2))
  obtain ⟨X, hX⟩ : ∃ X, ((w3.setCell ⟨w.heap.size, 0, none⟩ (.slice (some ⟨V.heap.size, 0, none⟩) F F)).setCell ⟨w.heap.size, 1, none⟩ (.slice (some ⟨w1.heap.size, 0, none⟩) N N)).setCell ⟨w.heap.size, 2, none⟩ (.slice (some ⟨w2.heap.size, 0, none⟩) C C) = X := ⟨_, rfl⟩
  have lX : Lies X w.heap.size 72 (stC V.heap.size w1.heap.size w2.heap.size F N C) := by
    rw [← hX]
    exact ((L3.set 0 _).set 1 _).set 2 _
  have kX : Keep (fun k => k = w.heap.size) w3 X := by
    rw [← hX]
    have h1 : Keep (fun k => k = w.heap.size) w3 (w3.setCell ⟨w.heap.size, 0, none⟩ (.slice (some ⟨V.heap.size, 0, none⟩) F F)) := Keep.set _ _ _ rfl
    exact (h1.trans (Keep.set _ _ _ rfl)).trans (Keep.set _ _ _ rfl)
  have s1 : V.heap.size < w1.heap.size := Lies.lt f1
  have s2 : w1.heap.size < w2.heap.size := Lies.lt f2
  have hvs := HVS.out
  have HNS : Hid (NewS X w.heap.size V.heap.size w1.heap.size w2.heap.size F N C st) := by
    have q1 : FlagR w3 V.heap.size st.fl := by
      have := (f1.below b2).below b3
      rwa [List.take_of_length_le (by rw [HM.out.lf]; exact Nat.le_refl _)] at this
    exact ⟨q1.keep kX (by omega), (f2.below b3).keep kX (by omega), f3.keep kX (by omega), HM.out.lf, HM.out.ln, HM.out.lc, by omega, by omega, by omega, by omega⟩
  have HBX : Hid (Below w.heap.size w X) := Keep.below (HBV.out.trans (B3.mono HBV.out.size)) kX (fun i hi e => by omega)
  have HLX := hideT lX
  rw [hX]
  clear hX lX kX c7 c8 c9 m0 m1 m2 g0 g1 g2 f1 f2 f3 b1 b2 b3 B1 B2 B3 L3
  go_wp2_with fail
  have r0 : X.cell? ⟨w.heap.size, 0, none⟩ = some (.slice (some ⟨V.heap.size, 0, none⟩) F F) := HLX.out.cell 0
  have r1 : X.cell? ⟨w.heap.size, 1, none⟩ = some (.slice (some ⟨w1.heap.size, 0, none⟩) N N) := HLX.out.cell 1
  have r2 : X.cell? ⟨w.heap.size, 2, none⟩ = some (.slice (some ⟨w2.heap.size, 0, none⟩) C C) := HLX.out.cell 2
  refine bodyPost_ret (v := .agg (stC V.heap.size w1.heap.size w2.heap.size F N C)) (by simp [results, Try.results59, go_sem, r0, r1, r2]) rfl ⟨_, _, _, rfl, HNS.out, HBX.out⟩
/-- What going on from another state leaves. -/
def GoPost (w : World) (b : Nat) (A : KA) (K : Gp.KP) (S : Nat → Prop) (F N C f : Nat) (r : Int × Gp.St) (e : Ending) (w' : World) : Prop := e = .returned (.int .i64 r.1) ∧ ∃ fb nb cb, MIn w' b A K S fb nb cb F N C r.2 ∧ Keep (fun k => k = b ∨ k = f) w w'
set_option maxHeartbeats 8000000 in
theorem restD {B f n c : Nat} (h : MIn w b A K S fb nb cb F N C st) (hN : NewS w B f n c F N C t) (hf : f ≠ fb) (hS : ¬ S f) : Calls Try.prog 60 #[.pointer (some ⟨b, 0, none⟩), .agg (stC f n c F N C)] w (GoPost w b A K S F N C f (Gp.restS K st t)) := by
  have BV : Below w.heap.size w (w.alloc (.cells (stC f n c F N C) 72)) := (Below.refl _ w).alloc (Nat.le_refl _) _
  have HB := hideT BV
  have HM := hideT (h.below BV)
  have HN := hideT (hN.below BV)
  have HF := hideT hf
  have HS := hideT hS
  clear h hN hf hS BV
  go_enter Try.func60, Try.ntmps60
  go_wp2_with fail
  refine (goOnD _ b A K S _ _ _ HM.out.box HM.out.kept f n c F N C t.fl t.nums HN.out.fl HN.out.lf HN.out.nums HN.out.ln HM.out.ok HM.out.hn HS.out).mono ?_
  rintro e w1 k1
  obtain ⟨r, hr⟩ : ∃ r, Gp.goOn K t.nums 100 t.fl = r := ⟨_, rfl⟩
  rw [hr] at k1
  cases r with
  | none =>
    obtain ⟨rfl, k2, l2⟩ := k1
    have HR : Hid (Gp.restS K st t = (4, st)) := by show _ = _; unfold Gp.restS; rw [hr]
    have q := HM.out.f_ne
    have HM1 := hideT (HM.out.keep k2 (fun e => by
      have := lies_neG HN.out.fl HM.out.box (by decide)
      exact this e.symm) (fun i hi e => HS.out (by rw [← e]; exact hi)) (fun e => HF.out e.symm) (fun e => flag_int_ne HN.out.fl HM.out.nums e.symm) (fun e => flag_int_ne HN.out.fl HM.out.cnts e.symm))
    have HK1 := hideT ((Keep.of_below HB.out).trans (k2.wide (R := fun k => k = b ∨ k = f) (fun _ _ e => .inr e)))
    clear k2 l2 hr
    go_wp2_with fail
    go_ret
    rw [HR.out]
    exact ⟨rfl, _, _, _, HM1.out, HK1.out⟩
  | some g =>
    obtain ⟨rfl, k2, f2, l2⟩ := k1
    have HR : Hid (Gp.restS K st t = (0, ⟨g, t.nums, t.cnts⟩)) := by show _ = _; unfold Gp.restS; rw [hr]
    have hg : g.length = F := by
      have := Gp.goOn_len 100 (fl := t.fl) (by have := HM.out.ok.las; rw [HN.out.lf]; omega) hr
      rw [this]
      exact HN.out.lf
    have fn := flag_int_ne HN.out.fl HN.out.nums
    have fc := flag_int_ne HN.out.fl HN.out.cnts
    have nbx : n ≠ b := lies_neG HN.out.nums HM.out.box (by decide)
    have cbx : c ≠ b := lies_neG HN.out.cnts HM.out.box (by decide)
    have HM1 : Hid (MIn w1 b A K S f n c F N C ⟨g, t.nums, t.cnts⟩) := ⟨l2, HM.out.kept.keep k2 (fun i _ hi e => by
      rcases e with e | e
      · exact HS.out (by rw [← e]; exact hi)
      · exact HM.out.sb (by rw [← e]; exact hi)), f2, HN.out.nums.keep k2 (fun e => by
      rcases e with e | e
      · exact fn e.symm
      · exact nbx e), HN.out.cnts.keep k2 (fun e => by
      rcases e with e | e
      · exact fc e.symm
      · exact cbx e), hg, HN.out.ln, HN.out.lc, HM.out.ok, HM.out.hn, HM.out.hc, HN.out.nc, HM.out.sb, fun i hi => Nat.lt_of_lt_of_le (HM.out.zone i hi) k2.size⟩
    have HK1 := hideT ((Keep.of_below HB.out).trans (k2.wide (R := fun k => k = b ∨ k = f) (fun _ _ e => e.symm)))
    clear k2 l2 hr f2 hg
    go_wp2_with fail
    go_ret
    rw [HR.out]
    exact ⟨rfl, _, _, _, HM1.out, HK1.out⟩
end
end Go.Proofs.Ytkjekohncfhbiaa
/-
  Flags put up from without; whether a flag is up; a number of the file; all flags.
-/
set_option linter.unusedSimpArgs false
set_option linter.unusedVariables false
namespace Go.Proofs.Ytkjekohncfhbiaa
open Go.RowKit
set_option maxRecDepth 100000
namespace Gp
theorem upF_step {l : List Int} {fl : List Bool} {k : Nat} {x : Int} (h : l[k]? = some x) : (l.take (k + 1)).foldl upF fl = upF ((l.take k).foldl upF fl) x := by rw [Mp.take_at h, List.foldl_append]; rfl
def upB (F : Nat) (fl : List Bool) (f : Int) : Bool := decide (0 ≤ f) && decide (f < (F : Int)) && atB fl f
end Gp
section
variable {w w' : World} {b : Nat} {A : KA} {K : Gp.KP} {S : Nat → Prop} {fb nb cb F N C : Nat} {st t : Gp.St}
set_option maxHeartbeats 8000000 in
theorem fromD {B f n c : Nat} (h : MIn w b A K S fb nb cb F N C st) (hN : NewS w B f n c F N C t) (hf : f ≠ fb) (hS : ¬ S f) (fs : List Int) (ao : Option Addr) (m cap : Nat) (hm : m = fs.length) (hrow : Hang (fun k => k ≠ f) (fun w => ZRow w (.slice ao m cap) fs) w) (hin : ∀ x ∈ fs, 0 ≤ x ∧ x < (F : Int)) :
    Calls Try.prog 58 #[.pointer (some ⟨b, 0, none⟩), .agg (stC f n c F N C), .slice ao m cap] w (GoPost w b A K S F N C f (Gp.fromS K st t fs)) := by
  obtain ⟨A1, C1, A3, C3, A4, C4, A5, C5, A6, C6⟩ := A
  obtain ⟨KK, hKK⟩ : ∃ KK : Gp.KP, KK = K := ⟨_, rfl⟩
  obtain ⟨V, hV⟩ : ∃ V, w.alloc (.cells (stC f n c F N C) 72) = V := ⟨_, rfl⟩
  have BV : Below w.heap.size w V := by rw [← hV]; exact (Below.refl _ w).alloc (Nat.le_refl _) _
  have LS : Lies V w.heap.size 72 (stC f n c F N C) := by rw [← hV]; exact Lies.new _ _ _
  have HB := hideT BV
  have HM := hideT (h.below BV)
  have HN := hideT (hN.below BV)
  have HF := hideT hf
  have HS := hideT hS
  have HLS := hideT LS
  have HV := hideT hV
  have HRW := hideT (hrow.below BV)
  have HIN := hideT hin
  have HFV : Hid (f ≠ w.heap.size) := fun e => by
    have h1 := LS
    rw [← e] at h1
    exact lies_neG h1 (hN.fl.below BV) (by decide) rfl
  have hmz : m ≤ 100000000000000 := (zrow_at hrow.here).2.1
  clear h hN hf hS BV LS hV hrow hin
  go_enter Try.func58, Try.ntmps58
  go_wp2_with fail
  rw [HV.out]
  go_wp2_with fail
  go_loopw [11] (fun i wr => ∃ k : Nat, k ≤ m ∧ i = .int .i64 k ∧ Hid (Keep (fun j => j = f) V wr) ∧ Hid (FlagR wr f ((fs.take k).foldl Gp.upF t.fl))) (fun i _ => m - (intOf i).toNat)
  case atStart => exact ⟨0, by omega, rfl, Keep.refl _ _, HN.out.fl⟩
  case round =>
    obtain ⟨k, hk, rfl, HK, HFL⟩ := hrel
    have HL2 := hideT (HLS.out.keep HK.out (fun e => HFV.out e.symm))
    have HLEN : Hid (((fs.take k).foldl Gp.upF t.fl).length = F) := by show _ = _; rw [Gp.upF_len]; exact HN.out.lf
    by_cases hlt : k < m
    · obtain ⟨x, hx⟩ := Mp.at_lt (l := fs) (k := k) (by omega)
      obtain ⟨_, _, _, bs, os, has, hcs⟩ := zrow_at (HRW.out.keep HK.out (fun i _ h e => h e)).here
      have e0 := hcs k _ hx
      obtain rfl := has (by omega)
      clear hcs
      have HX := hideT (Gp.upF_step (fl := t.fl) hx)
      have hxi := HIN.out _ (List.mem_of_getElem? hx)
      obtain ⟨q, hq⟩ : ∃ q : Nat, x = q := ⟨x.toNat, by have := hxi.1; omega⟩
      subst hq
      have t0 : (0 : Int) ≤ (k : Int) := by omega
      have t1 : (k : Int) < (m : Int) := by omega
      have t2 : (0 : Int) ≤ (q : Int) := by omega
      have t3 : (q : Int) < (F : Int) := hxi.2
      have z0 : wr.cell? ⟨w.heap.size, 0, none⟩ = some (.slice (some ⟨f, 0, none⟩) F F) := HL2.out.cell 0
      have hfl := HFL.out
      have c0 : wr.cell? ⟨f, q, none⟩ = some (.bool (Gp.atB ((fs.take k).foldl Gp.upF t.fl) q)) := by
        have := hfl.at (f := (q : Int)) t2 (by rw [HLEN.out]; exact t3)
        rwa [show ((q : Int)).toNat = q by omega] at this
      have f0 : wr.frozen? ⟨f, q, none⟩ = false := Lies.free hfl q
      obtain ⟨X, hX⟩ : ∃ X, wr.setCell ⟨f, q, none⟩ (.bool true) = X := ⟨_, rfl⟩
      have KX : Keep (fun j => j = f) wr X := by
        rw [← hX]
        exact Keep.set _ _ _ rfl
      have FX : FlagR X f ((fs.take (k + 1)).foldl Gp.upF t.fl) := by
        rw [← hX, HX.out]
        have := hfl.set q true
        unfold Gp.upF
        rwa [show ((q : Int)).toNat = q by omega]
      have HKX := hideT (HK.out.trans KX)
      have HFX := hideT FX
      have HXX := hideT hX
      clear hx hxi hfl KX FX hX
      go_wp2_with fail
      rw [HXX.out]
      refine ⟨⟨k + 1, by omega, by go_num, HKX, HFX⟩, ?_⟩
      first | omega | (simp [intOf]; omega)
    · have hE := HFL.out
      rw [List.take_of_length_le (by omega)] at hE HLEN
      have HE := hideT hE
      have q5 := HM.out.f_ne
      have q6 := flag_int_ne HN.out.fl HN.out.nums
      have q7 := flag_int_ne HN.out.fl HN.out.cnts
      have q8 := lies_neG HN.out.fl HM.out.box (by decide)
      have HM1 := hideT (HM.out.keep HK.out (fun e => q8 e.symm) (fun i hi e => HS.out (by rw [← e]; exact hi)) (fun e => HF.out e.symm) (fun e => flag_int_ne HN.out.fl HM.out.nums e.symm) (fun e => flag_int_ne HN.out.fl HM.out.cnts e.symm))
      have HN1 := hideT (HN.out.nums.keep HK.out (fun e => q6 e.symm))
      have HC1 := hideT (HN.out.cnts.keep HK.out (fun e => q7 e.symm))
      have HQ8 := hideT q8
      have z0 : wr.cell? ⟨w.heap.size, 0, none⟩ = some (.slice (some ⟨f, 0, none⟩) F F) := HL2.out.cell 0
      have z1 : wr.cell? ⟨w.heap.size, 1, none⟩ = some (.slice (some ⟨n, 0, none⟩) N N) := HL2.out.cell 1
      have z2 : wr.cell? ⟨w.heap.size, 2, none⟩ = some (.slice (some ⟨c, 0, none⟩) C C) := HL2.out.cell 2
      have x0 : wr.cell? ⟨b, 0, none⟩ = some (.int .i64 K.lasting) := HM1.out.box.cell 0
      have x1 : wr.cell? ⟨b, 1, none⟩ = some (.slice A1 K.over.length C1) := HM1.out.box.cell 1
      have x2 : wr.cell? ⟨b, 2, none⟩ = some (.int .i64 K.frm) := HM1.out.box.cell 2
      have x3 : wr.cell? ⟨b, 3, none⟩ = some (.slice A3 K.files.length C3) := HM1.out.box.cell 3
      have x4 : wr.cell? ⟨b, 4, none⟩ = some (.slice A4 K.strata.length C4) := HM1.out.box.cell 4
      have x5 : wr.cell? ⟨b, 5, none⟩ = some (.slice A5 K.ctrs.length C5) := HM1.out.box.cell 5
      have x6 : wr.cell? ⟨b, 6, none⟩ = some (.slice A6 K.users.length C6) := HM1.out.box.cell 6
      obtain ⟨G, hG⟩ : ∃ G, fs.foldl Gp.upF t.fl = G := ⟨_, rfl⟩
      rw [hG] at HE HLEN
      have HG := hideT hG
      clear hE q5 q6 q7 q8 HFL hG
      go_wp2_with fail
      go_region_held3 (fun w' => w'.cell? ⟨b, 0, none⟩ = some (.int .i64 K.lasting) ∧ w'.cell? ⟨b, 1, none⟩ = some (.slice A1 K.over.length C1) ∧ w'.cell? ⟨b, 2, none⟩ = some (.int .i64 K.frm) ∧ w'.cell? ⟨b, 3, none⟩ = some (.slice A3 K.files.length C3) ∧ w'.cell? ⟨b, 4, none⟩ = some (.slice A4 K.strata.length C4) ∧ w'.cell? ⟨b, 5, none⟩ = some (.slice A5 K.ctrs.length C5) ∧ w'.cell? ⟨b, 6, none⟩ = some (.slice A6 K.users.length C6) ∧ w'.cell? ⟨w.heap.size, 0, none⟩ = some (.slice (some ⟨f, 0, none⟩) F F) ∧ w'.cell? ⟨w.heap.size, 1, none⟩ = some (.slice (some ⟨n, 0, none⟩) N N) ∧ w'.cell? ⟨w.heap.size, 2, none⟩ = some (.slice (some ⟨c, 0, none⟩) C C)) (go_keep) (first
        | (go_at_call 53; (refine (roundD _ ⟨A1, C1, A3, C3, A4, C4, A5, C5, A6, C6⟩ K S ((HM1.out.kept.imp fun w h => h.strata).below (below_drewN (Below.refl _ wr) _)) K.frm f n c F N C G t.nums (HE.out.below (below_drewN (Below.refl _ wr) _)) HLEN.out (HN1.out.below (below_drewN (Below.refl _ wr) _)) HN.out.ln HM.out.ok HM.out.hn HS.out).mono ?_); rintro e w2 ⟨rfl, k2, f2⟩; have M2 := (HM1.out.box.below (below_drewN (Below.refl _ wr) 1)).keep k2 (fun e => HQ8.out e.symm); have Z2 := (HL2.out.below (below_drewN (Below.refl _ wr) 1)).keep k2 (fun e => HFV.out e.symm); have a0 : w2.cell? ⟨b, 0, none⟩ = some (.int .i64 K.lasting) := M2.cell 0; have a1 : w2.cell? ⟨b, 1, none⟩ = some (.slice A1 K.over.length C1) := M2.cell 1; have a2 : w2.cell? ⟨b, 2, none⟩ = some (.int .i64 K.frm) := M2.cell 2; have a3 : w2.cell? ⟨b, 3, none⟩ = some (.slice A3 K.files.length C3) := M2.cell 3; have a4 : w2.cell? ⟨b, 4, none⟩ = some (.slice A4 K.strata.length C4) := M2.cell 4; have a5 : w2.cell? ⟨b, 5, none⟩ = some (.slice A5 K.ctrs.length C5) := M2.cell 5; have a6 : w2.cell? ⟨b, 6, none⟩ = some (.slice A6 K.users.length C6) := M2.cell 6; have g0 : w2.cell? ⟨w.heap.size, 0, none⟩ = some (.slice (some ⟨f, 0, none⟩) F F) := Z2.cell 0; have g1 : w2.cell? ⟨w.heap.size, 1, none⟩ = some (.slice (some ⟨n, 0, none⟩) N N) := Z2.cell 1; have g2 : w2.cell? ⟨w.heap.size, 2, none⟩ = some (.slice (some ⟨c, 0, none⟩) C C) := Z2.cell 2))
      clear x0 x1 x2 x3 x4 x5 x6 z0 z1 z2 a0 a1 a2 a3 a4 a5 a6
      have kk := (Keep.of_below (S := fun j => j = f) (below_drewN (Below.refl _ wr) 1)).trans k2
      have HM2 := hideT (HM1.out.keep kk (fun e => HQ8.out e.symm) (fun i hi e => HS.out (by rw [← e]; exact hi)) (fun e => HF.out e.symm) (fun e => flag_int_ne HN.out.fl HM.out.nums e.symm) (fun e => flag_int_ne HN.out.fl HM.out.cnts e.symm))
      have HLR : Hid ((Gp.roundS K K.frm t.nums G).length = F) := by
        show _ = _
        rw [Gp.roundS_len (by have := HM.out.ok.las; rw [HLEN.out]; omega)]
        exact HLEN.out
      have HNN : Hid (NewS w2 B f n c F N C ⟨Gp.roundS K K.frm t.nums G, t.nums, t.cnts⟩) := ⟨f2, HN1.out.keep kk (fun e => flag_int_ne HN.out.fl HN.out.nums e.symm), HC1.out.keep kk (fun e => flag_int_ne HN.out.fl HN.out.cnts e.symm), HLR.out, HN.out.ln, HN.out.lc, HN.out.nc, HN.out.low⟩
      have HKK2 := hideT ((Keep.of_below HB.out).trans ((HK.out.trans kk).wide (R := fun k => k = b ∨ k = f) (fun _ _ e => .inr e)))
      clear kk k2 f2 M2 Z2
      go_wp2_with fail
      refine (restD HM2.out HNN.out HF.out HS.out).mono ?_
      rintro e w3 ⟨rfl, fb', nb', cb', m3, k3⟩
      have HM3 := hideT m3
      have HK3 := hideT (HKK2.out.trans k3)
      clear m3 k3 g0 g1 g2
      go_wp2_with fail
      go_ret
      have HFS : Gp.fromS K st t fs = Gp.restS K st ⟨Gp.roundS K K.frm t.nums G, t.nums, t.cnts⟩ := by unfold Gp.fromS; rw [HG.out]
      rw [HFS]
      exact ⟨rfl, _, _, _, HM3.out, HK3.out⟩
theorem upD (h : MIn w b A K S fb nb cb F N C st) (f : Int) : Calls Try.prog 20 #[.pointer (some ⟨b, 0, none⟩), .int .i64 f] w (fun e w' => e = .returned (.bool (Gp.upB F st.fl f)) ∧ w' = w) := by
  have x7 : w.cell? ⟨b, 7, none⟩ = some (.slice (some ⟨fb, 0, none⟩) F F) := h.box.cell 7
  by_cases h0 : 0 ≤ f
  · by_cases h1 : f < (F : Int)
    · obtain ⟨q, rfl⟩ : ∃ q : Nat, f = q := ⟨f.toNat, by omega⟩
      have c0 : w.cell? ⟨fb, q, none⟩ = some (.bool (Gp.atB st.fl q)) := by
        have := h.fl.at (f := (q : Int)) h0 (by rw [h.lf]; exact h1)
        rwa [show ((q : Int)).toNat = q by omega] at this
      have HR : Hid (Gp.atB st.fl q = Gp.upB F st.fl q) := by show _ = _; unfold Gp.upB; rw [decide_eq_true h0, decide_eq_true h1]; rfl
      clear h
      go_enter Try.func20, Try.ntmps20
      go_wp2_with fail
      go_ret
      exact ⟨ret_b HR.out, rfl⟩
    · have HR : Hid (false = Gp.upB F st.fl f) := by show _ = _; unfold Gp.upB; rw [decide_eq_false h1]; simp
      have h1' : decide (f < (F : Int)) = false := decide_eq_false h1
      clear h
      go_enter Try.func20, Try.ntmps20
      go_wp2_with fail
      go_ret
      exact ⟨ret_b HR.out, rfl⟩
  · have HR : Hid (false = Gp.upB F st.fl f) := by show _ = _; unfold Gp.upB; rw [decide_eq_false h0]; rfl
    have h0' : decide (0 ≤ f) = false := decide_eq_false h0
    clear h
    go_enter Try.func20, Try.ntmps20
    go_wp2_with fail
    go_ret
    exact ⟨ret_b HR.out, rfl⟩
theorem upNil (f : Int) (w : World) : Calls Try.prog 20 #[.pointer none, .int .i64 f] w (fun e w' => e = .returned (.bool false) ∧ w' = w) := by
  go_enter Try.func20, Try.ntmps20
  go_wp2_with fail
  go_ret
  exact ⟨rfl, rfl⟩
theorem fileNil (s : ByteArray) (w : World) : Calls Try.prog 19 #[.pointer none, .string s] w (fun e w' => e = .returned (.int .i64 0) ∧ w' = w) := by
  go_enter Try.func19, Try.ntmps19
  go_wp2_with fail
  go_ret
  exact ⟨rfl, rfl⟩
theorem flagsNil (w : World) : Calls Try.prog 18 #[.pointer none] w (fun e w' => e = .returned (.slice none 0 0) ∧ w' = w) := by
  go_enter Try.func18, Try.ntmps18
  go_wp2_with fail
  go_ret
  exact ⟨rfl, rfl⟩
theorem flagsD (h : MIn w b A K S fb nb cb F N C st) : Calls Try.prog 18 #[.pointer (some ⟨b, 0, none⟩)] w (fun e w' => e = .returned (sl w.heap.size F) ∧ FlagR w' w.heap.size st.fl ∧ Below w.heap.size w w') := by
  have x7 : w.cell? ⟨b, 7, none⟩ = some (.slice (some ⟨fb, 0, none⟩) F F) := h.box.cell 7
  have HM := hideT h
  clear h
  go_enter Try.func18, Try.ntmps18
  go_wp2_with fail
  refine (copyF w fb F F st.fl HM.out.fl (by rw [HM.out.lf]; exact Nat.le_refl _) (by have := HM.out.ok.few; rw [HM.out.lf]; omega)).mono ?_
  rintro e w1 ⟨rfl, f1, b1⟩
  have HF1 : Hid (FlagR w1 w.heap.size st.fl) := by
    have := f1
    rwa [List.take_of_length_le (by rw [HM.out.lf]; exact Nat.le_refl _)] at this
  have HB1 := hideT b1
  clear f1 b1
  go_wp2_with fail
  go_ret
  exact ⟨rfl, HF1.out, HB1.out⟩
theorem idx_lt (l : List ByteArray) (s : ByteArray) (h : 0 ≤ idxZ l s) : idxZ l s < (l.length : Int) := by
  unfold idxZ at *
  cases hx : Mp.idx l s with
  | none => rw [hx] at h; exact absurd h (by decide)
  | some k =>
    obtain ⟨x, hx1, _⟩ := Mp.find_some_inv (show l.findIdx? (fun t => decide (t = s)) = some k from hx)
    have := (List.getElem?_eq_some_iff.1 hx1).1
    show (k : Int) < _
    omega
theorem fileD11 (h : MIn w b A K S fb nb cb F N C st) (s : ByteArray) : Calls Try.prog 19 #[.pointer (some ⟨b, 0, none⟩), .string s] w (fun e w' => e = .returned (.int .i64 (Gp.fileS K st s)) ∧ w' = w) := by
  have x3 : w.cell? ⟨b, 3, none⟩ = some (.slice A.a3 K.files.length A.c3) := h.box.cell 3
  have x8 : w.cell? ⟨b, 8, none⟩ = some (.slice (some ⟨nb, 0, none⟩) N N) := h.box.cell 8
  have HM := hideT h
  obtain ⟨z, hz⟩ : ∃ z, idxZ K.files s = z := ⟨_, rfl⟩
  have HZ := hideT hz
  by_cases h0 : 0 ≤ z
  · have h1 : z < (N : Int) := by
      have := idx_lt K.files s (by rw [hz]; exact h0)
      rw [hz] at this
      rw [h.hn]
      exact this
    obtain ⟨q, rfl⟩ : ∃ q : Nat, z = q := ⟨z.toNat, by omega⟩
    have c0 : w.cell? ⟨nb, q, none⟩ = some (.int .i64 (Gp.atZ st.nums q)) := by
      have := h.nums.at (f := (q : Int)) h0 (by rw [h.ln]; exact h1)
      rwa [show ((q : Int)).toNat = q by omega] at this
    have HR : Hid (Gp.atZ st.nums q = Gp.fileS K st s) := by show _ = _; unfold Gp.fileS; rw [HZ.out, if_neg (by omega)]
    clear h hz
    go_enter Try.func19, Try.ntmps19
    go_wp2_with fail
    refine (indexS w _ _ _ K.files s HM.out.kept.here.files).mono ?_
    rintro e w1 ⟨rfl, rfl⟩
    rw [HZ.out]
    go_wp2_with fail
    go_ret
    exact ⟨ret_i HR.out, rfl⟩
  · have HR : Hid (0 = Gp.fileS K st s) := by show _ = _; unfold Gp.fileS; rw [HZ.out, if_pos (by omega)]
    have h0' : z < 0 := by omega
    clear h hz
    go_enter Try.func19, Try.ntmps19
    go_wp2_with fail
    refine (indexS w _ _ _ K.files s HM.out.kept.here.files).mono ?_
    rintro e w1 ⟨rfl, rfl⟩
    rw [HZ.out]
    go_wp2_with fail
    go_ret
    exact ⟨ret_i HR.out, rfl⟩
end
end Go.Proofs.Ytkjekohncfhbiaa
