/-
  Rounds, until one that turns no flag that lasts.
-/
import Derived.Test.YtkjekohncfhbiabGRound
set_option linter.unusedSimpArgs false
set_option linter.unusedVariables false
namespace Go.Proofs.Ytkjekohncfhbiab
open Go.RowKit
set_option maxRecDepth 100000
namespace Gp
theorem eq_upto {α : Type} {l m : List α} {k : Nat} {x : α} (h : ∀ (j : Nat) y, j < k → l[j]? = some y → m[j]? = some y) (hx : l[k]? = some x) (hm : m[k]? = some x) : ∀ (j : Nat) y, j < k + 1 → l[j]? = some y → m[j]? = some y := by
  intro j y hj hy
  by_cases e : j < k
  · exact h j y e hy
  · obtain rfl : j = k := by omega
    rw [hx] at hy
    cases hy
    exact hm
theorem eq_all {α : Type} {l m : List α} {k : Nat} (hk : l.length ≤ k) (hlm : l.length ≤ m.length) (h : ∀ (j : Nat) y, j < k → l[j]? = some y → m[j]? = some y) : l = m.take l.length := by
  apply List.ext_getElem?
  intro j
  by_cases hj : j < l.length
  · rw [List.getElem?_take_of_lt hj, List.getElem?_eq_getElem hj]
    exact (h j _ (by omega) (List.getElem?_eq_getElem hj)).symm
  · rw [List.getElem?_eq_none (by omega), List.getElem?_eq_none (by rw [List.length_take]; omega)]
theorem eq_not {α : Type} {l m : List α} {k : Nat} {x y : α} (hx : l[k]? = some x) (hm : m[k]? = some y) (hn : x ≠ y) (n : Nat) (hkn : k < n) : l ≠ m.take n := by
  intro e
  rw [e, List.getElem?_take_of_lt hkn, hm] at hx
  cases hx
  exact hn rfl
theorem goOn_step {K : KP} {nums : List Int} {n : Nat} {fl : List Bool} (h : ¬ (roundS K 1 nums fl).take K.lasting.toNat = fl.take K.lasting.toNat) : goOn K nums (n + 1) fl = goOn K nums n (roundS K 1 nums fl) := by
  show (if _ then _ else _) = _
  rw [if_neg h]
theorem goOn_done {K : KP} {nums : List Int} {n : Nat} {fl : List Bool} (h : (roundS K 1 nums fl).take K.lasting.toNat = fl.take K.lasting.toNat) : goOn K nums (n + 1) fl = some (roundS K 1 nums fl) := by
  show (if _ then _ else _) = _
  rw [if_pos h]
end Gp
set_option maxHeartbeats 1000000 in
theorem equalB (w : World) (a b n c1 c2 : Nat) (l m : List Bool) (hl : FlagR w a l) (hm : FlagR w b m) (hn : l.length = n) (hnm : n ≤ m.length) (hnb : n ≤ 100000) (t : Bool) (ht : Hid (decide (l = m.take n) = t)) :
    Calls Try.prog 51 #[.slice (some ⟨a, 0, none⟩) n c1, .slice (some ⟨b, 0, none⟩) n c2] w (GB t w) := by
  have HL := hideT hl
  have HM := hideT hm
  have HN := hideT hn
  have HNM := hideT hnm
  clear hl hm hn hnm
  go_enter Try.func51, Try.ntmps51
  go_wp2_with fail
  go_loopw [13] (fun i wr => ∃ k : Nat, k ≤ n ∧ i = .int .i64 k ∧ Hid (∀ (j : Nat) y, j < k → l[j]? = some y → m[j]? = some y) ∧ Hid (Below w.heap.size w wr)) (fun i _ => n - (intOf i).toNat)
  case atStart => exact ⟨0, by omega, rfl, (fun j y hj => absurd hj (by omega)), Below.refl _ _⟩
  case round =>
    obtain ⟨k, hk, rfl, HB, HW⟩ := hrel
    by_cases hlt : k < n
    · obtain ⟨x, hx⟩ := Mp.at_lt (l := l) (k := k) (by have := HN.out; omega)
      obtain ⟨y, hy⟩ := Mp.at_lt (l := m) (k := k) (by have := HNM.out; omega)
      have c1 := (HL.out.below HW.out).cell hx
      have c2 := (HM.out.below HW.out).cell hy
      have HX := hideT hx
      have HY := hideT hy
      have t0 : (0 : Int) ≤ (k : Int) := by omega
      have t1 : (k : Int) < (n : Int) := by omega
      clear hx hy
      by_cases hxy : x = y
      · subst hxy
        have HR := hideT (Gp.eq_upto HB.out HX.out HY.out)
        go_wp2_with fail
        go_quiet (fail)
        go_wp2_with fail
        refine ⟨⟨k + 1, by omega, by go_num, HR, below_drewN HW.out _⟩, ?_⟩
        first | omega | (simp [intOf]; omega)
      · have HF : Hid (false = t) := by
          have := ht.out
          rw [decide_eq_false (Gp.eq_not HX.out HY.out hxy n hlt)] at this
          exact this
        have h1 : (x == y) = false := beq_eq_false_iff_ne.2 hxy
        go_wp2_with fail
        go_quiet (fail)
        go_wp2_with fail
        go_ret
        exact ⟨ret_b HF.out, below_drewN HW.out _⟩
    · have HF : Hid (true = t) := by
        have h1 := ht.out
        have h2 := Gp.eq_all (l := l) (m := m) (k := k) (by have := HN.out; omega) (by have := HN.out; have := HNM.out; omega) HB.out
        rw [HN.out] at h2
        rw [decide_eq_true h2] at h1
        exact h1
      go_wp2_with fail
      go_ret
      exact ⟨ret_b HF.out, HW.out⟩
/-- A machine's cells: what is kept, and how all is now. -/
abbrev maC (A : KA) (K : Gp.KP) (v7 v8 v9 : Value) : Array Value := #[.int .i64 K.lasting, .slice A.a1 K.over.length A.c1, .int .i64 K.frm, .slice A.a3 K.files.length A.c3, .slice A.a4 K.strata.length A.c4, .slice A.a5 K.ctrs.length A.c5, .slice A.a6 K.users.length A.c6, v7, v8, v9]
abbrev sl (b n : Nat) : Value := .slice (some ⟨b, 0, none⟩) n n
/-- What goOn leaves. -/
def OnPost (w : World) (b : Nat) (A : KA) (K : Gp.KP) (v7 v8 v9 : Value) (fb nb cb F N C : Nat) (r : Option (List Bool)) (e : Ending) (w' : World) : Prop :=
  match r with
  | some g => e = .returned (.bool true) ∧ Keep (fun k => k = fb ∨ k = b) w w' ∧ FlagR w' fb g ∧ Lies w' b 73 (maC A K (sl fb F) (sl nb N) (sl cb C))
  | none => e = .returned (.bool false) ∧ Keep (fun k => k = fb) w w' ∧ Lies w' b 73 (maC A K v7 v8 v9)
set_option maxHeartbeats 8000000 in
theorem goOnD (w : World) (b : Nat) (A : KA) (K : Gp.KP) (S : Nat → Prop) (v7 v8 v9 : Value) (hb : Lies w b 73 (maC A K v7 v8 v9)) (hs : Hang S (fun w => KeptAt w A K) w) (fb nb cb F N C : Nat) (fl : List Bool) (nums : List Int) (hf : FlagR w fb fl) (hF : fl.length = F) (hn : IntR w nb nums) (hN : nums.length = N) (hok : Gp.KOk K F) (hNf : N = K.files.length) (hSf : ¬ S fb) :
    Calls Try.prog 25 #[.pointer (some ⟨b, 0, none⟩), .agg (stC fb nb cb F N C)] w (OnPost w b A K v7 v8 v9 fb nb cb F N C (Gp.goOn K nums 100 fl)) := by
  obtain ⟨A1, C1, A3, C3, A4, C4, A5, C5, A6, C6⟩ := A
  obtain ⟨las, over, kfrm, files, strata, ctrs, users⟩ := K
  obtain ⟨L, hL⟩ : ∃ L : Nat, las = L := ⟨las.toNat, by have := hok.las.1; dsimp only at this; omega⟩
  subst hL
  obtain ⟨KK, hKK⟩ : ∃ KK : Gp.KP, (⟨(L : Int), over, kfrm, files, strata, ctrs, users⟩ : Gp.KP) = KK := ⟨_, rfl⟩
  have HKL : Hid (KK.lasting.toNat = L) := by show _ = _; rw [← hKK]; show ((L : Int)).toNat = L; omega
  have hlf : L ≤ F := by have := hok.las.2; dsimp only at this; omega
  obtain ⟨V, hV⟩ : ∃ V, w.alloc (.cells (stC fb nb cb F N C) 68) = V := ⟨_, rfl⟩
  have BV : Below w.heap.size w V := by rw [← hV]; exact (Below.refl _ w).alloc (Nat.le_refl _) _
  have LS : Lies V w.heap.size 68 (stC fb nb cb F N C) := by rw [← hV]; exact Lies.new _ _ _
  dsimp only [maC] at hb
  have HLB := hideT (hb.below BV)
  have HLB0 := hideT hb
  have HLS := hideT LS
  have HS := hideT ((hs.imp fun w h => h.strata).below BV)
  have HF := hideT (hf.below BV)
  have HFF := hideT hF
  have HN := hideT (hn.below BV)
  have HNN := hideT hN
  have HOK := hideT hok
  have HNF := hideT hNf
  have HSF := hideT hSf
  have HBV := hideT BV
  have HV := hideT hV
  have HNES : Hid (fb ≠ w.heap.size) := fun e => by
    have h1 := LS
    rw [← e] at h1
    exact lies_neG h1 (hf.below BV) (by decide) rfl
  have HNEB : Hid (fb ≠ b) := fun e => by
    have h1 := hb
    rw [← e] at h1
    exact lies_neG h1 hf (by decide) rfl
  have HBL : Hid (b < w.heap.size) := hb.lt
  have HNB : Hid (fb ≠ nb) := flag_int_ne hf hn
  have HKE := hideT hKK
  have HF8 : Hid (F ≤ 800) := hok.few
  rw [hKK]
  clear hb hs hf hF hn hN hok hNf hSf BV LS hV hKK
  have x0 : V.cell? ⟨b, 0, none⟩ = some (.int .i64 (L : Int)) := HLB.out.cell 0
  have z0 : V.cell? ⟨w.heap.size, 0, none⟩ = some (.slice (some ⟨fb, 0, none⟩) F F) := HLS.out.cell 0
  have t0 : (0 : Int) ≤ (L : Int) := by omega
  have t1 : (L : Int) ≤ (F : Int) := by omega
  go_enter Try.func25, Try.ntmps25
  go_wp2_with fail
  rw [HV.out]
  go_quiet (fail)
  go_wp2_with fail
  clear x0 z0
  go_loopw [15] (fun i wr => ∃ (k : Nat) (fk : List Bool), k ≤ 100 ∧ i = .int .i64 k ∧ Hid (Keep (fun j => j = fb) V wr) ∧ Hid (FlagR wr fb fk) ∧ Hid (fk.length = F) ∧ Hid (Gp.goOn KK nums 100 fl = Gp.goOn KK nums (100 - k) fk)) (fun i _ => 100 - (intOf i).toNat)
  case atStart => exact ⟨0, fl, by omega, rfl, Keep.of_below (below_drewN (Below.refl _ _) _), HF.out.below (below_drewN (Below.refl _ _) _), HFF.out, rfl⟩
  case round =>
    obtain ⟨k, fk, hk, rfl, HK, HFL, HLEN, HGO⟩ := hrel
    have HL1 := hideT (HLB.out.keep HK.out (fun e => HNEB.out e.symm))
    have HL2 := hideT (HLS.out.keep HK.out (fun e => HNES.out e.symm))
    by_cases hlt : k < 100
    rotate_left
    · have HE : Hid (Gp.goOn KK nums 100 fl = none) := by
        show _ = _
        rw [HGO.out, show 100 - k = 0 by omega]
        rfl
      go_wp2_with fail
      go_ret
      rw [HE.out, ← HKE.out]
      exact ⟨rfl, (Keep.of_below HBV.out).trans HK.out, HL1.out⟩
    have t2 : (k : Int) < 100 := by omega
    go_wp2_with fail
    refine (copyF wr fb L F fk HFL.out (by rw [HLEN.out]; exact hlf) (by rw [HLEN.out]; have := HF8.out; omega)).mono ?_
    rintro e w1 ⟨rfl, f1, b1⟩
    have HB1 := hideT b1
    have HFA := hideT f1
    have HFL1 := hideT (HFL.out.below b1)
    have HK1 := hideT (HK.out.trans (Keep.of_below b1))
    have HM1 := hideT (HL1.out.below b1)
    have HN1 := hideT ((HN.out.keep HK1.out (fun e => HNB.out e.symm)))
    have HS1 := hideT (HS.out.keep HK1.out (fun i _ h e => HSF.out (by rw [← e]; exact h)))
    have z0 : w1.cell? ⟨w.heap.size, 0, none⟩ = some (.slice (some ⟨fb, 0, none⟩) F F) := (HL2.out.below b1).cell 0
    have z1 : w1.cell? ⟨w.heap.size, 1, none⟩ = some (.slice (some ⟨nb, 0, none⟩) N N) := (HL2.out.below b1).cell 1
    have z2 : w1.cell? ⟨w.heap.size, 2, none⟩ = some (.slice (some ⟨cb, 0, none⟩) C C) := (HL2.out.below b1).cell 2
    have x0 : w1.cell? ⟨b, 0, none⟩ = some (.int .i64 (L : Int)) := HM1.out.cell 0
    have x1 : w1.cell? ⟨b, 1, none⟩ = some (.slice A1 over.length C1) := HM1.out.cell 1
    have x2 : w1.cell? ⟨b, 2, none⟩ = some (.int .i64 kfrm) := HM1.out.cell 2
    have x3 : w1.cell? ⟨b, 3, none⟩ = some (.slice A3 files.length C3) := HM1.out.cell 3
    have x4 : w1.cell? ⟨b, 4, none⟩ = some (.slice A4 strata.length C4) := HM1.out.cell 4
    have x5 : w1.cell? ⟨b, 5, none⟩ = some (.slice A5 ctrs.length C5) := HM1.out.cell 5
    have x6 : w1.cell? ⟨b, 6, none⟩ = some (.slice A6 users.length C6) := HM1.out.cell 6
    have HAL : Hid (wr.heap.size ≠ fb) := fun e => by
      have := Lies.lt HFL.out
      omega
    have HALT : Hid (∀ d, FlagR (w1.drewN d) fb fk) := fun d => HFL1.out.below (below_drewN (Below.refl _ _) d)
    clear f1 b1
    go_wp2_with fail
    go_region_held3 (fun w' => w'.cell? ⟨b, 0, none⟩ = some (.int .i64 (L : Int)) ∧ w'.cell? ⟨b, 1, none⟩ = some (.slice A1 over.length C1) ∧ w'.cell? ⟨b, 2, none⟩ = some (.int .i64 kfrm) ∧ w'.cell? ⟨b, 3, none⟩ = some (.slice A3 files.length C3) ∧ w'.cell? ⟨b, 4, none⟩ = some (.slice A4 strata.length C4) ∧ w'.cell? ⟨b, 5, none⟩ = some (.slice A5 ctrs.length C5) ∧ w'.cell? ⟨b, 6, none⟩ = some (.slice A6 users.length C6) ∧ w'.cell? ⟨w.heap.size, 0, none⟩ = some (.slice (some ⟨fb, 0, none⟩) F F) ∧ w'.cell? ⟨w.heap.size, 1, none⟩ = some (.slice (some ⟨nb, 0, none⟩) N N) ∧ w'.cell? ⟨w.heap.size, 2, none⟩ = some (.slice (some ⟨cb, 0, none⟩) C C)) (go_keep) (first
      | (go_at_call 50; (refine (roundD _ ⟨A1, C1, A3, C3, A4, C4, A5, C5, A6, C6⟩ ⟨(L : Int), over, kfrm, files, strata, ctrs, users⟩ S (HS1.out.below (below_drewN (Below.refl _ w1) _)) 1 fb nb cb F N C fk nums (HALT.out _) HLEN.out (HN1.out.below (below_drewN (Below.refl _ w1) _)) HNN.out HOK.out HNF.out HSF.out).mono ?_); rintro e w2 ⟨rfl, k2, f2⟩; have M2 := (HM1.out.below (below_drewN (Below.refl _ w1) 1)).keep k2 (fun e => HNEB.out e.symm); have Z2 := ((HL2.out.below HB1.out).below (below_drewN (Below.refl _ w1) 1)).keep k2 (fun e => HNES.out e.symm); have a0 : w2.cell? ⟨b, 0, none⟩ = some (.int .i64 (L : Int)) := M2.cell 0; have a1 : w2.cell? ⟨b, 1, none⟩ = some (.slice A1 over.length C1) := M2.cell 1; have a2 : w2.cell? ⟨b, 2, none⟩ = some (.int .i64 kfrm) := M2.cell 2; have a3 : w2.cell? ⟨b, 3, none⟩ = some (.slice A3 files.length C3) := M2.cell 3; have a4 : w2.cell? ⟨b, 4, none⟩ = some (.slice A4 strata.length C4) := M2.cell 4; have a5 : w2.cell? ⟨b, 5, none⟩ = some (.slice A5 ctrs.length C5) := M2.cell 5; have a6 : w2.cell? ⟨b, 6, none⟩ = some (.slice A6 users.length C6) := M2.cell 6; have g0 : w2.cell? ⟨w.heap.size, 0, none⟩ = some (.slice (some ⟨fb, 0, none⟩) F F) := Z2.cell 0; have g1 : w2.cell? ⟨w.heap.size, 1, none⟩ = some (.slice (some ⟨nb, 0, none⟩) N N) := Z2.cell 1; have g2 : w2.cell? ⟨w.heap.size, 2, none⟩ = some (.slice (some ⟨cb, 0, none⟩) C C) := Z2.cell 2))
    clear x0 x1 x2 x3 x4 x5 x6 z0 z1 z2
    have HM2 := hideT M2
    have HZ2 := hideT Z2
    rw [HKE.out] at f2
    have HK2 := hideT ((HK1.out.trans (Keep.of_below (below_drewN (Below.refl _ w1) 1))).trans k2)
    have HA2 := hideT ((HFA.out.below (below_drewN (Below.refl _ w1) 1)).keep k2 HAL.out)
    have HLE2 : Hid ((Gp.roundS KK 1 nums fk).length = F) := by show _ = _; rw [Gp.roundS_len (by rw [HKL.out, HLEN.out]; exact hlf)]; exact HLEN.out
    have HF2 := hideT f2
    clear M2 Z2 k2 f2 a0 a1 a2 a3 a4 a5 a6 g0 g1 g2
    obtain ⟨tt, htt⟩ : ∃ tt, Hid (decide (fk.take L = (Gp.roundS KK 1 nums fk).take L) = tt) := ⟨_, rfl⟩
    go_wp2_with fail
    refine (equalB w2 wr.heap.size fb L L F _ _ HA2.out HF2.out (by rw [List.length_take, HLEN.out]; omega) (by rw [HLE2.out]; exact hlf) (by have := HF8.out; omega) tt htt).mono ?_
    rintro e w3 ⟨rfl, b3⟩
    have HM3 := hideT (HM2.out.below b3)
    have HZ3 := hideT (HZ2.out.below b3)
    have HF3 := hideT (HF2.out.below b3)
    have HK3 := hideT (HK2.out.trans (Keep.of_below b3))
    clear b3
    cases tt
    · have HR : Hid (Gp.goOn KK nums 100 fl = Gp.goOn KK nums (100 - (k + 1)) (Gp.roundS KK 1 nums fk)) := by
        show _ = _
        rw [HGO.out, show 100 - k = (100 - (k + 1)) + 1 by omega]
        refine Gp.goOn_step ?_
        rw [HKL.out]
        exact fun e => of_decide_eq_false htt.out e.symm
      go_wp2_with fail
      refine ⟨⟨k + 1, Gp.roundS KK 1 nums fk, by omega, by go_num, HK3, HF3, HLE2, HR⟩, ?_⟩
      first | omega | (simp [intOf]; omega)
    · have HR : Hid (Gp.goOn KK nums 100 fl = some (Gp.roundS KK 1 nums fk)) := by
        show _ = _
        rw [HGO.out, show 100 - k = (100 - (k + 1)) + 1 by omega]
        refine Gp.goOn_done ?_
        rw [HKL.out]
        exact (of_decide_eq_true htt.out).symm
      have z0 : w3.cell? ⟨w.heap.size, 0, none⟩ = some (.slice (some ⟨fb, 0, none⟩) F F) := HZ3.out.cell 0
      have z1 : w3.cell? ⟨w.heap.size, 1, none⟩ = some (.slice (some ⟨nb, 0, none⟩) N N) := HZ3.out.cell 1
      have z2 : w3.cell? ⟨w.heap.size, 2, none⟩ = some (.slice (some ⟨cb, 0, none⟩) C C) := HZ3.out.cell 2
      have x7 : w3.cell? ⟨b, 7, none⟩ = some v7 := HM3.out.cell 7
      have x8 : w3.cell? ⟨b, 8, none⟩ = some v8 := HM3.out.cell 8
      have x9 : w3.cell? ⟨b, 9, none⟩ = some v9 := HM3.out.cell 9
      have f7 : w3.frozen? ⟨b, 7, none⟩ = false := HM3.out.free 7
      have f8 : w3.frozen? ⟨b, 8, none⟩ = false := HM3.out.free 8
      have f9 : w3.frozen? ⟨b, 9, none⟩ = false := HM3.out.free 9
      obtain ⟨X, hX⟩ : ∃ X, ((w3.setCell ⟨b, 7, none⟩ (.slice (some ⟨fb, 0, none⟩) F F)).setCell ⟨b, 8, none⟩ (.slice (some ⟨nb, 0, none⟩) N N)).setCell ⟨b, 9, none⟩ (.slice (some ⟨cb, 0, none⟩) C C) = X := ⟨_, rfl⟩
      have LX : Lies X b 73 (maC ⟨A1, C1, A3, C3, A4, C4, A5, C5, A6, C6⟩ KK (sl fb F) (sl nb N) (sl cb C)) := by
        rw [← hX, ← HKE.out]
        exact ((HM3.out.set 7 _).set 8 _).set 9 _
      have KX : Keep (fun k => k = b) w3 X := by
        rw [← hX]
        have h1 : Keep (fun k => k = b) w3 (w3.setCell ⟨b, 7, none⟩ (.slice (some ⟨fb, 0, none⟩) F F)) := Keep.set _ _ _ rfl
        exact (h1.trans (Keep.set _ _ _ rfl)).trans (Keep.set _ _ _ rfl)
      have FX := HF3.out.keep KX HNEB.out
      have HLX := hideT LX
      have HKX := hideT ((((Keep.of_below HBV.out).trans HK3.out).wide (R := fun k => k = fb ∨ k = b) (fun _ _ h => .inl h)).trans (KX.wide (fun _ _ h => .inr h)))
      have HFX := hideT FX
      have HXX := hideT hX
      clear LX KX FX hX
      go_wp2_with fail
      rw [HXX.out]
      go_wp2_with fail
      go_ret
      rw [HR.out]
      exact ⟨rfl, HKX.out, HFX.out, HLX.out⟩
end Go.Proofs.Ytkjekohncfhbiab
