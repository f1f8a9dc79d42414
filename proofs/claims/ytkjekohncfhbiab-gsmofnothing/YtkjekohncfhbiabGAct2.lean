/-
  Flags put up from without; whether a flag is up; a number of the file; all flags.
-/
import Derived.Test.YtkjekohncfhbiabGAct1
set_option linter.unusedSimpArgs false
set_option linter.unusedVariables false
namespace Go.Proofs.Ytkjekohncfhbiab
open Go.RowKit
set_option maxRecDepth 100000
namespace Gp
theorem upF_step {l : List Int} {fl : List Bool} {k : Nat} {x : Int} (h : l[k]? = some x) : (l.take (k + 1)).foldl upF fl = upF ((l.take k).foldl upF fl) x := by rw [Mp.take_at h, List.foldl_append]; rfl
def upB (F : Nat) (fl : List Bool) (f : Int) : Bool := decide (0 ≤ f) && decide (f < (F : Int)) && atB fl f
end Gp
section
variable {w w' : World} {b : Nat} {A : KA} {K : Gp.KP} {S : Nat → Prop} {fb nb cb F N C : Nat} {st t : Gp.St}
set_option maxHeartbeats 8000000 in
theorem fromD {B f n c : Nat} (h : MIn w b A K S fb nb cb F N C st) (hN : NewS w B f n c F N C t) (hf : f ≠ fb) (hS : ¬ S f) (fs : List Int) (ao : Option Addr) (m cap : Nat) (hm : m = fs.length) (hrow : Hang (fun k => k ≠ f) (fun w => ZRow w (.slice ao m cap) fs) w) (hin : ∀ x ∈ fs, 0 ≤ x ∧ x < (F : Int)) :
    Calls Try.prog 35 #[.pointer (some ⟨b, 0, none⟩), .agg (stC f n c F N C), .slice ao m cap] w (GoPost w b A K S F N C f (Gp.fromS K st t fs)) := by
  obtain ⟨A1, C1, A3, C3, A4, C4, A5, C5, A6, C6⟩ := A
  obtain ⟨KK, hKK⟩ : ∃ KK : Gp.KP, KK = K := ⟨_, rfl⟩
  obtain ⟨V, hV⟩ : ∃ V, w.alloc (.cells (stC f n c F N C) 68) = V := ⟨_, rfl⟩
  have BV : Below w.heap.size w V := by rw [← hV]; exact (Below.refl _ w).alloc (Nat.le_refl _) _
  have LS : Lies V w.heap.size 68 (stC f n c F N C) := by rw [← hV]; exact Lies.new _ _ _
  have HB := hideT BV
  have HM := hideT (h.below BV)
  have HN := hideT (hN.below BV)
  have HF := hideT hf
  have HS := hideT hS
  have HLS := hideT LS
  have HV := hideT hV
  have HRW := hideT (hrow.below BV)
  have HIN := hideT hin
  have HFV : Hid (f ≠ w.heap.size) := fun e => by
    have h1 := LS
    rw [← e] at h1
    exact lies_neG h1 (hN.fl.below BV) (by decide) rfl
  have hmz : m ≤ 100000000000000 := (zrow_at hrow.here).2.1
  clear h hN hf hS BV LS hV hrow hin
  go_enter Try.func35, Try.ntmps35
  go_wp2_with fail
  rw [HV.out]
  go_wp2_with fail
  go_loopw [11] (fun i wr => ∃ k : Nat, k ≤ m ∧ i = .int .i64 k ∧ Hid (Keep (fun j => j = f) V wr) ∧ Hid (FlagR wr f ((fs.take k).foldl Gp.upF t.fl))) (fun i _ => m - (intOf i).toNat)
  case atStart => exact ⟨0, by omega, rfl, Keep.refl _ _, HN.out.fl⟩
  case round =>
    obtain ⟨k, hk, rfl, HK, HFL⟩ := hrel
    have HL2 := hideT (HLS.out.keep HK.out (fun e => HFV.out e.symm))
    have HLEN : Hid (((fs.take k).foldl Gp.upF t.fl).length = F) := by show _ = _; rw [Gp.upF_len]; exact HN.out.lf
    by_cases hlt : k < m
    · obtain ⟨x, hx⟩ := Mp.at_lt (l := fs) (k := k) (by omega)
      obtain ⟨_, _, _, bs, os, has, hcs⟩ := zrow_at (HRW.out.keep HK.out (fun i _ h e => h e)).here
      have e0 := hcs k _ hx
      obtain rfl := has (by omega)
      clear hcs
      have HX := hideT (Gp.upF_step (fl := t.fl) hx)
      have hxi := HIN.out _ (List.mem_of_getElem? hx)
      obtain ⟨q, hq⟩ : ∃ q : Nat, x = q := ⟨x.toNat, by have := hxi.1; omega⟩
      subst hq
      have t0 : (0 : Int) ≤ (k : Int) := by omega
      have t1 : (k : Int) < (m : Int) := by omega
      have t2 : (0 : Int) ≤ (q : Int) := by omega
      have t3 : (q : Int) < (F : Int) := hxi.2
      have z0 : wr.cell? ⟨w.heap.size, 0, none⟩ = some (.slice (some ⟨f, 0, none⟩) F F) := HL2.out.cell 0
      have hfl := HFL.out
      have c0 : wr.cell? ⟨f, q, none⟩ = some (.bool (Gp.atB ((fs.take k).foldl Gp.upF t.fl) q)) := by
        have := hfl.at (f := (q : Int)) t2 (by rw [HLEN.out]; exact t3)
        rwa [show ((q : Int)).toNat = q by omega] at this
      have f0 : wr.frozen? ⟨f, q, none⟩ = false := Lies.free hfl q
      obtain ⟨X, hX⟩ : ∃ X, wr.setCell ⟨f, q, none⟩ (.bool true) = X := ⟨_, rfl⟩
      have KX : Keep (fun j => j = f) wr X := by
        rw [← hX]
        exact Keep.set _ _ _ rfl
      have FX : FlagR X f ((fs.take (k + 1)).foldl Gp.upF t.fl) := by
        rw [← hX, HX.out]
        have := hfl.set q true
        unfold Gp.upF
        rwa [show ((q : Int)).toNat = q by omega]
      have HKX := hideT (HK.out.trans KX)
      have HFX := hideT FX
      have HXX := hideT hX
      clear hx hxi hfl KX FX hX
      go_wp2_with fail
      rw [HXX.out]
      refine ⟨⟨k + 1, by omega, by go_num, HKX, HFX⟩, ?_⟩
      first | omega | (simp [intOf]; omega)
    · have hE := HFL.out
      rw [List.take_of_length_le (by omega)] at hE HLEN
      have HE := hideT hE
      have q5 := HM.out.f_ne
      have q6 := flag_int_ne HN.out.fl HN.out.nums
      have q7 := flag_int_ne HN.out.fl HN.out.cnts
      have q8 := lies_neG HN.out.fl HM.out.box (by decide)
      have HM1 := hideT (HM.out.keep HK.out (fun e => q8 e.symm) (fun i hi e => HS.out (by rw [← e]; exact hi)) (fun e => HF.out e.symm) (fun e => flag_int_ne HN.out.fl HM.out.nums e.symm) (fun e => flag_int_ne HN.out.fl HM.out.cnts e.symm))
      have HN1 := hideT (HN.out.nums.keep HK.out (fun e => q6 e.symm))
      have HC1 := hideT (HN.out.cnts.keep HK.out (fun e => q7 e.symm))
      have HQ8 := hideT q8
      have z0 : wr.cell? ⟨w.heap.size, 0, none⟩ = some (.slice (some ⟨f, 0, none⟩) F F) := HL2.out.cell 0
      have z1 : wr.cell? ⟨w.heap.size, 1, none⟩ = some (.slice (some ⟨n, 0, none⟩) N N) := HL2.out.cell 1
      have z2 : wr.cell? ⟨w.heap.size, 2, none⟩ = some (.slice (some ⟨c, 0, none⟩) C C) := HL2.out.cell 2
      have x0 : wr.cell? ⟨b, 0, none⟩ = some (.int .i64 K.lasting) := HM1.out.box.cell 0
      have x1 : wr.cell? ⟨b, 1, none⟩ = some (.slice A1 K.over.length C1) := HM1.out.box.cell 1
      have x2 : wr.cell? ⟨b, 2, none⟩ = some (.int .i64 K.frm) := HM1.out.box.cell 2
      have x3 : wr.cell? ⟨b, 3, none⟩ = some (.slice A3 K.files.length C3) := HM1.out.box.cell 3
      have x4 : wr.cell? ⟨b, 4, none⟩ = some (.slice A4 K.strata.length C4) := HM1.out.box.cell 4
      have x5 : wr.cell? ⟨b, 5, none⟩ = some (.slice A5 K.ctrs.length C5) := HM1.out.box.cell 5
      have x6 : wr.cell? ⟨b, 6, none⟩ = some (.slice A6 K.users.length C6) := HM1.out.box.cell 6
      obtain ⟨G, hG⟩ : ∃ G, fs.foldl Gp.upF t.fl = G := ⟨_, rfl⟩
      rw [hG] at HE HLEN
      have HG := hideT hG
      clear hE q5 q6 q7 q8 HFL hG
      go_wp2_with fail
      go_region_held3 (fun w' => w'.cell? ⟨b, 0, none⟩ = some (.int .i64 K.lasting) ∧ w'.cell? ⟨b, 1, none⟩ = some (.slice A1 K.over.length C1) ∧ w'.cell? ⟨b, 2, none⟩ = some (.int .i64 K.frm) ∧ w'.cell? ⟨b, 3, none⟩ = some (.slice A3 K.files.length C3) ∧ w'.cell? ⟨b, 4, none⟩ = some (.slice A4 K.strata.length C4) ∧ w'.cell? ⟨b, 5, none⟩ = some (.slice A5 K.ctrs.length C5) ∧ w'.cell? ⟨b, 6, none⟩ = some (.slice A6 K.users.length C6) ∧ w'.cell? ⟨w.heap.size, 0, none⟩ = some (.slice (some ⟨f, 0, none⟩) F F) ∧ w'.cell? ⟨w.heap.size, 1, none⟩ = some (.slice (some ⟨n, 0, none⟩) N N) ∧ w'.cell? ⟨w.heap.size, 2, none⟩ = some (.slice (some ⟨c, 0, none⟩) C C)) (go_keep) (first
        | (go_at_call 50; (refine (roundD _ ⟨A1, C1, A3, C3, A4, C4, A5, C5, A6, C6⟩ K S ((HM1.out.kept.imp fun w h => h.strata).below (below_drewN (Below.refl _ wr) _)) K.frm f n c F N C G t.nums (HE.out.below (below_drewN (Below.refl _ wr) _)) HLEN.out (HN1.out.below (below_drewN (Below.refl _ wr) _)) HN.out.ln HM.out.ok HM.out.hn HS.out).mono ?_); rintro e w2 ⟨rfl, k2, f2⟩; have M2 := (HM1.out.box.below (below_drewN (Below.refl _ wr) 1)).keep k2 (fun e => HQ8.out e.symm); have Z2 := (HL2.out.below (below_drewN (Below.refl _ wr) 1)).keep k2 (fun e => HFV.out e.symm); have a0 : w2.cell? ⟨b, 0, none⟩ = some (.int .i64 K.lasting) := M2.cell 0; have a1 : w2.cell? ⟨b, 1, none⟩ = some (.slice A1 K.over.length C1) := M2.cell 1; have a2 : w2.cell? ⟨b, 2, none⟩ = some (.int .i64 K.frm) := M2.cell 2; have a3 : w2.cell? ⟨b, 3, none⟩ = some (.slice A3 K.files.length C3) := M2.cell 3; have a4 : w2.cell? ⟨b, 4, none⟩ = some (.slice A4 K.strata.length C4) := M2.cell 4; have a5 : w2.cell? ⟨b, 5, none⟩ = some (.slice A5 K.ctrs.length C5) := M2.cell 5; have a6 : w2.cell? ⟨b, 6, none⟩ = some (.slice A6 K.users.length C6) := M2.cell 6; have g0 : w2.cell? ⟨w.heap.size, 0, none⟩ = some (.slice (some ⟨f, 0, none⟩) F F) := Z2.cell 0; have g1 : w2.cell? ⟨w.heap.size, 1, none⟩ = some (.slice (some ⟨n, 0, none⟩) N N) := Z2.cell 1; have g2 : w2.cell? ⟨w.heap.size, 2, none⟩ = some (.slice (some ⟨c, 0, none⟩) C C) := Z2.cell 2))
      clear x0 x1 x2 x3 x4 x5 x6 z0 z1 z2 a0 a1 a2 a3 a4 a5 a6
      have kk := (Keep.of_below (S := fun j => j = f) (below_drewN (Below.refl _ wr) 1)).trans k2
      have HM2 := hideT (HM1.out.keep kk (fun e => HQ8.out e.symm) (fun i hi e => HS.out (by rw [← e]; exact hi)) (fun e => HF.out e.symm) (fun e => flag_int_ne HN.out.fl HM.out.nums e.symm) (fun e => flag_int_ne HN.out.fl HM.out.cnts e.symm))
      have HLR : Hid ((Gp.roundS K K.frm t.nums G).length = F) := by
        show _ = _
        rw [Gp.roundS_len (by have := HM.out.ok.las; rw [HLEN.out]; omega)]
        exact HLEN.out
      have HNN : Hid (NewS w2 B f n c F N C ⟨Gp.roundS K K.frm t.nums G, t.nums, t.cnts⟩) := ⟨f2, HN1.out.keep kk (fun e => flag_int_ne HN.out.fl HN.out.nums e.symm), HC1.out.keep kk (fun e => flag_int_ne HN.out.fl HN.out.cnts e.symm), HLR.out, HN.out.ln, HN.out.lc, HN.out.nc, HN.out.low⟩
      have HKK2 := hideT ((Keep.of_below HB.out).trans ((HK.out.trans kk).wide (R := fun k => k = b ∨ k = f) (fun _ _ e => .inr e)))
      clear kk k2 f2 M2 Z2
      go_wp2_with fail
      refine (restD HM2.out HNN.out HF.out HS.out).mono ?_
      rintro e w3 ⟨rfl, fb', nb', cb', m3, k3⟩
      have HM3 := hideT m3
      have HK3 := hideT (HKK2.out.trans k3)
      clear m3 k3 g0 g1 g2
      go_wp2_with fail
      go_ret
      have HFS : Gp.fromS K st t fs = Gp.restS K st ⟨Gp.roundS K K.frm t.nums G, t.nums, t.cnts⟩ := by unfold Gp.fromS; rw [HG.out]
      rw [HFS]
      exact ⟨rfl, _, _, _, HM3.out, HK3.out⟩
theorem upD (h : MIn w b A K S fb nb cb F N C st) (f : Int) : Calls Try.prog 9 #[.pointer (some ⟨b, 0, none⟩), .int .i64 f] w (fun e w' => e = .returned (.bool (Gp.upB F st.fl f)) ∧ w' = w) := by
  have x7 : w.cell? ⟨b, 7, none⟩ = some (.slice (some ⟨fb, 0, none⟩) F F) := h.box.cell 7
  by_cases h0 : 0 ≤ f
  · by_cases h1 : f < (F : Int)
    · obtain ⟨q, rfl⟩ : ∃ q : Nat, f = q := ⟨f.toNat, by omega⟩
      have c0 : w.cell? ⟨fb, q, none⟩ = some (.bool (Gp.atB st.fl q)) := by
        have := h.fl.at (f := (q : Int)) h0 (by rw [h.lf]; exact h1)
        rwa [show ((q : Int)).toNat = q by omega] at this
      have HR : Hid (Gp.atB st.fl q = Gp.upB F st.fl q) := by show _ = _; unfold Gp.upB; rw [decide_eq_true h0, decide_eq_true h1]; rfl
      clear h
      go_enter Try.func9, Try.ntmps9
      go_wp2_with fail
      go_ret
      exact ⟨ret_b HR.out, rfl⟩
    · have HR : Hid (false = Gp.upB F st.fl f) := by show _ = _; unfold Gp.upB; rw [decide_eq_false h1]; simp
      have h1' : decide (f < (F : Int)) = false := decide_eq_false h1
      clear h
      go_enter Try.func9, Try.ntmps9
      go_wp2_with fail
      go_ret
      exact ⟨ret_b HR.out, rfl⟩
  · have HR : Hid (false = Gp.upB F st.fl f) := by show _ = _; unfold Gp.upB; rw [decide_eq_false h0]; rfl
    have h0' : decide (0 ≤ f) = false := decide_eq_false h0
    clear h
    go_enter Try.func9, Try.ntmps9
    go_wp2_with fail
    go_ret
    exact ⟨ret_b HR.out, rfl⟩
theorem upNil (f : Int) (w : World) : Calls Try.prog 9 #[.pointer none, .int .i64 f] w (fun e w' => e = .returned (.bool false) ∧ w' = w) := by
  go_enter Try.func9, Try.ntmps9
  go_wp2_with fail
  go_ret
  exact ⟨rfl, rfl⟩
theorem fileNil (s : ByteArray) (w : World) : Calls Try.prog 10 #[.pointer none, .string s] w (fun e w' => e = .returned (.int .i64 0) ∧ w' = w) := by
  go_enter Try.func10, Try.ntmps10
  go_wp2_with fail
  go_ret
  exact ⟨rfl, rfl⟩
theorem flagsNil (w : World) : Calls Try.prog 11 #[.pointer none] w (fun e w' => e = .returned (.slice none 0 0) ∧ w' = w) := by
  go_enter Try.func11, Try.ntmps11
  go_wp2_with fail
  go_ret
  exact ⟨rfl, rfl⟩
theorem flagsD (h : MIn w b A K S fb nb cb F N C st) : Calls Try.prog 11 #[.pointer (some ⟨b, 0, none⟩)] w (fun e w' => e = .returned (sl w.heap.size F) ∧ FlagR w' w.heap.size st.fl ∧ Below w.heap.size w w') := by
  have x7 : w.cell? ⟨b, 7, none⟩ = some (.slice (some ⟨fb, 0, none⟩) F F) := h.box.cell 7
  have HM := hideT h
  clear h
  go_enter Try.func11, Try.ntmps11
  go_wp2_with fail
  refine (copyF w fb F F st.fl HM.out.fl (by rw [HM.out.lf]; exact Nat.le_refl _) (by have := HM.out.ok.few; rw [HM.out.lf]; omega)).mono ?_
  rintro e w1 ⟨rfl, f1, b1⟩
  have HF1 : Hid (FlagR w1 w.heap.size st.fl) := by
    have := f1
    rwa [List.take_of_length_le (by rw [HM.out.lf]; exact Nat.le_refl _)] at this
  have HB1 := hideT b1
  clear f1 b1
  go_wp2_with fail
  go_ret
  exact ⟨rfl, HF1.out, HB1.out⟩
theorem idx_lt (l : List ByteArray) (s : ByteArray) (h : 0 ≤ idxZ l s) : idxZ l s < (l.length : Int) := by
  unfold idxZ at *
  cases hx : Mp.idx l s with
  | none => rw [hx] at h; exact absurd h (by decide)
  | some k =>
    obtain ⟨x, hx1, _⟩ := Mp.find_some_inv (show l.findIdx? (fun t => decide (t = s)) = some k from hx)
    have := (List.getElem?_eq_some_iff.1 hx1).1
    show (k : Int) < _
    omega
theorem fileD11 (h : MIn w b A K S fb nb cb F N C st) (s : ByteArray) : Calls Try.prog 10 #[.pointer (some ⟨b, 0, none⟩), .string s] w (fun e w' => e = .returned (.int .i64 (Gp.fileS K st s)) ∧ w' = w) := by
  have x3 : w.cell? ⟨b, 3, none⟩ = some (.slice A.a3 K.files.length A.c3) := h.box.cell 3
  have x8 : w.cell? ⟨b, 8, none⟩ = some (.slice (some ⟨nb, 0, none⟩) N N) := h.box.cell 8
  have HM := hideT h
  obtain ⟨z, hz⟩ : ∃ z, idxZ K.files s = z := ⟨_, rfl⟩
  have HZ := hideT hz
  by_cases h0 : 0 ≤ z
  · have h1 : z < (N : Int) := by
      have := idx_lt K.files s (by rw [hz]; exact h0)
      rw [hz] at this
      rw [h.hn]
      exact this
    obtain ⟨q, rfl⟩ : ∃ q : Nat, z = q := ⟨z.toNat, by omega⟩
    have c0 : w.cell? ⟨nb, q, none⟩ = some (.int .i64 (Gp.atZ st.nums q)) := by
      have := h.nums.at (f := (q : Int)) h0 (by rw [h.ln]; exact h1)
      rwa [show ((q : Int)).toNat = q by omega] at this
    have HR : Hid (Gp.atZ st.nums q = Gp.fileS K st s) := by show _ = _; unfold Gp.fileS; rw [HZ.out, if_neg (by omega)]
    clear h hz
    go_enter Try.func10, Try.ntmps10
    go_wp2_with fail
    refine (indexS w _ _ _ K.files s HM.out.kept.here.files).mono ?_
    rintro e w1 ⟨rfl, rfl⟩
    rw [HZ.out]
    go_wp2_with fail
    go_ret
    exact ⟨ret_i HR.out, rfl⟩
  · have HR : Hid (0 = Gp.fileS K st s) := by show _ = _; unfold Gp.fileS; rw [HZ.out, if_pos (by omega)]
    have h0' : z < 0 := by omega
    clear h hz
    go_enter Try.func10, Try.ntmps10
    go_wp2_with fail
    refine (indexS w _ _ _ K.files s HM.out.kept.here.files).mono ?_
    rintro e w1 ⟨rfl, rfl⟩
    rw [HZ.out]
    go_wp2_with fail
    go_ret
    exact ⟨ret_i HR.out, rfl⟩
end
end Go.Proofs.Ytkjekohncfhbiab
