/-
  A round.
-/
import Derived.Test.YtkjekohncfhbiaaGSet
set_option linter.unusedSimpArgs false
set_option linter.unusedVariables false
namespace Go.Proofs.Ytkjekohncfhbiaa
open Go.RowKit
set_option maxRecDepth 100000
/-- What is kept, as a value. -/
abbrev kpC (A : KA) (K : Gp.KP) : Array Value := #[.int .i64 K.lasting, .slice A.a1 K.over.length A.c1, .int .i64 K.frm, .slice A.a3 K.files.length A.c3, .slice A.a4 K.strata.length A.c4, .slice A.a5 K.ctrs.length A.c5, .slice A.a6 K.users.length A.c6]
namespace Gp
theorem strS_step {frm : Int} {nums : List Int} {l : List KS} {fl : List Bool} {k : Nat} {x : KS} (h : l[k]? = some x) : (l.take (k + 1)).foldl (strS frm nums) fl = strS frm nums ((l.take k).foldl (strS frm nums) fl) x := by rw [Mp.take_at h, List.foldl_append]; rfl
end Gp
set_option maxHeartbeats 4000000 in
theorem roundD (w : World) (A : KA) (K : Gp.KP) (S : Nat → Prop) (hs : Hang S (fun w => KSRow w (.slice A.a4 K.strata.length A.c4) K.strata) w) (frm : Int) (fb nb cb F N C : Nat) (fl : List Bool) (nums : List Int) (hf : FlagR w fb fl) (hF : fl.length = F) (hn : IntR w nb nums) (hN : nums.length = N) (hok : Gp.KOk K F) (hNf : N = K.files.length) (hSf : ¬ S fb) :
    Calls Try.prog 53 #[.agg (kpC A K), .agg (stC fb nb cb F N C), .int .i64 frm] w (fun e w' => e = .returned (.tuple #[]) ∧ Keep (fun k => k = fb) w w' ∧ FlagR w' fb (Gp.roundS K frm nums fl)) := by
  obtain ⟨A1, C1, A3, C3, A4, C4, A5, C5, A6, C6⟩ := A
  obtain ⟨las, over, kfrm, files, strata, ctrs, users⟩ := K
  dsimp only [kpC] at hs hok hNf ⊢
  obtain ⟨V, hV, BV, LX, LS, VS⟩ := boxes2 w 69 72 #[.int .i64 las, .slice A1 over.length C1, .int .i64 kfrm, .slice A3 files.length C3, .slice A4 strata.length C4, .slice A5 ctrs.length C5, .slice A6 users.length C6] (stC fb nb cb F N C)
  have HS := hideT (hs.below BV)
  have HF := hideT (hf.below BV)
  have HFF := hideT hF
  have HN := hideT (hn.below BV)
  have HNN := hideT hN
  have HOK := hideT hok
  have HNF := hideT hNf
  have HSF := hideT hSf
  have HBV := hideT BV
  have HLX := hideT LX
  have HLS := hideT LS
  have HVS := hideT VS
  have HV := hideT hV
  have HNE1 : Hid (fb ≠ w.heap.size + 1) := fun e => by
    have h1 := LS
    rw [← e] at h1
    exact lies_neG h1 (hf.below BV) (by decide) rfl
  have HNE0 : Hid (fb ≠ w.heap.size) := fun e => by
    have h1 := LX
    rw [← e] at h1
    exact lies_neG h1 (hf.below BV) (by decide) rfl
  have HNB : Hid (fb ≠ nb) := flag_int_ne hf hn
  have HLA := hideT hok.las
  clear hs hf hF hn hN hok hNf hSf BV LX LS VS hV
  go_enter Try.func53, Try.ntmps53
  go_wp2_with fail
  rw [HV.out]
  have y4 : V.cell? ⟨w.heap.size, 4, none⟩ = some (.slice A4 strata.length C4) := HLX.out.cell 4
  go_wp2_with fail
  clear y4
  go_loopw [11] (fun i wr => ∃ k : Nat, k ≤ strata.length ∧ i = .int .i64 k ∧ Hid (Keep (fun j => j = fb) V wr) ∧ Hid (FlagR wr fb ((strata.take k).foldl (Gp.strS frm nums) fl))) (fun i _ => strata.length - (intOf i).toNat)
  case atStart => exact ⟨0, by omega, rfl, Keep.refl _ _, HF.out⟩
  case round =>
    obtain ⟨k, hk, rfl, HK, HFL⟩ := hrel
    have HLEN : Hid (((strata.take k).foldl (Gp.strS frm nums) fl).length = F) := by show _ = _; rw [Gp.strS_len]; exact HFF.out
    have HL1 := hideT (HLX.out.keep HK.out (fun e => HNE0.out e.symm))
    have HL2 := hideT (HLS.out.keep HK.out (fun e => HNE1.out e.symm))
    by_cases hlt : k < strata.length
    · obtain ⟨⟨n, rs⟩, hx⟩ := Mp.at_lt (l := strata) (k := k) hlt
      have HS1 := hideT (HS.out.keep HK.out (fun i _ h e => HSF.out (by rw [← e]; exact h)))
      obtain ⟨_, _, _, bs, os, has, hcs⟩ := ksrow_at HS1.out.here
      obtain ⟨a1, c1, hr, e0, e1⟩ := hcs k _ hx
      obtain rfl := has (by omega)
      dsimp only at hr e0 e1
      clear hcs
      have HST := hideT (Gp.strS_step (frm := frm) (nums := nums) (fl := fl) hx)
      have HIN : Hid (∀ r ∈ rs, Gp.KRIn F N r) := by
        have := HOK.out.strata _ (List.mem_of_getElem? hx)
        rw [← HNF.out] at this
        exact this
      have HR15 : Hid (rs.length ≤ 1500) := HOK.out.long.2.2.2.2 _ (List.mem_of_getElem? hx)
      have t0 : (0 : Int) ≤ (k : Int) := by omega
      have t1 : (k : Int) < (strata.length : Int) := by omega
      have BA := hideT ((Below.refl wr.heap.size wr).alloc (Nat.le_refl _) (.cells #[.int .i64 n, .slice a1 rs.length c1] 108))
      have HR := hideT (krrow_turn hr (below_cell BA.out))
      have z0 : wr.cell? ⟨w.heap.size + 1, 0, none⟩ = some (.slice (some ⟨fb, 0, none⟩) F F) := HL2.out.cell 0
      have z1 : wr.cell? ⟨w.heap.size + 1, 1, none⟩ = some (.slice (some ⟨nb, 0, none⟩) N N) := HL2.out.cell 1
      have z2 : wr.cell? ⟨w.heap.size + 1, 2, none⟩ = some (.slice (some ⟨cb, 0, none⟩) C C) := HL2.out.cell 2
      have hz := cell_lt z0
      have HF1 := hideT (HFL.out.below BA.out)
      have HN1 := hideT ((HN.out.keep HK.out (fun e => HNB.out e.symm)).below BA.out)
      clear hx hr
      by_cases hge : frm ≤ n
      · have HE : Hid ((strata.take (k + 1)).foldl (Gp.strS frm nums) fl = Gp.setS ((strata.take k).foldl (Gp.strS frm nums) fl) nums (n, rs)) := by
          have := HST.out
          unfold Gp.strS at this
          rw [if_pos (show frm ≤ (n, rs).1 from hge)] at this
          exact this
        have hge' : n ≥ frm := hge
        go_wp2_with fail
        refine (setD _ n rs a1 c1 HR.out fb nb cb F N C _ nums HF1.out HLEN.out HN1.out HNN.out HIN.out HR15.out).mono ?_
        rintro e w1 ⟨rfl, k1, f1⟩
        have HK1 := hideT ((HK.out.trans (Keep.of_below BA.out)).trans k1)
        have HFE : Hid (FlagR w1 fb ((strata.take (k + 1)).foldl (Gp.strS frm nums) fl)) := by
          show FlagR _ _ _
          rw [HE.out]
          exact f1
        clear k1 f1 z0 z1 z2 hz e0 e1
        go_wp2_with fail
        refine ⟨⟨k + 1, by omega, by go_num, HK1, HFE⟩, ?_⟩
        first | omega | (simp [intOf]; omega)
      · have HE : Hid ((strata.take (k + 1)).foldl (Gp.strS frm nums) fl = (strata.take k).foldl (Gp.strS frm nums) fl) := by
          have := HST.out
          unfold Gp.strS at this
          rw [if_neg (show ¬ frm ≤ (n, rs).1 from hge)] at this
          exact this
        have hge' : n < frm := by omega
        have HK1 := hideT (HK.out.trans (Keep.of_below BA.out))
        have HFE : Hid (FlagR (wr.alloc (.cells #[.int .i64 n, .slice a1 rs.length c1] 108)) fb ((strata.take (k + 1)).foldl (Gp.strS frm nums) fl)) := by
          show FlagR _ _ _
          rw [HE.out]
          exact HF1.out
        clear z0 z1 z2 hz
        go_wp2_with fail
        refine ⟨⟨k + 1, by omega, by go_num, HK1, HFE⟩, ?_⟩
        first | omega | (simp [intOf]; omega)
    · have hE := HFL.out
      rw [List.take_of_length_le (by omega)] at hE
      obtain ⟨fl2, hfl2⟩ : ∃ fl2, strata.foldl (Gp.strS frm nums) fl = fl2 := ⟨_, rfl⟩
      rw [hfl2] at hE
      have HFI : Hid (Gp.roundS ⟨las, over, kfrm, files, strata, ctrs, users⟩ frm nums fl = Gp.clearF las.toNat fl2) := by
        show _ = _
        unfold Gp.roundS
        rw [hfl2]
      have HL2' : Hid (fl2.length = F) := by
        show _ = _
        rw [← hfl2, Gp.strS_len]
        exact HFF.out
      obtain ⟨L, hL⟩ : ∃ L : Nat, las = L := ⟨las.toNat, by have := HLA.out.1; omega⟩
      subst hL
      have hlf : L ≤ F := by have := HLA.out.2; omega
      have HE := hideT hE
      have y0 : wr.cell? ⟨w.heap.size, 0, none⟩ = some (.int .i64 (L : Int)) := HL1.out.cell 0
      have z0 : wr.cell? ⟨w.heap.size + 1, 0, none⟩ = some (.slice (some ⟨fb, 0, none⟩) F F) := HL2.out.cell 0
      have t0 : (0 : Int) ≤ (L : Int) := by omega
      have t1 : (L : Int) ≤ (F : Int) := by omega
      clear hE hfl2 HFL HLEN
      rcases Nat.lt_or_ge L F with hlt2 | hge2
      · obtain ⟨W, hcl, hfw, hkw⟩ := run_clear_flags wr 0 fb L F (F - L) fl2 HE.out HL2'.out hlt2
        have HCL : Hid (∀ ty, (Builtin.clear_ #[47] ty #[.slice (some ⟨fb, L, none⟩) (F - L) (F - L)]).run Try.prog wr = .ok (.tuple #[]) W) := fun ty => hcl
        have HFW := hideT hfw
        have HKW := hideT hkw
        have hcl := HCL.out
        have q1 : ¬ F = L := by omega
        have q2 : ¬ F - L = 0 := by omega
        clear hfw hkw
        go_wp2_with fail
        go_end0
        refine ⟨rfl, (Keep.of_below HBV.out).trans (HK.out.trans HKW.out), ?_⟩
        rw [HFI.out]
        exact HFW.out
      · obtain rfl : L = F := by omega
        have HCE : Hid (Gp.clearF ((L : Int)).toNat fl2 = fl2) := by
          show _ = _
          unfold Gp.clearF
          rw [List.take_of_length_le (by rw [HL2'.out]; omega), show fl2.length - ((L : Int)).toNat = 0 by rw [HL2'.out]; omega]
          simp
        have hcl : ∀ ty ao c, (Builtin.clear_ #[47] ty #[.slice ao 0 c]).run Try.prog wr = .ok (.tuple #[]) wr := fun ty ao c => run_clear_none wr _ _ ty Try.underlying47 ao c
        have q2 : L - L = 0 := by omega
        go_wp2_with fail
        go_end0
        refine ⟨rfl, (Keep.of_below HBV.out).trans HK.out, ?_⟩
        rw [HFI.out, HCE.out]
        exact HE.out
end Go.Proofs.Ytkjekohncfhbiaa
