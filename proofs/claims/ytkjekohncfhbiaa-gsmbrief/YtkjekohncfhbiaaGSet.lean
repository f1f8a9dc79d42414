/-
  A stratum sets what its rules say; a round.
-/
import Derived.Test.YtkjekohncfhbiaaGHold
import Derived.Lib.SliceRun
set_option linter.unusedSimpArgs false
set_option linter.unusedVariables false
namespace Go.Proofs.Ytkjekohncfhbiaa
open Go.RowKit
set_option maxRecDepth 100000
/-! ### Clear -/
theorem run_clear_none {P : Program} (w : World) (t e ty : TypeId) (ht : P.underlying t = some (.slice e)) (ao : Option Addr) (c : Nat) : (Builtin.clear_ #[t] ty #[.slice ao 0 c]).run P w = .ok (.tuple #[]) w := by
  cases ao <;> simp [Builtin.clear_, run_underlying ht]
theorem zeroB (w : World) : (zeroValue 4).run Try.prog w = .ok (.bool false) w := by kernel_rfl
theorem run_clear_flags (w : World) (ty : TypeId) (fb L F c : Nat) (fl : List Bool) (h : FlagR w fb fl) (hF : fl.length = F) (hL : L < F) :
    ∃ W, (Builtin.clear_ #[47] ty #[.slice (some ⟨fb, L, none⟩) (F - L) c]).run Try.prog w = .ok (.tuple #[]) W ∧ FlagR W fb (Gp.clearF L fl) ∧ Keep (fun k => k = fb) w W := by
  have hzc : (Builtin.zeroCells (Value.bool false).cells (F - L)).toList = List.replicate (F - L) (.bool false) := by
    rw [show (Value.bool false).cells = #[.bool false] from rfl]
    simp [Builtin.zeroCells]
    apply List.ext_getElem
    · simp
    · intro i h1 h2
      simp [Nat.mod_one]
  have hst := run_storeCells_at Try.prog fb L 4 (List.replicate (F - L) (.bool false)) 0 _ w h (by simp; omega) (by intro v hv'; rw [List.eq_of_mem_replicate hv']; rfl)
  obtain ⟨W, hW⟩ : ∃ W, w.setRow fb (((fl.map Value.bool).toArray.toList.take (L + 0) ++ List.replicate (F - L) (Value.bool false) ++ (fl.map Value.bool).toArray.toList.drop (L + 0 + (List.replicate (F - L) (Value.bool false)).length)).toArray) = W := ⟨_, rfl⟩
  rw [hW] at hst
  refine ⟨W, ?_, ?_, ?_⟩
  · obtain ⟨m, hm⟩ : ∃ m, F - L = m + 1 := ⟨F - L - 1, by omega⟩
    rw [hm] at hzc hst ⊢
    simp [Builtin.clear_, run_underlying Try.underlying47, zeroB, hzc, hst]
  · have he : ((fl.map Value.bool).toArray.toList.take (L + 0) ++ List.replicate (F - L) (Value.bool false) ++ (fl.map Value.bool).toArray.toList.drop (L + 0 + (List.replicate (F - L) (Value.bool false)).length)).toArray = ((Gp.clearF L fl).map Value.bool).toArray := by
      unfold Gp.clearF
      rw [List.drop_eq_nil_of_le (by simp; omega), hF]
      simp
    rw [he] at hW
    rw [← hW]
    exact setRow_heap _ _ _ _ _ _ h
  · rw [← hW]
    exact ⟨rfl, rfl, rfl, by simp [World.setRow], fun k hk hs => setRow_other w fb k _ hs⟩
/-! ### Rows of sets -/
abbrev litE (x : Rp.Lit) : List Value := [.int .i64 x.1, .bool x.2]
theorem litE_one (x : Rp.Lit) : ∀ u ∈ litE x, u.oneCell' = true := fun u hu => by
  simp at hu
  rcases hu with rfl | rfl <;> rfl
theorem row_srcE {α : Type} {z : Nat} {R : World → List Value → α → Prop} {w : World} {ao : Option Addr} {n cap : Nat} {l : List α} {E : α → List Value} (h : RowR z R w (.slice ao n cap) l) (hR : ∀ cs x, R w cs x → cs = E x) (h1 : ∀ x, ∀ u ∈ E x, u.oneCell' = true) : 0 < n → ∃ ad, ao = some ad ∧ ∀ (j : Nat) u, (l.map E).flatten[j]? = some u → w.cell? (ad.add j) = some u := by
  obtain ⟨cl, q1, q2, q3, q4⟩ := rowr_cells h (fun cs x hx => by rw [hR cs x hx]; exact h1 x)
  have he : cl.map celE = l.map E := by
    apply List.ext_getElem?
    intro i
    rw [List.getElem?_map, List.getElem?_map]
    by_cases hi : i < l.length
    · have hc : cl[i]? = some (cl[i]'(by omega)) := List.getElem?_eq_getElem (by omega)
      have hx : l[i]? = some l[i] := List.getElem?_eq_getElem hi
      rw [hc, hx]
      exact congrArg some (hR _ _ (q3 i _ _ hx hc))
    · rw [List.getElem?_eq_none (by omega), List.getElem?_eq_none (by omega)]
      rfl
  rw [he] at q4
  exact q4
theorem lit_src {w : World} {ao : Option Addr} {n cap : Nat} {l : List Rp.Lit} (h : LRow w (.slice ao n cap) l) : 0 < n → ∃ ad, ao = some ad ∧ ∀ (j : Nat) u, (l.map litE).flatten[j]? = some u → w.cell? (ad.add j) = some u := row_srcE h (fun _ _ h => h) litE_one
namespace Gp
theorem setsOf_step {fl : List Bool} {nums : List Int} {rs : List KR} {k : Nat} {r : KR} (h : rs[k]? = some r) : setsOf fl nums (rs.take (k + 1)) = if ruleH fl nums r then setsOf fl nums (rs.take k) ++ r.2.2 else setsOf fl nums (rs.take k) := by
  unfold setsOf
  rw [Mp.take_at h, List.filter_append, List.flatMap_append]
  split
  · rename_i hr
    rw [List.filter_cons_of_pos hr]
    simp
  · rename_i hr
    rw [List.filter_cons_of_neg hr]
    simp
theorem setsOf_len {F N : Nat} {fl : List Bool} {nums : List Int} : ∀ {rs : List KR}, (∀ r ∈ rs, KRIn F N r) → (setsOf fl nums rs).length ≤ rs.length * 3000
  | [], _ => by simp [setsOf]
  | r :: rs, h => by
    have ih := setsOf_len (fl := fl) (nums := nums) (rs := rs) (fun q hq => h q (List.mem_cons_of_mem _ hq))
    have h1 := (h r List.mem_cons_self).2
    unfold setsOf at ih ⊢
    rw [List.filter_cons, List.length_cons, Nat.succ_mul]
    split
    · rw [List.flatMap_cons, List.length_append]
      omega
    · omega
theorem setsOf_in {F N : Nat} {fl : List Bool} {nums : List Int} {rs : List KR} (h : ∀ r ∈ rs, KRIn F N r) : LitsIn F (setsOf fl nums rs) := fun x hx => by
  unfold setsOf at hx
  obtain ⟨r, hr, hx⟩ := List.mem_flatMap.1 hx
  exact (h r (List.mem_filter.1 hr).1).1.2.2 x hx
theorem setsOf_take {fl : List Bool} {nums : List Int} {rs : List KR} {k : Nat} (hk : rs.length ≤ k) : setsOf fl nums (rs.take k) = setsOf fl nums rs := by rw [List.take_of_length_le hk]
theorem putF_step {l : List Rp.Lit} {fl : List Bool} {k : Nat} {x : Rp.Lit} (h : l[k]? = some x) : (l.take (k + 1)).foldl putF fl = putF ((l.take k).foldl putF fl) x := by rw [Mp.take_at h, List.foldl_append]; rfl
end Gp
/-- Two structs boxed one behind the other. -/
theorem boxes2 (w : World) (t1 t2 : TypeId) (C1 C2 : Array Value) : ∃ V, (w.alloc (.cells C1 t1)).alloc (.cells C2 t2) = V ∧ Below w.heap.size w V ∧ Lies V w.heap.size t1 C1 ∧ Lies V (w.heap.size + 1) t2 C2 ∧ V.heap.size = w.heap.size + 2 := by
  refine ⟨_, rfl, ((Below.refl _ w).alloc (Nat.le_refl _) _).alloc (by simp) _, (Lies.new w t1 C1).below ((Below.refl _ _).alloc (Nat.le_refl _) _), ?_, by simp⟩
  have := Lies.new (w.alloc (.cells C1 t1)) t2 C2
  rwa [show (w.alloc (.cells C1 t1)).heap.size = w.heap.size + 1 by simp] at this
set_option maxHeartbeats 4000000 in
theorem setD (w : World) (n : Int) (rs : List Gp.KR) (ar : Option Addr) (cr : Nat) (hr : KRRow w (.slice ar rs.length cr) rs) (fb nb cb F N C : Nat) (fl : List Bool) (nums : List Int) (hf : FlagR w fb fl) (hF : fl.length = F) (hn : IntR w nb nums) (hN : nums.length = N) (hin : ∀ r ∈ rs, Gp.KRIn F N r) (hlen : rs.length ≤ 1500) :
    Calls Try.prog 73 #[.agg #[.int .i64 n, .slice ar rs.length cr], .agg (stC fb nb cb F N C)] w (fun e w' => e = .returned (.tuple #[]) ∧ Keep (fun k => k = fb) w w' ∧ FlagR w' fb (Gp.setS fl nums (n, rs))) := by
  obtain ⟨V, hV, BV, LX, LS, VS⟩ := boxes2 w 108 72 #[.int .i64 n, .slice ar rs.length cr] (stC fb nb cb F N C)
  obtain ⟨_, hl, _, br, o, ha, hc⟩ := krrow_at hr
  have HC := hideT hc
  have HA := hideT ha
  have HF := hideT hf
  have HFF := hideT hF
  have HN := hideT hn
  have HNN := hideT hN
  have HIN := hideT hin
  have HBV := hideT BV
  have HLS := hideT LS
  have HVS := hideT VS
  have HV := hideT hV
  have y1 : V.cell? ⟨w.heap.size, 1, none⟩ = some (.slice ar rs.length cr) := LX.cell 1
  have HY := hideT y1
  clear hc ha hr hf hF hn hN hin BV LX LS VS hV y1
  go_enter Try.func73, Try.ntmps73
  go_wp2_with fail
  rw [HV.out]
  have y1 := HY.out
  go_wp2_with fail
  clear y1
  go_loopw [4, 12] (fun x i wr => ∃ k : Nat, k ≤ rs.length ∧ i = .int .i64 k ∧ Hid (Below V.heap.size V wr) ∧ Hid (OE V.heap.size 57 2 litE wr x (Gp.setsOf fl nums (rs.take k)))) (fun _ i _ => rs.length - (intOf i).toNat)
  case atStart => exact ⟨0, by omega, rfl, Below.refl _ _, OE.nil (Nat.le_refl _)⟩
  case round =>
    obtain ⟨k, hk, rfl, HW, OO⟩ := hrel
    have HWW := hideT (HBV.out.trans (HW.out.mono HBV.out.size))
    obtain ⟨oad, ocap, ho, hfo⟩ := OO.out.form
    clear hfo
    subst ho
    have hsl := Gp.setsOf_len (F := F) (N := N) (fl := fl) (nums := nums) (rs := rs.take k) (fun r hr => HIN.out r (List.take_subset _ _ hr))
    have hkl : (rs.take k).length ≤ 1500 := by rw [List.length_take]; omega
    by_cases hlt : k < rs.length
    · obtain ⟨⟨l1, l2, l3⟩, hx⟩ := Mp.at_lt (l := rs) (k := k) hlt
      obtain ⟨i1, n1, i2, n2, i3, n3, I0⟩ := HC.out k _ hx
      obtain ⟨r1, r2, r3, d0, d1, d2⟩ := I0.turn (below_cell HWW.out)
      dsimp only at r1 r2 r3 d0 d1 d2
      obtain rfl := HA.out (by omega)
      have HX := hideT hx
      have hki := HIN.out _ (List.mem_of_getElem? hx)
      have HKI := hideT hki
      have HST := hideT (Gp.setsOf_step (fl := fl) (nums := nums) hx)
      have BA := hideT ((Below.refl wr.heap.size wr).alloc (Nat.le_refl _) (.cells #[.slice i1 l1.length n1, .slice i2 l2.length n2, .slice i3 l3.length n3] 112))
      have LA := hideT (Lies.new wr 112 #[.slice i1 l1.length n1, .slice i2 l2.length n2, .slice i3 l3.length n3])
      have BW := hideT (HW.out.trans (BA.out.mono HW.out.size))
      have R1 := hideT (lrow_below r1 BA.out)
      have R2 := hideT (kcrow_turn r2 (below_cell BA.out))
      have R3 := hideT (lrow_below r3 BA.out)
      have HF1 := hideT (HF.out.below (HWW.out.trans (BA.out.mono HWW.out.size)))
      have HN1 := hideT (HN.out.below (HWW.out.trans (BA.out.mono HWW.out.size)))
      have O1 := hideT (OO.out.below BA.out)
      have s3 := hki.2
      obtain ⟨bb, HBB⟩ : ∃ z, Hid (Gp.ruleH fl nums (l1, l2, l3) = z) := ⟨_, rfl⟩
      have t0 : (0 : Int) ≤ (k : Int) := by omega
      have t1 : (k : Int) < (rs.length : Int) := by omega
      have z0 : wr.cell? ⟨w.heap.size + 1, 0, none⟩ = some (.slice (some ⟨fb, 0, none⟩) F F) := (HLS.out.below HW.out).cell 0
      have z1 : wr.cell? ⟨w.heap.size + 1, 1, none⟩ = some (.slice (some ⟨nb, 0, none⟩) N N) := (HLS.out.below HW.out).cell 1
      have z2 : wr.cell? ⟨w.heap.size + 1, 2, none⟩ = some (.slice (some ⟨cb, 0, none⟩) C C) := (HLS.out.below HW.out).cell 2
      have hz := cell_lt z0
      clear hx I0 r1 r2 r3 hki
      go_wp2_with fail
      refine (ruleHD _ (l1, l2, l3) i1 i2 i3 n1 n2 n3 R1.out R2.out fb nb cb F N C fl nums HF1.out HFF.out HN1.out HNN.out HKI.out bb HBB).mono ?_
      rintro e w1 ⟨rfl, b1⟩
      have HW1 := hideT (BW.out.trans (b1.mono BW.out.size))
      have LA1 := hideT (LA.out.below b1)
      have O2 := hideT (O1.out.below b1)
      have R3' := hideT (lrow_below R3.out b1)
      clear b1 d0 d1 d2 z0 z1 z2 hz
      cases bb
      · have HK : Hid (Gp.setsOf fl nums (rs.take (k + 1)) = Gp.setsOf fl nums (rs.take k)) := by
          have := HST.out
          rw [HBB.out] at this
          exact this
        go_wp2_with fail
        refine ⟨⟨k + 1, by omega, by go_num, HW1, ?_⟩, ?_⟩
        · show OE _ _ _ _ _ _ _
          rw [HK.out]
          exact O2.out
        · first | omega | (simp [intOf]; omega)
      · have HK : Hid (Gp.setsOf fl nums (rs.take (k + 1)) = Gp.setsOf fl nums (rs.take k) ++ l3) := by
          have := HST.out
          rw [HBB.out] at this
          exact this
        have y2 : w1.cell? ⟨wr.heap.size, 2, none⟩ = some (.slice i3 l3.length n3) := LA1.out.cell 2
        go_wp2_with (first | (at_builtin; (refine wpList_appO (t := 58) (e := 57) (z := 2) (E := litE) Try.underlying58 infoC_S rfl (by omega) (by omega) (fun _ => rfl) litE_one (by rfl) _ _ (by rfl) (v := .slice oad (Gp.setsOf fl nums (rs.take k)).length ocap) (by rfl) (by rfl) O2.out l3 rfl (lit_src R3'.out) (by omega) ?_; intro v' w3 o3 k3)) | fail)
        have B3 : Hid (Below V.heap.size V w3) := Keep.below HW1.out k3.keep (fun i hi e => by have := (O2.out.lt e).2; omega)
        refine ⟨⟨k + 1, by omega, by go_num, B3, ?_⟩, ?_⟩
        · show OE _ _ _ _ _ _ _
          rw [HK.out]
          exact o3
        · first | omega | (simp [intOf]; omega)
    have HT := hideT (Gp.setsOf_take (fl := fl) (nums := nums) (rs := rs) (k := k) (by omega))
    rw [HT.out] at OO hsl ⊢
    obtain ⟨L, hL⟩ : ∃ L, Gp.setsOf fl nums rs = L := ⟨_, rfl⟩
    have HLI : Hid (Gp.LitsIn F L) := by have := Gp.setsOf_in (fl := fl) (nums := nums) HIN.out; rw [hL] at this; exact this
    have HLL : Hid (∀ g, Gp.setS fl nums (g, rs) = L.foldl Gp.putF fl) := fun g => by unfold Gp.setS; rw [hL]
    rw [hL] at OO hsl ⊢
    clear hL HT
    have LR := OO.out.row (R := litR) (S := fun g => V.heap.size ≤ g ∧ g ≠ fb) (l := L) rfl (by omega) (fun _ => rfl) (fun g hg => ⟨(OO.out.lt hg).2, fun e => by
      subst e
      exact absurd hg (own_ne OO.out.own (HF.out.below HWW.out) (by decide))⟩) (fun i x c hx hc => by
      rw [hx] at hc
      cases hc
      exact Hang.pure rfl)
    have HLR := hideT LR
    have HS2 := hideT (HLS.out.below HW.out)
    have HF2 := hideT (HF.out.below HWW.out)
    have HSF : Hid (fb ≠ w.heap.size + 1) := fun e => by
      have h1 := HLS.out
      rw [← e] at h1
      exact lies_neG h1 (HF.out.below HBV.out) (by decide) rfl
    clear LR OO
    go_wp2_with fail
    go_loopw [26] (fun i wi => ∃ k : Nat, k ≤ L.length ∧ i = .int .i64 k ∧ Hid (Keep (fun j => j = fb) wr wi) ∧ Hid (FlagR wi fb ((L.take k).foldl Gp.putF fl))) (fun i _ => L.length - (intOf i).toNat)
    case atStart => exact ⟨0, by omega, rfl, Keep.refl _ _, HF2.out⟩
    case round =>
      obtain ⟨j, hj, rfl, HK, HFL⟩ := hrel
      by_cases hlt2 : j < L.length
      · obtain ⟨⟨x, y⟩, hx⟩ := Mp.at_lt (l := L) (k := j) hlt2
        obtain ⟨_, _, _, bs, os, has, hcs⟩ := lrow_at (HLR.out.keep HK.out (fun i _ h e => h.2 e)).here
        obtain ⟨e0, e1⟩ := hcs j _ hx
        obtain rfl := has (by omega)
        dsimp only at e0 e1
        clear hcs
        have HX := hideT (Gp.putF_step (fl := fl) hx)
        have hxi := HLI.out _ (List.mem_of_getElem? hx)
        obtain ⟨q, hq⟩ : ∃ q : Nat, x = q := ⟨x.toNat, by have := hxi.1; omega⟩
        subst hq
        have t0 : (0 : Int) ≤ (j : Int) := by omega
        have t1 : (j : Int) < (L.length : Int) := by omega
        have t2 : (0 : Int) ≤ (q : Int) := by omega
        have t3 : (q : Int) < (F : Int) := hxi.2
        have z0 : wr.cell? ⟨w.heap.size + 1, 0, none⟩ = some (.slice (some ⟨fb, 0, none⟩) F F) := (HS2.out.keep HK.out (fun e => HSF.out e.symm)).cell 0
        have hz := cell_lt z0
        have hfl := HFL.out
        have hlen2 : ((L.take j).foldl Gp.putF fl).length = F := by rw [Gp.putF_len]; exact HFF.out
        have BA := hideT ((Below.refl wr.heap.size wr).alloc (Nat.le_refl _) (.cells #[.int .i64 (q : Int), .bool y] 54))
        have c0 : wr.cell? ⟨fb, q, none⟩ = some (.bool (Gp.atB ((L.take j).foldl Gp.putF fl) q)) := by
          have := hfl.at (f := (q : Int)) t2 (by rw [hlen2]; exact t3)
          rwa [show ((q : Int)).toNat = q by omega] at this
        have f0 : wr.frozen? ⟨fb, q, none⟩ = false := Lies.free hfl q
        have hfb := cell_lt c0
        obtain ⟨X, hX⟩ : ∃ X, (wr.setCell ⟨fb, q, none⟩ (.bool y)).alloc (.cells #[.int .i64 (q : Int), .bool y] 57) = X := ⟨_, rfl⟩
        have KX : Keep (fun j => j = fb) wr X := by
          rw [← hX]
          have h1 : Keep (fun j => j = fb) wr (wr.setCell ⟨fb, q, none⟩ (.bool y)) := Keep.set _ _ _ rfl
          exact h1.trans (Keep.of_below ((Below.refl _ _).alloc (Nat.le_refl _) _))
        have FX : FlagR X fb ((L.take (j + 1)).foldl Gp.putF fl) := by
          rw [← hX, HX.out]
          have := (hfl.set q y).below ((Below.refl _ _).alloc (Nat.le_refl _) (.cells #[.int .i64 (q : Int), .bool y] 57))
          unfold Gp.putF
          rwa [show ((q : Int), y).1.toNat = q by omega]
        have HKX := hideT (HK.out.trans KX)
        have HFX := hideT FX
        have HXX := hideT hX
        clear hx hxi hfl KX FX hX
        go_wp2_with fail
        rw [HXX.out]
        refine ⟨⟨j + 1, by omega, by go_num, HKX, HFX⟩, ?_⟩
        first | omega | (simp [intOf]; omega)
      · have hE := HFL.out
        rw [List.take_of_length_le (by omega)] at hE
        have HE := hideT hE
        clear hE
        go_wp2_with fail
        go_end0
        refine ⟨rfl, (Keep.of_below HWW.out).trans HK.out, ?_⟩
        rw [HLL.out]
        exact HE.out
end Go.Proofs.Ytkjekohncfhbiaa
