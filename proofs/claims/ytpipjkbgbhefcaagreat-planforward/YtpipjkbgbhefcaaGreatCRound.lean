/-
  A round; rounds, until one in which nothing is done.
-/
import Derived.Test.YtpipjkbgbhefcaaGreatCHappen
import Derived.Test.YtpipjkbgbhefcaaGreatCJudge
import Derived.Test.YtpipjkbgbhefcaaGreatCDue
set_option linter.unusedSimpArgs false
set_option linter.unusedVariables false
namespace Go.Proofs.YtpipjkbgbhefcaaGreat
open Go.RowKit
open Qp
set_option maxRecDepth 100000
/-- A case as it lies, and all that stays so. -/
structure CAll (w : World) (H : Nat) (K : Kc) (m : Mp.Model) (v : Value) (L : List Thing) (N : Nat) (st : Cp.St) (p : Nat → Prop) : Prop where
  c : CIn w H K m v L N st
  good : Cp.Good m st
  few : N ≤ Cp.sumS st.s
  tq : Cp.TQ m st p L
  clock : 0 ≤ st.now ∧ st.now ≤ 1000000000000
  ok : OkM m
def pnd (d : List Int) (j : Nat) : Prop := Cp.at0 d j ≠ 0
def noP (j : Nat) : Prop := False
/-- What a round, or many, leave. -/
structure RTo (w w' : World) (H : Nat) (K : Kc) (m : Mp.Model) (v v' : Value) (L' : List Thing) (N' : Nat) (st' : Cp.St) (S : Nat → Prop) : Prop where
  a : CAll w' H K m v' L' N' st' noP
  keep : Keep S w w'
  grew : Grew w v v'
section
variable {w w' : World} {H : Nat} {K : Kc} {m : Mp.Model} {v : Value} {L : List Thing} {N : Nat} {st : Cp.St}
theorem IR.keepc {w1 w2 : World} {b : Nat} {l : List Int} (h : IR w1 b l) {v1 : Value} {K : Kc} (k : Keep (CS K v1) w1 w2) (hb : ¬ CS K v1 b) : IR w2 b l := Lies.keep h k hb
def RoundPost (w : World) (H : Nat) (K : Kc) (m : Mp.Model) (v : Value) (st : Cp.St) (d : List Int) (db : Nat) (e : Ending) (w' : World) : Prop :=
  e = .returned (.bool (Cp.someR m st d)) ∧ ∃ v' L' N', RTo w w' H K m v v' L' N' (Cp.roundS m st d) (fun k => CS K v k ∨ k = db)
set_option maxHeartbeats 8000000 in
theorem roundD (d : List Int) (h : CAll w H K m v L N st (pnd d)) (db : Nat) (hd : IR w db d) (hf : Cp.Fits m st d) (hnc : NotC K v db) (hH : H ≤ w.heap.size) :
    Calls Tryz.prog 53 #[cP K, sliceN db m.items.length] w (RoundPost w H K m v st d db) := by
  have HA := hideT h
  have HF := hideT hf
  have HNC := hideT hnc
  have hFS := Cp.fits_shutA hf
  have HFS := hideT hFS
  have HS := hideT (shutD h.c h.ok db d hd hf.len hnc)
  have HHH := hideT hH
  have h16 := items16 h.ok.1
  obtain ⟨n, hn⟩ : ∃ n, m.items.length = n := ⟨_, rfl⟩
  have HN := hideT hn
  rw [hn] at h16 HS
  rw [hn]
  clear hn h hd hf hnc hH hFS
  go_enter Tryz.func53, Tryz.ntmps53
  go_wp2_with fail
  refine HS.out.mono ?_
  rintro e w1 ⟨rfl, ir, k1⟩
  have HK1 := hideT k1
  have HI1 := hideT ir
  have HC1 := hideT (HA.out.c.other HNC.out k1)
  obtain ⟨D, hD⟩ : ∃ D, Cp.shut m st d = D := ⟨_, rfl⟩
  have HD := hideT hD
  rw [hD] at HI1 HFS
  have HT1 : Hid (Cp.TQ m st (pnd D) L) := HA.out.tq.weak (fun j h1 h2 h3 => by
    rw [← HD.out]
    exact Cp.shut_keep HF.out.len h2 h3 _ (Nat.le_refl _))
  clear k1 ir hD
  go_wp2_with fail
  go_loopw [5, 13] (fun s i wr => ∃ (k : Nat) (vk : Value) (Lk : List Thing) (Nk : Nat), k ≤ n ∧ i = .int .i64 k ∧ s = .bool (Cp.someN D k) ∧ Hid (CTo w1 wr H K m v vk Lk Nk (Cp.hapN m D st k)) ∧ Hid (Nk ≤ Cp.sumS (Cp.hapN m D st k).s) ∧ Hid (Cp.TQ m (Cp.hapN m D st k) (fun j => pnd D j ∧ k ≤ j) Lk)) (fun _ i _ => n - (intOf i).toNat)
  case atStart => exact ⟨0, v, L, N, by omega, rfl, rfl, CTo.refl HC1.out, HA.out.few, HT1.out.weak (fun j _ _ h => ⟨h, Nat.zero_le _⟩)⟩
  case round =>
    obtain ⟨k, vk, Lk, Nk, hk, rfl, rfl, HW, HNk, HTk⟩ := hrel
    have HIR : Hid (IR wr db D) := HI1.out.keepc HW.out.keep HNC.out.1
    by_cases hlt : k < n
    rotate_left
    · have hkn : k = m.items.length := by have := HN.out; omega
      have HE : Hid (CTo w1 wr H K m v vk Lk Nk (Cp.doneR m st d)) := by
        have := HW.out
        rw [hkn] at this
        show CTo _ _ _ _ _ _ _ _ _ (Cp.hapN m (Cp.shut m st d) st m.items.length)
        rw [HD.out]
        exact this
      have HSM : Hid (Cp.someN D k = Cp.someR m st d) := by
        show _ = Cp.someN (Cp.shut m st d) m.items.length
        rw [HD.out, hkn]
      have HTE : Hid (Cp.TQ m (Cp.doneR m st d) noP Lk) := by
        have := HTk.out
        rw [hkn] at this
        show Cp.TQ m (Cp.hapN m (Cp.shut m st d) st m.items.length) _ _
        rw [HD.out]
        exact this.weak (fun j h1 _ h3 => absurd h3.2 (by omega))
      have HNE : Hid (Nk ≤ Cp.sumS (Cp.doneR m st d).s) := by
        have := HNk.out
        rw [hkn] at this
        show _ ≤ Cp.sumS (Cp.hapN m (Cp.shut m st d) st m.items.length).s
        rw [HD.out]
        exact this
      clear HW HNk HTk hkn
      cases hs : Cp.someN D k with
      | true =>
        have HG := hideT (Cp.good_round HA.out.good HF.out)
        have HSR : Hid (Cp.someR m st d = true) := HSM.out.symm.trans hs
        have c7 : wr.cell? ⟨K.cb, 7, none⟩ = some (.int .i64 (Cp.doneR m st d).rounds) := HE.out.c.c7
        have f7 : wr.frozen? ⟨K.cb, 7, none⟩ = false := HE.out.c.box.free 7
        have hr : (Cp.doneR m st d).rounds = st.rounds := (Cp.hap_rest m _ st _).2.2
        rw [hr] at c7
        have hrb : 0 ≤ st.rounds ∧ st.rounds ≤ 64 := by
          have h1 := HA.out.good.r0
          have h2 := HA.out.good.few
          have h3 := Cp.good_sum HA.out.good
          have := HN.out
          omega
        have HRS : Hid (Cp.roundS m st d = { Cp.doneR m st d with rounds := st.rounds + 1 }) := by show _ = _; unfold Cp.roundS; rw [if_pos HSR.out]
        obtain ⟨X, hX⟩ : ∃ X, wr.setCell ⟨K.cb, 7, none⟩ (.int .i64 (st.rounds + 1)) = X := ⟨_, rfl⟩
        have hp := HE.out.c.putBox 7 (st.rounds + 1) { Cp.doneR m st d with rounds := st.rounds + 1 } rfl rfl rfl rfl
        rw [hX] at hp
        have HP := hideT hp
        clear hp hr
        have hwrap : IntKind.i64.wrap (st.rounds + 1) = st.rounds + 1 := by rw [IntKind.wrap_i64]; omega
        have HKX : Hid (Keep (fun k => CS K v k ∨ k = db) w X) := by
          refine (HK1.out.wide (fun i _ e => .inr e)).on (HE.out.keep.wide (fun i _ e => .inl e)) (fun i _ e => e) |>.on (HP.out.2) (fun i hi e => ?_)
          exact .inl (cs_grew HE.out.grew i (Nat.lt_of_lt_of_le hi HK1.out.size) e)
        have HAX : Hid (CAll X H K m vk Lk Nk (Cp.roundS m st d) noP) := by
          have hc := HP.out.1
          have hg := HG.out.1
          rw [HRS.out] at hg
          show CAll _ _ _ _ _ _ _ _ _
          rw [HRS.out]
          refine ⟨hc, hg, HNE.out, ⟨HTE.out.nd, HTE.out.mem, HTE.out.all⟩, ?_, HA.out.ok⟩
          show 0 ≤ (Cp.doneR m st d).now ∧ (Cp.doneR m st d).now ≤ _
          rw [show (Cp.doneR m st d).now = st.now from (Cp.hap_rest m _ st _).2.1]
          exact HA.out.clock
        have HGX : Hid (Grew w v vk) := HE.out.grew.mono' HK1.out.size
        clear hs
        go_wp2_with fail
        go_ret
        exact ⟨ret_b HSR.out.symm, vk, Lk, Nk, HAX.out, HKX.out, HGX.out⟩
      | false =>
        have HSR : Hid (Cp.someR m st d = false) := HSM.out.symm.trans hs
        have HRS : Hid (Cp.roundS m st d = Cp.doneR m st d) := by show _ = _; unfold Cp.roundS; rw [if_neg (by rw [HSR.out]; decide)]
        have HG := hideT (Cp.good_round HA.out.good HF.out)
        have HKX : Hid (Keep (fun k => CS K v k ∨ k = db) w wr) :=
          (HK1.out.wide (fun i _ e => .inr e)).on (HE.out.keep.wide (fun i _ e => .inl e)) (fun i _ e => e)
        have HAX : Hid (CAll wr H K m vk Lk Nk (Cp.roundS m st d) noP) := by
          have hg := HG.out.1
          rw [HRS.out] at hg
          show CAll _ _ _ _ _ _ _ _ _
          rw [HRS.out]
          refine ⟨HE.out.c, hg, HNE.out, HTE.out, ?_, HA.out.ok⟩
          rw [show (Cp.doneR m st d).now = st.now from (Cp.hap_rest m _ st _).2.1]
          exact HA.out.clock
        have HGX : Hid (Grew w v vk) := HE.out.grew.mono' HK1.out.size
        clear hs
        go_wp2_with fail
        go_ret
        exact ⟨ret_b HSR.out.symm, vk, Lk, Nk, HAX.out, HKX.out, HGX.out⟩
    have hkm : k < m.items.length := by have := HN.out; omega
    have dk : wr.cell? ⟨db, k, none⟩ = some (.int .i64 (Cp.at0 D k)) := HIR.out.cell (by rw [HFS.out.len]; exact hkm)
    have t1 : (0 : Int) ≤ (k : Int) := by omega
    have t2 : (k : Int) < (n : Int) := by omega
    obtain ⟨x, hx⟩ : ∃ x, Cp.at0 D k = x := ⟨_, rfl⟩
    have HX := hideT hx
    have hsn := Cp.someN_succ (d := D) (k := k) (by rw [HFS.out.len]; exact hkm)
    rw [hx] at dk hsn
    have HKM := hideT hkm
    by_cases h0 : x = 0
    · subst h0
      have HS2 : Hid (Cp.someN D (k + 1) = Cp.someN D k) := by show _ = _; rw [hsn]; simp
      have HH2 := hideT (Cp.hap_no (m := m) (st := st) hx)
      have HR : Hid (CTo w1 wr H K m v vk Lk Nk (Cp.hapN m D st (k + 1)) ∧ Nk ≤ Cp.sumS (Cp.hapN m D st (k + 1)).s ∧ Cp.TQ m (Cp.hapN m D st (k + 1)) (fun j => pnd D j ∧ k + 1 ≤ j) Lk) := by
        show _ ∧ _
        rw [HH2.out]
        refine ⟨HW.out, HNk.out, HTk.out.weak (fun j _ _ h => ⟨h.1, ?_⟩)⟩
        have h1 := h.2
        have h2 : j ≠ k := fun e => by subst e; exact h.1 HX.out
        omega
      clear hx hsn hkm
      go_wp2_with fail
      refine ⟨⟨k + 1, vk, Lk, Nk, by omega, by go_num, by rw [HS2.out], HR.out.1, HR.out.2.1, HR.out.2.2⟩, ?_⟩
      first | omega | (simp [intOf]; omega)
    · have e0 : (x != (0 : Int)) = true := bne_iff_ne.2 h0
      have HS2 : Hid (Cp.someN D (k + 1) = true) := by show _ = _; rw [hsn, decide_eq_false h0]; simp
      have HH2 := hideT (Cp.hap_yes (m := m) (st := st) (d := D) (k := k) (by rw [hx]; exact h0))
      have HFT := hideT (Cp.fit_hap HA.out.good HFS.out hkm)
      have HNZ : Hid (Cp.at0 D k ≠ 0) := by show _ ≠ _; rw [hx]; exact h0
      have hrr := Cp.hap_rest m D st k
      have hst := Cp.hap_le HA.out.good HFS.out k (by omega)
      have hnn := HN.out
      have hh := happenD HW.out.c k hkm x (by rw [← hx]; exact Cp.fit_rng HFT.out) (by have := HNk.out; omega) (by have := HTk.out.few; omega) (by rw [hrr.2.1]; exact HA.out.clock) (fun h5 => by have := Cp.ticks_ok HA.out.ok.1 hkm h5; omega) (Nat.le_trans HHH.out (Nat.le_trans HK1.out.size HW.out.keep.size)) (by omega)
      have HH := hideT hh
      clear hh hrr hst hx hsn hkm h0 hnn
      go_wp2_with fail
      refine HH.out.mono ?_
      rintro r w2 ⟨rfl, v2, L2, T2, P2⟩
      have HR : Hid (CTo w1 w2 H K m v v2 L2 (Nk + 1) (Cp.hapN m D st (k + 1)) ∧ Nk + 1 ≤ Cp.sumS (Cp.hapN m D st (k + 1)).s ∧ Cp.TQ m (Cp.hapN m D st (k + 1)) (fun j => pnd D j ∧ k + 1 ≤ j) L2) := by
        have P2' : L2.Perm (Cp.dueA m (Cp.hapN m D st k) k (Cp.at0 D k) Lk) := by
          rw [HX.out]
          exact P2
        have ht := HTk.out.step HW.out.c.ns HKM.out HFT.out HNZ.out P2'
        have hu := Cp.sum_set (l := (Cp.hapN m D st k).s) (i := k) (Cp.behind (Cp.at0 D k)) (by rw [HW.out.c.ns]; exact HKM.out)
        have hb := Cp.behind_up HFT.out HNZ.out
        show _ ∧ _
        rw [HH2.out]
        refine ⟨HW.out.trans (by rw [HX.out]; exact T2), ?_, ht.weak (fun j _ _ h => ⟨h.1.1, ?_⟩)⟩
        · have h1 := HNk.out
          show Nk + 1 ≤ Cp.sumS ((Cp.hapN m D st k).s.set k (Cp.behind (Cp.at0 D k)))
          omega
        · have h1 := h.1.2
          have h2 := h.2
          omega
      clear T2 P2 dk
      go_wp2_with fail
      refine ⟨⟨k + 1, v2, L2, Nk + 1, by omega, by go_num, by rw [HS2.out], HR.out.1, HR.out.2.1, HR.out.2.2⟩, ?_⟩
      first | omega | (simp [intOf]; omega)
end
end Go.Proofs.YtpipjkbgbhefcaaGreat
