/-
  One tick: what is due is taken out of the queue.
-/
import Derived.Test.YtpipjkbgbhefcaaGreatCUser
set_option linter.unusedSimpArgs false
set_option linter.unusedVariables false
namespace Go.Proofs.YtpipjkbgbhefcaaGreat
open Go.RowKit
open Qp
set_option maxRecDepth 100000
namespace Cp
/-- What is done by what has been taken out. -/
def popD (m : Mp.Model) (st : St) (P : List Thing) : List Int := (List.range m.items.length).map fun (i : Nat) => if (P.any fun x => decide (x.2 = (i : Int))) && decide (at0 st.s i = 1) then 4 else 0
theorem popD_len (m : Mp.Model) (st : St) (P : List Thing) : (popD m st P).length = m.items.length := by unfold popD; simp
theorem popD_at (m : Mp.Model) (st : St) (P : List Thing) {i : Nat} (h : i < m.items.length) : at0 (popD m st P) i = if (P.any fun x => decide (x.2 = (i : Int))) && decide (at0 st.s i = 1) then 4 else 0 := by unfold popD; rw [at0_map _ h]
theorem popD_nil (m : Mp.Model) (st : St) : popD m st [] = List.replicate m.items.length 0 := by
  refine ext0 (by rw [popD_len]; simp) fun i hi => ?_
  rw [popD_len] at hi
  rw [popD_at m st [] hi, at0_rep]
  rfl
theorem popD_ready (m : Mp.Model) (st : St) (P : List Thing) (x : Thing) {k : Nat} (hk : k < m.items.length) (hx : x.2 = (k : Int)) (h1 : at0 st.s k = 1) : (popD m st P).set k 4 = popD m st (x :: P) := by
  refine ext0 (by rw [List.length_set, popD_len, popD_len]) fun i hi => ?_
  rw [List.length_set, popD_len] at hi
  rw [at0_set (by rw [popD_len]; exact hk), popD_at m st (x :: P) hi, List.any_cons]
  by_cases e : i = k
  · subst e
    rw [if_pos rfl, hx, h1]
    simp
  · rw [if_neg e, popD_at m st P hi, decide_eq_false (show ¬ x.2 = (i : Int) by rw [hx]; omega), Bool.false_or]
theorem popD_other (m : Mp.Model) (st : St) (P : List Thing) (x : Thing) {k : Nat} (hk : k < m.items.length) (hx : x.2 = (k : Int)) (h1 : ¬ at0 st.s k = 1) : popD m st P = popD m st (x :: P) := by
  refine ext0 (by rw [popD_len, popD_len]) fun i hi => ?_
  rw [popD_len] at hi
  rw [popD_at m st P hi, popD_at m st (x :: P) hi, List.any_cons]
  by_cases e : i = k
  · subst e
    rw [decide_eq_false h1]
    simp
  · rw [decide_eq_false (show ¬ x.2 = (i : Int) by rw [hx]; omega), Bool.false_or]
theorem popD_all {m : Mp.Model} {st : St} {L P R : List Thing} (h : TQ m st (fun _ => False) L) (hp : L.Perm (P ++ R)) (h1 : ∀ x ∈ P, x.1 ≤ st.now) (h2 : ∀ x ∈ R, st.now < x.1) : popD m st P = dueD m st := by
  refine ext0 (by rw [popD_len]; unfold dueD; simp) fun i hi => ?_
  rw [popD_len] at hi
  rw [popD_at m st P hi]
  unfold dueD
  rw [at0_map _ hi]
  by_cases hs : at0 st.s i = 1
  · by_cases hd : (itm m i).kind = 5 ∧ at0 st.s i = 1 ∧ st.due i ≤ st.now
    · rw [if_pos hd]
      have hm := hp.mem_iff.1 (h.all i hi hd.1 hs (fun e => e))
      rcases List.mem_append.1 hm with hm | hm
      · rw [List.any_eq_true.2 ⟨_, hm, decide_eq_true rfl⟩, decide_eq_true hs]
        rfl
      · have := h2 _ hm
        simp only at this
        omega
    · rw [if_neg hd, if_neg]
      intro hx
      obtain ⟨ha, _⟩ := Bool.and_eq_true_iff.1 hx
      obtain ⟨x, hxm, hxi⟩ := List.any_eq_true.1 ha
      have hxi := of_decide_eq_true hxi
      obtain ⟨k, hk, e1, e2, e3, _⟩ := h.mem x (hp.mem_iff.2 (List.mem_append_left _ hxm))
      have : k = i := by omega
      subst this
      exact hd ⟨e2, hs, by rw [← e3]; exact h1 x hxm⟩
  · rw [decide_eq_false hs, Bool.and_false, if_neg (by decide), if_neg (fun e => hs e.2.1)]
theorem due_fits (m : Mp.Model) (st : St) : Fits m st (dueD m st) := by
  refine ⟨by unfold dueD; simp, fun i hi => ?_⟩
  unfold dueD
  rw [at0_map _ hi]
  unfold fit
  split
  · rename_i h
    omega
  · exact .inl rfl
theorem due_tq {m : Mp.Model} {st : St} {L P R : List Thing} (h : TQ m st (fun _ => False) L) (hp : L.Perm (P ++ R)) (h1 : ∀ x ∈ P, x.1 ≤ st.now) (h2 : ∀ x ∈ R, st.now < x.1) : TQ m st (fun j => at0 (dueD m st) j ≠ 0) R := by
  refine ⟨?_, fun x hx => h.mem x (hp.mem_iff.2 (List.mem_append_right _ hx)), fun k hk hk5 hs hn => ?_⟩
  · have := (hp.map Prod.snd).nodup_iff.1 h.nd
    rw [List.map_append] at this
    exact (List.nodup_append.1 this).2.1
  · have hm := hp.mem_iff.1 (h.all k hk hk5 hs (fun e => e))
    rcases List.mem_append.1 hm with hm | hm
    · refine absurd ?_ hn
      unfold dueD
      rw [at0_map _ hk, if_pos ⟨hk5, hs, h1 _ hm⟩]
      decide
    · exact hm
end Cp
def pkD (L : List Thing) : Int := if L = [] then 0 else (at_ L 0).1
def pkI (L : List Thing) : Int := if L = [] then 0 else (at_ L 0).2
def pkB (L : List Thing) : Bool := !decide (L = [])
theorem peekAny (w : World) (H b : Nat) (v : Value) (L : List Thing) (h : QH w H b v L) :
    Calls Tryz.prog 64 #[.pointer (some ⟨b, 0, none⟩)] w fun e w' => e = .returned (.tuple #[.int .i64 (pkD L), .int .i64 (pkI L), .bool (pkB L)]) ∧ Below w.heap.size w w' := by
  cases L with
  | nil => exact (peekNone w H b v h).mono fun e w' ⟨h1, h2⟩ => ⟨h1, by rw [h2]; exact Below.refl _ _⟩
  | cons x L => exact peekQ w H b v (x :: L) h (by simp)
theorem pk_cons {L : List Thing} (h : pkB L = true) : pkD L = (at_ L 0).1 ∧ pkI L = (at_ L 0).2 ∧ ∃ n, L.length = n + 1 := by
  unfold pkB at h
  have h0 : L ≠ [] := by simpa using h
  unfold pkD pkI
  rw [if_neg h0, if_neg h0]
  refine ⟨rfl, rfl, ?_⟩
  cases L with
  | nil => exact absurd rfl h0
  | cons x L => exact ⟨L.length, rfl⟩
theorem lt_fst {a b : Thing} (h : lt b a = false) : a.1 ≤ b.1 := by
  unfold lt at h
  simp at h
  omega
section
variable {w w' : World} {H : Nat} {K : Kc} {m : Mp.Model} {v : Value} {L : List Thing} {N : Nat} {st : Cp.St}
/-- As CTo, over a row of the caller's own besides. -/
structure CTd (db : Nat) (w w' : World) (H : Nat) (K : Kc) (m : Mp.Model) (v v' : Value) (L' : List Thing) (N' : Nat) (st' : Cp.St) : Prop where
  c : CIn w' H K m v' L' N' st'
  keep : Keep (fun k => CS K v k ∨ k = db) w w'
  grew : Grew w v v'
theorem CTd.refl {db : Nat} (h : CIn w H K m v L N st) : CTd db w w H K m v v L N st := ⟨h, Keep.refl _ _, Grew.refl _ _⟩
theorem CTd.on {db : Nat} {w1 w2 : World} {v1 v2 : Value} {L1 L2 : List Thing} {N1 N2 : Nat} {s1 s2 : Cp.St} (a : CTd db w w1 H K m v v1 L1 N1 s1) (b : CTo w1 w2 H K m v1 v2 L2 N2 s2) : CTd db w w2 H K m v v2 L2 N2 s2 :=
  ⟨b.c, a.keep.on b.keep (fun i hi e => .inl (cs_grew a.grew i hi e)), a.grew.trans a.keep.size b.grew⟩
theorem CTd.row {db : Nat} {w1 w2 : World} {v1 : Value} {L1 : List Thing} {N1 : Nat} {s1 : Cp.St} (a : CTd db w w1 H K m v v1 L1 N1 s1) (hnc : NotC K v db) (hl : db < w.heap.size) (k : Keep (fun k => k = db) w1 w2) : CTd db w w2 H K m v v1 L1 N1 s1 :=
  ⟨a.c.other ⟨fun e => hnc.1 (cs_grew a.grew db hl e), hnc.2⟩ k, a.keep.trans (k.wide (fun i _ e => .inr e)), a.grew⟩
theorem HI2x {wa wb w2 : World} {db : Nat} {l : List Int} {v2 v1 : Value} {L1 : List Thing} {s1 : Cp.St} (hnd : ¬ CS K v2 db) (h : IR wa db l) (hc : CIn wa H K m v1 L1 N s1) (k : Keep (QS K.qb v1) wa wb) (g : Grew w2 v2 v1) (hl : db < w2.heap.size) : IR wb db l :=
  Lies.keep h k (fun e => hnd (cs_grew g db hl (.inr (.inr (.inr (.inr e))))))
theorem at_mem {L : List Thing} {k : Nat} (h : k < L.length) : at_ L k ∈ L := List.mem_of_getElem? (at_get h)
set_option maxHeartbeats 8000000 in
theorem tickD (h : CAll w H K m v L N st noP) (hH : H ≤ w.heap.size) (hnow : st.now < 1000000000000) :
    Calls Tryz.prog 33 #[cP K] w (DoPost w H K m v (Cp.tickP m st)) := by
  have HHH := hideT hH
  have h16 := items16 h.ok.1
  have c6 := h.c.c6
  have f6 : w.frozen? ⟨K.cb, 6, none⟩ = false := h.c.box.free 6
  obtain ⟨X, hX⟩ : ∃ X, w.setCell ⟨K.cb, 6, none⟩ (.int .i64 (st.now + 1)) = X := ⟨_, rfl⟩
  have hp := h.c.putBox 6 (st.now + 1) (Cp.tick1 st) rfl rfl rfl rfl
  rw [hX] at hp
  have hcl := h.clock
  have HA : Hid (CAll X H K m v L N (Cp.tick1 st) noP) := ⟨hp.1, ⟨h.good.ns, h.good.rng, h.good.nf, h.good.r0, h.good.few⟩, h.few, ⟨h.tq.nd, h.tq.mem, h.tq.all⟩, ⟨by show 0 ≤ st.now + 1; omega, by show st.now + 1 ≤ _; omega⟩, h.ok⟩
  have HKX := hideT hp.2
  have hwrap : IntKind.i64.wrap (st.now + 1) = st.now + 1 := by rw [IntKind.wrap_i64]; omega
  obtain ⟨nw, hnw⟩ : ∃ nw, st.now + 1 = nw := ⟨_, rfl⟩
  have HNW := hideT hnw
  rw [hnw] at hwrap hX
  clear h hH hp hcl hnow
  go_enter Tryz.func33, Tryz.ntmps33
  go_wp2_with fail
  refine (nothingD HA.out.c HA.out.ok).mono ?_
  rintro e w1 ⟨db, rfl, ir, hdb, b1⟩
  have HC1 := hideT (HA.out.c.below b1)
  have HI1 : Hid (IR w1 db (Cp.popD m (Cp.tick1 st) [])) := by rw [Cp.popD_nil]; exact ir
  have HDB := hideT hdb
  have HB1 := hideT b1
  have c5 := HC1.out.c5
  clear ir hdb b1 c6 f6
  go_wp2_with fail
  refine (peekAny w1 H K.qb v L HC1.out.q).mono ?_
  rintro e w2 ⟨rfl, b2⟩
  have HC2 := hideT (HC1.out.below b2)
  have HI2 := hideT (Lies.below HI1.out b2)
  have HB2 := hideT (HB1.out.trans (b2.mono HB1.out.size))
  clear b2 c5
  obtain ⟨n, hn⟩ : ∃ n, m.items.length = n := ⟨_, rfl⟩
  have HN := hideT hn
  rw [hn]
  rw [hn] at h16
  clear hn hX hnw
  go_wp2_with fail
  go_loopg [4, 5, 6] (L.length + 1) (fun gk d5 d6 d7 wr => ∃ (vk : Value) (Lk P : List Thing), Hid (Lk.length < gk) ∧ d5 = .int .i64 (pkD Lk) ∧ d6 = .int .i64 (pkI Lk) ∧ d7 = .bool (pkB Lk) ∧ Hid (CTd db w2 wr H K m v vk Lk N (Cp.tick1 st)) ∧ Hid (IR wr db (Cp.popD m (Cp.tick1 st) P)) ∧ Hid (L.Perm (P ++ Lk)) ∧ Hid (∀ x ∈ P, x.1 ≤ (Cp.tick1 st).now))
  case atStart => exact ⟨v, L, [], Nat.lt_succ_self _, rfl, rfl, rfl, CTd.refl HC2.out, HI2.out, List.Perm.refl _, fun x hx => by cases hx⟩
  case round =>
    obtain ⟨vk, Lk, P, HG, rfl, rfl, rfl, HW, HIk, HP, HD⟩ := hrel
    have hnk : H ≤ wr.heap.size := Nat.le_trans HHH.out (Nat.le_trans HKX.out.size (Nat.le_trans HB2.out.size HW.out.keep.size))
    have HNK := hideT hnk
    have HTQ := hideT HA.out.tq
    have done : Hid (∀ (_ : ∀ x ∈ Lk, (Cp.tick1 st).now < x.1), Calls Tryz.prog 53 #[cP K, sliceN db n] wr (fun e w' => ∃ b, e = .returned (.bool b) ∧ ∃ v' L' N', RTo w w' H K m v v' L' N' (Cp.roundS m (Cp.tick1 st) (Cp.dueD m (Cp.tick1 st))) (CS K v))) := by
      intro hR
      have e1 := Cp.popD_all HTQ.out HP.out HD.out hR
      have e2 := Cp.due_tq HTQ.out HP.out HD.out hR
      have hi : IR wr db (Cp.dueD m (Cp.tick1 st)) := by rw [← e1]; exact HIk.out
      have hc : CAll wr H K m vk Lk N (Cp.tick1 st) (pnd (Cp.dueD m (Cp.tick1 st))) := ⟨HW.out.c, HA.out.good, HA.out.few, e2, HA.out.clock, HA.out.ok⟩
      have hnc : NotC K vk db := by
        have h0 := HA.out.c.fresh HDB.out
        refine ⟨fun e => ?_, h0.2⟩
        have h2 : db < w2.heap.size := Lies.lt HI2.out
        exact h0.1 (cs_grew HW.out.grew db h2 e)
      have hr := roundD (Cp.dueD m (Cp.tick1 st)) hc db hi (Cp.due_fits m _) hnc hnk
      rw [HN.out] at hr
      refine hr.mono ?_
      rintro e w' ⟨rfl, v', L', N', T⟩
      refine ⟨_, rfl, v', L', N', T.a, ?_, ?_⟩
      · have k1 : Keep (CS K v) w w2 := HKX.out.trans (Keep.of_below HB2.out)
        have k2 : Keep (CS K v) w wr := k1.on HW.out.keep (fun i hi e => by
          rcases e with e | e
          · exact e
          · have h1 := HDB.out
            have h2 := HKX.out.size
            omega)
        exact ⟨T.keep.os.trans k2.os, T.keep.tape.trans k2.tape, T.keep.output.trans k2.output, Nat.le_trans k2.size T.keep.size, fun i hi hs => by
          rw [T.keep.block i (Nat.lt_of_lt_of_le hi k2.size) (fun e => by
            rcases e with e | e
            · exact hs (cs_grew HW.out.grew i (Nat.lt_of_lt_of_le hi k1.size) e)
            · have := HDB.out
              have := HKX.out.size
              omega)]
          exact k2.block i hi hs⟩
      · have s1 : w.heap.size ≤ w2.heap.size := Nat.le_trans HKX.out.size HB2.out.size
        exact (HW.out.grew.mono' s1).trans (Nat.le_trans s1 HW.out.keep.size) T.grew
    have c6 : wr.cell? ⟨K.cb, 6, none⟩ = some (.int .i64 nw) := by
      have h6 : wr.cell? ⟨K.cb, 6, none⟩ = some (.int .i64 (st.now + 1)) := HW.out.c.c6
      rw [HNW.out] at h6
      exact h6
    have hnw' : (Cp.tick1 st).now = nw := HNW.out
    have HNW2 := hideT hnw'
    clear hnk hnw'
    cases hpb : pkB Lk with
    | false =>
      have hR : ∀ x ∈ Lk, (Cp.tick1 st).now < x.1 := by
        have : Lk = [] := by unfold pkB at hpb; simpa using hpb
        intro x hx
        rw [this] at hx
        cases hx
      have HDN := hideT (done.out hR)
      clear done hR hpb
      go_wp2_with fail
      refine HDN.out.mono ?_
      rintro e w4 ⟨b, rfl, v4, L4, N4, T4⟩
      have HT := hideT T4
      clear T4 c6
      go_wp2_with fail
      refine (goOnD HT.out.a (Nat.le_trans HHH.out HT.out.keep.size)).mono ?_
      rintro e w5 ⟨rfl, v5, L5, N5, T5⟩
      have HT5 := hideT (HT.out.trans T5)
      clear T5
      go_wp2_with fail
      go_ret
      exact ⟨rfl, v5, L5, N5, HT5.out⟩
    | true =>
      obtain ⟨e1, e2, q, hq⟩ := pk_cons hpb
      obtain ⟨x, hx⟩ : ∃ x, at_ Lk 0 = x := ⟨_, rfl⟩
      rw [e1, e2, hx]
      have HX0 := hideT hx
      have HQ := hideT hq
      by_cases hle : x.1 ≤ nw
      rotate_left
      · have hR : ∀ y ∈ Lk, (Cp.tick1 st).now < y.1 := by
          intro y hy
          have := lt_fst (least_mem HW.out.c.q.heap hy)
          rw [HX0.out] at this
          rw [HNW2.out]
          omega
        have HDN := hideT (done.out hR)
        have tl : ¬ (x.1 ≤ nw) := hle
        have t2 : decide (x.1 ≤ nw) = false := decide_eq_false hle
        have t3 : nw < x.1 := by omega
        clear done hR hpb e1 e2 hx hq tl hle
        go_wp2_with fail
        refine HDN.out.mono ?_
        rintro e w4 ⟨b, rfl, v4, L4, N4, T4⟩
        have HT := hideT T4
        clear T4 c6
        go_wp2_with fail
        refine (goOnD HT.out.a (Nat.le_trans HHH.out HT.out.keep.size)).mono ?_
        rintro e w5 ⟨rfl, v5, L5, N5, T5⟩
        have HT5 := hideT (HT.out.trans T5)
        clear T5
        go_wp2_with fail
        go_ret
        exact ⟨rfl, v5, L5, N5, HT5.out⟩
      have hmem : x ∈ L := HP.out.mem_iff.2 (List.mem_append_right _ (by rw [← hx]; exact at_mem (by omega)))
      obtain ⟨k, hk, hxk, hk5, _, _⟩ := HTQ.out.mem x hmem
      have HK := hideT hk
      have HXK := hideT hxk
      rw [hxk]
      have c5 := HW.out.c.c5
      have t1 : (0 : Int) ≤ (k : Int) := by omega
      have t2 : (k : Int) < (n : Int) := by have := HN.out; omega
      have HLE := hideT hle
      have hpq := popQ wr H K.qb vk Lk HW.out.c.q q hq
      rw [hx] at hpq
      have HPQ := hideT hpq
      clear done hpb e1 e2 hx hq hmem hk hxk hk5 hpq
      go_wp2_with fail
      refine HPQ.out.mono ?_
      rintro e w3 ⟨rfl, v3, L3, T3, P3, N3⟩
      have HW3 := hideT (HW.out.on ⟨(HW.out.c.putQ T3).1, (HW.out.c.putQ T3).2, T3.grew⟩)
      have HP3 : Hid (L.Perm ((x :: P) ++ L3)) := by
        refine HP.out.trans ?_
        refine (List.Perm.append_left P P3.symm).trans ?_
        rw [List.cons_append]
        exact List.perm_middle
      have HD3 : Hid (∀ y ∈ x :: P, y.1 ≤ (Cp.tick1 st).now) := by
        intro y hy
        rcases List.mem_cons.1 hy with rfl | hy
        · rw [HNW2.out]
          exact HLE.out
        · exact HD.out y hy
      have HN3 : Hid (L3.length < gk - 1) := by
        have h1 := HG.out
        have h2 := HQ.out
        show _ < _
        omega
      have HG1 : Hid (gk - 1 < gk) := by have h1 := HG.out; show _ < _; omega
      have hnd : ¬ CS K v db := fun e => by
        have h1 := (HA.out.c.lt e).1
        have := HDB.out
        omega
      have HI3 : Hid (IR w3 db (Cp.popD m (Cp.tick1 st) P)) := HI2x hnd HIk.out HW.out.c T3.keep HW.out.grew (Lies.lt HI2.out)
      have s2 : w3.cell? ⟨K.cb, 2, none⟩ = some (.slice (some ⟨K.sb, 0, none⟩) n n) := by have := HW3.out.c.c2; rw [HN.out] at this; exact this
      have sk : w3.cell? ⟨K.sb, k, none⟩ = some (.int .i64 (Cp.at0 st.s k)) := HW3.out.c.cs HK.out
      have s5 := HW3.out.c.c5
      have dk : ∃ z, w3.cell? ⟨db, k, none⟩ = some (.int .i64 z) := ⟨_, HI3.out.cell (i := k) (by rw [Cp.popD_len]; exact HK.out)⟩
      obtain ⟨z, dk⟩ := dk
      have fk := HI3.out.free k
      obtain ⟨sv, hsv⟩ : ∃ sv, Cp.at0 st.s k = sv := ⟨_, rfl⟩
      rw [hsv] at sk
      clear T3 P3 N3 c5 c6 hnd
      by_cases h1 : sv = 1
      · subst h1
        have HIX : Hid (IR (w3.setCell ⟨db, k, none⟩ (.int .i64 4)) db (Cp.popD m (Cp.tick1 st) (x :: P))) := by
          have := HI3.out.set k 4
          rw [Cp.popD_ready m (Cp.tick1 st) P x HK.out HXK.out hsv] at this
          exact this
        have HNC := hideT (HA.out.c.fresh HDB.out)
        obtain ⟨Y, hY⟩ : ∃ Y, w3.setCell ⟨db, k, none⟩ (.int .i64 4) = Y := ⟨_, rfl⟩
        rw [hY] at HIX
        have HY3 : Hid (Keep (fun k => k = db) w3 Y) := by rw [← hY]; exact Keep.set w3 _ _ rfl
        have HWY := hideT (HW3.out.row HNC.out (Lies.lt HI2.out) HY3.out)
        have y5 := HWY.out.c.c5
        clear hsv
        go_wp2_with fail
        refine (peekAny Y H K.qb v3 L3 HWY.out.c.q).mono ?_
        rintro e w5 ⟨rfl, b5⟩
        have HW5 := hideT (HWY.out.on (CTo.of_below HWY.out.c b5))
        have HI5 := hideT (Lies.below HIX.out b5)
        clear b5 s2 sk s5 dk fk y5
        go_wp2_with fail
        go_roundg (gk - 1)
        case measure => exact HG1.out
        case rel => exact ⟨v3, L3, x :: P, HN3, rfl, rfl, rfl, HW5, HI5, HP3, HD3⟩
      · have e0 : (sv == (1 : Int)) = false := beq_eq_false_iff_ne.2 h1
        have HIX : Hid (IR w3 db (Cp.popD m (Cp.tick1 st) (x :: P))) := by
          have := HI3.out
          rw [Cp.popD_other m (Cp.tick1 st) P x HK.out HXK.out (by show ¬ Cp.at0 st.s k = 1; rw [hsv]; exact h1)] at this
          exact this
        clear h1 hsv
        go_wp2_with fail
        refine (peekAny w3 H K.qb v3 L3 HW3.out.c.q).mono ?_
        rintro e w5 ⟨rfl, b5⟩
        have HW5 := hideT (HW3.out.on (CTo.of_below HW3.out.c b5))
        have HI5 := hideT (Lies.below HIX.out b5)
        clear b5 s2 sk s5 dk fk
        go_wp2_with fail
        go_roundg (gk - 1)
        case measure => exact HG1.out
        case rel => exact ⟨v3, L3, x :: P, HN3, rfl, rfl, rfl, HW5, HI5, HP3, HD3⟩
end
end Go.Proofs.YtpipjkbgbhefcaaGreat
