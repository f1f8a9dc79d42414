/-
  What each item does by itself, as it all is.
-/
import Derived.Test.YtpipjkbgbhefcaaGreatCComp1
import Derived.Test.YtpipjkbgbhefcaaGreatCComp2
import Derived.Test.YtpipjkbgbhefcaaGreatCComp3
import Derived.Test.YtpipjkbgbhefcaaGreatCShut
import Derived.LoopN
import Derived.Deep.LoopGhost
set_option linter.unusedSimpArgs false
set_option linter.unusedVariables false
namespace Go.Proofs.YtpipjkbgbhefcaaGreat
open Go.RowKit
open Qp
set_option maxRecDepth 100000
namespace Cp
def askI (m : Mp.Model) (st : St) (j i : Nat) : Int := match j with
  | 0 => exitsI m st i
  | 1 => startsI m st i
  | 2 => createsI m st i
  | _ => completesI m st i
def part (m : Mp.Model) (st : St) (i : Nat) : Nat → Int
  | 0 => 0
  | j + 1 => or0 (part m st i j) (askI m st j i)
theorem part_all (m : Mp.Model) (st : St) (i : Nat) : part m st i 4 = judge m st i := by
  show or0 (or0 (or0 (or0 0 (exitsI m st i)) (startsI m st i)) (createsI m st i)) (completesI m st i) = _
  rw [show or0 0 (exitsI m st i) = exitsI m st i from rfl]
  rfl
/-- The row of what they do, while it is found: up to k; x at k. -/
def doing (m : Mp.Model) (st : St) (k : Nat) (x : Int) : List Int := (List.range m.items.length).map fun i => if i < k then judge m st i else if i = k then x else 0
theorem doing_len (m : Mp.Model) (st : St) (k : Nat) (x : Int) : (doing m st k x).length = m.items.length := by unfold doing; simp
theorem doing_at (m : Mp.Model) (st : St) {k : Nat} (x : Int) (h : k < m.items.length) : at0 (doing m st k x) k = x := by unfold doing; rw [at0_map _ h, if_neg (by omega), if_pos rfl]
theorem doing_set (m : Mp.Model) (st : St) {k : Nat} (x y : Int) (h : k < m.items.length) : (doing m st k x).set k y = doing m st k y := by
  refine ext0 (by rw [List.length_set, doing_len, doing_len]) fun i hi => ?_
  rw [List.length_set, doing_len] at hi
  rw [at0_set (by rw [doing_len]; exact h)]
  unfold doing
  rw [at0_map _ hi, at0_map _ hi]
  by_cases e : i = k
  · subst e
    rw [if_pos rfl, if_neg (by omega), if_pos rfl]
  · rw [if_neg e, if_neg e, if_neg e]
theorem doing_next (m : Mp.Model) (st : St) (k : Nat) : doing m st k (judge m st k) = doing m st (k + 1) 0 := by
  unfold doing
  refine List.map_congr_left fun i _ => ?_
  by_cases e : i = k
  · subst e
    rw [if_neg (by omega), if_pos rfl, if_pos (by omega)]
  · by_cases h : i < k
    · rw [if_pos h, if_pos (by omega)]
    · rw [if_neg h, if_neg e, if_neg (by omega)]
      split <;> rfl
theorem doing_first (m : Mp.Model) (st : St) : doing m st 0 0 = List.replicate m.items.length 0 := by
  refine ext0 (by rw [doing_len]; simp) fun i hi => ?_
  rw [doing_len] at hi
  rw [at0_rep]
  unfold doing
  rw [at0_map _ hi, if_neg (by omega)]
  split <;> rfl
theorem doing_all (m : Mp.Model) (st : St) : doing m st m.items.length 0 = judged m st := by
  unfold doing judged
  refine List.map_congr_left fun i hi => ?_
  rw [if_pos (List.mem_range.1 hi)]
end Cp
/-- The four asks, by number. -/
def fsA : Nat → Nat
  | 0 => 88
  | 1 => 89
  | 2 => 90
  | _ => 91
theorem fsA_enters (j : Nat) : Enters Tryz.prog (fsA j) := by
  unfold fsA
  split
  · exact enters_of Tryz.func88 (by kernel_rfl) rfl
  · exact enters_of Tryz.func89 (by kernel_rfl) rfl
  · exact enters_of Tryz.func90 (by kernel_rfl) rfl
  · exact enters_of Tryz.func91 (by kernel_rfl) rfl
/-- A row of numbers of one's own. -/
def RowPost (l : List Int) (n : Nat) (w : World) (e : Ending) (w' : World) : Prop := ∃ db, e = .returned (sliceN db n) ∧ IR w' db l ∧ w.heap.size ≤ db ∧ Below w.heap.size w w'
section
variable {w : World} {H : Nat} {K : Kc} {m : Mp.Model} {v : Value} {L : List Thing} {N : Nat} {st : Cp.St}
theorem completesD (h : CIn w H K m v L N st) (hl : OkM m) (i : Nat) (hi : i < m.items.length) (x : Int) (hx : Hid (Cp.completesI m st i = x)) :
    Calls Tryz.prog 91 #[cP K, iP i] w (IntPost x w) := by
  by_cases hA : (Cp.itm m i).kind = 1
  · by_cases hB : Cp.at0 st.s i = 2
    · by_cases hC : Cp.exitsI m st i = 0
      · exact completesE h hl i hi x hx hA hB hC
      · exact completesC h hl i hi x hx hA hB hC
    · exact completesB h hl i hi x hx hA hB
  · exact completesA h hl i hi x hx hA
theorem askD (h : CIn w H K m v L N st) (hl : OkM m) (j i : Nat) (hi : i < m.items.length) (x : Int) (hx : Hid (Cp.askI m st j i = x)) : Calls Tryz.prog (fsA j) #[cP K, iP i] w (IntPost x w) := by
  unfold fsA
  split
  · exact exitsD h hl i hi x hx
  · exact startsD h hl i hi x hx
  · exact createsD h i hi x hx
  · refine completesD h hl i hi x ?_
    unfold Cp.askI at hx
    split at hx <;> first | (exfalso; simp_all; done) | exact hx
theorem nothingD (h : CIn w H K m v L N st) (hl : OkM m) : Calls Tryz.prog 63 #[cP K] w (RowPost (List.replicate m.items.length 0) m.items.length w) := by
  have c2 := h.c2
  obtain ⟨W, hr, r1, r2, r3⟩ := madeI w m.items.length (by have := items16 hl.1; omega)
  have HR := hideT r1
  have HB := hideT r2
  clear r1 r2 h
  go_enter Tryz.func63, Tryz.ntmps63
  go_wp2_with fail
  go_ret
  exact ⟨w.heap.size, rfl, HR.out, Nat.le_refl _, HB.out⟩
set_option maxHeartbeats 8000000 in
theorem judgedD (h : CIn w H K m v L N st) (hl : OkM m) : Calls Tryz.prog 54 #[cP K] w (RowPost (Cp.judged m st) m.items.length w) := by
  have HC := hideT h
  have HL := hideT hl
  have h16 := items16 hl.1
  obtain ⟨n, hn⟩ : ∃ n, m.items.length = n := ⟨_, rfl⟩
  have HN := hideT hn
  rw [hn] at h16
  clear h hl
  go_enter Tryz.func54, Tryz.ntmps54
  go_wp2_with fail
  refine (nothingD HC.out HL.out).mono ?_
  rintro e w1 ⟨db, rfl, ir, hdb, b1⟩
  rw [← Cp.doing_first m st] at ir
  rw [hn]
  clear hn
  obtain ⟨W, hW⟩ : ∃ W, w1.alloc (.cells #[methC 88 (cP K), methC 89 (cP K), methC 90 (cP K), methC 91 (cP K)] 87) = W := ⟨_, rfl⟩
  obtain ⟨B2, L2, z2⟩ := of_alloc hW
  have HB := hideT (b1.trans (B2.mono b1.size))
  have HI : Hid (IR W db (Cp.doing m st 0 0)) := Lies.below ir B2
  have HF := hideT L2
  have HDB := hideT hdb
  have HFB := hideT b1.size
  have HNE : Hid (db ≠ w1.heap.size) := by
    have := Lies.lt ir
    show _ ≠ _
    omega
  clear ir hdb b1 B2 L2
  go_wp2_with fail
  clear hW z2
  obtain ⟨fb, hfb⟩ : ∃ fb, w1.heap.size = fb := ⟨_, rfl⟩
  rw [hfb] at HF HFB HNE
  rw [hfb]
  clear hfb
  go_loopw [21] (fun i wr => ∃ k : Nat, k ≤ n ∧ i = .int .i64 k ∧ Hid (IR wr db (Cp.doing m st k 0) ∧ Lies wr fb 87 #[methC 88 (cP K), methC 89 (cP K), methC 90 (cP K), methC 91 (cP K)] ∧ Below w.heap.size w wr)) (fun i _ => n - (intOf i).toNat)
  case atStart => exact ⟨0, by omega, rfl, HI.out, HF.out, HB.out⟩
  case round =>
    obtain ⟨k, hk, rfl, HW⟩ := hrel
    by_cases hlt : k < n
    rotate_left
    · have HE : Hid (IR wr db (Cp.judged m st)) := by
        have h1 := HW.out.1
        have : k = m.items.length := by have := HN.out; omega
        rw [this, Cp.doing_all] at h1
        exact h1
      go_wp2_with fail
      go_ret
      exact ⟨db, by rw [HN.out]; rfl, HE.out, HDB.out, HW.out.2.2⟩
    have hkm : k < m.items.length := by have := HN.out; omega
    have HK := hideT hkm
    have t1 : (0 : Int) ≤ (k : Int) := by omega
    have t2 : (k : Int) < (n : Int) := by omega
    clear hkm
    go_wp2_with fail
    go_loopw [26] (fun i wi => ∃ j : Nat, j ≤ 4 ∧ i = .int .i64 j ∧ Hid (IR wi db (Cp.doing m st k (Cp.part m st k j)) ∧ Lies wi fb 87 #[methC 88 (cP K), methC 89 (cP K), methC 90 (cP K), methC 91 (cP K)] ∧ Below w.heap.size w wi)) (fun i _ => 4 - (intOf i).toNat)
    case atStart => exact ⟨0, by omega, rfl, HW.out⟩
    case round =>
      obtain ⟨j, hj, rfl, HV⟩ := hrel
      by_cases hj4 : j < 4
      rotate_left
      · have HE : Hid (IR wr db (Cp.doing m st (k + 1) 0) ∧ Lies wr fb 87 #[methC 88 (cP K), methC 89 (cP K), methC 90 (cP K), methC 91 (cP K)] ∧ Below w.heap.size w wr) := by
          have h1 := HV.out
          have : j = 4 := by omega
          rw [this, Cp.part_all, Cp.doing_next] at h1
          exact h1
        go_wp2_with fail
        refine ⟨⟨k + 1, by omega, by go_num, HE⟩, ?_⟩
        first | omega | (simp [intOf]; omega)
      have e := fsA_enters j
      have xf : wr.cell? ⟨fb, j, none⟩ = some (methC (fsA j) (cP K)) := by
        rw [HV.out.2.1.cell j]
        rcases (by omega : j = 0 ∨ j = 1 ∨ j = 2 ∨ j = 3) with rfl | rfl | rfl | rfl <;> rfl
      have xd : wr.cell? ⟨db, k, none⟩ = some (.int .i64 (Cp.part m st k j)) := by
        have := HV.out.1.cell (i := k) (by rw [Cp.doing_len]; exact HK.out)
        rw [Cp.doing_at m st _ HK.out] at this
        exact this
      unfold Enters at e
      have s0 : (0 : Int) ≤ (j : Int) := by omega
      have s1 : (j : Int) < 4 := by omega
      obtain ⟨a, ha⟩ : ∃ a, Cp.part m st k j = a := ⟨_, rfl⟩
      rw [ha] at xd
      obtain ⟨y, hy⟩ : ∃ y, Cp.askI m st j k = y := ⟨_, rfl⟩
      have HY := hideT hy
      have HP : Hid (Cp.part m st k (j + 1) = Cp.or0 a y) := by show Cp.or0 (Cp.part m st k j) (Cp.askI m st j k) = _; rw [ha, hy]
      have HA := hideT ha
      clear ha hy
      by_cases h0 : a = 0
      · subst h0
        go_wp2_with fail
        refine (askD (HC.out.below HV.out.2.2) HL.out j k HK.out y HY).mono ?_
        rintro d w2 ⟨rfl, b2⟩
        have HX : Hid (IR (w2.setCell ⟨db, k, none⟩ (.int .i64 y)) db (Cp.doing m st k (Cp.part m st k (j + 1))) ∧ Lies (w2.setCell ⟨db, k, none⟩ (.int .i64 y)) fb 87 #[methC 88 (cP K), methC 89 (cP K), methC 90 (cP K), methC 91 (cP K)] ∧ Below w.heap.size w (w2.setCell ⟨db, k, none⟩ (.int .i64 y))) := by
          refine ⟨?_, (HV.out.2.1.below b2).off _ _ (fun h => HNE.out h.symm), (HV.out.2.2.trans (b2.mono HV.out.2.2.size)).setCell HDB.out _⟩
          have h1 := IR.set (Lies.below HV.out.1 b2) k y
          rw [Cp.doing_set _ _ _ _ HK.out] at h1
          rw [HP.out]
          exact h1
        have xd2 := below_cell b2 _ _ xd
        have xe2 : w2.frozen? ⟨db, k, none⟩ = false := IR.free (Lies.below HV.out.1 b2) k
        clear b2 xf xd e
        go_wp2_with fail
        refine ⟨⟨j + 1, by omega, by go_num, HX⟩, ?_⟩
        first | omega | (simp [intOf]; omega)
      · have t4 : (a == (0 : Int)) = false := beq_eq_false_iff_ne.2 h0
        have HX : Hid (IR wr db (Cp.doing m st k (Cp.part m st k (j + 1))) ∧ Lies wr fb 87 #[methC 88 (cP K), methC 89 (cP K), methC 90 (cP K), methC 91 (cP K)] ∧ Below w.heap.size w wr) := by
          have h1 := HV.out
          rw [HA.out] at h1
          rw [HP.out, show Cp.or0 a y = a from if_neg h0]
          exact h1
        clear e h0
        go_wp2_with fail
        refine ⟨⟨j + 1, by omega, by go_num, HX⟩, ?_⟩
        first | omega | (simp [intOf]; omega)
end
end Go.Proofs.YtpipjkbgbhefcaaGreat
