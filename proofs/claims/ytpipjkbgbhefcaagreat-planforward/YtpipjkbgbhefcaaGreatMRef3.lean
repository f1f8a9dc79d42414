/-
  The document's sentries, Depth, within.
-/
import Derived.Test.YtpipjkbgbhefcaaGreatMRef2
import Derived.Test.YtpipjkbgbhefcaaGreatPartA
set_option linter.unusedSimpArgs false
set_option linter.unusedVariables false
namespace Go.Proofs.YtpipjkbgbhefcaaGreat
open Go.RowKit
set_option maxRecDepth 100000
theorem sentryRV (w : World) (m : Mp.Model) (af ai : Option Addr) (cf ci : Nat) (hm : ModelAt w af cf ai ci m) (s1 : List Mp.On) (s2 : List Mp.Cond) (a1 a2 : Option Addr) (c1 c2 : Nat) (h1 : ORow w (.slice a1 s1.length c1) s1) (h2 : CRow w (.slice a2 s2.length c2) s2) (b : Bool) (hb : Hid (Mp.sentB m (s1, s2) = b)) :
    Calls Tryz.prog 71 #[.agg #[.slice af m.files.length cf, .slice ai m.items.length ci], .agg #[.slice a1 s1.length c1, .slice a2 s2.length c2]] w fun e w' => e = .returned (.bool b) ∧ Below w.heap.size w w' := by
  rw [← hb.out]
  exact sentryRef w m af ai cf ci hm s1 s2 a1 a2 c1 c2 h1 h2
def MR (w : World) (m : Mp.Model) (af ai : Option Addr) (cf ci : Nat) (wr : World) : Prop :=
  Below w.heap.size w wr ∧ Lies wr w.heap.size 25 #[.slice af m.files.length cf, .slice ai m.items.length ci]
theorem MR.below {w : World} {m : Mp.Model} {af ai : Option Addr} {cf ci : Nat} {wr w' : World} (h : MR w m af ai cf ci wr) (hb : Below wr.heap.size wr w') : MR w m af ai cf ci w' := ⟨h.1.trans (hb.mono h.1.size), h.2.below hb⟩
theorem MR.new (w : World) (m : Mp.Model) (af ai : Option Addr) (cf ci : Nat) : MR w m af ai cf ci (w.alloc (.cells #[.slice af m.files.length cf, .slice ai m.items.length ci] 25)) := ⟨(Below.refl _ _).alloc (Nat.le_refl _) _, Lies.new _ _ _⟩
set_option maxHeartbeats 4000000 in
theorem sentriesRef (w : World) (m : Mp.Model) (af ai : Option Addr) (cf ci : Nat) (hm : ModelAt w af cf ai ci m) (ao : Option Addr) (n cap : Nat) (l : List Mp.Sent) (h : SRow w (.slice ao n cap) l) :
    Calls Tryz.prog 40 #[.agg #[.slice af m.files.length cf, .slice ai m.items.length ci], .slice ao n cap] w fun e w' => e = .returned (.bool (Mp.sentsB m l)) ∧ Below w.heap.size w w' := by
  obtain ⟨hn, hl, hcap, b, o, ha, hc⟩ := srow_at h
  have HN := hideT hn
  have HC := hideT hc
  have HA := hideT ha
  have HM := hideT hm
  have M0 := hideT (MR.new w m af ai cf ci)
  clear hn hc ha h hm
  go_enter Tryz.func40, Tryz.ntmps40
  go_wp2_with fail
  go_loopw [5] (fun i wr => ∃ k : Nat, k ≤ n ∧ i = .int .i64 k ∧ Hid ((l.drop k).all (Mp.sentB m) = l.all (Mp.sentB m)) ∧ Hid (MR w m af ai cf ci wr)) (fun i _ => n - (intOf i).toNat)
  case atStart => exact ⟨0, by omega, rfl, rfl, M0⟩
  case round =>
    obtain ⟨k, hk, rfl, HB, HW⟩ := hrel
    have x0 : wr.cell? ⟨w.heap.size, 0, none⟩ = some (.slice af m.files.length cf) := HW.out.2.cell 0
    have x1 : wr.cell? ⟨w.heap.size, 1, none⟩ = some (.slice ai m.items.length ci) := HW.out.2.cell 1
    by_cases hlt : k < n
    · obtain ⟨⟨s1, s2⟩, hx⟩ := Mp.at_lt (l := l) (k := k) (by have := HN.out; omega)
      obtain ⟨a1, c1, a2, c2, r1, r2, d0, d1⟩ := HC.out k _ hx
      have d0 := below_cell HW.out.1 _ _ d0
      have d1 := below_cell HW.out.1 _ _ d1
      obtain rfl := HA.out (by omega)
      dsimp only at d0 d1 r1 r2
      have hB2 := HB.out
      rw [Mp.drop_at hx, List.all_cons] at hB2
      have HB2 := hideT hB2
      clear hx hB2
      have HMW := hideT (HM.out.below (below_drewN HW.out.1 1))
      have R1 := hideT (orow_below r1 (below_drewN HW.out.1 1))
      have R2 := hideT (crow_below r2 (below_drewN HW.out.1 1))
      clear r1 r2
      have t0 : (0 : Int) ≤ (k : Int) := by omega
      have t1 : (k : Int) < (n : Int) := by omega
      obtain ⟨bb, H1⟩ : ∃ y, Hid (Mp.sentB m (s1, s2) = y) := ⟨_, rfl⟩
      go_wp2_with fail
      go_region_held3 (fun w' => w'.cell? ⟨w.heap.size, 0, none⟩ = some (.slice af m.files.length cf) ∧ w'.cell? ⟨w.heap.size, 1, none⟩ = some (.slice ai m.items.length ci) ∧ w'.cell? ⟨b, o + k * 2, none⟩ = some (.slice a1 s1.length c1) ∧ w'.cell? ⟨b, o + k * 2 + 1, none⟩ = some (.slice a2 s2.length c2)) (go_keep) ((go_at_call 71; refine (sentryRV _ m af ai cf ci HMW.out s1 s2 a1 a2 c1 c2 R1.out R2.out bb H1).mono ?_; rintro e w1 ⟨rfl, q2⟩; have q3 : Below wr.heap.size wr w1 := (below_drewN (Below.refl _ wr) 1).trans q2; have z0 := below_cell q3 _ _ x0; have z1 := below_cell q3 _ _ x1; have z2 := below_cell q3 _ _ d0; have z3 := below_cell q3 _ _ d1))
      have HW1 := hideT (HW.out.below q3)
      clear q2 q3 z0 z1 z2 z3 x0 x1 d0 d1
      cases bb
      · have HR : Hid (Mp.sentsB m l = false) := by show _ = _; unfold Mp.sentsB; rw [← HB2.out, H1.out]; simp
        go_wp2_with fail
        go_ret
        exact ⟨ret_b HR.out.symm, HW1.out.1⟩
      · have HR : Hid ((l.drop (k + 1)).all (Mp.sentB m) = l.all (Mp.sentB m)) := by show _ = _; rw [← HB2.out, H1.out]; rfl
        go_wp2_with fail
        refine ⟨⟨k + 1, by omega, by go_num, HR, HW1⟩, ?_⟩
        first | omega | (simp [intOf]; omega)
    · have HR : Hid (l.all (Mp.sentB m) = true) := by show _ = _; rw [← HB.out, Mp.drop_all (by have := HN.out; omega)]; rfl
      have HR2 : Hid (Mp.sentsB m l = decide ((n : Int) ≤ 3)) := by show _ = _; unfold Mp.sentsB; rw [HR.out, Bool.and_true, Bool.eq_iff_iff]; have := HN.out; simp only [decide_eq_true_eq]; omega
      go_wp2_with fail
      go_ret
      exact ⟨ret_b HR2.out.symm, HW.out.1⟩
set_option maxHeartbeats 4000000 in
theorem depthRef (w : World) (m : Mp.Model) (af ai : Option Addr) (cf ci : Nat) (hm : ModelAt w af cf ai ci m) (i0 : Nat) (hi0 : i0 < m.items.length) :
    Calls Tryz.prog 70 #[.agg #[.slice af m.files.length cf, .slice ai m.items.length ci], .int .i64 i0] w fun e w' => e = .returned (.int .i64 (Mp.depthZ m.items i0)) ∧ Below w.heap.size w w' := by
  obtain ⟨_, hil, hicap, b, o, ha, hc⟩ := irow_at hm.items
  obtain rfl := ha (by omega)
  have HC := hideT hc
  have HM := hideT hm
  have M0 := hideT (MR.new w m af (some ⟨b, o, none⟩) cf ci)
  clear hc ha hm
  go_enter Tryz.func70, Tryz.ntmps70
  go_wp2_with fail
  go_loopw [1, 5] (fun i c wr => ∃ (z : Int) (n f : Nat), -1 ≤ z ∧ z < m.items.length ∧ f + n = m.items.length + 1 ∧ i = .int .i64 z ∧ c = .int .i64 n ∧ Hid (Mp.depthG m.items f z n = Mp.depthZ m.items i0) ∧ Hid (MR w m af (some ⟨b, o, none⟩) cf ci wr)) (fun _ c _ => m.items.length + 1 - (intOf c).toNat)
  case atStart => exact ⟨i0, 0, m.items.length + 1, by omega, by omega, by omega, rfl, rfl, rfl, M0⟩
  case round =>
    obtain ⟨z, n, f, hz1, hz2, hfn, rfl, rfl, HB, HW⟩ := hrel
    have x0 : wr.cell? ⟨w.heap.size, 0, none⟩ = some (.slice af m.files.length cf) := HW.out.2.cell 0
    have x1 : wr.cell? ⟨w.heap.size, 1, none⟩ = some (.slice (some ⟨b, o, none⟩) m.items.length ci) := HW.out.2.cell 1
    by_cases hz : 0 < z
    · by_cases hn : n ≤ m.items.length
      · obtain ⟨p, rfl⟩ : ∃ p : Nat, z = p := ⟨z.toNat, by omega⟩
        obtain ⟨f', rfl⟩ : ∃ f', f = f' + 1 := ⟨f - 1, by omega⟩
        obtain ⟨x, hx⟩ := Mp.at_lt (l := m.items) (k := p) (by omega)
        obtain ⟨_, _, _, _, I0⟩ := HC.out p x hx
        have d2 := below_cell HW.out.1 _ _ I0.c2
        have HP : Hid (Mp.placeZ m.items x.parent = Mp.upZ m.items p) := by
          show _ = _
          unfold Mp.upZ Mp.parAt
          rw [Int.toNat_natCast, hx]
        have hB2 := HB.out
        rw [Mp.depthG, if_pos hz] at hB2
        have HB2 := hideT hB2
        clear hB2 hx I0
        obtain ⟨z', hz'⟩ : ∃ z', z' = Mp.upZ m.items p := ⟨_, rfl⟩
        rw [← hz'] at HP HB2
        have hz1' : -1 ≤ z' := by rw [hz']; exact Mp.upZ_ge _ _
        have hz2' : z' < m.items.length := by rw [hz']; exact Mp.upZ_lt _ _ (by omega)
        clear hz'
        have HIR := hideT (irow_below HM.out.items (below_drewN HW.out.1 1))
        have t0 : (0 : Int) ≤ (p : Int) := by omega
        have t2 : (n : Int) ≤ (m.items.length : Int) := by omega
        go_wp2_with fail
        go_region_held3 (fun w' => w'.cell? ⟨w.heap.size, 0, none⟩ = some (.slice af m.files.length cf) ∧ w'.cell? ⟨w.heap.size, 1, none⟩ = some (.slice (some ⟨b, o, none⟩) m.items.length ci) ∧ w'.cell? ⟨b, o + p * 7 + 2, none⟩ = some (.string x.parent)) (go_keep) ((go_at_call 58; refine (placeRV _ _ _ m.items.length ci m.items x.parent HIR.out z' HP).mono ?_; rintro e w1 ⟨rfl, q2⟩; have q3 : Below wr.heap.size wr w1 := (below_drewN (Below.refl _ wr) 1).trans q2; have z0 := below_cell q3 _ _ x0; have z1 := below_cell q3 _ _ x1; have z2 := below_cell q3 _ _ d2))
        have HW1 := hideT (HW.out.below q3)
        clear q2 q3 z0 z1 z2 x0 x1 d2
        go_wp2_with fail
        refine ⟨⟨z', n + 1, f', hz1', hz2', by omega, rfl, by go_num, HB2, HW1⟩, ?_⟩
        first | omega | (simp [intOf]; omega)
      · have HR : Hid (Mp.depthZ m.items i0 = -1) := by show _ = _; rw [← HB.out, show f = 0 by omega]; rfl
        have t2 : ¬ (n : Int) ≤ (m.items.length : Int) := by omega
        have t3 : (m.items.length : Int) < (n : Int) := by omega
        have t4 : ¬ z < 0 := by omega
        go_wp2_with fail
        go_ret
        exact ⟨ret_i HR.out.symm, HW.out.1⟩
    · by_cases hneg : z < 0
      · have HR : Hid (Mp.depthZ m.items i0 = -1) := by
          show _ = _
          rw [← HB.out]
          cases f with
          | zero => rfl
          | succ f => rw [Mp.depthG, if_neg hz, if_pos hneg]
        go_wp2_with fail
        go_ret
        exact ⟨ret_i HR.out.symm, HW.out.1⟩
      · by_cases hn : n ≤ m.items.length
        · have HR : Hid (Mp.depthZ m.items i0 = n) := by
            show _ = _
            rw [← HB.out, show f = (f - 1) + 1 by omega, Mp.depthG, if_neg hz, if_neg hneg]
          have t3 : ¬ (m.items.length : Int) < (n : Int) := by omega
          go_wp2_with fail
          go_ret
          exact ⟨ret_i HR.out.symm, HW.out.1⟩
        · have HR : Hid (Mp.depthZ m.items i0 = -1) := by show _ = _; rw [← HB.out, show f = 0 by omega]; rfl
          have t3 : (m.items.length : Int) < (n : Int) := by omega
          go_wp2_with fail
          go_ret
          exact ⟨ret_i HR.out.symm, HW.out.1⟩
set_option maxHeartbeats 4000000 in
theorem withinRef (w : World) (m : Mp.Model) (af ai : Option Addr) (cf ci : Nat) (hm : ModelAt w af cf ai ci m) (i0 : Nat) (hi0 : i0 < m.items.length) (s : ByteArray) :
    Calls Tryz.prog 69 #[.agg #[.slice af m.files.length cf, .slice ai m.items.length ci], .int .i64 i0, .string s] w fun e w' => e = .returned (.bool (Mp.withinZ m.items i0 s)) ∧ Below w.heap.size w w' := by
  obtain ⟨_, hil, hicap, b, o, ha, hc⟩ := irow_at hm.items
  obtain rfl := ha (by omega)
  have HC := hideT hc
  have HM := hideT hm
  have M0 := hideT (MR.new w m af (some ⟨b, o, none⟩) cf ci)
  clear hc ha hm
  go_enter Tryz.func69, Tryz.ntmps69
  go_wp2_with fail
  go_loopw [1, 7] (fun i c wr => ∃ (z : Int) (n f : Nat), -1 ≤ z ∧ z < m.items.length ∧ f + n = m.items.length + 1 ∧ i = .int .i64 z ∧ c = .int .i64 n ∧ Hid (Mp.withinG m.items s f z = Mp.withinZ m.items i0 s) ∧ Hid (MR w m af (some ⟨b, o, none⟩) cf ci wr)) (fun _ c _ => m.items.length + 1 - (intOf c).toNat)
  case atStart => exact ⟨i0, 0, m.items.length + 1, by omega, by omega, by omega, rfl, rfl, rfl, M0⟩
  case round =>
    obtain ⟨z, n, f, hz1, hz2, hfn, rfl, rfl, HB, HW⟩ := hrel
    have x0 : wr.cell? ⟨w.heap.size, 0, none⟩ = some (.slice af m.files.length cf) := HW.out.2.cell 0
    have x1 : wr.cell? ⟨w.heap.size, 1, none⟩ = some (.slice (some ⟨b, o, none⟩) m.items.length ci) := HW.out.2.cell 1
    by_cases hz : 0 ≤ z
    · by_cases hn : n ≤ m.items.length
      · obtain ⟨p, rfl⟩ : ∃ p : Nat, z = p := ⟨z.toNat, by omega⟩
        obtain ⟨f', rfl⟩ : ∃ f', f = f' + 1 := ⟨f - 1, by omega⟩
        obtain ⟨x, hx⟩ := Mp.at_lt (l := m.items) (k := p) (by omega)
        obtain ⟨_, _, _, _, I0⟩ := HC.out p x hx
        have d0 := below_cell HW.out.1 _ _ I0.c0
        have d2 := below_cell HW.out.1 _ _ I0.c2
        have HP : Hid (Mp.placeZ m.items x.parent = Mp.upZ m.items p) := by
          show _ = _
          unfold Mp.upZ Mp.parAt
          rw [Int.toNat_natCast, hx]
        have hid : Mp.idAt m.items p = x.id := by unfold Mp.idAt; rw [hx]
        have hB2 := HB.out
        rw [Mp.withinG, if_neg (by omega), Int.toNat_natCast, hid] at hB2
        have HB2 := hideT hB2
        clear hB2 hx I0 hid
        obtain ⟨z', hz'⟩ : ∃ z', z' = Mp.upZ m.items p := ⟨_, rfl⟩
        rw [← hz'] at HP HB2
        have hz1' : -1 ≤ z' := by rw [hz']; exact Mp.upZ_ge _ _
        have hz2' : z' < m.items.length := by rw [hz']; exact Mp.upZ_lt _ _ (by omega)
        clear hz'
        have HIR := hideT (irow_below HM.out.items (below_drewN HW.out.1 1))
        have t0 : (0 : Int) ≤ (p : Int) := by omega
        have t2 : (n : Int) ≤ (m.items.length : Int) := by omega
        by_cases e : x.id = s
        · have HR : Hid (Mp.withinZ m.items i0 s = true) := by show _ = _; rw [← HB2.out, if_pos e]
          subst e
          go_wp2_with fail
          go_ret
          exact ⟨ret_b HR.out.symm, HW.out.1⟩
        have e1 : (x.id.toList == s.toList) = false := beq_eq_false_iff_ne.2 fun h => e (toList_inj h)
        have HB3 : Hid (Mp.withinG m.items s f' z' = Mp.withinZ m.items i0 s) := by show _ = _; rw [← HB2.out, if_neg e]
        clear e
        go_wp2_with fail
        go_region_held3 (fun w' => w'.cell? ⟨w.heap.size, 0, none⟩ = some (.slice af m.files.length cf) ∧ w'.cell? ⟨w.heap.size, 1, none⟩ = some (.slice (some ⟨b, o, none⟩) m.items.length ci) ∧ w'.cell? ⟨b, o + p * 7 + 2, none⟩ = some (.string x.parent)) (go_keep) ((go_at_call 58; refine (placeRV _ _ _ m.items.length ci m.items x.parent HIR.out z' HP).mono ?_; rintro e w1 ⟨rfl, q2⟩; have q3 : Below wr.heap.size wr w1 := (below_drewN (Below.refl _ wr) 1).trans q2; have z0 := below_cell q3 _ _ x0; have z1 := below_cell q3 _ _ x1; have z2 := below_cell q3 _ _ d2))
        have HW1 := hideT (HW.out.below q3)
        clear q2 q3 z0 z1 z2 x0 x1 d2 d0
        go_wp2_with fail
        refine ⟨⟨z', n + 1, f', hz1', hz2', by omega, rfl, by go_num, HB3, HW1⟩, ?_⟩
        first | omega | (simp [intOf]; omega)
      · have HR : Hid (Mp.withinZ m.items i0 s = false) := by show _ = _; rw [← HB.out, show f = 0 by omega]; rfl
        have t2 : ¬ (n : Int) ≤ (m.items.length : Int) := by omega
        go_wp2_with fail
        go_ret
        exact ⟨ret_b HR.out.symm, HW.out.1⟩
    · have HR : Hid (Mp.withinZ m.items i0 s = false) := by
        show _ = _
        rw [← HB.out]
        cases f with
        | zero => rfl
        | succ f => rw [Mp.withinG, if_pos (by omega)]
      go_wp2_with fail
      go_ret
      exact ⟨ret_b HR.out.symm, HW.out.1⟩
end Go.Proofs.YtpipjkbgbhefcaaGreat
