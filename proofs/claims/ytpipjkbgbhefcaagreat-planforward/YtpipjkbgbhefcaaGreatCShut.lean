/-
  What is closed.
-/
import Derived.Test.YtpipjkbgbhefcaaGreatCAsk
import Derived.LoopN
import Derived.Deep.LoopGhost
set_option linter.unusedSimpArgs false
set_option linter.unusedVariables false
namespace Go.Proofs.YtpipjkbgbhefcaaGreat
open Go.RowKit
open Qp
set_option maxRecDepth 100000
abbrev sliceN (b n : Nat) : Value := .slice (some ⟨b, 0, none⟩) n n
theorem items16 {m : Mp.Model} (h : Mp.isB m = true) : 1 ≤ m.items.length ∧ m.items.length ≤ 16 := by
  unfold Mp.isB at h
  simp only [Bool.and_eq_true] at h
  exact ids_len h.1.1.1.2
namespace Cp
theorem par_lt {m : Mp.Model} (hl : Mp.isB m = true) {k : Nat} (h0 : k ≠ 0) (hk : k < m.items.length) : Mp.placeZ m.items (itm m k).parent = (parI m k : Int) ∧ parI m k < k := by
  obtain ⟨_, _, hp⟩ := Mp.is_parts hl
  obtain ⟨_, _, h⟩ := hp k _ (itm_at hk)
  have := h h0
  unfold parI
  omega
theorem shut_yes {m : Mp.Model} {st : St} {d : List Int} {k : Nat} (h0 : k ≠ 0) (h : endsB (at0 (shutN m st d k) (parI m k)) = true) : shutN m st d (k + 1) = (shutN m st d k).set k (if thereB (at0 st.s k) then 5 else 0) := by
  rw [shutN, if_pos ⟨h0, h⟩]
theorem shut_no {m : Mp.Model} {st : St} {d : List Int} {k : Nat} (h : endsB (at0 (shutN m st d k) (parI m k)) = false) : shutN m st d (k + 1) = shutN m st d k := by
  rw [shutN, if_neg (fun e => by rw [h] at e; exact absurd e.2 (by decide))]
theorem shut_one (m : Mp.Model) (st : St) (d : List Int) : shutN m st d 1 = d := by
  rw [shutN, if_neg (fun e => e.1 rfl)]
  rfl
end Cp
/-- A block that is none of the case's. -/
def NotC (K : Kc) (v : Value) (b : Nat) : Prop := ¬ CS K v b ∧ (b < K.lo ∨ K.hi ≤ b)
section
variable {w w' : World} {H : Nat} {K : Kc} {m : Mp.Model} {v : Value} {L : List Thing} {N : Nat} {st : Cp.St}
theorem CIn.fresh (h : CIn w H K m v L N st) {b : Nat} (hb : w.heap.size ≤ b) : NotC K v b := ⟨fun e => by have := (h.lt e).1; omega, .inr (Nat.le_trans h.zhi hb)⟩
theorem CIn.other (h : CIn w H K m v L N st) {b : Nat} (hb : NotC K v b) (k : Keep (fun k => k = b) w w') : CIn w' H K m v L N st := h.keep k (fun i hi e => hb.1 (e ▸ hi)) (fun i h1 h2 e => by subst e; have := hb.2; omega)
theorem placeV' (w : World) (vf : Value) (ao : Option Addr) (n cap : Nat) (l : List Mp.Item) (s : ByteArray) (h : IRow w (.slice ao n cap) l) (z : Int) (hz : Hid (Mp.placeZ l s = z)) :
    Calls Tryz.prog 41 #[.agg #[vf, .slice ao n cap], .string s] w fun e w' => e = .returned (.int .i64 z) ∧ Below w.heap.size w w' := by
  rw [← hz.out]
  exact placeD w vf ao n cap l s h
set_option maxHeartbeats 8000000 in
theorem shutD (h : CIn w H K m v L N st) (hl : OkM m) (db : Nat) (d : List Int) (hd : IR w db d) (hlen : d.length = m.items.length) (hnc : NotC K v db) :
    Calls Tryz.prog 86 #[cP K, sliceN db m.items.length] w fun e w' => e = .returned (.tuple #[]) ∧ IR w' db (Cp.shut m st d) ∧ Keep (fun k => k = db) w w' := by
  have HC := hideT h
  have HL := hideT hl
  have HD := hideT hd
  have HNC := hideT hnc
  have h16 := items16 hl.1
  have hsl : ∀ k, (Cp.shutN m st d k).length = m.items.length := fun k => by rw [Cp.shut_len, hlen]
  have HSL := hideT hsl
  obtain ⟨n, hn⟩ : ∃ n, m.items.length = n := ⟨_, rfl⟩
  have HN := hideT hn
  rw [hn] at h16
  rw [hn]
  clear h hl hd hnc hn hsl
  go_enter Tryz.func86, Tryz.ntmps86
  go_wp2_with fail
  go_loopw [4] (fun i wr => ∃ k : Nat, 1 ≤ k ∧ k ≤ n ∧ i = .int .i64 k ∧ Hid (IR wr db (Cp.shutN m st d k) ∧ Keep (fun k => k = db) w wr)) (fun i _ => n - (intOf i).toNat)
  case atStart => exact ⟨1, by omega, by omega, rfl, by rw [Cp.shut_one]; exact HD.out, Keep.refl _ _⟩
  case round =>
    obtain ⟨k, hk1, hk, rfl, HW⟩ := hrel
    by_cases hlt : k < n
    rotate_left
    · have HE : Hid (IR wr db (Cp.shut m st d)) := by
        have h1 := HW.out.1
        have : k = m.items.length := by have := HN.out; omega
        rw [this] at h1
        exact h1
      go_wp2_with fail
      go_end0
      exact ⟨rfl, HE.out, HW.out.2⟩
    have HCW := hideT (HC.out.other HNC.out HW.out.2)
    have c0 := HCW.out.c0
    have c1 := HCW.out.c1
    have c2 := HCW.out.c2
    rw [HN.out] at c1 c2
    have hkm : k < m.items.length := by have := HN.out; omega
    have cs := HCW.out.cs hkm
    obtain ⟨a5, k5, a6, k6, I⟩ := HCW.out.item hkm
    have d2 := I.c2
    obtain ⟨hp1, hp2⟩ := Cp.par_lt HL.out.1 (by omega) hkm
    have HP := hideT hp1
    obtain ⟨p, hp⟩ : ∃ p, Cp.parI m k = p := ⟨_, rfl⟩
    rw [hp] at HP hp2
    have q0 : wr.cell? ⟨db, p, none⟩ = some (.int .i64 (Cp.at0 (Cp.shutN m st d k) p)) := HW.out.1.cell (by rw [HSL.out]; omega)
    have qk : wr.cell? ⟨db, k, none⟩ = some (.int .i64 (Cp.at0 (Cp.shutN m st d k) k)) := HW.out.1.cell (by rw [HSL.out]; omega)
    have HPP := hideT hp
    have HK := hideT hkm
    obtain ⟨x, hx⟩ : ∃ x, Cp.at0 (Cp.shutN m st d k) p = x := ⟨_, rfl⟩
    rw [hx] at q0
    have HX : Hid (Cp.at0 (Cp.shutN m st d k) (Cp.parI m k) = x) := by show _ = _; rw [HPP.out]; exact hx
    have HIT : Hid (IRow wr (.slice (some ⟨K.ib, K.io, none⟩) n K.ci) m.items) := by have := HCW.out.at.items; rw [HN.out] at this; exact this
    have t1 : (0 : Int) ≤ (k : Int) := by omega
    have t2 : (k : Int) < (n : Int) := by omega
    have t3 : (0 : Int) ≤ (p : Int) := by omega
    have t4 : (p : Int) < (n : Int) := by omega
    clear hp1 hp hx I hkm
    go_wp2_with fail
    go_region_held3 (fun w' => w'.cell? ⟨K.cb, 0, none⟩ = some (.slice K.af m.files.length K.cf) ∧ w'.cell? ⟨K.cb, 1, none⟩ = some (.slice (some ⟨K.ib, K.io, none⟩) n K.ci) ∧ w'.cell? ⟨K.ib, K.io + k * 7 + 2, none⟩ = some (.string (Cp.itm m k).parent) ∧ w'.cell? ⟨db, p, none⟩ = some (.int .i64 x)) (go_keep) (first
      | (go_at_call 41; refine (placeV' _ (.slice K.af m.files.length K.cf) (some ⟨K.ib, K.io, none⟩) n K.ci m.items (Cp.itm m k).parent (irow_below HIT.out (below_drewN (Below.refl _ wr) 1)) p HP).mono ?_; rintro e w1 ⟨rfl, b1⟩; have B1 := hideT ((below_drewN (Below.refl wr.heap.size wr) 1).trans b1); have z0 := below_cell B1.out _ _ c0; have z1 := below_cell B1.out _ _ c1; have z2 := below_cell B1.out _ _ d2; have z3 := below_cell B1.out _ _ q0; clear b1))
    all_goals
      have f2 := below_cell B1.out _ _ c2
      have fs := below_cell B1.out _ _ cs
      have HI1 : Hid (IR w1 db (Cp.shutN m st d k)) := Lies.below HW.out.1 B1.out
      have HK1 : Hid (Keep (fun k => k = db) w w1) := HW.out.2.trans (Keep.of_below B1.out)
      have fk : w1.cell? ⟨db, k, none⟩ = some (.int .i64 (Cp.at0 (Cp.shutN m st d k) k)) := below_cell B1.out _ _ qk
      have ff : w1.frozen? ⟨db, k, none⟩ = false := HI1.out.free k
      clear c0 c1 c2 cs d2 q0 qk z0 z1 z2 z3
      by_cases hx5 : x = 5 ∨ x = 3
      · have HY := hideT (Cp.shut_yes (m := m) (st := st) (d := d) (k := k) (by omega) (by rw [HX.out]; exact Cp.ends_iff.2 hx5))
        obtain ⟨b, hb⟩ : ∃ b, Cp.thereB (Cp.at0 st.s k) = b := ⟨_, rfl⟩
        have HBb := hideT hb
        obtain ⟨X, hX⟩ : ∃ X, w1.setCell ⟨db, k, none⟩ (.int .i64 0) = X := ⟨_, rfl⟩
        have XI : IR X db ((Cp.shutN m st d k).set k 0) := by rw [← hX]; exact HI1.out.set k 0
        have XK : Keep (fun k => k = db) w1 X := by rw [← hX]; exact Keep.set w1 _ _ rfl
        have XC := (HC.out.other HNC.out (HK1.out.trans XK))
        have e2 := XC.c2
        rw [HN.out] at e2
        have es := XC.cs HK.out
        have ek := XI.cell (i := k) (by rw [List.length_set, HSL.out]; exact HK.out)
        have ef := XI.free k
        have HXI := hideT XI
        have HXK := hideT (HK1.out.trans XK)
        clear XI XK XC hb
        rcases hx5 with rfl | rfl
        all_goals
          go_wp2_with fail
          refine (isThereD _ X b HBb).mono ?_
          rintro e w2 ⟨rfl, hw⟩
          obtain rfl := hw.symm
          cases b with
          | true =>
            have HF : Hid (IR (X.setCell ⟨db, k, none⟩ (.int .i64 5)) db (Cp.shutN m st d (k + 1))) := by
              have := HXI.out.set k 5
              rw [List.set_set] at this
              show IR _ _ _
              rw [HY.out, HBb.out]
              exact this
            have HG : Hid (Keep (fun k => k = db) w (X.setCell ⟨db, k, none⟩ (.int .i64 5))) := HXK.out.trans (Keep.set X _ _ rfl)
            go_wp2_with fail
            refine ⟨⟨k + 1, by omega, by omega, by go_num, HF.out, HG.out⟩, ?_⟩
            first | omega | (simp [intOf]; omega)
          | false =>
            have HF : Hid (IR X db (Cp.shutN m st d (k + 1))) := by
              show IR _ _ _
              rw [HY.out, HBb.out]
              exact HXI.out
            go_wp2_with fail
            refine ⟨⟨k + 1, by omega, by omega, by go_num, HF.out, HXK.out⟩, ?_⟩
            first | omega | (simp [intOf]; omega)
      · have u5 : (x != (5 : Int)) = true := bne_iff_ne.2 fun e => hx5 (.inl e)
        have u3 : (x != (3 : Int)) = true := bne_iff_ne.2 fun e => hx5 (.inr e)
        have HF : Hid (IR w1 db (Cp.shutN m st d (k + 1))) := by
          show IR _ _ _
          rw [Cp.shut_no (by rw [HX.out]; exact Bool.eq_false_iff.2 fun e => hx5 (Cp.ends_iff.1 e))]
          exact HI1.out
        clear hx5
        go_wp2_with fail
        refine ⟨⟨k + 1, by omega, by omega, by go_num, HF.out, HK1.out⟩, ?_⟩
        first | omega | (simp [intOf]; omega)
end
end Go.Proofs.YtpipjkbgbhefcaaGreat
