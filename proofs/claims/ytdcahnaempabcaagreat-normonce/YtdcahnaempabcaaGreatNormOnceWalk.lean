/-
  NormOnce: what may be stays so, and is in order once it was put in order.
-/
import Derived.Test.YtdcahnaempabcaaGreatNKnown
import Derived.Test.YtdcahnaempabcaaGreatPartS
import Derived.Test.YtdcahnaempabcaaGreatMLaw
set_option linter.unusedSimpArgs false
set_option linter.unusedVariables false
namespace Go.Proofs.YtdcahnaempabcaaGreat
open Go.RowKit
set_option maxRecDepth 100000
theorem isRefW (w : World) (m : Mp.Model) (af ai : Option Addr) (cf ci nf ni : Nat) (hm : ModelAt w af cf ai ci m) (hf : m.files.length = nf) (hi : m.items.length = ni) (b : Bool) (hb : Hid (Mp.isB m = b)) :
    Calls Tryz.prog 14 #[.agg #[.slice af nf cf, .slice ai ni ci]] w fun e w' => e = .returned (.bool b) ∧ Below w.heap.size w w' := by
  rw [← hf, ← hi]
  exact isRefV w m af ai cf ci hm b hb
theorem isNV (w : World) (m : Mp.Model) (af ai : Option Addr) (cf ci nf ni : Nat) (hm : ModelAt w af cf ai ci m) (hf : m.files.length = nf) (hi : m.items.length = ni) (b : Bool) (hb : Hid (isNB m = b)) :
    Calls Tryz.prog 10 #[.agg #[.slice af nf cf, .slice ai ni ci]] w fun e w' => e = .returned (.bool b) ∧ Below w.heap.size w w' := by
  rw [← hf, ← hi]
  exact isND w m af ai cf ci hm b hb
theorem isN_norm {m : Mp.Model} (h : Mp.isB m = true) : isNB (Np.normB m) = true := by
  unfold isNB
  rw [Np.isB_norm h, Np.normB_normB h, (Mp.eqM_iff _ _).2 rfl]
  rfl
theorem sameRefW (w : World) (p1 p2 q1 q2 : Option Addr) (c1 c2 d1 d2 nf ni : Nat) (x y : Mp.Model) (hx : ModelAt w p1 c1 p2 c2 x) (hy : ModelAt w q1 d1 q2 d2 y) (hf : y.files.length = nf) (hi : y.items.length = ni) (b : Bool) (hb : Hid (Mp.eqM x y = b)) :
    Calls Tryz.prog 15 #[.agg #[.slice p1 x.files.length c1, .slice p2 x.items.length c2], .agg #[.slice q1 nf d1, .slice q2 ni d2]] w fun e w' => e = .returned (.bool b) ∧ Below w.heap.size w w' := by
  rw [← hf, ← hi]
  exact refSameD w p1 p2 q1 q2 c1 c2 d1 d2 x y hx hy b hb
set_option maxHeartbeats 8000000 in
theorem normOnce_walk (af : Option Addr) (cf : Nat) (ai : Option Addr) (ci : Nat) (m : Mp.Model) {w : World} (hm : ModelAt w af cf ai ci m) :
    Calls Tryz.prog 4 #[.agg #[.slice af m.files.length cf, .slice ai m.items.length ci]] w fun e w' => e = .returned (.bool true) ∧ Below w.heap.size w w' := by
  obtain ⟨V, hV⟩ : ∃ V, w.alloc (.cells #[.slice af m.files.length cf, .slice ai m.items.length ci] 25) = V := ⟨_, rfl⟩
  have BV : Hid (Below w.heap.size w V) := by rw [← hV]; exact (Below.refl _ w).alloc (Nat.le_refl _) _
  have LV : Hid (Lies V w.heap.size 25 #[.slice af m.files.length cf, .slice ai m.items.length ci]) := by rw [← hV]; exact Lies.new _ _ _
  have HM := hideT (hm.below BV.out)
  have v0 : V.cell? ⟨w.heap.size, 0, none⟩ = some (.slice af m.files.length cf) := LV.out.cell 0
  have v1 : V.cell? ⟨w.heap.size, 1, none⟩ = some (.slice ai m.items.length ci) := LV.out.cell 1
  obtain ⟨bI, hI⟩ : ∃ bI, Hid (Mp.isB m = bI) := ⟨_, rfl⟩
  clear hm
  go_enter Tryz.func4, Tryz.ntmps4
  go_wp2_with fail
  refine (heavyD V m af ai cf ci HM.out).mono ?_
  rintro e w1 ⟨bh, rfl, _, p1⟩
  have B1 := hideT p1
  have L1 := hideT (LV.out.below p1)
  have x0 : w1.cell? ⟨w.heap.size, 0, none⟩ = some (.slice af m.files.length cf) := L1.out.cell 0
  have x1 : w1.cell? ⟨w.heap.size, 1, none⟩ = some (.slice ai m.items.length ci) := L1.out.cell 1
  clear p1 v0 v1
  cases bh
  rotate_left
  · go_wp2_with fail
    go_ret
    exact ⟨rfl, BV.out.trans (B1.out.mono BV.out.size)⟩
  go_wp2_with fail
  refine (isRefV w1 m af ai cf ci (HM.out.below B1.out) bI hI).mono ?_
  rintro e w2 ⟨rfl, p2⟩
  have B2 := hideT (B1.out.trans (p2.mono B1.out.size))
  have L2 := hideT (L1.out.below p2)
  have y0 : w2.cell? ⟨w.heap.size, 0, none⟩ = some (.slice af m.files.length cf) := L2.out.cell 0
  have y1 : w2.cell? ⟨w.heap.size, 1, none⟩ = some (.slice ai m.items.length ci) := L2.out.cell 1
  clear p2 x0 x1
  cases bI
  · go_wp2_with fail
    go_ret
    exact ⟨rfl, BV.out.trans (B2.out.mono BV.out.size)⟩
  have HN : Hid (normA m = Np.normB m) := normA_yes hI.out
  have HNN : Hid (normA (Np.normB m) = Np.normB m) := (normA_yes (Np.isB_norm hI.out)).trans (Np.normB_normB hI.out)
  have HIN : Hid (Mp.isB (Np.normB m) = true) := Np.isB_norm hI.out
  have HI2 : Hid (isNB (Np.normB m) = true) := isN_norm hI.out
  have HSQ : Hid (Mp.eqM (Np.normB m) (Np.normB m) = true) := (Mp.eqM_iff _ _).2 rfl
  have hlen : (Np.normB m).items.length = m.items.length := Np.itemsN_length (Np.parts_of hI.out).2.2.1
  obtain ⟨N, hNe⟩ : ∃ N, Np.normB m = N := ⟨_, rfl⟩
  rw [hNe] at HN HNN HIN HI2 HSQ hlen
  go_wp2_with fail
  refine (normalV w2 m af ai cf ci m.files.length m.items.length (HM.out.below B2.out) rfl rfl N HN).mono ?_
  rintro e w3 ⟨a3, c3, a4, c4, rfl, n3, p3⟩
  obtain ⟨nf, hnf⟩ : ∃ nf, N.files.length = nf := ⟨_, rfl⟩
  have N3 := hideT n3.here
  rw [hnf, hlen]
  have B3 := hideT (B2.out.trans (p3.mono B2.out.size))
  obtain ⟨U, hU⟩ : ∃ U, w3.alloc (.cells #[.slice a3 nf c3, .slice a4 m.items.length c4] 25) = U := ⟨_, rfl⟩
  have BU : Hid (Below w3.heap.size w3 U) := by rw [← hU]; exact (Below.refl _ _).alloc (Nat.le_refl _) _
  have LU : Lies U w3.heap.size 25 #[.slice a3 nf c3, .slice a4 m.items.length c4] := by rw [← hU]; exact Lies.new _ _ _
  have LM := (L2.out.below p3).below BU.out
  have NU := hideT (N3.out.below BU.out)
  have s0 : U.cell? ⟨w3.heap.size, 0, none⟩ = some (.slice a3 nf c3) := LU.cell 0
  have s1 : U.cell? ⟨w3.heap.size, 1, none⟩ = some (.slice a4 m.items.length c4) := LU.cell 1
  have s2 : U.cell? ⟨w.heap.size, 1, none⟩ = some (.slice ai m.items.length ci) := LM.cell 1
  have HNF := hideT hnf
  have HNI := hideT hlen
  clear n3 p3 y0 y1 LU LM hnf hlen hNe
  go_wp2_with fail
  go_region_held3 (fun w' => w'.cell? ⟨w3.heap.size, 0, none⟩ = some (.slice a3 nf c3) ∧ w'.cell? ⟨w3.heap.size, 1, none⟩ = some (.slice a4 m.items.length c4) ∧ w'.cell? ⟨w.heap.size, 1, none⟩ = some (.slice ai m.items.length ci)) (go_keep) (first
    | (go_at_call 14; refine (isRefW _ N a3 a4 c3 c4 nf m.items.length (NU.out.below (below_drewN (Below.refl _ U) 1)) HNF.out HNI.out true HIN).mono ?_; rintro e k1 ⟨rfl, r1⟩; have K1 : Below U.heap.size U k1 := (below_drewN (Below.refl _ U) 1).trans r1; have a1_0 := below_cell K1 _ _ s0; have a1_1 := below_cell K1 _ _ s1; have a1_2 := below_cell K1 _ _ s2)
    | (go_at_call 10; refine (isNV _ N a3 a4 c3 c4 nf m.items.length (NU.out.below K1) HNF.out HNI.out true HI2).mono ?_; rintro e k2 ⟨rfl, r2⟩; have K2 : Below U.heap.size U k2 := K1.trans (r2.mono K1.size); have a2_0 := below_cell K2 _ _ s0; have a2_1 := below_cell K2 _ _ s1; have a2_2 := below_cell K2 _ _ s2)
    | (go_at_call 16; refine (normalV _ N a3 a4 c3 c4 nf m.items.length (NU.out.below K2) HNF.out HNI.out N HNN).mono ?_; rintro e k3 ⟨a5, c5, a6, c6, rfl, n5, r3⟩; have K3 : Below U.heap.size U k3 := K2.trans (r3.mono K2.size); have a3_0 := below_cell K3 _ _ s0; have a3_1 := below_cell K3 _ _ s1; have a3_2 := below_cell K3 _ _ s2; have N5 := hideT n5.here)
    | (go_at_call 15; refine (sameRefW _ a5 a6 a3 a4 c5 c6 c3 c4 nf m.items.length N N N5.out (NU.out.below K3) HNF.out HNI.out true HSQ).mono ?_; rintro e k4 ⟨rfl, r4⟩; have K4 : Below U.heap.size U k4 := K3.trans (r4.mono K3.size); have a4_0 := below_cell K4 _ _ s0; have a4_1 := below_cell K4 _ _ s1; have a4_2 := below_cell K4 _ _ s2)
    | (go_at_call 18; refine (known7 _).mono ?_; rintro e k5 ⟨rfl, r5⟩; have K5 : Below U.heap.size U k5 := K4.trans (r5.mono K4.size); have a5_0 := below_cell K5 _ _ s0; have a5_1 := below_cell K5 _ _ s1; have a5_2 := below_cell K5 _ _ s2))
  have BK := hideT K5
  clear K1 K2 K3 K4 K5 r1 r2 r3 r4 r5 s0 s1 s2
  go_wp2_with fail
  go_ret
  exact ⟨rfl, ((BV.out.trans (B3.out.mono BV.out.size)).trans (BU.out.mono (Nat.le_trans BV.out.size B3.out.size))).trans (BK.out.mono (Nat.le_trans (Nat.le_trans BV.out.size B3.out.size) BU.out.size))⟩
end Go.Proofs.YtdcahnaempabcaaGreat
