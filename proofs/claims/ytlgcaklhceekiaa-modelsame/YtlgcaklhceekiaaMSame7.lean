/-
  The document's SameItems, Same.
-/
import Derived.Test.YtlgcaklhceekiaaMSame6
import Derived.Deep.RegionHeld3
set_option linter.unusedSimpArgs false
set_option linter.unusedVariables false
namespace Go.Proofs.Ytlgcaklhceekiaa
open Go.RowKit
set_option maxRecDepth 100000
set_option maxHeartbeats 4000000 in
theorem refItems (w : World) (a1 a2 : Option Addr) (n1 n2 c1 c2 : Nat) (la lb : List Mp.Item) (h1 : IRow w (.slice a1 n1 c1) la) (h2 : IRow w (.slice a2 n2 c2) lb) :
    Calls Try.prog 20 #[.slice a1 n1 c1, .slice a2 n2 c2] w fun e w' => e = .returned (.bool (Mp.eqIs la lb)) ∧ Below w.heap.size w w' := by
  obtain ⟨hn1, hl1, _, b1, o1, ha1, hc1⟩ := irow_at h1
  obtain ⟨hn2, hl2, _, b2, o2, ha2, hc2⟩ := irow_at h2
  have HN1 := hideT hn1
  have HN2 := hideT hn2
  have HC1 := hideT hc1
  have HA1 := hideT ha1
  have HC2 := hideT hc2
  have HA2 := hideT ha2
  clear hc1 ha1 hc2 ha2 h1 h2
  by_cases hne : n1 = n2
  rotate_left
  · have HF := hideT (Mp.eqIs_len (a := la) (b := lb) (by omega))
    have t2 : ((n1 : Int) != (n2 : Int)) = true := bne_iff_ne.2 (by omega)
    clear hn1 hn2
    go_enter Try.func20, Try.ntmps20
    go_wp2_with fail
    go_ret
    exact ⟨ret_b HF.out.symm, Below.refl _ _⟩
  subst hne
  clear hn1 hn2
  go_enter Try.func20, Try.ntmps20
  go_wp2_with fail
  go_loopw [5] (fun i wr => ∃ k : Nat, k ≤ n1 ∧ i = .int .i64 k ∧ Hid (∀ (j : Nat), j < k → la[j]? = lb[j]?) ∧ Hid (Below w.heap.size w wr)) (fun i _ => n1 - (intOf i).toNat)
  case atStart => exact ⟨0, by omega, rfl, (fun j hj => absurd hj (by omega)), Below.refl _ _⟩
  case round =>
    obtain ⟨k, hk, rfl, HB, HW⟩ := hrel
    by_cases hlt : k < n1
    · obtain ⟨⟨x0, x1, x2, x3, x4, x5, x6⟩, hx⟩ := Mp.at_lt (l := la) (k := k) (by have := HN1.out; omega)
      obtain ⟨⟨y0, y1, y2, y3, y4, y5, y6⟩, hy⟩ := Mp.at_lt (l := lb) (k := k) (by have := HN2.out; omega)
      obtain ⟨p5, c5, p6, c6, IX⟩ := HC1.out k _ hx
      obtain ⟨q5, d5, q6, d6, IY⟩ := HC2.out k _ hy
      have IX := IX.turn (below_cell HW.out)
      have IY := IY.turn (below_cell HW.out)
      obtain ⟨_, _, r1, r2, u0, u1, u2, u3, u4, u5, u6⟩ := IX
      obtain ⟨_, _, r3, r4, v0, v1, v2, v3, v4, v5, v6⟩ := IY
      dsimp only at r1 r2 r3 r4 u0 u1 u2 u3 u4 u5 u6 v0 v1 v2 v3 v4 v5 v6
      obtain rfl := HA1.out (by omega)
      obtain rfl := HA2.out (by omega)
      have HX := hideT hx
      have HY := hideT hy
      have BA := hideT (below_drewN (Below.refl wr.heap.size wr) 1)
      have BW := hideT (HW.out.trans (BA.out.mono HW.out.size))
      have R1 := hideT (srow_below r1 BA.out)
      have R2 := hideT (srow_below r2 BA.out)
      have R3 := hideT (srow_below r3 BA.out)
      have R4 := hideT (srow_below r4 BA.out)
      clear hx hy r1 r2 r3 r4
      have t0 : (0 : Int) ≤ (k : Int) := by omega
      have t1' : (k : Int) < (n1 : Int) := by omega
      obtain ⟨bb, H1⟩ : ∃ z, Hid (Mp.eqI ⟨x0, x1, x2, x3, x4, x5, x6⟩ ⟨y0, y1, y2, y3, y4, y5, y6⟩ = z) := ⟨_, rfl⟩
      go_wp2_with fail
      go_region_held3 (fun w' => w'.cell? ⟨b1, o1 + k * 7, none⟩ = some (.string x0) ∧ w'.cell? ⟨b1, o1 + k * 7 + 1, none⟩ = some (.int .i64 x1) ∧ w'.cell? ⟨b1, o1 + k * 7 + 2, none⟩ = some (.string x2) ∧ w'.cell? ⟨b1, o1 + k * 7 + 3, none⟩ = some (.bool x3) ∧ w'.cell? ⟨b1, o1 + k * 7 + 4, none⟩ = some (.int .i64 x4) ∧ w'.cell? ⟨b1, o1 + k * 7 + 5, none⟩ = some (.slice p5 x5.length c5) ∧ w'.cell? ⟨b1, o1 + k * 7 + 6, none⟩ = some (.slice p6 x6.length c6) ∧ w'.cell? ⟨b2, o2 + k * 7, none⟩ = some (.string y0) ∧ w'.cell? ⟨b2, o2 + k * 7 + 1, none⟩ = some (.int .i64 y1) ∧ w'.cell? ⟨b2, o2 + k * 7 + 2, none⟩ = some (.string y2) ∧ w'.cell? ⟨b2, o2 + k * 7 + 3, none⟩ = some (.bool y3) ∧ w'.cell? ⟨b2, o2 + k * 7 + 4, none⟩ = some (.int .i64 y4) ∧ w'.cell? ⟨b2, o2 + k * 7 + 5, none⟩ = some (.slice q5 y5.length d5) ∧ w'.cell? ⟨b2, o2 + k * 7 + 6, none⟩ = some (.slice q6 y6.length d6)) (go_keep) ((go_at_call 7; refine (refItemD _ x0 y0 x1 y1 x2 y2 x3 y3 x4 y4 x5 y5 x6 y6 p5 p6 q5 q6 c5 c6 d5 d6 R1.out R2.out R3.out R4.out bb H1).mono ?_; rintro e w1 ⟨rfl, p⟩; have q3 : Below wr.heap.size wr w1 := (below_drewN (Below.refl _ wr) 1).trans p; have zu0 := below_cell q3 _ _ u0; have zu1 := below_cell q3 _ _ u1; have zu2 := below_cell q3 _ _ u2; have zu3 := below_cell q3 _ _ u3; have zu4 := below_cell q3 _ _ u4; have zu5 := below_cell q3 _ _ u5; have zu6 := below_cell q3 _ _ u6; have zv0 := below_cell q3 _ _ v0; have zv1 := below_cell q3 _ _ v1; have zv2 := below_cell q3 _ _ v2; have zv3 := below_cell q3 _ _ v3; have zv4 := below_cell q3 _ _ v4; have zv5 := below_cell q3 _ _ v5; have zv6 := below_cell q3 _ _ v6))
      have BW1 := hideT (HW.out.trans (q3.mono HW.out.size))
      clear p q3 u0 u1 u2 u3 u4 u5 u6 v0 v1 v2 v3 v4 v5 v6 zu0 zu1 zu2 zu3 zu4 zu5 zu6 zv0 zv1 zv2 zv3 zv4 zv5 zv6
      cases bb
      · have HF := hideT (Mp.eqIs_at HX.out HY.out H1.out)
        go_wp2_with fail
        go_ret
        exact ⟨ret_b HF.out.symm, BW1.out⟩
      · have HR : Hid (∀ (j : Nat), j < k + 1 → la[j]? = lb[j]?) := by
          intro j hj
          by_cases hj' : j < k
          · exact HB.out j hj'
          · obtain rfl : j = k := by omega
            rw [HX.out, HY.out, (Mp.eqI_iff _ _).1 H1.out]
        go_wp2_with fail
        refine ⟨⟨k + 1, by omega, by go_num, HR, BW1⟩, ?_⟩
        first | omega | (simp [intOf]; omega)
    · have HF := hideT (Mp.eqIs_all HN1.out HN2.out (fun j hj => HB.out j (by omega)))
      go_wp2_with fail
      go_ret
      exact ⟨ret_b HF.out.symm, HW.out⟩
end Go.Proofs.Ytlgcaklhceekiaa
