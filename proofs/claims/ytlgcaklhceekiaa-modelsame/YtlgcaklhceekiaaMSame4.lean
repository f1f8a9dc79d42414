/-
  The program's Same.
-/
import Derived.Test.YtlgcaklhceekiaaMSame3
set_option linter.unusedSimpArgs false
set_option linter.unusedVariables false
namespace Go.Proofs.Ytlgcaklhceekiaa
open Go.RowKit
set_option maxRecDepth 100000
set_option maxHeartbeats 4000000 in
theorem equalFuncI (w : World) (a1 a2 : Option Addr) (n1 n2 c1 c2 : Nat) (la lb : List Mp.Item) (h1 : IRow w (.slice a1 n1 c1) la) (h2 : IRow w (.slice a2 n2 c2) lb) :
    Calls Try.prog 18 #[.slice a1 n1 c1, .slice a2 n2 c2, .func (.func 6) #[] #[]] w fun e w' => e = .returned (.bool (Mp.eqIs la lb)) ∧ Below w.heap.size w w' := by
  obtain ⟨hn1, hl1, _, b1, o1, ha1, hc1⟩ := irow_at h1
  obtain ⟨hn2, hl2, _, b2, o2, ha2, hc2⟩ := irow_at h2
  have HN1 := hideT hn1
  have HN2 := hideT hn2
  have HC1 := hideT hc1
  have HA1 := hideT ha1
  have HC2 := hideT hc2
  have HA2 := hideT ha2
  clear hc1 ha1 hc2 ha2 h1 h2
  by_cases hne : n1 = n2
  rotate_left
  · have HF := hideT (Mp.eqIs_len (a := la) (b := lb) (by omega))
    have t2 : ((n1 : Int) != (n2 : Int)) = true := bne_iff_ne.2 (by omega)
    clear hn1 hn2
    go_enter Try.func18, Try.ntmps18
    go_wp2_with fail
    go_ret
    exact ⟨ret_b HF.out.symm, Below.refl _ _⟩
  subst hne
  clear hn1 hn2
  go_enter Try.func18, Try.ntmps18
  go_wp2_with fail
  go_loopw [17] (fun i wr => ∃ k : Nat, k ≤ n1 ∧ i = .int .i64 k ∧ Hid (∀ (j : Nat), j < k → la[j]? = lb[j]?) ∧ Hid (Below w.heap.size w wr)) (fun i _ => n1 - (intOf i).toNat)
  case atStart => exact ⟨0, by omega, rfl, (fun j hj => absurd hj (by omega)), Below.refl _ _⟩
  case round =>
    obtain ⟨k, hk, rfl, HB, HW⟩ := hrel
    by_cases hlt : k < n1
    · obtain ⟨⟨x0, x1, x2, x3, x4, x5, x6⟩, hx⟩ := Mp.at_lt (l := la) (k := k) (by have := HN1.out; omega)
      obtain ⟨⟨y0, y1, y2, y3, y4, y5, y6⟩, hy⟩ := Mp.at_lt (l := lb) (k := k) (by have := HN2.out; omega)
      obtain ⟨p5, c5, p6, c6, IX⟩ := HC1.out k _ hx
      obtain ⟨q5, d5, q6, d6, IY⟩ := HC2.out k _ hy
      have IX := IX.turn (below_cell HW.out)
      have IY := IY.turn (below_cell HW.out)
      obtain ⟨_, _, r1, r2, u0, u1, u2, u3, u4, u5, u6⟩ := IX
      obtain ⟨_, _, r3, r4, v0, v1, v2, v3, v4, v5, v6⟩ := IY
      dsimp only at r1 r2 r3 r4 u0 u1 u2 u3 u4 u5 u6 v0 v1 v2 v3 v4 v5 v6
      obtain rfl := HA1.out (by omega)
      obtain rfl := HA2.out (by omega)
      have HX := hideT hx
      have HY := hideT hy
      have BA := hideT (((Below.refl wr.heap.size wr).alloc (Nat.le_refl _) (.cells #[.string x0, .int .i64 x1, .string x2, .bool x3, .int .i64 x4, .slice p5 x5.length c5, .slice p6 x6.length c6] 29)).alloc (by simp) (.cells #[.string y0, .int .i64 y1, .string y2, .bool y3, .int .i64 y4, .slice q5 y5.length d5, .slice q6 y6.length d6] 29))
      have BW := hideT (HW.out.trans (BA.out.mono HW.out.size))
      have R1 := hideT (srow_below r1 BA.out)
      have R2 := hideT (srow_below r2 BA.out)
      have R3 := hideT (srow_below r3 BA.out)
      have R4 := hideT (srow_below r4 BA.out)
      have y0' := cell_lt v0
      clear hx hy r1 r2 r3 r4
      have t0 : (0 : Int) ≤ (k : Int) := by omega
      have t1' : (k : Int) < (n1 : Int) := by omega
      obtain ⟨bb, H1⟩ : ∃ z, Hid (Mp.eqI ⟨x0, x1, x2, x3, x4, x5, x6⟩ ⟨y0, y1, y2, y3, y4, y5, y6⟩ = z) := ⟨_, rfl⟩
      go_wp2_with fail
      refine (sameItemD _ x0 y0 x1 y1 x2 y2 x3 y3 x4 y4 x5 y5 x6 y6 p5 p6 q5 q6 c5 c6 d5 d6 R1.out R2.out R3.out R4.out bb H1).mono ?_
      rintro e w1 ⟨rfl, p⟩
      have BW1 := hideT (BW.out.trans (p.mono BW.out.size))
      clear p u0 u1 u2 u3 u4 u5 u6 v0 v1 v2 v3 v4 v5 v6
      cases bb
      · have HF := hideT (Mp.eqIs_at HX.out HY.out H1.out)
        go_wp2_with fail
        go_ret
        exact ⟨ret_b HF.out.symm, BW1.out⟩
      · have HR : Hid (∀ (j : Nat), j < k + 1 → la[j]? = lb[j]?) := by
          intro j hj
          by_cases hj' : j < k
          · exact HB.out j hj'
          · obtain rfl : j = k := by omega
            rw [HX.out, HY.out, (Mp.eqI_iff _ _).1 H1.out]
        go_wp2_with fail
        refine ⟨⟨k + 1, by omega, by go_num, HR, BW1⟩, ?_⟩
        first | omega | (simp [intOf]; omega)
    · have HF := hideT (Mp.eqIs_all HN1.out HN2.out (fun j hj => HB.out j (by omega)))
      go_wp2_with fail
      go_ret
      exact ⟨ret_b HF.out.symm, HW.out⟩
theorem equalSV (w : World) (a1 a2 : Option Addr) (n1 n2 c1 c2 : Nat) (la lb : List ByteArray) (h1 : FRow w (.slice a1 n1 c1) la) (h2 : FRow w (.slice a2 n2 c2) lb) (b : Bool) (hb : Hid (decide (la = lb) = b)) :
    Calls Try.prog 17 #[.slice a1 n1 c1, .slice a2 n2 c2] w fun e w' => e = .returned (.bool b) ∧ Below w.heap.size w w' := by
  rw [← hb.out]
  exact equalS w a1 a2 n1 n2 c1 c2 la lb h1 h2
theorem sameD (w : World) (p1 p2 q1 q2 : Option Addr) (c1 c2 d1 d2 : Nat) (x y : Mp.Model) (hx : ModelAt w p1 c1 p2 c2 x) (hy : ModelAt w q1 d1 q2 d2 y) (b : Bool) (hb : Hid (Mp.eqM x y = b)) :
    Calls Try.prog 10 #[.agg #[.slice p1 x.files.length c1, .slice p2 x.items.length c2], .agg #[.slice q1 y.files.length d1, .slice q2 y.items.length d2]] w fun e w' => e = .returned (.bool b) ∧ Below w.heap.size w w' := by
  obtain ⟨s1, s2⟩ := x
  obtain ⟨t1, t2⟩ := y
  obtain ⟨h1, h2⟩ := hx
  obtain ⟨k1, k2⟩ := hy
  dsimp only at h1 h2 k1 k2
  obtain ⟨b1, H1⟩ : ∃ y, Hid (decide (s1 = t1) = y) := ⟨_, rfl⟩
  obtain ⟨b2, H2⟩ : ∃ y, Hid (Mp.eqIs s2 t2 = y) := ⟨_, rfl⟩
  have HF : Hid (b = (b1 && b2)) := by show _ = _; rw [← hb.out, ← H1.out, ← H2.out]; rfl
  have R1 := hideT h1
  have R2 := hideT h2
  have K1 := hideT k1
  have K2 := hideT k2
  clear h1 h2 k1 k2
  have B0 := hideT (((Below.refl w.heap.size w).alloc (Nat.le_refl _) (.cells #[.slice p1 s1.length c1, .slice p2 s2.length c2] 25)).alloc (by simp) (.cells #[.slice q1 t1.length d1, .slice q2 t2.length d2] 25))
  have LA := hideT ((Lies.new w 25 #[.slice p1 s1.length c1, .slice p2 s2.length c2]).below ((Below.refl _ _).alloc (Nat.le_refl _) (.cells #[.slice q1 t1.length d1, .slice q2 t2.length d2] 25)))
  have LB : Hid (Lies ((w.alloc (.cells #[.slice p1 s1.length c1, .slice p2 s2.length c2] 25)).alloc (.cells #[.slice q1 t1.length d1, .slice q2 t2.length d2] 25)) (w.heap.size + 1) 25 #[.slice q1 t1.length d1, .slice q2 t2.length d2]) := by
    have := Lies.new (w.alloc (.cells #[.slice p1 s1.length c1, .slice p2 s2.length c2] 25)) 25 #[.slice q1 t1.length d1, .slice q2 t2.length d2]
    rwa [show (w.alloc (.cells #[.slice p1 s1.length c1, .slice p2 s2.length c2] 25)).heap.size = w.heap.size + 1 by simp] at this
  go_enter Try.func10, Try.ntmps10
  go_wp2_with fail
  refine (equalSV _ _ _ _ _ _ _ s1 t1 (frow_below R1.out B0.out) (frow_below K1.out B0.out) b1 H1).mono ?_
  rintro e w1 ⟨rfl, p⟩
  have B1 := hideT (B0.out.trans (p.mono B0.out.size))
  cases b1
  · go_wp2_with fail
    go_ret
    exact ⟨ret_b (by rw [HF.out]; rfl), B1.out⟩
  have x1 : w1.cell? ⟨w.heap.size, 1, none⟩ = some (.slice p2 s2.length c2) := (LA.out.below p).cell 1
  have x2 : w1.cell? ⟨w.heap.size + 1, 1, none⟩ = some (.slice q2 t2.length d2) := (LB.out.below p).cell 1
  clear p
  go_wp2_with fail
  refine (equalFuncI _ _ _ _ _ _ _ s2 t2 (irow_below R2.out B1.out) (irow_below K2.out B1.out)).mono ?_
  rintro e w2 ⟨rfl, p2'⟩
  go_wp2_with fail
  go_ret
  exact ⟨ret_b (by rw [HF.out, H2.out]; rfl), B1.out.trans (p2'.mono B1.out.size)⟩
end Go.Proofs.Ytlgcaklhceekiaa
