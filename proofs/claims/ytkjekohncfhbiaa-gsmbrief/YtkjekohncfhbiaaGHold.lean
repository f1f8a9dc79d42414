/-
  Whether what is asked for holds: flags, conditions, rules. (Written by GHold.py.)
-/
import Derived.Test.YtkjekohncfhbiaaPartG
import Derived.Shelf.Abstract
set_option linter.unusedSimpArgs false
set_option linter.unusedVariables false
namespace Go.Proofs.Ytkjekohncfhbiaa
open Go.RowKit
set_option maxRecDepth 100000
namespace Gp
theorem any_takeG {α : Type} {l : List α} {p : α → Bool} {k : Nat} {x : α} (h : l[k]? = some x) (hb : (l.take k).any p = false) (hx : p x = false) : (l.take (k + 1)).any p = false := by
  rw [Mp.take_at h, List.any_append, hb]
  simp [hx]
theorem any_yesG {α : Type} {l : List α} {p : α → Bool} {k : Nat} {x : α} (h : l[k]? = some x) (hx : p x = true) : l.any p = true := List.any_eq_true.2 ⟨x, List.mem_of_getElem? h, hx⟩
theorem any_allG {α : Type} {l : List α} {p : α → Bool} {k : Nat} (hk : l.length ≤ k) (hb : (l.take k).any p = false) : l.any p = false := by rwa [List.take_of_length_le hk] at hb
end Gp
abbrev capG (f : Nat) (fb : Nat) : Value := .func (.func f) #[] #[.pointer (some ⟨fb, 0, none⟩)]
abbrev methG (f : Nat) (fb : Nat) : Value := .func (.func f) #[.pointer (some ⟨fb, 0, none⟩)] #[]
def GB (b : Bool) (w : World) (e : Ending) (w' : World) : Prop := e = .returned (.bool b) ∧ Below w.heap.size w w'
def GIx (b : Bool) (w : World) (e : Ending) (w' : World) : Prop := ∃ z : Int, e = .returned (.int .i64 z) ∧ decide (0 ≤ z) = b ∧ Below w.heap.size w w'
/-- A state's cells. -/
abbrev stC (fb nb cb F N C : Nat) : Array Value := #[.slice (some ⟨fb, 0, none⟩) F F, .slice (some ⟨nb, 0, none⟩) N N, .slice (some ⟨cb, 0, none⟩) C C]
theorem isNaNG (a : Int) (w : World) : Calls Try.prog 93 #[.int .i64 a] w fun e w' => e = .returned (.bool false) ∧ w' = w := by
  go_enter Try.func93, Try.ntmps93
  go_wp2_with fail
  go_ret
  exact ⟨ret_b (by simp), rfl⟩
def cmpZ (a b : Int) : Int := if a < b then -1 else if a = b then 0 else 1
set_option maxHeartbeats 1000000 in
theorem compareG (a b : Int) (w : World) : Calls Try.prog 92 #[.int .i64 a, .int .i64 b] w fun e w' => e = .returned (.int .i64 (cmpZ a b)) ∧ w' = w := by
  have HZ : Hid (∀ z, z = cmpZ a b → Ending.returned (.int .i64 z) = .returned (.int .i64 (cmpZ a b))) := fun z hz => by rw [hz]
  by_cases h1 : a < b
  · have HR : Hid (-1 = cmpZ a b) := by show _ = _; unfold cmpZ; rw [if_pos h1]
    have h2 : ¬ b < a := by omega
    go_enter Try.func92, Try.ntmps92
    go_wp2_with fail
    refine (isNaNG a w).mono ?_
    rintro e w1 ⟨rfl, rfl⟩
    go_wp2_with fail
    refine (isNaNG b w1).mono ?_
    rintro e w1 ⟨rfl, rfl⟩
    go_wp2_with fail
    go_ret
    exact ⟨HZ.out _ HR.out, rfl⟩
  · by_cases h2 : b < a
    · have HR : Hid (1 = cmpZ a b) := by show _ = _; unfold cmpZ; rw [if_neg h1, if_neg (by omega)]
      go_enter Try.func92, Try.ntmps92
      go_wp2_with fail
      refine (isNaNG a w).mono ?_
      rintro e w1 ⟨rfl, rfl⟩
      go_wp2_with fail
      refine (isNaNG b w1).mono ?_
      rintro e w1 ⟨rfl, rfl⟩
      go_wp2_with fail
      go_ret
      exact ⟨HZ.out _ HR.out, rfl⟩
    · have HR : Hid (0 = cmpZ a b) := by show _ = _; unfold cmpZ; rw [if_neg h1, if_pos (by omega)]
      go_enter Try.func92, Try.ntmps92
      go_wp2_with fail
      refine (isNaNG a w).mono ?_
      rintro e w1 ⟨rfl, rfl⟩
      go_wp2_with fail
      refine (isNaNG b w1).mono ?_
      rintro e w1 ⟨rfl, rfl⟩
      go_wp2_with fail
      go_ret
      exact ⟨HZ.out _ HR.out, rfl⟩
theorem compareGV (a b : Int) (w : World) (z : Int) (h : Hid (cmpZ a b = z)) : Calls Try.prog 92 #[.int .i64 a, .int .i64 b] w fun e w' => e = .returned (.int .i64 z) ∧ w' = w := by
  rw [← h.out]
  exact compareG a b w
/-- Whether a flag is not as it is asked for. -/
theorem litIsD (w : World) (x : Int) (y : Bool) (sb fb nb cb F N C : Nat) (fl : List Bool) (hs : Lies w sb 72 (stC fb nb cb F N C)) (hf : FlagR w fb fl) (hF : fl.length = F) (h0 : 0 ≤ x) (h1 : x < (F : Int)) (b : Bool) (hb : Hid (Gp.litIs fl (x, y) = b)) :
    Calls Try.prog 77 #[.agg #[.int .i64 x, .bool y], .pointer (some ⟨sb, 0, none⟩)] w (GB b w) := by
  obtain ⟨k, rfl⟩ : ∃ k : Nat, x = k := ⟨x.toNat, by omega⟩
  have B0 := hideT ((Below.refl w.heap.size w).alloc (Nat.le_refl _) (.cells #[.int .i64 k, .bool y] 54))
  have c0 : w.cell? ⟨sb, 0, none⟩ = some (.slice (some ⟨fb, 0, none⟩) F F) := hs.cell 0
  have c1 : w.cell? ⟨fb, k, none⟩ = some (.bool (Gp.atB fl k)) := by
    have := hf.at h0 (by rw [hF]; exact h1)
    rwa [show ((k : Int)).toNat = k by omega] at this
  have l0 := cell_lt c0
  have l1 := cell_lt c1
  have HB : Hid ((Gp.atB fl k == y) = b) := hb
  obtain ⟨g, hg⟩ : ∃ g, Gp.atB fl k = g := ⟨_, rfl⟩
  rw [hg] at c1 HB
  clear hs hf hF hb hg
  go_enter Try.func77, Try.ntmps77
  go_wp2_with fail
  go_quiet (fail)
  go_wp2_with fail
  go_ret
  exact ⟨ret_b HB.out, below_drewN B0.out _⟩
theorem condHD (w : World) (x : Gp.KC) (nb N : Nat) (nums : List Int) (hf : IntR w nb nums) (hN : nums.length = N) (h0 : 0 ≤ x.1) (h1 : x.1 < (N : Int)) (b : Bool) (hb : Hid (Gp.condH nums x = b)) :
    Calls Try.prog 88 #[.agg #[.int .i64 x.1, .int .i64 x.2.1, .bool x.2.2.1, .bool x.2.2.2.1, .bool x.2.2.2.2], .slice (some ⟨nb, 0, none⟩) N N] w (GB b w) := by
  obtain ⟨p, q, u1, u2, u3⟩ := x
  dsimp only at h0 h1 ⊢
  obtain ⟨k, rfl⟩ : ∃ k : Nat, p = k := ⟨p.toNat, by omega⟩
  have B0 := hideT ((Below.refl w.heap.size w).alloc (Nat.le_refl _) (.cells #[.int .i64 k, .int .i64 q, .bool u1, .bool u2, .bool u3] 123))
  have c1 : w.cell? ⟨nb, k, none⟩ = some (.int .i64 (Gp.atZ nums k)) := by
    have := hf.at h0 (by rw [hN]; exact h1)
    rwa [show ((k : Int)).toNat = k by omega] at this
  have l1 := cell_lt c1
  obtain ⟨g, hg⟩ : ∃ g, Gp.atZ nums k = g := ⟨_, rfl⟩
  have HB : Hid ((if g < q then u1 else if g = q then u2 else u3) = b) := by have := hb.out; rw [← hg]; exact this
  rw [hg] at c1
  clear hf hN hb hg
  by_cases e1 : g < q
  · have HR : Hid (u1 = b) := by have := HB.out; rwa [if_pos e1] at this
    have HC : Hid (cmpZ g q = -1) := by show _ = _; unfold cmpZ; rw [if_pos e1]
    clear e1 HB
    go_enter Try.func88, Try.ntmps88
    go_wp2_with fail
    go_quiet ((go_at_call 92; exact Calls.quiet_of_same (compareGV g q _ _ HC)))
    go_wp2_with fail
    go_ret
    exact ⟨ret_b HR.out, below_drewN B0.out _⟩
  by_cases e2 : g = q
  · have HR : Hid (u2 = b) := by have := HB.out; rwa [if_neg e1, if_pos e2] at this
    have HC : Hid (cmpZ g q = 0) := by show _ = _; unfold cmpZ; rw [if_neg e1, if_pos e2]
    clear e1 e2 HB
    go_enter Try.func88, Try.ntmps88
    go_wp2_with fail
    go_quiet ((go_at_call 92; exact Calls.quiet_of_same (compareGV g q _ _ HC)))
    go_wp2_with fail
    go_ret
    exact ⟨ret_b HR.out, below_drewN B0.out _⟩
  · have HR : Hid (u3 = b) := by have := HB.out; rwa [if_neg e1, if_neg e2] at this
    have HC : Hid (cmpZ g q = 1) := by show _ = _; unfold cmpZ; rw [if_neg e1, if_neg e2]
    clear e1 e2 HB
    go_enter Try.func88, Try.ntmps88
    go_wp2_with fail
    go_quiet ((go_at_call 92; exact Calls.quiet_of_same (compareGV g q _ _ HC)))
    go_wp2_with fail
    go_ret
    exact ⟨ret_b HR.out, below_drewN B0.out _⟩
theorem condND (w : World) (x : Gp.KC) (sb fb nb cb F N C : Nat) (nums : List Int) (hs : Lies w sb 72 (stC fb nb cb F N C)) (hf : IntR w nb nums) (hN : nums.length = N) (h0 : 0 ≤ x.1) (h1 : x.1 < (N : Int)) (b : Bool) (hb : Hid (Gp.condN nums x = b)) :
    Calls Try.prog 87 #[.agg #[.int .i64 x.1, .int .i64 x.2.1, .bool x.2.2.1, .bool x.2.2.2.1, .bool x.2.2.2.2], .pointer (some ⟨sb, 0, none⟩)] w (GB b w) := by
  have B0 := hideT ((Below.refl w.heap.size w).alloc (Nat.le_refl _) (.cells #[.int .i64 x.1, .int .i64 x.2.1, .bool x.2.2.1, .bool x.2.2.2.1, .bool x.2.2.2.2] 123))
  have c1 : w.cell? ⟨sb, 1, none⟩ = some (.slice (some ⟨nb, 0, none⟩) N N) := hs.cell 1
  have l1 := cell_lt c1
  have HN := hideT (hf.below B0.out)
  have HNN := hideT hN
  have H0 := hideT h0
  have H1 := hideT h1
  obtain ⟨g, hg⟩ : ∃ g, Hid (Gp.condH nums x = g) := ⟨_, rfl⟩
  have HB : Hid ((!g) = b) := by have := hb.out; unfold Gp.condN at this; rwa [hg.out] at this
  clear hs hf hN hb h0 h1
  go_enter Try.func87, Try.ntmps87
  go_wp2_with fail
  refine (condHD _ x nb N nums HN.out HNN.out H0.out H1.out g hg).mono ?_
  rintro e w1 ⟨rfl, b1⟩
  go_wp2_with fail
  go_ret
  exact ⟨ret_b HB.out, B0.out.trans (b1.mono B0.out.size)⟩
set_option maxHeartbeats 1000000 in
theorem indexGL (w : World) (ao : Option Addr) (n cap : Nat) (l : List Rp.Lit) (h : LRow w (.slice ao n cap) l) (sb fb nb cb F N C : Nat) (fl : List Bool) (hs : Lies w sb 72 (stC fb nb cb F N C)) (hf : FlagR w fb fl) (hF : fl.length = F) (hin : Gp.LitsIn F l) :
    Calls Try.prog 84 #[.slice ao n cap, capG 77 sb] w (GIx (l.any (Gp.litIs fl)) w) := by
  obtain ⟨hn, hl, hcap, b, o, ha, hc⟩ := lrow_at h
  have HN := hideT hn
  have HC := hideT hc
  have HA := hideT ha
  have HS := hideT hs
  have HFl := hideT hf
  have HFF := hideT hF
  have HIN := hideT hin
  clear hn hc ha h hs hf hF hin
  go_enter Try.func84, Try.ntmps84
  go_wp2_with fail
  go_loopw [8] (fun i wr => ∃ k : Nat, k ≤ n ∧ i = .int .i64 k ∧ Hid ((l.take k).any (Gp.litIs fl) = false) ∧ Hid (Below w.heap.size w wr)) (fun i _ => n - (intOf i).toNat)
  case atStart => exact ⟨0, by omega, rfl, rfl, Below.refl _ _⟩
  case round =>
    obtain ⟨k, hk, rfl, HB, HW⟩ := hrel
    by_cases hlt : k < n
    · obtain ⟨⟨x, y⟩, hx⟩ := Mp.at_lt (l := l) (k := k) (by have := HN.out; omega)
      obtain ⟨d0, d1⟩ := HC.out k _ hx
      dsimp only at d0 d1
      have d0 := below_cell HW.out _ _ d0
      have d1 := below_cell HW.out _ _ d1
      obtain rfl := HA.out (by omega)
      have HX := hideT hx
      have HI := hideT (HIN.out _ (List.mem_of_getElem? hx))
      obtain ⟨bb, HBB⟩ : ∃ z, Hid ((Gp.litIs fl) (x, y) = z) := ⟨_, rfl⟩
      have t1 : (0 : Int) ≤ (k : Int) := by omega
      have t2 : (k : Int) < (n : Int) := by omega
      clear hx
      go_wp2_with fail
      refine (litIsD wr x y sb fb nb cb F N C fl (HS.out.below HW.out) (HFl.out.below HW.out) HFF.out HI.out.1 HI.out.2 bb HBB).mono ?_
      rintro e w1 ⟨rfl, b1⟩
      have HW1 := hideT (HW.out.trans (b1.mono HW.out.size))
      clear b1 d0 d1
      cases bb with
      | true =>
        have HF : Hid (decide ((0 : Int) ≤ (k : Int)) = l.any (Gp.litIs fl)) := by
          show _ = _
          rw [Gp.any_yesG HX.out HBB.out]
          exact decide_eq_true (by omega)
        go_wp2_with fail
        go_ret
        exact ⟨k, rfl, HF.out, HW1.out⟩
      | false =>
        have HR := hideT (Gp.any_takeG HX.out HB.out HBB.out)
        go_wp2_with fail
        refine ⟨⟨k + 1, by omega, by go_num, HR, HW1⟩, ?_⟩
        first | omega | (simp [intOf]; omega)
    · have HF : Hid (decide ((0 : Int) ≤ -1) = l.any (Gp.litIs fl)) := by
        show _ = _
        rw [Gp.any_allG (by have := HN.out; omega) HB.out]
        rfl
      go_wp2_with fail
      go_ret
      exact ⟨-1, rfl, HF.out, HW.out⟩
theorem containsGL (w : World) (ao : Option Addr) (n cap : Nat) (l : List Rp.Lit) (h : LRow w (.slice ao n cap) l) (sb fb nb cb F N C : Nat) (fl : List Bool) (hs : Lies w sb 72 (stC fb nb cb F N C)) (hf : FlagR w fb fl) (hF : fl.length = F) (hin : Gp.LitsIn F l) (b : Bool) (hb : Hid (l.any (Gp.litIs fl) = b)) :
    Calls Try.prog 76 #[.slice ao n cap, capG 77 sb] w (GB b w) := by
  have HI := hideT (indexGL w ao n cap l h sb fb nb cb F N C fl hs hf hF hin)
  clear h hs hf hF hin
  go_enter Try.func76, Try.ntmps76
  go_wp2_with fail
  refine HI.out.mono ?_
  rintro e w1 ⟨z, rfl, hz, b1⟩
  rw [hb.out] at hz
  have HB1 := hideT b1
  clear b1
  cases b with
  | true =>
    have t : (0 : Int) ≤ z := of_decide_eq_true hz
    clear hz
    go_wp2_with fail
    go_ret
    exact ⟨ret_b (by first | (simp; done) | (simp; omega)), HB1.out⟩
  | false =>
    have t : z < 0 := by have := of_decide_eq_false hz; omega
    clear hz
    go_wp2_with fail
    go_ret
    exact ⟨ret_b (by first | (simp; done) | (simp; omega)), HB1.out⟩
set_option maxHeartbeats 1000000 in
theorem indexGC (w : World) (ao : Option Addr) (n cap : Nat) (l : List Gp.KC) (h : KCRow w (.slice ao n cap) l) (sb fb nb cb F N C : Nat) (nums : List Int) (hs : Lies w sb 72 (stC fb nb cb F N C)) (hf : IntR w nb nums) (hF : nums.length = N) (hin : Gp.KCIn N l) :
    Calls Try.prog 91 #[.slice ao n cap, capG 87 sb] w (GIx (l.any (Gp.condN nums)) w) := by
  obtain ⟨hn, hl, hcap, b, o, ha, hc⟩ := kcrow_at h
  have HN := hideT hn
  have HC := hideT hc
  have HA := hideT ha
  have HS := hideT hs
  have HFl := hideT hf
  have HFF := hideT hF
  have HIN := hideT hin
  clear hn hc ha h hs hf hF hin
  go_enter Try.func91, Try.ntmps91
  go_wp2_with fail
  go_loopw [8] (fun i wr => ∃ k : Nat, k ≤ n ∧ i = .int .i64 k ∧ Hid ((l.take k).any (Gp.condN nums) = false) ∧ Hid (Below w.heap.size w wr)) (fun i _ => n - (intOf i).toNat)
  case atStart => exact ⟨0, by omega, rfl, rfl, Below.refl _ _⟩
  case round =>
    obtain ⟨k, hk, rfl, HB, HW⟩ := hrel
    by_cases hlt : k < n
    · obtain ⟨⟨x, y1, y2, y3, y4⟩, hx⟩ := Mp.at_lt (l := l) (k := k) (by have := HN.out; omega)
      obtain ⟨d0, d1, d2, d3, d4⟩ := HC.out k _ hx
      dsimp only at d0 d1 d2 d3 d4
      have d0 := below_cell HW.out _ _ d0
      have d1 := below_cell HW.out _ _ d1
      have d2 := below_cell HW.out _ _ d2
      have d3 := below_cell HW.out _ _ d3
      have d4 := below_cell HW.out _ _ d4
      obtain rfl := HA.out (by omega)
      have HX := hideT hx
      have HI := hideT (HIN.out _ (List.mem_of_getElem? hx))
      obtain ⟨bb, HBB⟩ : ∃ z, Hid ((Gp.condN nums) (x, y1, y2, y3, y4) = z) := ⟨_, rfl⟩
      have t1 : (0 : Int) ≤ (k : Int) := by omega
      have t2 : (k : Int) < (n : Int) := by omega
      clear hx
      go_wp2_with fail
      refine (condND wr (x, y1, y2, y3, y4) sb fb nb cb F N C nums (HS.out.below HW.out) (HFl.out.below HW.out) HFF.out HI.out.1 HI.out.2 bb HBB).mono ?_
      rintro e w1 ⟨rfl, b1⟩
      have HW1 := hideT (HW.out.trans (b1.mono HW.out.size))
      clear b1 d0 d1 d2 d3 d4
      cases bb with
      | true =>
        have HF : Hid (decide ((0 : Int) ≤ (k : Int)) = l.any (Gp.condN nums)) := by
          show _ = _
          rw [Gp.any_yesG HX.out HBB.out]
          exact decide_eq_true (by omega)
        go_wp2_with fail
        go_ret
        exact ⟨k, rfl, HF.out, HW1.out⟩
      | false =>
        have HR := hideT (Gp.any_takeG HX.out HB.out HBB.out)
        go_wp2_with fail
        refine ⟨⟨k + 1, by omega, by go_num, HR, HW1⟩, ?_⟩
        first | omega | (simp [intOf]; omega)
    · have HF : Hid (decide ((0 : Int) ≤ -1) = l.any (Gp.condN nums)) := by
        show _ = _
        rw [Gp.any_allG (by have := HN.out; omega) HB.out]
        rfl
      go_wp2_with fail
      go_ret
      exact ⟨-1, rfl, HF.out, HW.out⟩
theorem containsGC (w : World) (ao : Option Addr) (n cap : Nat) (l : List Gp.KC) (h : KCRow w (.slice ao n cap) l) (sb fb nb cb F N C : Nat) (nums : List Int) (hs : Lies w sb 72 (stC fb nb cb F N C)) (hf : IntR w nb nums) (hF : nums.length = N) (hin : Gp.KCIn N l) (b : Bool) (hb : Hid (l.any (Gp.condN nums) = b)) :
    Calls Try.prog 86 #[.slice ao n cap, capG 87 sb] w (GB b w) := by
  have HI := hideT (indexGC w ao n cap l h sb fb nb cb F N C nums hs hf hF hin)
  clear h hs hf hF hin
  go_enter Try.func86, Try.ntmps86
  go_wp2_with fail
  refine HI.out.mono ?_
  rintro e w1 ⟨z, rfl, hz, b1⟩
  rw [hb.out] at hz
  have HB1 := hideT b1
  clear b1
  cases b with
  | true =>
    have t : (0 : Int) ≤ z := of_decide_eq_true hz
    clear hz
    go_wp2_with fail
    go_ret
    exact ⟨ret_b (by first | (simp; done) | (simp; omega)), HB1.out⟩
  | false =>
    have t : z < 0 := by have := of_decide_eq_false hz; omega
    clear hz
    go_wp2_with fail
    go_ret
    exact ⟨ret_b (by first | (simp; done) | (simp; omega)), HB1.out⟩
theorem holdD (w : World) (ao : Option Addr) (n cap : Nat) (l : List Rp.Lit) (h : LRow w (.slice ao n cap) l) (fb nb cb F N C : Nat) (fl : List Bool) (hf : FlagR w fb fl) (hF : fl.length = F) (hin : Gp.LitsIn F l) (b : Bool) (hb : Hid (Gp.holdL fl l = b)) :
    Calls Try.prog 57 #[.agg (stC fb nb cb F N C), .slice ao n cap] w (GB b w) := by
  have B0 := hideT ((Below.refl w.heap.size w).alloc (Nat.le_refl _) (.cells (stC fb nb cb F N C) 72))
  have HS := hideT (Lies.new w 72 (stC fb nb cb F N C))
  have HFl := hideT (hf.below B0.out)
  have HR := hideT (lrow_below h B0.out)
  have HFF := hideT hF
  have HIN := hideT hin
  obtain ⟨g, hg⟩ : ∃ g, Hid (l.any (Gp.litIs fl) = g) := ⟨_, rfl⟩
  have HB : Hid ((!g) = b) := by have := hb.out; unfold Gp.holdL at this; rwa [hg.out] at this
  clear hf hF hin h hb
  go_enter Try.func57, Try.ntmps57
  go_wp2_with fail
  refine (containsGL _ ao n cap l HR.out w.heap.size fb nb cb F N C fl HS.out HFl.out HFF.out HIN.out g hg).mono ?_
  rintro e w1 ⟨rfl, b1⟩
  go_wp2_with fail
  go_ret
  exact ⟨ret_b HB.out, B0.out.trans (b1.mono B0.out.size)⟩
/-- Whether a rule holds. -/
theorem ruleHD (w : World) (x : Gp.KR) (a1 a2 a3 : Option Addr) (c1 c2 c3 : Nat) (h1 : LRow w (.slice a1 x.1.length c1) x.1) (h2 : KCRow w (.slice a2 x.2.1.length c2) x.2.1) (fb nb cb F N C : Nat) (fl : List Bool) (nums : List Int) (hf : FlagR w fb fl) (hF : fl.length = F) (hn : IntR w nb nums) (hN : nums.length = N) (hin : Gp.KRIn F N x) (b : Bool) (hb : Hid (Gp.ruleH fl nums x = b)) :
    Calls Try.prog 82 #[.agg #[.slice a1 x.1.length c1, .slice a2 x.2.1.length c2, .slice a3 x.2.2.length c3], .agg (stC fb nb cb F N C)] w (GB b w) := by
  obtain ⟨W1, hW1⟩ : ∃ W1, w.alloc (.cells #[.slice a1 x.1.length c1, .slice a2 x.2.1.length c2, .slice a3 x.2.2.length c3] 112) = W1 := ⟨_, rfl⟩
  have s1 : W1.heap.size = w.heap.size + 1 := by rw [← hW1]; simp
  have b1 : Below w.heap.size w W1 := by rw [← hW1]; exact (Below.refl _ w).alloc (Nat.le_refl _) _
  have k1 : Lies W1 w.heap.size 112 #[.slice a1 x.1.length c1, .slice a2 x.2.1.length c2, .slice a3 x.2.2.length c3] := by rw [← hW1]; exact Lies.new _ _ _
  obtain ⟨W2, hW2⟩ : ∃ W2, W1.alloc (.cells (stC fb nb cb F N C) 72) = W2 := ⟨_, rfl⟩
  have b2 : Below W1.heap.size W1 W2 := by rw [← hW2]; exact (Below.refl _ W1).alloc (Nat.le_refl _) _
  have k2 : Lies W2 (w.heap.size + 1) 72 (stC fb nb cb F N C) := by rw [← hW2, ← s1]; exact Lies.new _ _ _
  have B2 := hideT (b1.trans (b2.mono b1.size))
  have K1 := hideT (k1.below b2)
  have K2 := hideT k2
  have HL := hideT (lrow_below h1 B2.out)
  have HK := hideT (kcrow_turn h2 (below_cell B2.out))
  have HFl := hideT (hf.below B2.out)
  have HNu := hideT (hn.below B2.out)
  have HFF := hideT hF
  have HNN := hideT hN
  have HIN := hideT hin
  have y0 : W2.cell? ⟨w.heap.size, 0, none⟩ = some (.slice a1 x.1.length c1) := K1.out.cell 0
  have z0 : W2.cell? ⟨w.heap.size + 1, 0, none⟩ = some (.slice (some ⟨fb, 0, none⟩) F F) := K2.out.cell 0
  have z1 : W2.cell? ⟨w.heap.size + 1, 1, none⟩ = some (.slice (some ⟨nb, 0, none⟩) N N) := K2.out.cell 1
  have z2 : W2.cell? ⟨w.heap.size + 1, 2, none⟩ = some (.slice (some ⟨cb, 0, none⟩) C C) := K2.out.cell 2
  obtain ⟨g1, hg1⟩ : ∃ g, Hid (Gp.holdL fl x.1 = g) := ⟨_, rfl⟩
  obtain ⟨g2, hg2⟩ : ∃ g, Hid (x.2.1.any (Gp.condN nums) = g) := ⟨_, rfl⟩
  have HB : Hid ((g1 && !g2) = b) := by have := hb.out; unfold Gp.ruleH at this; rwa [hg1.out, hg2.out] at this
  clear h1 h2 hf hF hn hN hin hb b1 b2 k1 k2
  have HW1 := hideT hW1
  have HW2 := hideT hW2
  have HS1 := hideT s1
  clear hW1 hW2 s1
  cases g1
  · go_enter Try.func82, Try.ntmps82
    go_wp2_with fail
    rw [HW1.out]
    rw [HW2.out]
    go_wp2_with fail
    refine (holdD _ _ _ _ x.1 HL.out fb nb cb F N C fl HFl.out HFF.out HIN.out.1.1 false hg1).mono ?_
    rintro e w1 ⟨rfl, p1⟩
    clear y0 z0 z1 z2
    go_wp2_with fail
    go_ret
    exact ⟨ret_b HB.out, B2.out.trans (p1.mono B2.out.size)⟩
  · go_enter Try.func82, Try.ntmps82
    go_wp2_with fail
    rw [HW1.out]
    rw [HW2.out]
    go_wp2_with fail
    refine (holdD _ _ _ _ x.1 HL.out fb nb cb F N C fl HFl.out HFF.out HIN.out.1.1 true hg1).mono ?_
    rintro e w1 ⟨rfl, p1⟩
    have y1 : w1.cell? ⟨w.heap.size, 1, none⟩ = some (.slice a2 x.2.1.length c2) := (K1.out.below p1).cell 1
    have P1 := hideT p1
    clear y0 z0 z1 z2 p1
    go_wp2_with fail
    refine (containsGC _ _ _ _ x.2.1 (kcrow_turn HK.out (below_cell P1.out)) (w.heap.size + 1) fb nb cb F N C nums (K2.out.below P1.out) (HNu.out.below P1.out) HNN.out HIN.out.1.2.1 g2 hg2).mono ?_
    rintro e w2 ⟨rfl, p2⟩
    clear y1
    go_wp2_with fail
    go_ret
    exact ⟨ret_b HB.out, B2.out.trans ((P1.out.trans (p2.mono P1.out.size)).mono B2.out.size)⟩
end Go.Proofs.Ytkjekohncfhbiaa
