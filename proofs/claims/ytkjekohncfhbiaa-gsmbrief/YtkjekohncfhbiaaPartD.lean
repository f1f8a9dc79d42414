/-
  Several texts in one: each opens with its own word.
-/
import Derived.Test.YtkjekohncfhbiaaPartM
/-
  Whether it is over; a number is written.
-/
set_option linter.unusedSimpArgs false
set_option linter.unusedVariables false
namespace Go.Proofs.Ytkjekohncfhbiaa
open Go.RowKit
set_option maxRecDepth 100000
section
variable {w w' : World} {b : Nat} {A : KA} {K : Gp.KP} {S : Nat → Prop} {fb nb cb F N C : Nat} {st t : Gp.St}
set_option maxHeartbeats 1000000 in
theorem indexGI (hM : MIn w b A K S fb nb cb F N C st) (ao : Option Addr) (n cap : Nat) (l : List Int) (h : ZRow w (.slice ao n cap) l) :
    Calls Try.prog 75 #[.slice ao n cap, methG 20 b] w (GIx (l.any (Gp.upB F st.fl)) w) := by
  obtain ⟨hn, hl, hcap, bb, o, ha, hc⟩ := zrow_at h
  have HN := hideT hn
  have HC := hideT hc
  have HA := hideT ha
  have HM := hideT hM
  clear hn hc ha h hM
  go_enter Try.func75, Try.ntmps75
  go_wp2_with fail
  go_loopw [8] (fun i wr => ∃ k : Nat, k ≤ n ∧ i = .int .i64 k ∧ Hid ((l.take k).any (Gp.upB F st.fl) = false) ∧ Hid (Below w.heap.size w wr)) (fun i _ => n - (intOf i).toNat)
  case atStart => exact ⟨0, by omega, rfl, rfl, Below.refl _ _⟩
  case round =>
    obtain ⟨k, hk, rfl, HB, HW⟩ := hrel
    by_cases hlt : k < n
    · obtain ⟨x, hx⟩ := Mp.at_lt (l := l) (k := k) (by have := HN.out; omega)
      have d0 := below_cell HW.out _ _ (HC.out k _ hx)
      obtain rfl := HA.out (by omega)
      have HX := hideT hx
      obtain ⟨g, HG⟩ : ∃ z, Hid (Gp.upB F st.fl x = z) := ⟨_, rfl⟩
      have t1 : (0 : Int) ≤ (k : Int) := by omega
      have t2 : (k : Int) < (n : Int) := by omega
      clear hx
      go_wp2_with fail
      refine (upD (HM.out.below HW.out) x).mono ?_
      rintro e w1 ⟨rfl, rfl⟩
      rw [HG.out]
      cases g with
      | true =>
        have HF : Hid (decide ((0 : Int) ≤ (k : Int)) = l.any (Gp.upB F st.fl)) := by
          show _ = _
          rw [Gp.any_yesG HX.out HG.out]
          exact decide_eq_true (by omega)
        go_wp2_with fail
        go_ret
        exact ⟨k, rfl, HF.out, HW.out⟩
      | false =>
        have HR := hideT (Gp.any_takeG HX.out HB.out HG.out)
        go_wp2_with fail
        refine ⟨⟨k + 1, by omega, by go_num, HR, HW⟩, ?_⟩
        first | omega | (simp [intOf]; omega)
    · have HF : Hid (decide ((0 : Int) ≤ -1) = l.any (Gp.upB F st.fl)) := by
        show _ = _
        rw [Gp.any_allG (by have := HN.out; omega) HB.out]
        rfl
      go_wp2_with fail
      go_ret
      exact ⟨-1, rfl, HF.out, HW.out⟩
theorem containsGI (hM : MIn w b A K S fb nb cb F N C st) (ao : Option Addr) (n cap : Nat) (l : List Int) (h : ZRow w (.slice ao n cap) l) (g : Bool) (hg : Hid (l.any (Gp.upB F st.fl) = g)) :
    Calls Try.prog 56 #[.slice ao n cap, methG 20 b] w (GB g w) := by
  have HI := hideT (indexGI hM ao n cap l h)
  clear h hM
  go_enter Try.func56, Try.ntmps56
  go_wp2_with fail
  refine HI.out.mono ?_
  rintro e w1 ⟨z, rfl, hz, b1⟩
  rw [hg.out] at hz
  have HB1 := hideT b1
  clear b1
  cases g with
  | true =>
    have t : (0 : Int) ≤ z := of_decide_eq_true hz
    clear hz
    go_wp2_with fail
    go_ret
    exact ⟨ret_b (by first | (simp; done) | (simp; omega)), HB1.out⟩
  | false =>
    have t : z < 0 := by have := of_decide_eq_false hz; omega
    clear hz
    go_wp2_with fail
    go_ret
    exact ⟨ret_b (by first | (simp; done) | (simp; omega)), HB1.out⟩
theorem over_up (h : MIn w b A K S fb nb cb F N C st) : K.over.any (Gp.upB F st.fl) = Gp.overS K st := by
  unfold Gp.overS
  have : ∀ x ∈ K.over, Gp.upB F st.fl x = Gp.atB st.fl x := fun x hx => by
    have := h.ok.over x hx
    unfold Gp.upB
    rw [decide_eq_true this.1, decide_eq_true this.2]
    rfl
  revert this
  generalize K.over = l
  intro this
  induction l with
  | nil => rfl
  | cons a l ih => rw [List.any_cons, List.any_cons, this a List.mem_cons_self, ih (fun x hx => this x (List.mem_cons_of_mem _ hx))]
theorem isOverD (h : MIn w b A K S fb nb cb F N C st) (g : Bool) (hg : Hid (Gp.overS K st = g)) : Calls Try.prog 26 #[.pointer (some ⟨b, 0, none⟩)] w (GB g w) := by
  have x1 : w.cell? ⟨b, 1, none⟩ = some (.slice A.a1 K.over.length A.c1) := h.box.cell 1
  have HM := hideT h
  have HG : Hid (K.over.any (Gp.upB F st.fl) = g) := (over_up h).trans hg.out
  clear h hg
  go_enter Try.func26, Try.ntmps26
  go_wp2_with fail
  refine (containsGI HM.out _ _ _ K.over HM.out.kept.here.over g HG).mono ?_
  rintro e w1 ⟨rfl, b1⟩
  go_wp2_with fail
  go_ret
  exact ⟨rfl, b1⟩
/-- What an act leaves. -/
def ActPost (w : World) (b : Nat) (A : KA) (K : Gp.KP) (S : Nat → Prop) (F N C : Nat) (r : Int × Gp.St) (e : Ending) (w' : World) : Prop := e = .returned (.int .i64 r.1) ∧ ∃ fb nb cb, MIn w' b A K S fb nb cb F N C r.2 ∧ Keep (fun k => k = b) w w'
theorem GoPost.act {w0 : World} {f : Nat} {r : Int × Gp.St} {e : Ending} (h : GoPost w b A K S F N C f r e w') (h0 : Below w0.heap.size w0 w) (hf : w0.heap.size ≤ f) : ActPost w0 b A K S F N C r e w' := by
  obtain ⟨h1, fb, nb, cb, m, k⟩ := h
  refine ⟨h1, fb, nb, cb, m, ?_⟩
  refine ⟨k.os.trans h0.os, k.tape.trans h0.tape, k.output.trans h0.output, Nat.le_trans h0.size k.size, fun i hi hs => ?_⟩
  rw [k.block i (Nat.lt_of_lt_of_le hi h0.size) (fun e => by
    rcases e with e | e
    · exact hs e
    · omega)]
  exact h0.block i hi
set_option maxHeartbeats 4000000 in
theorem writeD11 (h : MIn w b A K S fb nb cb F N C st) (s : ByteArray) (n : Int) : Calls Try.prog 28 #[.pointer (some ⟨b, 0, none⟩), .string s, .int .i64 n] w (ActPost w b A K S F N C (Gp.writeS K st s n)) := by
  have x3 : w.cell? ⟨b, 3, none⟩ = some (.slice A.a3 K.files.length A.c3) := h.box.cell 3
  have HM := hideT h
  obtain ⟨z, hz⟩ : ∃ z, idxZ K.files s = z := ⟨_, rfl⟩
  have HZ := hideT hz
  by_cases h0 : 0 ≤ z
  rotate_left
  · have HR : Hid (Gp.writeS K st s n = (1, st)) := by show _ = _; unfold Gp.writeS; rw [HZ.out, if_pos (Or.inl (by omega))]
    have h0' : z < 0 := by omega
    clear h hz
    go_enter Try.func28, Try.ntmps28
    go_wp2_with fail
    refine (indexS w _ _ _ K.files s HM.out.kept.here.files).mono ?_
    rintro e w1 ⟨rfl, rfl⟩
    rw [HZ.out]
    go_wp2_with fail
    go_ret
    rw [HR.out]
    exact ⟨rfl, _, _, _, HM.out, Keep.refl _ _⟩
  have h1 : z < (N : Int) := by
    have := idx_lt K.files s (by rw [hz]; exact h0)
    rw [hz] at this
    rw [h.hn]
    exact this
  have h0' : ¬ z < 0 := by omega
  by_cases h2 : n < -1000000
  · have HR : Hid (Gp.writeS K st s n = (1, st)) := by show _ = _; unfold Gp.writeS; rw [if_pos (Or.inr (Or.inl h2))]
    clear h hz
    go_enter Try.func28, Try.ntmps28
    go_wp2_with fail
    refine (indexS w _ _ _ K.files s HM.out.kept.here.files).mono ?_
    rintro e w1 ⟨rfl, rfl⟩
    rw [HZ.out]
    go_wp2_with fail
    go_ret
    rw [HR.out]
    exact ⟨rfl, _, _, _, HM.out, Keep.refl _ _⟩
  by_cases h3 : 1000000 < n
  · have HR : Hid (Gp.writeS K st s n = (1, st)) := by show _ = _; unfold Gp.writeS; rw [if_pos (Or.inr (Or.inr h3))]
    have h3' : n > 1000000 := h3
    clear h hz
    go_enter Try.func28, Try.ntmps28
    go_wp2_with fail
    refine (indexS w _ _ _ K.files s HM.out.kept.here.files).mono ?_
    rintro e w1 ⟨rfl, rfl⟩
    rw [HZ.out]
    go_wp2_with fail
    go_ret
    rw [HR.out]
    exact ⟨rfl, _, _, _, HM.out, Keep.refl _ _⟩
  obtain ⟨q, rfl⟩ : ∃ q : Nat, z = q := ⟨z.toNat, by omega⟩
  have HR : Hid (Gp.writeS K st s n = Gp.restS K st ⟨st.fl, st.nums.set q n, st.cnts⟩) := by
    show _ = _
    unfold Gp.writeS
    rw [HZ.out, if_neg (by omega)]
    rfl
  have h3' : ¬ n > 1000000 := h3
  clear h hz
  go_enter Try.func28, Try.ntmps28
  go_wp2_with fail
  refine (indexS w _ _ _ K.files s HM.out.kept.here.files).mono ?_
  rintro e w0 ⟨rfl, hw0⟩
  obtain rfl := hw0.symm
  rw [HZ.out]
  go_wp2_with fail
  refine (nextD HM.out).mono ?_
  rintro e w1 ⟨f, m, c, rfl, ns, b1⟩
  have c0 : w1.cell? ⟨m, q, none⟩ = some (.int .i64 (Gp.atZ st.nums q)) := by
    have := ns.nums.at (f := (q : Int)) h0 (by rw [ns.ln]; exact h1)
    rwa [show ((q : Int)).toNat = q by omega] at this
  have f0 : w1.frozen? ⟨m, q, none⟩ = false := Lies.free ns.nums q
  have ml : m < w1.heap.size := Lies.lt ns.nums
  have fm := flag_int_ne ns.fl ns.nums
  obtain ⟨X, hX⟩ : ∃ X, (w1.setCell ⟨m, q, none⟩ (.int .i64 n)).alloc (.cells (stC f m c F N C) 72) = X := ⟨_, rfl⟩
  have KX : Keep (fun k => k = m) w1 X := by
    rw [← hX]
    have h1 : Keep (fun k => k = m) w1 (w1.setCell ⟨m, q, none⟩ (.int .i64 n)) := Keep.set _ _ _ rfl
    exact h1.trans (Keep.of_below ((Below.refl _ _).alloc (Nat.le_refl _) _))
  have NX : IntR X m (st.nums.set q n) := by
    rw [← hX]
    exact (ns.nums.set q n).below ((Below.refl _ _).alloc (Nat.le_refl _) _)
  have LX : Lies X w1.heap.size 72 (stC f m c F N C) := by
    rw [← hX]
    have := Lies.new (w1.setCell ⟨m, q, none⟩ (.int .i64 n)) 72 (stC f m c F N C)
    rwa [show (w1.setCell ⟨m, q, none⟩ (.int .i64 n)).heap.size = w1.heap.size by simp [World.setCell]] at this
  have hlow := ns.low
  have hfbl := Lies.lt HM.out.fl
  have hnbl := Lies.lt HM.out.nums
  have hcbl := Lies.lt HM.out.cnts
  have hbl := HM.out.box.lt
  have HN2 : Hid (NewS X w.heap.size f m c F N C ⟨st.fl, st.nums.set q n, st.cnts⟩) := ⟨ns.fl.keep KX fm, NX, ns.cnts.keep KX (fun e => ns.nc e.symm), ns.lf, by rw [List.length_set]; exact ns.ln, ns.lc, ns.nc, ns.low⟩
  have HM2 := hideT ((HM.out.below b1).keep KX (fun e => by omega) (fun i hi e => by have := HM.out.zone i hi; omega) (fun e => by omega) (fun e => by omega) (fun e => by omega))
  have HB2 := hideT (Keep.below b1 KX (fun i hi e => by omega))
  have HL2 := hideT LX
  have HXX := hideT hX
  have HFF : Hid (f ≠ fb ∧ ¬ S f ∧ w.heap.size ≤ f) := ⟨by omega, fun hs => by have := HM.out.zone f hs; omega, hlow.1⟩
  clear KX NX fm hlow hfbl hnbl hcbl hbl hX LX ns b1 x3
  go_wp2_with fail
  rw [HXX.out]
  have y0 : X.cell? ⟨w1.heap.size, 0, none⟩ = some (.slice (some ⟨f, 0, none⟩) F F) := HL2.out.cell 0
  have y1 : X.cell? ⟨w1.heap.size, 1, none⟩ = some (.slice (some ⟨m, 0, none⟩) N N) := HL2.out.cell 1
  have y2 : X.cell? ⟨w1.heap.size, 2, none⟩ = some (.slice (some ⟨c, 0, none⟩) C C) := HL2.out.cell 2
  go_wp2_with fail
  refine (restD HM2.out HN2.out HFF.out.1 HFF.out.2.1).mono ?_
  intro e w3 hp
  have HP := hideT (hp.act HB2.out HFF.out.2.2)
  obtain ⟨rfl, hrest⟩ := hp
  clear hrest
  go_wp2_with fail
  go_ret
  rw [HR.out]
  exact HP.out
end
end Go.Proofs.Ytkjekohncfhbiaa
/-
  An event from without.
-/
set_option linter.unusedSimpArgs false
set_option linter.unusedVariables false
namespace Go.Proofs.Ytkjekohncfhbiaa
open Go.RowKit
set_option maxRecDepth 100000
namespace Gp
theorem find_at {α : Type} {l : List α} {p : α → Bool} {k : Nat} {x : α} (h : ∀ (j : Nat) y, j < k → l[j]? = some y → p y = false) (hx : l[k]? = some x) (hp : p x = true) : l.find? p = some x := by
  induction l generalizing k with
  | nil => simp at hx
  | cons a l ih =>
    cases k with
    | zero =>
      cases hx
      rw [List.find?_cons_of_pos hp]
    | succ k =>
      rw [List.find?_cons_of_neg (by rw [h 0 a (by omega) rfl]; decide)]
      exact ih (fun j y hj hy => h (j + 1) y (by omega) hy) hx
theorem find_no {α : Type} {l : List α} {p : α → Bool} {k : Nat} (h : ∀ (j : Nat) y, j < k → l[j]? = some y → p y = false) (hk : l.length ≤ k) : l.find? p = none := by
  rw [List.find?_eq_none]
  intro x hx
  obtain ⟨j, hj⟩ := List.getElem?_of_mem hx
  rw [h j x (by have := (List.getElem?_eq_some_iff.1 hj).1; omega) hj]
  decide
theorem no_step {α : Type} {l : List α} {p : α → Bool} {k : Nat} {x : α} (h : ∀ (j : Nat) y, j < k → l[j]? = some y → p y = false) (hx : l[k]? = some x) (hp : p x = false) : ∀ (j : Nat) y, j < k + 1 → l[j]? = some y → p y = false := by
  intro j y hj hy
  by_cases e : j < k
  · exact h j y e hy
  · obtain rfl : j = k := by omega
    rw [hx] at hy
    cases hy
    exact hp
theorem any_step {α : Type} {l : List α} {p : α → Bool} {k : Nat} {x : α} (h : l[k]? = some x) : (l.take (k + 1)).any p = ((l.take k).any p || p x) := by
  rw [Mp.take_at h, List.any_append]
  simp
end Gp
section
variable {w w' : World} {b : Nat} {A : KA} {K : Gp.KP} {S : Nat → Prop} {fb nb cb F N C : Nat} {st t : Gp.St}
set_option maxHeartbeats 8000000 in
theorem userD11 (h : MIn w b A K S fb nb cb F N C st) (s : ByteArray) (ev : Int) : Calls Try.prog 27 #[.pointer (some ⟨b, 0, none⟩), .string s, .int .i64 ev] w (ActPost w b A K S F N C (Gp.userS K st s ev)) := by
  have x6 : w.cell? ⟨b, 6, none⟩ = some (.slice A.a6 K.users.length A.c6) := h.box.cell 6
  have HM := hideT h
  have hul := h.ok.long.2.2.1
  clear h
  go_enter Try.func27, Try.ntmps27
  go_wp2_with fail
  clear x6
  go_loopw [7, 16] (fun th i wr => ∃ k : Nat, k ≤ K.users.length ∧ i = .int .i64 k ∧ th = .bool ((K.users.take k).any (fun u => decide (u.1 = s))) ∧ Hid (∀ (j : Nat) u, j < k → K.users[j]? = some u → Gp.userT st.fl s ev u = false) ∧ Hid (Below w.heap.size w wr)) (fun _ i _ => K.users.length - (intOf i).toNat)
  case atStart => exact ⟨0, by omega, rfl, rfl, (fun j y hj => absurd hj (by omega)), Below.refl _ _⟩
  case round =>
    obtain ⟨k, hk, rfl, rfl, HB, HW⟩ := hrel
    by_cases hlt : k < K.users.length
    rotate_left
    · obtain ⟨th, hth⟩ : ∃ th, (K.users.take k).any (fun u => decide (u.1 = s)) = th := ⟨_, rfl⟩
      have HR : Hid (Gp.userS K st s ev = (if th then 8 else 1, st)) := by
        show _ = _
        unfold Gp.userS
        rw [Gp.find_no HB.out (by omega), ← hth, List.take_of_length_le (by omega)]
      have HMW := hideT (HM.out.below HW.out)
      have HKW : Hid (Keep (fun k => k = b) w wr) := Keep.of_below HW.out
      rw [hth]
      clear hth
      cases th
      · go_wp2_with fail
        go_ret
        rw [HR.out]
        exact ⟨rfl, _, _, _, HMW.out, HKW.out⟩
      · go_wp2_with fail
        go_ret
        rw [HR.out]
        exact ⟨rfl, _, _, _, HMW.out, HKW.out⟩
    obtain ⟨⟨u0, u1, u2, u3⟩, hx⟩ := Mp.at_lt (l := K.users) (k := k) hlt
    have HMW := hideT (HM.out.below HW.out)
    obtain ⟨_, _, _, bu, ou, hau, hcu⟩ := urow_at HMW.out.kept.here.users
    obtain ⟨a1, c1, hzi, hwh, e0, e1, e2, e3⟩ := hcu k _ hx
    obtain ⟨ua, hua⟩ : ∃ ua, A.a6 = ua := ⟨_, rfl⟩
    have hua2 : A.a6 = some ⟨bu, ou, none⟩ := hau (by omega)
    rw [hua2]
    dsimp only at hzi hwh e0 e1 e2 e3
    have HX := hideT hx
    have hin := HM.out.ok.users _ (List.mem_of_getElem? hx)
    have HIN := hideT hin
    have hany := Gp.any_step (p := fun u : Rp.User => decide (u.1 = s)) hx
    have HANY := hideT hany
    clear hcu hau hua hua2 hx hin hany
    have t0 : (0 : Int) ≤ (k : Int) := by omega
    have t1 : (k : Int) < (K.users.length : Int) := by omega
    have BV : Below wr.heap.size wr (wr.alloc (.cells #[.string u0, .int .i64 u1, .slice a1 u2.length c1, .int .i64 u3] 65)) := (Below.refl _ wr).alloc (Nat.le_refl _) _
    have HBV := hideT (HW.out.trans (BV.mono HW.out.size))
    have HLV := hideT (Lies.new wr 65 #[.string u0, .int .i64 u1, .slice a1 u2.length c1, .int .i64 u3])
    have HWH := hideT (lrow_below hwh BV)
    have HMV := hideT (HMW.out.below BV)
    clear BV hwh
    by_cases hs : u0 = s
    rotate_left
    · have HR : Hid ((K.users.take (k + 1)).any (fun u => decide (u.1 = s)) = (K.users.take k).any (fun u => decide (u.1 = s))) := by
        show _ = _
        rw [HANY.out, decide_eq_false (show ¬ (u0, u1, u2, u3).1 = s from hs), Bool.or_false]
      have HB2 := hideT (Gp.no_step HB.out HX.out (show Gp.userT st.fl s ev (u0, u1, u2, u3) = false by
        unfold Gp.userT
        rw [decide_eq_false (show ¬ (u0, u1, u2, u3).1 = s from hs)]
        rfl))
      have hne : (u0.toList == s.toList) = false := beq_eq_false_iff_ne.2 fun h => hs (toList_inj h)
      clear hs
      go_wp2_with fail
      refine ⟨⟨k + 1, by omega, by go_num, by rw [HR.out], HB2, HBV⟩, ?_⟩
      first | omega | (simp [intOf]; omega)
    subst hs
    have HTH : Hid ((K.users.take (k + 1)).any (fun u => decide (u.1 = u0)) = true) := by
      show _ = _
      rw [HANY.out, decide_eq_true (show (u0, u1, u2, u3).1 = u0 from rfl), Bool.or_true]
    by_cases he : u1 = ev
    rotate_left
    · have HB2 := hideT (Gp.no_step HB.out HX.out (show Gp.userT st.fl u0 ev (u0, u1, u2, u3) = false by
        unfold Gp.userT
        rw [decide_eq_false (show ¬ (u0, u1, u2, u3).2.1 = ev from he), Bool.and_false]
        rfl))
      have hne2 : (u1 == ev) = false := beq_eq_false_iff_ne.2 he
      clear he
      go_wp2_with fail
      go_quiet (fail)
      go_wp2_with fail
      refine ⟨⟨k + 1, by omega, by go_num, by rw [HTH.out], HB2, below_drewN HBV.out _⟩, ?_⟩
      first | omega | (simp [intOf]; omega)
    subst he
    obtain ⟨g, HG⟩ : ∃ g, Hid (Gp.holdL st.fl u2 = g) := ⟨_, rfl⟩
    have HUT : Hid (Gp.userT st.fl u0 u1 (u0, u1, u2, u3) = g) := by
      show _ = _
      unfold Gp.userT
      rw [decide_eq_true (show (u0, u1, u2, u3).1 = u0 from rfl), decide_eq_true (show (u0, u1, u2, u3).2.1 = u1 from rfl)]
      exact HG.out
    obtain ⟨V, hV⟩ : ∃ V, wr.alloc (.cells #[.string u0, .int .i64 u1, .slice a1 u2.length c1, .int .i64 u3] 65) = V := ⟨_, rfl⟩
    have HV := hideT hV
    rw [hV] at HBV HLV HWH HMV
    clear hV
    go_wp2_with fail
    rw [HV.out]
    have y1 : V.cell? ⟨wr.heap.size, 1, none⟩ = some (.int .i64 u1) := HLV.out.cell 1
    have y2 : V.cell? ⟨wr.heap.size, 2, none⟩ = some (.slice a1 u2.length c1) := HLV.out.cell 2
    have x7 : V.cell? ⟨b, 7, none⟩ = some (.slice (some ⟨fb, 0, none⟩) F F) := HMV.out.box.cell 7
    have x8 : V.cell? ⟨b, 8, none⟩ = some (.slice (some ⟨nb, 0, none⟩) N N) := HMV.out.box.cell 8
    have x9 : V.cell? ⟨b, 9, none⟩ = some (.slice (some ⟨cb, 0, none⟩) C C) := HMV.out.box.cell 9
    clear e0 e1 e2 e3
    go_region_held3 (fun w' => w'.cell? ⟨wr.heap.size, 1, none⟩ = some (.int .i64 u1) ∧ w'.cell? ⟨wr.heap.size, 2, none⟩ = some (.slice a1 u2.length c1) ∧ w'.cell? ⟨b, 7, none⟩ = some (.slice (some ⟨fb, 0, none⟩) F F) ∧ w'.cell? ⟨b, 8, none⟩ = some (.slice (some ⟨nb, 0, none⟩) N N) ∧ w'.cell? ⟨b, 9, none⟩ = some (.slice (some ⟨cb, 0, none⟩) C C)) (go_keep) (first
      | (go_at_call 57; (refine (holdD _ a1 u2.length c1 u2 (lrow_below HWH.out (below_drewN (Below.refl _ V) _)) fb nb cb F N C st.fl (HMV.out.fl.below (below_drewN (Below.refl _ V) _)) HMV.out.lf HIN.out.1 g HG).mono ?_); rintro e w1 ⟨rfl, b1⟩; have B1 := (below_drewN (Below.refl _ V) 1).trans b1; have q1 := below_cell B1 _ _ y1; have q2 := below_cell B1 _ _ y2; have q7 := below_cell B1 _ _ x7; have q8 := below_cell B1 _ _ x8; have q9 := below_cell B1 _ _ x9))
    have HB1 := hideT B1
    have HBW1 := hideT (HBV.out.trans (B1.mono HBV.out.size))
    have HLV1 := hideT (HLV.out.below B1)
    have HM1 := hideT (HMV.out.below B1)
    clear b1 B1 q1 q2 q7 q8 q9 y1 y2 x7 x8 x9
    cases g
    · have HB2 := hideT (Gp.no_step HB.out HX.out HUT.out)
      go_wp2_with fail
      refine ⟨⟨k + 1, by omega, by go_num, by rw [HTH.out], HB2, HBW1⟩, ?_⟩
      first | omega | (simp [intOf]; omega)
    have HR : Hid (Gp.userS K st u0 u1 = Gp.fromS K st st [u3]) := by
      show _ = _
      unfold Gp.userS
      rw [Gp.find_at HB.out HX.out HUT.out]
    have y3 : w1.cell? ⟨wr.heap.size, 3, none⟩ = some (.int .i64 u3) := HLV1.out.cell 3
    have hne3 : w1.heap.size ≠ wr.heap.size := by have := HLV1.out.lt; omega
    go_wp2_with fail
    go_region_held3 (fun w' => w'.cell? ⟨wr.heap.size, 3, none⟩ = some (.int .i64 u3)) (go_keep) (first
      | (go_at_call 59; (refine (nextD (HM1.out.below (below_drewN (Below.refl _ w1) _))).mono ?_); rintro e w2 ⟨f, n, c, rfl, ns, b2⟩; have y4 : w2.cell? ⟨wr.heap.size, 3, none⟩ = some (.int .i64 u3) := below_cell b2 _ _ (below_cell (below_drewN (Below.refl _ w1) _) _ _ y3); have hsz : w1.heap.size ≤ w1.heap.size := Nat.le_refl _; have kind1 : True := trivial)
      | (go_at_call 59; have BQ := (below_drewN (Below.refl _ w1) 1).alloc (Nat.le_refl _) (.cells #[.int .i64 u3] 3); (refine (nextD (HM1.out.below BQ)).mono ?_); rintro e w2 ⟨f, n, c, rfl, ns, b2⟩; have y4 : w2.cell? ⟨wr.heap.size, 3, none⟩ = some (.int .i64 u3) := below_cell b2 _ _ (below_cell BQ _ _ y3); have hsz : w1.heap.size ≤ _ := BQ.size; have LQ : Lies w2 w1.heap.size 3 #[.int .i64 u3] := (Lies.new (w1.drewN 1) 3 #[.int .i64 u3]).below b2; have hsq : w1.heap.size < _ := (Lies.new (w1.drewN 1) 3 #[.int .i64 u3]).lt)
      | (go_at_call 59; have BQ := below_drewN ((Below.refl _ w1).alloc (Nat.le_refl _) (.cells #[.int .i64 u3] 3)) 1; (refine (nextD (HM1.out.below BQ)).mono ?_); rintro e w2 ⟨f, n, c, rfl, ns, b2⟩; have y4 : w2.cell? ⟨wr.heap.size, 3, none⟩ = some (.int .i64 u3) := below_cell b2 _ _ (below_cell BQ _ _ y3); have hsz : w1.heap.size ≤ _ := BQ.size; have LQ : Lies w2 w1.heap.size 3 #[.int .i64 u3] := ((Lies.new w1 3 #[.int .i64 u3]).below (below_drewN (Below.refl _ _) 1)).below b2; have hsq : w1.heap.size < _ := ((Lies.new w1 3 #[.int .i64 u3]).below (below_drewN (Below.refl _ _) 1)).lt)
      | (go_at_call 58; have hk := kind1; have BA := (Below.refl w2.heap.size w2).alloc (Nat.le_refl _) (.cells #[.int .i64 u3] 3); have hl1 := ns.low; have hl2 := Lies.lt ns.fl; have hl3 := Lies.lt HM1.out.fl; have hl4 := HM1.out.box.lt; have hl5 := HLV1.out.lt; have hl6 : w1.heap.size ≤ f := Nat.le_trans hsz hl1.1; have RW : Hang (fun k => k ≠ f) (fun w => ZRow w (.slice (some ⟨w2.heap.size, 0, none⟩) 1 1) [u3]) (w2.alloc (.cells #[.int .i64 u3] 3)) := (zrow_cop (l := [u3]) (Lies.new w2 3 #[.int .i64 u3]) rfl (by simp)).sub (fun i _ e => by omega); have MM := ((HM1.out.below (below_drewN (Below.refl _ w1) 1)).below b2).below BA; have NN := ns.below BA; have HBW2 := (HBW1.out.trans ((below_drewN (Below.refl _ w1) 1).mono HBW1.out.size)).trans ((b2.trans (BA.mono b2.size)).mono HBW1.out.size); have y6 := below_cell BA _ _ y4; (refine (fromD MM NN (by omega) (fun hs => by have := HM1.out.zone f hs; omega) [u3] _ 1 1 rfl RW (fun x hx => by rw [List.mem_singleton] at hx; rw [hx]; exact HIN.out.2)).mono ?_); intro e w3 hp; have hp2 := hp.act (w0 := w) (HBW2) (Nat.le_trans HBW1.out.size hl6); obtain ⟨rfl, _, _, _, _, k3⟩ := hp; have y5 : w3.cell? ⟨wr.heap.size, 3, none⟩ = some (.int .i64 u3) := by rw [k3.cell (cell_lt y6) (fun e => by have h9 := HMW.out.box.lt; rcases e with e | e; (· have e' : wr.heap.size = b := e; omega); (· have e' : wr.heap.size = f := e; omega))]; exact y6)
      | (go_at_call 58; have hl1 := ns.low; have hl2 := Lies.lt ns.fl; have hl3 := Lies.lt HM1.out.fl; have hl4 := HM1.out.box.lt; have hl5 := HLV1.out.lt; have hl6 : w1.heap.size ≤ f := Nat.le_trans hsz hl1.1; have RW : Hang (fun k => k ≠ f) (fun w => ZRow w (.slice (some ⟨w1.heap.size, 0, none⟩) 1 1) [u3]) w2 := (zrow_cop (l := [u3]) LQ rfl (by simp)).sub (fun i _ e => by omega); have MM := (HM1.out.below BQ).below b2; have NN := ns; have HBW2 := (HBW1.out.trans (BQ.mono HBW1.out.size)).trans (b2.mono (Nat.le_trans HBW1.out.size BQ.size)); have y6 := y4; (refine (fromD MM NN (by omega) (fun hs => by have := HM1.out.zone f hs; omega) [u3] _ 1 1 rfl RW (fun x hx => by rw [List.mem_singleton] at hx; rw [hx]; exact HIN.out.2)).mono ?_); intro e w3 hp; have hp2 := hp.act (w0 := w) (HBW2) (Nat.le_trans HBW1.out.size hl6); obtain ⟨rfl, _, _, _, _, k3⟩ := hp; have y5 : w3.cell? ⟨wr.heap.size, 3, none⟩ = some (.int .i64 u3) := by rw [k3.cell (cell_lt y6) (fun e => by have h9 := HMW.out.box.lt; rcases e with e | e; (· have e' : wr.heap.size = b := e; omega); (· have e' : wr.heap.size = f := e; omega))]; exact y6))
    all_goals rw [← HR.out] at hp2
    all_goals have HP := hideT hp2
    all_goals clear hp2 k3 y5 y6 y4 y3 ns b2 RW hl1 hl2 hl3 hl4 hl5 hl6
    all_goals go_wp2_with fail
    all_goals go_ret
    all_goals have hfin := HP.out
    all_goals rw [HR.out] at hfin ⊢
    all_goals exact hfin
end
end Go.Proofs.Ytkjekohncfhbiaa
/-
  A tick.
-/
set_option linter.unusedSimpArgs false
set_option linter.unusedVariables false
namespace Go.Proofs.Ytkjekohncfhbiaa
open Go.RowKit
set_option maxRecDepth 100000
namespace Gp
/-- Counts of which k have ticked. -/
structure TickN (fl : List Bool) (cs : List Rp.Ctr) (ns : List Int) (k : Nat) (D : List Int) (du : List Int) : Prop where
  len : D.length = ns.length
  done : ∀ (j : Nat) c n, j < k → cs[j]? = some c → ns[j]? = some n → D[j]? = some (cntT fl c n)
  rest : ∀ (j : Nat), k ≤ j → D[j]? = ns[j]?
  due : du = dueT fl (cs.take k) (ns.take k)
theorem dueT_app (fl : List Bool) : ∀ (a : List Rp.Ctr) (b : List Int) (c : Rp.Ctr) (n : Int), a.length = b.length → dueT fl (a ++ [c]) (b ++ [n]) = dueT fl a b ++ (if atB fl c.1 && decide (cntT fl c n = c.2.1) then [c.2.2] else [])
  | [], [], c, n, _ => by
    show (if _ then _ else _) = _
    split <;> rfl
  | [], b :: bs, c, n, h => by cases h
  | a :: l, [], c, n, h => by cases h
  | a :: l, b :: bs, c, n, h => by
    have ih := dueT_app fl l bs c n (by simpa using h)
    show (if _ then _ :: dueT fl (l ++ [c]) (bs ++ [n]) else dueT fl (l ++ [c]) (bs ++ [n])) = (if _ then _ else _) ++ _
    rw [ih]
    split <;> rfl
theorem tick_zero (fl : List Bool) (cs : List Rp.Ctr) (ns : List Int) : TickN fl cs ns 0 ns [] := ⟨rfl, fun j _ _ h => absurd h (by omega), fun _ _ => rfl, rfl⟩
theorem tick_step {fl : List Bool} {cs : List Rp.Ctr} {ns D du : List Int} {k : Nat} {c : Rp.Ctr} {n : Int} (h : TickN fl cs ns k D du) (hc : cs[k]? = some c) (hn : ns[k]? = some n) : TickN fl cs ns (k + 1) (D.set k (cntT fl c n)) (du ++ (if atB fl c.1 && decide (cntT fl c n = c.2.1) then [c.2.2] else [])) := by
  have hkl := (List.getElem?_eq_some_iff.1 hn).1
  refine ⟨by rw [List.length_set]; exact h.len, fun j d m hj hd hm => ?_, fun j hj => ?_, ?_⟩
  · by_cases e : j = k
    · subst e
      rw [hc] at hd
      rw [hn] at hm
      cases hd
      cases hm
      rw [List.getElem?_set_self (by rw [h.len]; exact hkl)]
    · rw [List.getElem?_set_ne (by omega)]
      exact h.done j d m (by omega) hd hm
  · rw [List.getElem?_set_ne (by omega)]
    exact h.rest j (by omega)
  · rw [Mp.take_at hc, Mp.take_at hn, dueT_app fl _ _ _ _ (by
      have := (List.getElem?_eq_some_iff.1 hc).1
      rw [List.length_take, List.length_take]
      omega), h.due]
theorem cntsT_at (fl : List Bool) : ∀ (cs : List Rp.Ctr) (ns : List Int) (j : Nat), (cntsT fl cs ns)[j]? = (match cs[j]?, ns[j]? with | some c, some n => some (cntT fl c n) | _, _ => none)
  | [], ns, j => by simp [cntsT]
  | c :: cs, [], j => by simp [cntsT]
  | c :: cs, n :: ns, 0 => by simp [cntsT]
  | c :: cs, n :: ns, j + 1 => by
    have := cntsT_at fl cs ns j
    simpa [cntsT] using this
theorem tick_done {fl : List Bool} {cs : List Rp.Ctr} {ns D du : List Int} {k : Nat} (h : TickN fl cs ns k D du) (hk : cs.length ≤ k) (hl : cs.length = ns.length) : D = cntsT fl cs ns ∧ du = dueT fl cs ns := by
  refine ⟨?_, by rw [h.due, List.take_of_length_le hk, List.take_of_length_le (by omega)]⟩
  apply List.ext_getElem?
  intro j
  rw [cntsT_at]
  by_cases hj : j < cs.length
  · rw [List.getElem?_eq_getElem hj, List.getElem?_eq_getElem (show j < ns.length by omega)]
    exact h.done j _ _ (by omega) (List.getElem?_eq_getElem hj) (List.getElem?_eq_getElem (by omega))
  · rw [List.getElem?_eq_none (l := D) (by rw [h.len]; omega), List.getElem?_eq_none (l := cs) (by omega)]
theorem dueT_in {F : Nat} {fl : List Bool} : ∀ {cs : List Rp.Ctr} {ns : List Int}, (∀ c ∈ cs, 0 ≤ c.2.2 ∧ c.2.2 < (F : Int)) → ∀ x ∈ dueT fl cs ns, 0 ≤ x ∧ x < (F : Int)
  | [], _, _, x, hx => by simp [dueT] at hx
  | c :: cs, [], _, x, hx => by simp [dueT] at hx
  | c :: cs, n :: ns, h, x, hx => by
    have ih := dueT_in (fl := fl) (cs := cs) (ns := ns) (fun d hd => h d (List.mem_cons_of_mem _ hd))
    unfold dueT at hx
    split at hx
    · rcases List.mem_cons.1 hx with e | e
      · rw [e]
        exact h c List.mem_cons_self
      · exact ih x e
    · exact ih x hx
theorem dueT_len {fl : List Bool} : ∀ {cs : List Rp.Ctr} {ns : List Int}, (dueT fl cs ns).length ≤ cs.length
  | [], _ => by simp [dueT]
  | c :: cs, [] => by simp [dueT]
  | c :: cs, n :: ns => by
    have ih := dueT_len (fl := fl) (cs := cs) (ns := ns)
    unfold dueT
    rw [List.length_cons]
    split
    · rw [List.length_cons]
      omega
    · omega
/-- Counts stay small. -/
def CntIn (ns : List Int) : Prop := ∀ x ∈ ns, 0 ≤ x ∧ x ≤ 1000
end Gp
abbrev intE (x : Int) : List Value := [.int .i64 x]
theorem intE_one (x : Int) : ∀ u ∈ intE x, u.oneCell' = true := fun u hu => by
  simp at hu
  rw [hu]
  rfl
theorem OE.zrow {H : Nat} {W : World} {v : Value} {L : List Int} (h : OE H 3 1 intE W v L) (hl : L.length ≤ 100000000000000) : Hang (fun k => v.ownBlock = some k) (fun w => ZRow w v L) W := by
  obtain ⟨ob, oc, rfl, hoc, g, hg1, hgc⟩ := h.form
  intro w2 h2
  refine ⟨g, 0, ⟨ob, oc, rfl, hoc, fun h0 => (hg1 h0).1⟩, hl, fun i x hx => ?_⟩
  have hi := (List.getElem?_eq_some_iff.1 hx).1
  have hf : (L.map intE).flatten[i * 1 + 0]? = some (.int .i64 x) := flatten_get (z := 1) (cs := intE x) (fun y hy => by obtain ⟨q, _, rfl⟩ := List.mem_map.1 hy; rfl) (by rw [List.getElem?_map, hx]; rfl) rfl
  rw [Nat.mul_one, Nat.add_zero] at hf
  rw [Nat.zero_add]
  exact h2 _ _ (hg1 (by omega)).2 (hgc _ _ hf).2.1
section
variable {w w' : World} {b : Nat} {A : KA} {K : Gp.KP} {S : Nat → Prop} {fb nb cb F N C : Nat} {st t : Gp.St}
set_option maxHeartbeats 8000000 in
theorem tickD11 (h : MIn w b A K S fb nb cb F N C st) (hci : Gp.CntIn st.cnts) : Calls Try.prog 29 #[.pointer (some ⟨b, 0, none⟩)] w (ActPost w b A K S F N C (Gp.tickS K st)) := by
  have HM := hideT h
  have HCI := hideT hci
  clear h hci
  go_enter Try.func29, Try.ntmps29
  go_wp2_with fail
  refine (nextD HM.out).mono ?_
  rintro e w1 ⟨f, m, c, rfl, ns, b1⟩
  have BA : Below w1.heap.size w1 (w1.alloc (.cells (stC f m c F N C) 72)) := (Below.refl _ w1).alloc (Nat.le_refl _) _
  obtain ⟨V, hV⟩ : ∃ V, w1.alloc (.cells (stC f m c F N C) 72) = V := ⟨_, rfl⟩
  have LA := Lies.new w1 72 (stC f m c F N C)
  have HBV := hideT (b1.trans (BA.mono b1.size))
  have HMV := hideT ((HM.out.below b1).below BA)
  have HNV := hideT (ns.below BA)
  rw [hV] at HBV HMV HNV LA
  have HLA := hideT LA
  have HV := hideT hV
  have HS1 : Hid (w.heap.size ≤ w1.heap.size) := b1.size
  have x5 : w1.cell? ⟨b, 5, none⟩ = some (.slice A.a5 K.ctrs.length A.c5) := (HM.out.below b1).box.cell 5
  have hz5 := cell_lt x5
  have hcl := HM.out.ok.long.2.1
  have HCS : Hid (C = K.ctrs.length) := HM.out.hc
  clear ns b1 BA LA hV
  go_wp2_with fail
  rw [HV.out]
  clear x5
  go_loopw [4, 15] (fun x i wr => ∃ (k : Nat) (D du : List Int), k ≤ K.ctrs.length ∧ i = .int .i64 k ∧ Hid (Gp.TickN st.fl K.ctrs st.cnts k D du) ∧ Hid (Keep (fun j => j = c) V wr) ∧ Hid (IntR wr c D) ∧ Hid (OE V.heap.size 3 1 intE wr x du)) (fun _ i _ => K.ctrs.length - (intOf i).toNat)
  case atStart => exact ⟨0, st.cnts, [], by omega, rfl, Gp.tick_zero _ _ _, Keep.refl _ _, HNV.out.cnts, OE.nil (Nat.le_refl _)⟩
  case round =>
    obtain ⟨k, D, du, hk, rfl, HT, HK, HD, OO⟩ := hrel
    obtain ⟨oad, ocap, ho, hfo⟩ := OO.out.form
    clear hfo
    subst ho
    have hdl : du.length ≤ 3000 := by rw [HT.out.due]; have := Gp.dueT_len (fl := st.fl) (cs := K.ctrs.take k) (ns := st.cnts.take k); rw [List.length_take] at this; omega
    have hlow := HNV.out.low
    have hcV := Lies.lt HNV.out.cnts
    have fc := flag_int_ne HNV.out.fl HNV.out.cnts
    have mc := HNV.out.nc
    have cw1 : c ≠ w1.heap.size := lies_neG HNV.out.cnts HLA.out (by decide)
    have hbl := HM.out.box.lt
    have hfbl := Lies.lt HM.out.fl
    have hnbl := Lies.lt HM.out.nums
    have hcbl := Lies.lt HM.out.cnts
    have HKM := hideT (HMV.out.keep HK.out (fun e => by omega) (fun i hi e => by have := HM.out.zone i hi; omega) (fun e => by omega) (fun e => by omega) (fun e => by omega))
    have HKF := hideT (HNV.out.fl.keep HK.out fc)
    have HKL := hideT (HLA.out.keep HK.out (fun e => cw1 e.symm))
    have HFM : Hid (f ≠ m ∧ f ≠ c ∧ f ≠ fb ∧ ¬ S f ∧ w.heap.size ≤ f) := ⟨flag_int_ne HNV.out.fl HNV.out.nums, fc, by omega, fun hs => by have := HM.out.zone f hs; omega, hlow.1⟩
    have HNM := hideT (HNV.out.nums.keep HK.out mc)
    have HCV : Hid (c < V.heap.size) := hcV
    have HCW := hideT cw1
    clear hlow hcV fc mc hbl hfbl hnbl hcbl cw1
    by_cases hlt : k < K.ctrs.length
    rotate_left
    · obtain ⟨hD, hdu⟩ := Gp.tick_done HT.out (by omega) (by rw [HM.out.lc]; exact HM.out.hc.symm)
      have HDC := hideT hD
      have HDU := hideT hdu
      have HNS : Hid (NewS wr w.heap.size f m c F N C ⟨st.fl, st.nums, Gp.cntsT st.fl K.ctrs st.cnts⟩) := ⟨HKF.out, HNM.out, by rw [← HDC.out]; exact HD.out, HM.out.lf, HM.out.ln, by rw [← HDC.out, HT.out.len]; exact HM.out.lc, HNV.out.nc, HNV.out.low⟩
      have HDIN : Hid (∀ x ∈ du, 0 ≤ x ∧ x < (F : Int)) := by
        have := Gp.dueT_in (F := F) (fl := st.fl) (cs := K.ctrs) (ns := st.cnts) (fun c hc => (HM.out.ok.ctrs c hc).2.2)
        rw [← HDU.out] at this
        exact this
      have hfV := Lies.lt HNV.out.fl
      have HZR := hideT ((OO.out.zrow (by omega)).sub (S' := fun k => k ≠ f) (fun i _ e => by have := (OO.out.lt e).2; omega))
      have HBW : Hid (Below w.heap.size w wr) := Keep.below HBV.out HK.out (fun i hi e => by have := HNV.out.low.2.2; omega)
      have z0 : wr.cell? ⟨w1.heap.size, 0, none⟩ = some (.slice (some ⟨f, 0, none⟩) F F) := HKL.out.cell 0
      have z1 : wr.cell? ⟨w1.heap.size, 1, none⟩ = some (.slice (some ⟨m, 0, none⟩) N N) := HKL.out.cell 1
      have z2 : wr.cell? ⟨w1.heap.size, 2, none⟩ = some (.slice (some ⟨c, 0, none⟩) C C) := HKL.out.cell 2
      clear hD hdu hfV
      by_cases h0 : 0 < du.length
      · have HR : Hid (Gp.tickS K st = Gp.fromS K st ⟨st.fl, st.nums, Gp.cntsT st.fl K.ctrs st.cnts⟩ du) := by
          show _ = _
          unfold Gp.tickS
          rw [← HDU.out, if_pos h0]
        go_wp2_with fail
        refine (fromD HKM.out HNS.out HFM.out.2.2.1 HFM.out.2.2.2.1 du oad du.length ocap rfl HZR.out HDIN.out).mono ?_
        intro e w3 hp
        have HP := hideT (hp.act HBW.out HFM.out.2.2.2.2)
        obtain ⟨rfl, hrest⟩ := hp
        clear hrest
        go_wp2_with fail
        go_ret
        rw [HR.out]
        exact HP.out
      · have HR : Hid (Gp.tickS K st = Gp.restS K st ⟨st.fl, st.nums, Gp.cntsT st.fl K.ctrs st.cnts⟩) := by
          show _ = _
          unfold Gp.tickS
          rw [← HDU.out, if_neg h0]
        have h0' : du.length = 0 := by omega
        go_wp2_with fail
        refine (restD HKM.out HNS.out HFM.out.2.2.1 HFM.out.2.2.2.1).mono ?_
        intro e w3 hp
        have HP := hideT (hp.act HBW.out HFM.out.2.2.2.2)
        obtain ⟨rfl, hrest⟩ := hp
        clear hrest
        go_wp2_with fail
        go_ret
        rw [HR.out]
        exact HP.out
    obtain ⟨⟨c0, c1, c2⟩, hx⟩ := Mp.at_lt (l := K.ctrs) (k := k) hlt
    obtain ⟨_, _, _, bu, ou, hau, hcu⟩ := trow_at HKM.out.kept.here.ctrs
    obtain ⟨d0, d1, d2⟩ := hcu k _ hx
    have hua2 : A.a5 = some ⟨bu, ou, none⟩ := hau (by omega)
    rw [hua2]
    dsimp only at d0 d1 d2
    obtain ⟨n, hn⟩ := Mp.at_lt (l := st.cnts) (k := k) (by have := HM.out.lc; have := HM.out.hc; omega)
    have hin := HM.out.ok.ctrs _ (List.mem_of_getElem? hx)
    obtain ⟨q, hq⟩ : ∃ q : Nat, c0 = q := ⟨c0.toNat, by have := hin.1.1; dsimp only at this; omega⟩
    subst hq
    have t3 : (q : Int) < (F : Int) := hin.1.2
    have t4 : (0 : Int) ≤ (q : Int) := by omega
    have hlim : 1 ≤ c1 ∧ c1 ≤ 100 := hin.2.1
    have hnn := HCI.out n (List.mem_of_getElem? hn)
    have HX := hideT hx
    have HNK := hideT hn
    have HSTEP := hideT (Gp.tick_step HT.out hx hn)
    have hDk : D[k]? = some n := by rw [HT.out.rest k (Nat.le_refl _)]; exact hn
    have e2 : wr.cell? ⟨c, k, none⟩ = some (.int .i64 n) := HD.out.cell hDk
    have f2 : wr.frozen? ⟨c, k, none⟩ = false := Lies.free HD.out k
    have g0 : wr.cell? ⟨f, q, none⟩ = some (.bool (Gp.atB st.fl q)) := by
      have := HKF.out.at (f := (q : Int)) t4 (by rw [HM.out.lf]; exact t3)
      rwa [show ((q : Int)).toNat = q by omega] at this
    have z0 : wr.cell? ⟨w1.heap.size, 0, none⟩ = some (.slice (some ⟨f, 0, none⟩) F F) := HKL.out.cell 0
    have z2 : wr.cell? ⟨w1.heap.size, 2, none⟩ = some (.slice (some ⟨c, 0, none⟩) C C) := HKL.out.cell 2
    have t0 : (0 : Int) ≤ (k : Int) := by omega
    have t1 : (k : Int) < (K.ctrs.length : Int) := by omega
    have t2 : (k : Int) < (C : Int) := by have := HCS.out; omega
    have hzc := cell_lt e2
    have hzf := cell_lt g0
    have hzw := cell_lt z0
    obtain ⟨g, hg⟩ : ∃ g, Gp.atB st.fl q = g := ⟨_, rfl⟩
    have HG := hideT hg
    rw [hg] at g0
    clear hcu hau hua2 hx hn hin hDk hg
    cases g
    · obtain ⟨X, hX⟩ : ∃ X, (wr.setCell ⟨c, k, none⟩ (.int .i64 0)).alloc (.cells #[.int .i64 (q : Int), .int .i64 c1, .int .i64 c2] 52) = X := ⟨_, rfl⟩
      have KX : Keep (fun j => j = c) wr X := by
        rw [← hX]
        have h1 : Keep (fun j => j = c) wr (wr.setCell ⟨c, k, none⟩ (.int .i64 0)) := Keep.set _ _ _ rfl
        exact h1.trans (Keep.of_below ((Below.refl _ _).alloc (Nat.le_refl _) _))
      have DX : IntR X c (D.set k 0) := by
        rw [← hX]
        exact (HD.out.set k 0).below ((Below.refl _ _).alloc (Nat.le_refl _) _)
      have HSX : Hid (Gp.TickN st.fl K.ctrs st.cnts (k + 1) (D.set k 0) du) := by
        have h1 := HSTEP.out
        have h2 : Gp.cntT st.fl ((q : Int), c1, c2) n = 0 := by unfold Gp.cntT; rw [show Gp.atB st.fl ((q : Int), c1, c2).1 = false from HG.out]; rfl
        rw [h2, show Gp.atB st.fl ((q : Int), c1, c2).1 = false from HG.out] at h1
        show Gp.TickN _ _ _ _ _ _
        simpa using h1
      have HKX := hideT (HK.out.trans KX)
      have HDX := hideT DX
      have HOX := hideT (OO.out.keep KX (fun i hi e => by have := (OO.out.lt hi).2; have := HCV.out; omega))
      have HXX := hideT hX
      clear KX DX hX
      go_wp2_with fail
      rw [HXX.out]
      refine ⟨⟨k + 1, D.set k 0, du, by omega, by go_num, HSX, HKX, HDX, HOX⟩, ?_⟩
      first | omega | (simp [intOf]; omega)
    obtain ⟨V1, hV1⟩ : ∃ V1, wr.alloc (.cells #[.int .i64 (q : Int), .int .i64 c1, .int .i64 c2] 52) = V1 := ⟨_, rfl⟩
    have BV1 : Below wr.heap.size wr V1 := by rw [← hV1]; exact (Below.refl _ wr).alloc (Nat.le_refl _) _
    have LV1 : Lies V1 wr.heap.size 52 #[.int .i64 (q : Int), .int .i64 c1, .int .i64 c2] := by rw [← hV1]; exact Lies.new _ _ _
    have HV1 := hideT hV1
    have HB1 := hideT BV1
    have HL1 := hideT LV1
    have HD1 := hideT (HD.out.below BV1)
    have HO1 := hideT (OO.out.below BV1)
    have HKL1 := hideT (HKL.out.below BV1)
    clear hV1 BV1 LV1
    go_wp2_with fail
    rw [HV1.out]
    have y1 : V1.cell? ⟨wr.heap.size, 1, none⟩ = some (.int .i64 c1) := HL1.out.cell 1
    have y2 : V1.cell? ⟨w1.heap.size, 2, none⟩ = some (.slice (some ⟨c, 0, none⟩) C C) := HKL1.out.cell 2
    have y3 : V1.cell? ⟨c, k, none⟩ = some (.int .i64 n) := below_cell HB1.out _ _ e2
    have y4 : V1.frozen? ⟨c, k, none⟩ = false := Lies.free HD1.out k
    clear e2 f2 g0 z0 z2 d0 d1 d2
    go_region
    obtain ⟨X, hX⟩ : ∃ X, (V1.setCell ⟨c, k, none⟩ (.int .i64 (min n c1 + 1))).drew = X := ⟨_, rfl⟩
    have KX : Keep (fun j => j = c) wr X := by
      rw [← hX]
      have h1 : Keep (fun j => j = c) V1 (V1.setCell ⟨c, k, none⟩ (.int .i64 (min n c1 + 1))) := Keep.set _ _ _ rfl
      exact ((Keep.of_below HB1.out).trans h1).trans (Keep.of_below (below_drewN (Below.refl _ _) 1))
    have DX : IntR X c (D.set k (min n c1 + 1)) := by
      rw [← hX]
      exact (HD1.out.set k _).below (below_drewN (Below.refl _ _) 1)
    have cw : c ≠ wr.heap.size := by have := Lies.lt HD.out; omega
    have LX : Lies X wr.heap.size 52 #[.int .i64 (q : Int), .int .i64 c1, .int .i64 c2] := by
      rw [← hX]
      exact (HL1.out.off _ _ (fun e => cw e.symm)).below (below_drewN (Below.refl _ _) 1)
    have LS : Lies X w1.heap.size 72 (stC f m c F N C) := HKL.out.keep KX (fun e => HCW.out e.symm)
    have hck : Gp.cntT st.fl ((q : Int), c1, c2) n = min n c1 + 1 := by unfold Gp.cntT; rw [show Gp.atB st.fl ((q : Int), c1, c2).1 = true from HG.out]; rfl
    have hst := HSTEP.out
    rw [hck, show Gp.atB st.fl ((q : Int), c1, c2).1 = true from HG.out] at hst
    have HOX := hideT (OO.out.keep KX (fun i hi e => by have := (OO.out.lt hi).2; have := HCV.out; omega))
    have HKX := hideT (HK.out.trans KX)
    have HDX := hideT DX
    have HLX := hideT LX
    have x1 : X.cell? ⟨wr.heap.size, 1, none⟩ = some (.int .i64 c1) := LX.cell 1
    have x2 : X.cell? ⟨w1.heap.size, 2, none⟩ = some (.slice (some ⟨c, 0, none⟩) C C) := LS.cell 2
    have x3 : X.cell? ⟨c, k, none⟩ = some (.int .i64 (min n c1 + 1)) := by
      refine DX.cell ?_
      rw [List.getElem?_set_self (by rw [HT.out.len]; have := (List.getElem?_eq_some_iff.1 HNK.out).1; omega)]
    rw [hX]
    obtain ⟨z, hz⟩ : ∃ z, min n c1 + 1 = z := ⟨_, rfl⟩
    rw [hz] at HDX x3 hst ⊢
    have HST := hideT hst
    clear hX KX DX LX LS hck hst hz y1 y2 y3 y4 hzc hzf hzw
    by_cases hzc : z = c1
    rotate_left
    · have HS2 : Hid (Gp.TickN st.fl K.ctrs st.cnts (k + 1) (D.set k z) du) := by
        have := HST.out
        rw [decide_eq_false (show ¬ z = ((q : Int), c1, c2).2.1 from hzc)] at this
        show Gp.TickN _ _ _ _ _ _
        simpa using this
      have hne : (z == c1) = false := beq_eq_false_iff_ne.2 hzc
      go_wp2_with fail
      go_quiet (fail)
      go_wp2_with fail
      refine ⟨⟨k + 1, D.set k z, du, by omega, by go_num, HS2, HKX.out.trans (Keep.of_below (below_drewN (Below.refl _ _) _)), HDX.out.below (below_drewN (Below.refl _ _) _), HOX.out.below (below_drewN (Below.refl _ _) _)⟩, ?_⟩
      first | omega | (simp [intOf]; omega)
    · have HS2 : Hid (Gp.TickN st.fl K.ctrs st.cnts (k + 1) (D.set k z) (du ++ [c2])) := by
        have := HST.out
        rw [decide_eq_true (show z = ((q : Int), c1, c2).2.1 from hzc)] at this
        exact this
      subst hzc
      go_wp2_with fail
      go_quiet (fail)
      rename_i nq
      have HOY := hideT (HOX.out.below (below_drewN (Below.refl _ X) nq))
      have HLY := hideT (HLX.out.below (below_drewN (Below.refl _ X) nq))
      have HKY := hideT (HKX.out.trans (Keep.of_below (below_drewN (Below.refl _ X) nq)))
      have HDY := hideT (HDX.out.below (below_drewN (Below.refl _ X) nq))
      obtain ⟨Y, hY⟩ : ∃ Y, X.drewN nq = Y := ⟨_, rfl⟩
      rw [hY] at HOY HLY HKY HDY ⊢
      have y2 : Y.cell? ⟨wr.heap.size, 2, none⟩ = some (.int .i64 c2) := HLY.out.cell 2
      clear x1 x2 x3 hY
      go_wp2_with (first | (at_builtin; (refine wpList_appO (t := 22) (e := 3) (z := 1) (E := intE) Try.underlying22 infoC_I rfl (by omega) (by omega) (fun _ => rfl) intE_one (by rfl) _ _ (by rfl) (v := .slice oad du.length ocap) (by rfl) (by rfl) (HOY.out.below ((Below.refl _ Y).alloc (Nat.le_refl _) _)) [c2] rfl (fun _ => ⟨_, rfl, news1 Y #[.int .i64 c2] 3⟩) (by simp; omega) ?_; intro v' w3 o3 k3)) | fail)
      have HKZ : Hid (Keep (fun j => j = c) V w3) := (HKY.out.trans (Keep.of_below ((Below.refl _ Y).alloc (Nat.le_refl _) _))).on k3.keep (fun i hi e => by have := (HOY.out.lt e).2; omega)
      have HDZ : Hid (IntR w3 c (D.set k z)) := (HDY.out.below ((Below.refl _ Y).alloc (Nat.le_refl _) _)).keep k3.keep (fun e => by have := (HOY.out.lt e).2; have := HCV.out; omega)
      refine ⟨⟨k + 1, D.set k z, du ++ [c2], by omega, by go_num, HS2, HKZ, HDZ, o3⟩, ?_⟩
      first | omega | (simp [intOf]; omega)
end
end Go.Proofs.Ytkjekohncfhbiaa
/-
  An act.
-/
set_option linter.unusedSimpArgs false
set_option linter.unusedVariables false
namespace Go.Proofs.Ytkjekohncfhbiaa
open Go.RowKit
set_option maxRecDepth 100000
namespace Gp
theorem restS_cnts (K : KP) (s t : St) : (restS K s t).2.cnts = t.cnts ∨ (restS K s t).2.cnts = s.cnts := by
  unfold restS
  split
  · exact .inl rfl
  · exact .inr rfl
theorem cntsT_in {fl : List Bool} : ∀ {cs : List Rp.Ctr} {ns : List Int}, (∀ c ∈ cs, 1 ≤ c.2.1 ∧ c.2.1 ≤ 100) → CntIn ns → CntIn (cntsT fl cs ns)
  | [], _, _, _ => fun x hx => by simp [cntsT] at hx
  | c :: cs, [], _, _ => fun x hx => by simp [cntsT] at hx
  | c :: cs, n :: ns, h, hn => fun x hx => by
    have ih := cntsT_in (fl := fl) (cs := cs) (ns := ns) (fun d hd => h d (List.mem_cons_of_mem _ hd)) (fun y hy => hn y (List.mem_cons_of_mem _ hy))
    unfold cntsT at hx
    rcases List.mem_cons.1 hx with e | e
    · rw [e]
      unfold cntT
      have h1 := h c List.mem_cons_self
      have h2 := hn n List.mem_cons_self
      split <;> omega
    · exact ih x e
theorem cnts_do {K : KP} {F : Nat} {s : St} (hok : KOk K F) (h : CntIn s.cnts) (a : Act) : CntIn (doS K s a).2.cnts := by
  have hl : ∀ c ∈ K.ctrs, 1 ≤ c.2.1 ∧ c.2.1 ≤ 100 := fun c hc => (hok.ctrs c hc).2.1
  have hr : ∀ t : St, CntIn t.cnts → CntIn (restS K s t).2.cnts := fun t ht => by
    rcases restS_cnts K s t with e | e
    · rw [e]; exact ht
    · rw [e]; exact h
  have hf : ∀ (t : St) fs, CntIn t.cnts → CntIn (fromS K s t fs).2.cnts := fun t fs ht => hr _ ht
  unfold doS
  split
  · exact h
  split
  · exact h
  split
  · unfold userS
    split
    · exact hf _ _ h
    · exact h
  split
  · unfold writeS
    split
    · exact h
    · exact hr _ h
  · unfold tickS
    split
    · exact hf _ _ (cntsT_in hl h)
    · exact hr _ (cntsT_in hl h)
end Gp
abbrev actG (a : Gp.Act) : Value := .agg #[.int .i64 a.kind, .string a.item, .int .i64 a.event, .string a.file, .int .i64 a.n]
theorem doNil (a : Gp.Act) (w : World) : Calls Try.prog 15 #[.pointer none, actG a] w (fun e w' => e = .returned (.int .i64 1) ∧ Below w.heap.size w w') := by
  have BA := hideT ((Below.refl w.heap.size w).alloc (Nat.le_refl _) (.cells #[.int .i64 a.kind, .string a.item, .int .i64 a.event, .string a.file, .int .i64 a.n] 44))
  go_enter Try.func15, Try.ntmps15
  go_wp2_with fail
  go_ret
  exact ⟨rfl, BA.out⟩
section
variable {w w' : World} {b : Nat} {A : KA} {K : Gp.KP} {S : Nat → Prop} {fb nb cb F N C : Nat} {st t : Gp.St}
theorem ActPost.under {w0 : World} {r : Int × Gp.St} {e : Ending} (h : ActPost w b A K S F N C r e w') (h0 : Below w0.heap.size w0 w) : ActPost w0 b A K S F N C r e w' := by
  obtain ⟨h1, fb, nb, cb, m, k⟩ := h
  exact ⟨h1, fb, nb, cb, m, (Keep.of_below h0).trans k⟩
set_option maxHeartbeats 4000000 in
theorem doD11 (h : MIn w b A K S fb nb cb F N C st) (hci : Gp.CntIn st.cnts) (a : Gp.Act) : Calls Try.prog 15 #[.pointer (some ⟨b, 0, none⟩), actG a] w (ActPost w b A K S F N C (Gp.doS K st a)) := by
  obtain ⟨kd, it, ev, fi, n⟩ := a
  dsimp only [actG]
  obtain ⟨V, hV⟩ : ∃ V, w.alloc (.cells #[.int .i64 kd, .string it, .int .i64 ev, .string fi, .int .i64 n] 44) = V := ⟨_, rfl⟩
  have BV : Below w.heap.size w V := by rw [← hV]; exact (Below.refl _ w).alloc (Nat.le_refl _) _
  have LV : Lies V w.heap.size 44 #[.int .i64 kd, .string it, .int .i64 ev, .string fi, .int .i64 n] := by rw [← hV]; exact Lies.new _ _ _
  have HM := hideT (h.below BV)
  have HCI := hideT hci
  have HB := hideT BV
  have HL := hideT LV
  have HV := hideT hV
  have HSAME : Hid (∀ r : Int, ∀ W, Below V.heap.size V W → ActPost w b A K S F N C (r, st) (.returned (.int .i64 r)) W) := fun r W hW => ⟨rfl, fb, nb, cb, (h.below BV).below hW, Keep.of_below (BV.trans (hW.mono BV.size))⟩
  clear h hci BV LV hV
  by_cases hk1 : kd < 1
  · have HR : Hid (Gp.doS K st ⟨kd, it, ev, fi, n⟩ = (1, st)) := by show _ = _; unfold Gp.doS; rw [if_pos (Or.inl hk1)]
    go_enter Try.func15, Try.ntmps15
    go_wp2_with fail
    rw [HV.out]
    go_ret
    rw [HR.out]
    exact HSAME.out 1 V (Below.refl _ _)
  by_cases hk3 : 3 < kd
  · have HR : Hid (Gp.doS K st ⟨kd, it, ev, fi, n⟩ = (1, st)) := by show _ = _; unfold Gp.doS; rw [if_pos (Or.inr hk3)]
    have hk3' : kd > 3 := hk3
    go_enter Try.func15, Try.ntmps15
    go_wp2_with fail
    rw [HV.out]
    go_ret
    rw [HR.out]
    exact HSAME.out 1 V (Below.refl _ _)
  have hk3' : ¬ kd > 3 := hk3
  have HK : Hid (¬ (kd < 1 ∨ 3 < kd)) := fun e => e.elim hk1 hk3
  have x0 : V.cell? ⟨w.heap.size, 0, none⟩ = some (.int .i64 kd) := HL.out.cell 0
  obtain ⟨ov, hov⟩ : ∃ ov, Hid (Gp.overS K st = ov) := ⟨_, rfl⟩
  cases ov
  rotate_left
  · have HR : Hid (Gp.doS K st ⟨kd, it, ev, fi, n⟩ = (9, st)) := by show _ = _; unfold Gp.doS; rw [if_neg HK.out, if_pos hov.out]
    go_enter Try.func15, Try.ntmps15
    go_wp2_with fail
    rw [HV.out]
    refine (isOverD HM.out true hov).mono ?_
    rintro e w1 ⟨rfl, b1⟩
    have HB1 := hideT b1
    clear b1 x0
    go_wp2_with fail
    go_ret
    rw [HR.out]
    exact HSAME.out 9 w1 HB1.out
  have HOV : Hid (¬ Gp.overS K st = true) := fun e => by rw [hov.out] at e; cases e
  by_cases h1 : kd = 1
  · subst h1
    have HR : Hid (Gp.doS K st ⟨1, it, ev, fi, n⟩ = Gp.userS K st it ev) := by show _ = _; unfold Gp.doS; rw [if_neg HK.out, if_neg HOV.out, if_pos rfl]
    go_enter Try.func15, Try.ntmps15
    go_wp2_with fail
    rw [HV.out]
    refine (isOverD HM.out false hov).mono ?_
    rintro e w1 ⟨rfl, b1⟩
    have HB1 := hideT (HB.out.trans (b1.mono HB.out.size))
    have HM1 := hideT (HM.out.below b1)
    have L1 := HL.out.below b1
    have y0 : w1.cell? ⟨w.heap.size, 0, none⟩ = some (.int .i64 1) := L1.cell 0
    have y1 : w1.cell? ⟨w.heap.size, 1, none⟩ = some (.string it) := L1.cell 1
    have y2 : w1.cell? ⟨w.heap.size, 2, none⟩ = some (.int .i64 ev) := L1.cell 2
    clear b1 x0 L1
    go_wp2_with fail
    refine (userD11 HM1.out it ev).mono ?_
    intro e w2 hp
    have HP := hideT (hp.under HB1.out)
    obtain ⟨rfl, hrest⟩ := hp
    clear hrest
    go_wp2_with fail
    go_ret
    rw [HR.out]
    exact HP.out
  have h1' : (kd == 1) = false := beq_eq_false_iff_ne.2 h1
  by_cases h2 : kd = 2
  · subst h2
    have HR : Hid (Gp.doS K st ⟨2, it, ev, fi, n⟩ = Gp.writeS K st fi n) := by show _ = _; unfold Gp.doS; rw [if_neg HK.out, if_neg HOV.out, if_neg (show ¬ (2 : Int) = 1 by decide), if_pos rfl]
    go_enter Try.func15, Try.ntmps15
    go_wp2_with fail
    rw [HV.out]
    refine (isOverD HM.out false hov).mono ?_
    rintro e w1 ⟨rfl, b1⟩
    have HB1 := hideT (HB.out.trans (b1.mono HB.out.size))
    have HM1 := hideT (HM.out.below b1)
    have L1 := HL.out.below b1
    have y0 : w1.cell? ⟨w.heap.size, 0, none⟩ = some (.int .i64 2) := L1.cell 0
    have y1 : w1.cell? ⟨w.heap.size, 3, none⟩ = some (.string fi) := L1.cell 3
    have y2 : w1.cell? ⟨w.heap.size, 4, none⟩ = some (.int .i64 n) := L1.cell 4
    clear b1 x0 L1
    go_wp2_with fail
    refine (writeD11 HM1.out fi n).mono ?_
    intro e w2 hp
    have HP := hideT (hp.under HB1.out)
    obtain ⟨rfl, hrest⟩ := hp
    clear hrest
    go_wp2_with fail
    go_ret
    rw [HR.out]
    exact HP.out
  have h2' : (kd == 2) = false := beq_eq_false_iff_ne.2 h2
  have HR : Hid (Gp.doS K st ⟨kd, it, ev, fi, n⟩ = Gp.tickS K st) := by show _ = _; unfold Gp.doS; rw [if_neg HK.out, if_neg HOV.out, if_neg h1, if_neg h2]
  go_enter Try.func15, Try.ntmps15
  go_wp2_with fail
  rw [HV.out]
  refine (isOverD HM.out false hov).mono ?_
  rintro e w1 ⟨rfl, b1⟩
  have HB1 := hideT (HB.out.trans (b1.mono HB.out.size))
  have HM1 := hideT (HM.out.below b1)
  have L1 := HL.out.below b1
  have y0 : w1.cell? ⟨w.heap.size, 0, none⟩ = some (.int .i64 kd) := L1.cell 0
  clear b1 x0 L1
  go_wp2_with fail
  refine (tickD11 HM1.out HCI.out).mono ?_
  intro e w2 hp
  have HP := hideT (hp.under HB1.out)
  obtain ⟨rfl, hrest⟩ := hp
  clear hrest
  go_wp2_with fail
  go_ret
  rw [HR.out]
  exact HP.out
end
end Go.Proofs.Ytkjekohncfhbiaa
