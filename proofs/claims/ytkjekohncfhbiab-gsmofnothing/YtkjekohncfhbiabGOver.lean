/-
  Whether it is over; a number is written.
-/
import Derived.Test.YtkjekohncfhbiabGAct2
set_option linter.unusedSimpArgs false
set_option linter.unusedVariables false
namespace Go.Proofs.Ytkjekohncfhbiab
open Go.RowKit
set_option maxRecDepth 100000
section
variable {w w' : World} {b : Nat} {A : KA} {K : Gp.KP} {S : Nat → Prop} {fb nb cb F N C : Nat} {st t : Gp.St}
set_option maxHeartbeats 1000000 in
theorem indexGI (hM : MIn w b A K S fb nb cb F N C st) (ao : Option Addr) (n cap : Nat) (l : List Int) (h : ZRow w (.slice ao n cap) l) :
    Calls Try.prog 59 #[.slice ao n cap, methG 9 b] w (GIx (l.any (Gp.upB F st.fl)) w) := by
  obtain ⟨hn, hl, hcap, bb, o, ha, hc⟩ := zrow_at h
  have HN := hideT hn
  have HC := hideT hc
  have HA := hideT ha
  have HM := hideT hM
  clear hn hc ha h hM
  go_enter Try.func59, Try.ntmps59
  go_wp2_with fail
  go_loopw [8] (fun i wr => ∃ k : Nat, k ≤ n ∧ i = .int .i64 k ∧ Hid ((l.take k).any (Gp.upB F st.fl) = false) ∧ Hid (Below w.heap.size w wr)) (fun i _ => n - (intOf i).toNat)
  case atStart => exact ⟨0, by omega, rfl, rfl, Below.refl _ _⟩
  case round =>
    obtain ⟨k, hk, rfl, HB, HW⟩ := hrel
    by_cases hlt : k < n
    · obtain ⟨x, hx⟩ := Mp.at_lt (l := l) (k := k) (by have := HN.out; omega)
      have d0 := below_cell HW.out _ _ (HC.out k _ hx)
      obtain rfl := HA.out (by omega)
      have HX := hideT hx
      obtain ⟨g, HG⟩ : ∃ z, Hid (Gp.upB F st.fl x = z) := ⟨_, rfl⟩
      have t1 : (0 : Int) ≤ (k : Int) := by omega
      have t2 : (k : Int) < (n : Int) := by omega
      clear hx
      go_wp2_with fail
      refine (upD (HM.out.below HW.out) x).mono ?_
      rintro e w1 ⟨rfl, rfl⟩
      rw [HG.out]
      cases g with
      | true =>
        have HF : Hid (decide ((0 : Int) ≤ (k : Int)) = l.any (Gp.upB F st.fl)) := by
          show _ = _
          rw [Gp.any_yesG HX.out HG.out]
          exact decide_eq_true (by omega)
        go_wp2_with fail
        go_ret
        exact ⟨k, rfl, HF.out, HW.out⟩
      | false =>
        have HR := hideT (Gp.any_takeG HX.out HB.out HG.out)
        go_wp2_with fail
        refine ⟨⟨k + 1, by omega, by go_num, HR, HW⟩, ?_⟩
        first | omega | (simp [intOf]; omega)
    · have HF : Hid (decide ((0 : Int) ≤ -1) = l.any (Gp.upB F st.fl)) := by
        show _ = _
        rw [Gp.any_allG (by have := HN.out; omega) HB.out]
        rfl
      go_wp2_with fail
      go_ret
      exact ⟨-1, rfl, HF.out, HW.out⟩
theorem containsGI (hM : MIn w b A K S fb nb cb F N C st) (ao : Option Addr) (n cap : Nat) (l : List Int) (h : ZRow w (.slice ao n cap) l) (g : Bool) (hg : Hid (l.any (Gp.upB F st.fl) = g)) :
    Calls Try.prog 33 #[.slice ao n cap, methG 9 b] w (GB g w) := by
  have HI := hideT (indexGI hM ao n cap l h)
  clear h hM
  go_enter Try.func33, Try.ntmps33
  go_wp2_with fail
  refine HI.out.mono ?_
  rintro e w1 ⟨z, rfl, hz, b1⟩
  rw [hg.out] at hz
  have HB1 := hideT b1
  clear b1
  cases g with
  | true =>
    have t : (0 : Int) ≤ z := of_decide_eq_true hz
    clear hz
    go_wp2_with fail
    go_ret
    exact ⟨ret_b (by first | (simp; done) | (simp; omega)), HB1.out⟩
  | false =>
    have t : z < 0 := by have := of_decide_eq_false hz; omega
    clear hz
    go_wp2_with fail
    go_ret
    exact ⟨ret_b (by first | (simp; done) | (simp; omega)), HB1.out⟩
theorem over_up (h : MIn w b A K S fb nb cb F N C st) : K.over.any (Gp.upB F st.fl) = Gp.overS K st := by
  unfold Gp.overS
  have : ∀ x ∈ K.over, Gp.upB F st.fl x = Gp.atB st.fl x := fun x hx => by
    have := h.ok.over x hx
    unfold Gp.upB
    rw [decide_eq_true this.1, decide_eq_true this.2]
    rfl
  revert this
  generalize K.over = l
  intro this
  induction l with
  | nil => rfl
  | cons a l ih => rw [List.any_cons, List.any_cons, this a List.mem_cons_self, ih (fun x hx => this x (List.mem_cons_of_mem _ hx))]
theorem isOverD (h : MIn w b A K S fb nb cb F N C st) (g : Bool) (hg : Hid (Gp.overS K st = g)) : Calls Try.prog 17 #[.pointer (some ⟨b, 0, none⟩)] w (GB g w) := by
  have x1 : w.cell? ⟨b, 1, none⟩ = some (.slice A.a1 K.over.length A.c1) := h.box.cell 1
  have HM := hideT h
  have HG : Hid (K.over.any (Gp.upB F st.fl) = g) := (over_up h).trans hg.out
  clear h hg
  go_enter Try.func17, Try.ntmps17
  go_wp2_with fail
  refine (containsGI HM.out _ _ _ K.over HM.out.kept.here.over g HG).mono ?_
  rintro e w1 ⟨rfl, b1⟩
  go_wp2_with fail
  go_ret
  exact ⟨rfl, b1⟩
/-- What an act leaves. -/
def ActPost (w : World) (b : Nat) (A : KA) (K : Gp.KP) (S : Nat → Prop) (F N C : Nat) (r : Int × Gp.St) (e : Ending) (w' : World) : Prop := e = .returned (.int .i64 r.1) ∧ ∃ fb nb cb, MIn w' b A K S fb nb cb F N C r.2 ∧ Keep (fun k => k = b) w w'
theorem GoPost.act {w0 : World} {f : Nat} {r : Int × Gp.St} {e : Ending} (h : GoPost w b A K S F N C f r e w') (h0 : Below w0.heap.size w0 w) (hf : w0.heap.size ≤ f) : ActPost w0 b A K S F N C r e w' := by
  obtain ⟨h1, fb, nb, cb, m, k⟩ := h
  refine ⟨h1, fb, nb, cb, m, ?_⟩
  refine ⟨k.os.trans h0.os, k.tape.trans h0.tape, k.output.trans h0.output, Nat.le_trans h0.size k.size, fun i hi hs => ?_⟩
  rw [k.block i (Nat.lt_of_lt_of_le hi h0.size) (fun e => by
    rcases e with e | e
    · exact hs e
    · omega)]
  exact h0.block i hi
set_option maxHeartbeats 4000000 in
theorem writeD11 (h : MIn w b A K S fb nb cb F N C st) (s : ByteArray) (n : Int) : Calls Try.prog 19 #[.pointer (some ⟨b, 0, none⟩), .string s, .int .i64 n] w (ActPost w b A K S F N C (Gp.writeS K st s n)) := by
  have x3 : w.cell? ⟨b, 3, none⟩ = some (.slice A.a3 K.files.length A.c3) := h.box.cell 3
  have HM := hideT h
  obtain ⟨z, hz⟩ : ∃ z, idxZ K.files s = z := ⟨_, rfl⟩
  have HZ := hideT hz
  by_cases h0 : 0 ≤ z
  rotate_left
  · have HR : Hid (Gp.writeS K st s n = (1, st)) := by show _ = _; unfold Gp.writeS; rw [HZ.out, if_pos (Or.inl (by omega))]
    have h0' : z < 0 := by omega
    clear h hz
    go_enter Try.func19, Try.ntmps19
    go_wp2_with fail
    refine (indexS w _ _ _ K.files s HM.out.kept.here.files).mono ?_
    rintro e w1 ⟨rfl, rfl⟩
    rw [HZ.out]
    go_wp2_with fail
    go_ret
    rw [HR.out]
    exact ⟨rfl, _, _, _, HM.out, Keep.refl _ _⟩
  have h1 : z < (N : Int) := by
    have := idx_lt K.files s (by rw [hz]; exact h0)
    rw [hz] at this
    rw [h.hn]
    exact this
  have h0' : ¬ z < 0 := by omega
  by_cases h2 : n < -1000000
  · have HR : Hid (Gp.writeS K st s n = (1, st)) := by show _ = _; unfold Gp.writeS; rw [if_pos (Or.inr (Or.inl h2))]
    clear h hz
    go_enter Try.func19, Try.ntmps19
    go_wp2_with fail
    refine (indexS w _ _ _ K.files s HM.out.kept.here.files).mono ?_
    rintro e w1 ⟨rfl, rfl⟩
    rw [HZ.out]
    go_wp2_with fail
    go_ret
    rw [HR.out]
    exact ⟨rfl, _, _, _, HM.out, Keep.refl _ _⟩
  by_cases h3 : 1000000 < n
  · have HR : Hid (Gp.writeS K st s n = (1, st)) := by show _ = _; unfold Gp.writeS; rw [if_pos (Or.inr (Or.inr h3))]
    have h3' : n > 1000000 := h3
    clear h hz
    go_enter Try.func19, Try.ntmps19
    go_wp2_with fail
    refine (indexS w _ _ _ K.files s HM.out.kept.here.files).mono ?_
    rintro e w1 ⟨rfl, rfl⟩
    rw [HZ.out]
    go_wp2_with fail
    go_ret
    rw [HR.out]
    exact ⟨rfl, _, _, _, HM.out, Keep.refl _ _⟩
  obtain ⟨q, rfl⟩ : ∃ q : Nat, z = q := ⟨z.toNat, by omega⟩
  have HR : Hid (Gp.writeS K st s n = Gp.restS K st ⟨st.fl, st.nums.set q n, st.cnts⟩) := by
    show _ = _
    unfold Gp.writeS
    rw [HZ.out, if_neg (by omega)]
    rfl
  have h3' : ¬ n > 1000000 := h3
  clear h hz
  go_enter Try.func19, Try.ntmps19
  go_wp2_with fail
  refine (indexS w _ _ _ K.files s HM.out.kept.here.files).mono ?_
  rintro e w0 ⟨rfl, hw0⟩
  obtain rfl := hw0.symm
  rw [HZ.out]
  go_wp2_with fail
  refine (nextD HM.out).mono ?_
  rintro e w1 ⟨f, m, c, rfl, ns, b1⟩
  have c0 : w1.cell? ⟨m, q, none⟩ = some (.int .i64 (Gp.atZ st.nums q)) := by
    have := ns.nums.at (f := (q : Int)) h0 (by rw [ns.ln]; exact h1)
    rwa [show ((q : Int)).toNat = q by omega] at this
  have f0 : w1.frozen? ⟨m, q, none⟩ = false := Lies.free ns.nums q
  have ml : m < w1.heap.size := Lies.lt ns.nums
  have fm := flag_int_ne ns.fl ns.nums
  obtain ⟨X, hX⟩ : ∃ X, (w1.setCell ⟨m, q, none⟩ (.int .i64 n)).alloc (.cells (stC f m c F N C) 68) = X := ⟨_, rfl⟩
  have KX : Keep (fun k => k = m) w1 X := by
    rw [← hX]
    have h1 : Keep (fun k => k = m) w1 (w1.setCell ⟨m, q, none⟩ (.int .i64 n)) := Keep.set _ _ _ rfl
    exact h1.trans (Keep.of_below ((Below.refl _ _).alloc (Nat.le_refl _) _))
  have NX : IntR X m (st.nums.set q n) := by
    rw [← hX]
    exact (ns.nums.set q n).below ((Below.refl _ _).alloc (Nat.le_refl _) _)
  have LX : Lies X w1.heap.size 68 (stC f m c F N C) := by
    rw [← hX]
    have := Lies.new (w1.setCell ⟨m, q, none⟩ (.int .i64 n)) 68 (stC f m c F N C)
    rwa [show (w1.setCell ⟨m, q, none⟩ (.int .i64 n)).heap.size = w1.heap.size by simp [World.setCell]] at this
  have hlow := ns.low
  have hfbl := Lies.lt HM.out.fl
  have hnbl := Lies.lt HM.out.nums
  have hcbl := Lies.lt HM.out.cnts
  have hbl := HM.out.box.lt
  have HN2 : Hid (NewS X w.heap.size f m c F N C ⟨st.fl, st.nums.set q n, st.cnts⟩) := ⟨ns.fl.keep KX fm, NX, ns.cnts.keep KX (fun e => ns.nc e.symm), ns.lf, by rw [List.length_set]; exact ns.ln, ns.lc, ns.nc, ns.low⟩
  have HM2 := hideT ((HM.out.below b1).keep KX (fun e => by omega) (fun i hi e => by have := HM.out.zone i hi; omega) (fun e => by omega) (fun e => by omega) (fun e => by omega))
  have HB2 := hideT (Keep.below b1 KX (fun i hi e => by omega))
  have HL2 := hideT LX
  have HXX := hideT hX
  have HFF : Hid (f ≠ fb ∧ ¬ S f ∧ w.heap.size ≤ f) := ⟨by omega, fun hs => by have := HM.out.zone f hs; omega, hlow.1⟩
  clear KX NX fm hlow hfbl hnbl hcbl hbl hX LX ns b1 x3
  go_wp2_with fail
  rw [HXX.out]
  have y0 : X.cell? ⟨w1.heap.size, 0, none⟩ = some (.slice (some ⟨f, 0, none⟩) F F) := HL2.out.cell 0
  have y1 : X.cell? ⟨w1.heap.size, 1, none⟩ = some (.slice (some ⟨m, 0, none⟩) N N) := HL2.out.cell 1
  have y2 : X.cell? ⟨w1.heap.size, 2, none⟩ = some (.slice (some ⟨c, 0, none⟩) C C) := HL2.out.cell 2
  go_wp2_with fail
  refine (restD HM2.out HN2.out HFF.out.1 HFF.out.2.1).mono ?_
  intro e w3 hp
  have HP := hideT (hp.act HB2.out HFF.out.2.2)
  obtain ⟨rfl, hrest⟩ := hp
  clear hrest
  go_wp2_with fail
  go_ret
  rw [HR.out]
  exact HP.out
end
end Go.Proofs.Ytkjekohncfhbiab
