/-
  A machine in memory; its state copied; going on from another one.
-/
import Derived.Test.YtkjekohncfhbiabGOn
set_option linter.unusedSimpArgs false
set_option linter.unusedVariables false
namespace Go.Proofs.Ytkjekohncfhbiab
open Go.RowKit
set_option maxRecDepth 100000
/-- A machine: its box b, what is kept (it hangs on the blocks S), its rows. -/
structure MIn (w : World) (b : Nat) (A : KA) (K : Gp.KP) (S : Nat → Prop) (fb nb cb F N C : Nat) (st : Gp.St) : Prop where
  box : Lies w b 73 (maC A K (sl fb F) (sl nb N) (sl cb C))
  kept : Hang S (fun w => KeptAt w A K) w
  fl : FlagR w fb st.fl
  nums : IntR w nb st.nums
  cnts : IntR w cb st.cnts
  lf : st.fl.length = F
  ln : st.nums.length = N
  lc : st.cnts.length = C
  ok : Gp.KOk K F
  hn : N = K.files.length
  hc : C = K.ctrs.length
  nc : nb ≠ cb
  sb : ¬ S b
  zone : ∀ k, S k → k < w.heap.size
section
variable {w w' : World} {b : Nat} {A : KA} {K : Gp.KP} {S : Nat → Prop} {fb nb cb F N C : Nat} {st t : Gp.St}
theorem MIn.keep {T : Nat → Prop} (h : MIn w b A K S fb nb cb F N C st) (k : Keep T w w') (hb : ¬ T b) (hs : ∀ i, S i → ¬ T i) (h1 : ¬ T fb) (h2 : ¬ T nb) (h3 : ¬ T cb) : MIn w' b A K S fb nb cb F N C st :=
  ⟨h.box.keep k hb, h.kept.keep k (fun i _ h => hs i h), h.fl.keep k h1, h.nums.keep k h2, h.cnts.keep k h3, h.lf, h.ln, h.lc, h.ok, h.hn, h.hc, h.nc, h.sb, fun i hi => Nat.lt_of_lt_of_le (h.zone i hi) k.size⟩
theorem MIn.below (h : MIn w b A K S fb nb cb F N C st) (k : Below w.heap.size w w') : MIn w' b A K S fb nb cb F N C st := h.keep (T := fun _ => False) (Keep.of_below k) (fun e => e) (fun _ _ e => e) (fun e => e) (fun e => e) (fun e => e)
theorem MIn.f_ne (h : MIn w b A K S fb nb cb F N C st) : fb ≠ b ∧ fb ≠ nb ∧ fb ≠ cb ∧ nb ≠ b ∧ cb ≠ b :=
  ⟨lies_neG h.fl h.box (by decide), flag_int_ne h.fl h.nums, flag_int_ne h.fl h.cnts, lies_neG h.nums h.box (by decide), lies_neG h.cnts h.box (by decide)⟩
/-- Another state, in rows of its own. -/
structure NewS (w : World) (B : Nat) (f n c F N C : Nat) (t : Gp.St) : Prop where
  fl : FlagR w f t.fl
  nums : IntR w n t.nums
  cnts : IntR w c t.cnts
  lf : t.fl.length = F
  ln : t.nums.length = N
  lc : t.cnts.length = C
  nc : n ≠ c
  low : B ≤ f ∧ B ≤ n ∧ B ≤ c
theorem NewS.keep {B f n c : Nat} {T : Nat → Prop} (h : NewS w B f n c F N C t) (k : Keep T w w') (h1 : ¬ T f) (h2 : ¬ T n) (h3 : ¬ T c) : NewS w' B f n c F N C t := ⟨h.fl.keep k h1, h.nums.keep k h2, h.cnts.keep k h3, h.lf, h.ln, h.lc, h.nc, h.low⟩
theorem NewS.below {B f n c : Nat} (h : NewS w B f n c F N C t) (k : Below w.heap.size w w') : NewS w' B f n c F N C t := h.keep (T := fun _ => False) (Keep.of_below k) (fun e => e) (fun e => e) (fun e => e)
def NextPost (w : World) (F N C : Nat) (st : Gp.St) (e : Ending) (w' : World) : Prop := ∃ f n c, e = .returned (.agg (stC f n c F N C)) ∧ NewS w' w.heap.size f n c F N C st ∧ Below w.heap.size w w'
set_option maxHeartbeats 8000000 in
theorem nextD (h : MIn w b A K S fb nb cb F N C st) : Calls Try.prog 36 #[.pointer (some ⟨b, 0, none⟩)] w (NextPost w F N C st) := by
  obtain ⟨V, hV⟩ : ∃ V, w.alloc (.cells #[.slice none 0 0, .slice none 0 0, .slice none 0 0] 68) = V := ⟨_, rfl⟩
  have BV : Below w.heap.size w V := by rw [← hV]; exact (Below.refl _ w).alloc (Nat.le_refl _) _
  have LS : Lies V w.heap.size 68 #[.slice none 0 0, .slice none 0 0, .slice none 0 0] := by rw [← hV]; exact Lies.new _ _ _
  have HM := hideT (h.below BV)
  have HBV := hideT BV
  have HLS := hideT LS
  have HV := hideT hV
  have HF8 : Hid (F ≤ 800 ∧ N ≤ 6 ∧ C ≤ 3000) := ⟨h.ok.few, by rw [h.hn]; exact h.ok.files, by rw [h.hc]; exact h.ok.long.2.1⟩
  have HVS : Hid (w.heap.size < V.heap.size) := LS.lt
  have hbl := h.box.lt
  have hne1 : ¬ b = w.heap.size := by omega
  have hne2 : ¬ w.heap.size = b := by omega
  clear h BV LS hV hbl
  have x7 : V.cell? ⟨b, 7, none⟩ = some (.slice (some ⟨fb, 0, none⟩) F F) := HM.out.box.cell 7
  have x8 : V.cell? ⟨b, 8, none⟩ = some (.slice (some ⟨nb, 0, none⟩) N N) := HM.out.box.cell 8
  have x9 : V.cell? ⟨b, 9, none⟩ = some (.slice (some ⟨cb, 0, none⟩) C C) := HM.out.box.cell 9
  go_enter Try.func36, Try.ntmps36
  go_wp2_with fail
  rw [HV.out]
  go_region_held3 (fun w' => w'.cell? ⟨b, 7, none⟩ = some (.slice (some ⟨fb, 0, none⟩) F F) ∧ w'.cell? ⟨b, 8, none⟩ = some (.slice (some ⟨nb, 0, none⟩) N N) ∧ w'.cell? ⟨b, 9, none⟩ = some (.slice (some ⟨cb, 0, none⟩) C C)) (go_keep) (first
    | (go_at_call 22; (refine (copyF _ fb F F st.fl (HM.out.fl.below (below_drewN (Below.refl _ V) 1)) (by rw [HM.out.lf]; exact Nat.le_refl _) (by have := HF8.out.1; rw [HM.out.lf]; omega)).mono ?_); rintro e w1 ⟨rfl, f1, b1⟩; have B1 := (below_drewN (Below.refl _ V) 1).trans b1; have c7 := below_cell B1 _ _ x7; have c8 := below_cell B1 _ _ x8; have c9 := below_cell B1 _ _ x9)
    | (go_at_call_of 45 (Value.slice (some ⟨nb, 0, none⟩) N N); (refine (copyN _ nb N N st.nums (HM.out.nums.below B1) HM.out.ln.symm (by have := HF8.out.2.1; rw [HM.out.ln]; omega)).mono ?_); rintro e w2 ⟨rfl, f2, b2⟩; have B2 := B1.trans (b2.mono B1.size); have c7 := below_cell B2 _ _ x7; have c8 := below_cell B2 _ _ x8; have c9 := below_cell B2 _ _ x9)
    | (go_at_call_of 45 (Value.slice (some ⟨cb, 0, none⟩) C C); (refine (copyN _ cb C C st.cnts (HM.out.cnts.below B2) HM.out.lc.symm (by have := HF8.out.2.2; rw [HM.out.lc]; omega)).mono ?_); rintro e w3 ⟨rfl, f3, b3⟩; have B3 := B2.trans (b3.mono B2.size); have c7 := below_cell B3 _ _ x7; have c8 := below_cell B3 _ _ x8; have c9 := below_cell B3 _ _ x9; have L3 := HLS.out.below B3; have m0 : w3.cell? ⟨w.heap.size, 0, none⟩ = some (.slice none 0 0) := L3.cell 0; have m1 : w3.cell? ⟨w.heap.size, 1, none⟩ = some (.slice none 0 0) := L3.cell 1; have m2 : w3.cell? ⟨w.heap.size, 2, none⟩ = some (.slice none 0 0) := L3.cell 2; have g0 : w3.frozen? ⟨w.heap.size, 0, none⟩ = false := L3.free 0; have g1 : w3.frozen? ⟨w.heap.size, 1, none⟩ = false := L3.free 1; have g2 : w3.frozen? ⟨w.heap.size, 2, none⟩ = false := L3.free 2))
  obtain ⟨X, hX⟩ : ∃ X, ((w3.setCell ⟨w.heap.size, 0, none⟩ (.slice (some ⟨V.heap.size, 0, none⟩) F F)).setCell ⟨w.heap.size, 1, none⟩ (.slice (some ⟨w1.heap.size, 0, none⟩) N N)).setCell ⟨w.heap.size, 2, none⟩ (.slice (some ⟨w2.heap.size, 0, none⟩) C C) = X := ⟨_, rfl⟩
  have lX : Lies X w.heap.size 68 (stC V.heap.size w1.heap.size w2.heap.size F N C) := by
    rw [← hX]
    exact ((L3.set 0 _).set 1 _).set 2 _
  have kX : Keep (fun k => k = w.heap.size) w3 X := by
    rw [← hX]
    have h1 : Keep (fun k => k = w.heap.size) w3 (w3.setCell ⟨w.heap.size, 0, none⟩ (.slice (some ⟨V.heap.size, 0, none⟩) F F)) := Keep.set _ _ _ rfl
    exact (h1.trans (Keep.set _ _ _ rfl)).trans (Keep.set _ _ _ rfl)
  have s1 : V.heap.size < w1.heap.size := Lies.lt f1
  have s2 : w1.heap.size < w2.heap.size := Lies.lt f2
  have hvs := HVS.out
  have HNS : Hid (NewS X w.heap.size V.heap.size w1.heap.size w2.heap.size F N C st) := by
    have q1 : FlagR w3 V.heap.size st.fl := by
      have := (f1.below b2).below b3
      rwa [List.take_of_length_le (by rw [HM.out.lf]; exact Nat.le_refl _)] at this
    exact ⟨q1.keep kX (by omega), (f2.below b3).keep kX (by omega), f3.keep kX (by omega), HM.out.lf, HM.out.ln, HM.out.lc, by omega, by omega, by omega, by omega⟩
  have HBX : Hid (Below w.heap.size w X) := Keep.below (HBV.out.trans (B3.mono HBV.out.size)) kX (fun i hi e => by omega)
  have HLX := hideT lX
  rw [hX]
  clear hX lX kX c7 c8 c9 m0 m1 m2 g0 g1 g2 f1 f2 f3 b1 b2 b3 B1 B2 B3 L3
  go_wp2_with fail
  have r0 : X.cell? ⟨w.heap.size, 0, none⟩ = some (.slice (some ⟨V.heap.size, 0, none⟩) F F) := HLX.out.cell 0
  have r1 : X.cell? ⟨w.heap.size, 1, none⟩ = some (.slice (some ⟨w1.heap.size, 0, none⟩) N N) := HLX.out.cell 1
  have r2 : X.cell? ⟨w.heap.size, 2, none⟩ = some (.slice (some ⟨w2.heap.size, 0, none⟩) C C) := HLX.out.cell 2
  refine bodyPost_ret (v := .agg (stC V.heap.size w1.heap.size w2.heap.size F N C)) (by simp [results, Try.results36, go_sem, r0, r1, r2]) rfl ⟨_, _, _, rfl, HNS.out, HBX.out⟩
/-- What going on from another state leaves. -/
def GoPost (w : World) (b : Nat) (A : KA) (K : Gp.KP) (S : Nat → Prop) (F N C f : Nat) (r : Int × Gp.St) (e : Ending) (w' : World) : Prop := e = .returned (.int .i64 r.1) ∧ ∃ fb nb cb, MIn w' b A K S fb nb cb F N C r.2 ∧ Keep (fun k => k = b ∨ k = f) w w'
set_option maxHeartbeats 8000000 in
theorem restD {B f n c : Nat} (h : MIn w b A K S fb nb cb F N C st) (hN : NewS w B f n c F N C t) (hf : f ≠ fb) (hS : ¬ S f) : Calls Try.prog 37 #[.pointer (some ⟨b, 0, none⟩), .agg (stC f n c F N C)] w (GoPost w b A K S F N C f (Gp.restS K st t)) := by
  have BV : Below w.heap.size w (w.alloc (.cells (stC f n c F N C) 68)) := (Below.refl _ w).alloc (Nat.le_refl _) _
  have HB := hideT BV
  have HM := hideT (h.below BV)
  have HN := hideT (hN.below BV)
  have HF := hideT hf
  have HS := hideT hS
  clear h hN hf hS BV
  go_enter Try.func37, Try.ntmps37
  go_wp2_with fail
  refine (goOnD _ b A K S _ _ _ HM.out.box HM.out.kept f n c F N C t.fl t.nums HN.out.fl HN.out.lf HN.out.nums HN.out.ln HM.out.ok HM.out.hn HS.out).mono ?_
  rintro e w1 k1
  obtain ⟨r, hr⟩ : ∃ r, Gp.goOn K t.nums 100 t.fl = r := ⟨_, rfl⟩
  rw [hr] at k1
  cases r with
  | none =>
    obtain ⟨rfl, k2, l2⟩ := k1
    have HR : Hid (Gp.restS K st t = (4, st)) := by show _ = _; unfold Gp.restS; rw [hr]
    have q := HM.out.f_ne
    have HM1 := hideT (HM.out.keep k2 (fun e => by
      have := lies_neG HN.out.fl HM.out.box (by decide)
      exact this e.symm) (fun i hi e => HS.out (by rw [← e]; exact hi)) (fun e => HF.out e.symm) (fun e => flag_int_ne HN.out.fl HM.out.nums e.symm) (fun e => flag_int_ne HN.out.fl HM.out.cnts e.symm))
    have HK1 := hideT ((Keep.of_below HB.out).trans (k2.wide (R := fun k => k = b ∨ k = f) (fun _ _ e => .inr e)))
    clear k2 l2 hr
    go_wp2_with fail
    go_ret
    rw [HR.out]
    exact ⟨rfl, _, _, _, HM1.out, HK1.out⟩
  | some g =>
    obtain ⟨rfl, k2, f2, l2⟩ := k1
    have HR : Hid (Gp.restS K st t = (0, ⟨g, t.nums, t.cnts⟩)) := by show _ = _; unfold Gp.restS; rw [hr]
    have hg : g.length = F := by
      have := Gp.goOn_len 100 (fl := t.fl) (by have := HM.out.ok.las; rw [HN.out.lf]; omega) hr
      rw [this]
      exact HN.out.lf
    have fn := flag_int_ne HN.out.fl HN.out.nums
    have fc := flag_int_ne HN.out.fl HN.out.cnts
    have nbx : n ≠ b := lies_neG HN.out.nums HM.out.box (by decide)
    have cbx : c ≠ b := lies_neG HN.out.cnts HM.out.box (by decide)
    have HM1 : Hid (MIn w1 b A K S f n c F N C ⟨g, t.nums, t.cnts⟩) := ⟨l2, HM.out.kept.keep k2 (fun i _ hi e => by
      rcases e with e | e
      · exact HS.out (by rw [← e]; exact hi)
      · exact HM.out.sb (by rw [← e]; exact hi)), f2, HN.out.nums.keep k2 (fun e => by
      rcases e with e | e
      · exact fn e.symm
      · exact nbx e), HN.out.cnts.keep k2 (fun e => by
      rcases e with e | e
      · exact fc e.symm
      · exact cbx e), hg, HN.out.ln, HN.out.lc, HM.out.ok, HM.out.hn, HM.out.hc, HN.out.nc, HM.out.sb, fun i hi => Nat.lt_of_lt_of_le (HM.out.zone i hi) k2.size⟩
    have HK1 := hideT ((Keep.of_below HB.out).trans (k2.wide (R := fun k => k = b ∨ k = f) (fun _ _ e => e.symm)))
    clear k2 l2 hr f2 hg
    go_wp2_with fail
    go_ret
    rw [HR.out]
    exact ⟨rfl, _, _, _, HM1.out, HK1.out⟩
end
end Go.Proofs.Ytkjekohncfhbiab
