/-
  Several texts in one: each opens with its own word.
-/
import Derived.Test.YtkjekohncfhbiaaGKept1
import Derived.Test.YtkjekohncfhbiaaGFirst
import Derived.Test.YtkjekohncfhbiaaPartD
import Derived.Test.YtkjekohncfhbiaaRIs
/-
  New: a machine as it begins. (Written by GNew.py.)
-/
set_option linter.unusedSimpArgs false
set_option linter.unusedVariables false
namespace Go.Proofs.Ytkjekohncfhbiaa
open Go.RowKit
set_option maxRecDepth 100000
/-- A machine that lies, made since w0. -/
def Mach (w0 w : World) (b : Nat) (p : Rp.Prog) (st : Gp.St) : Prop := ∃ A S fb nb cb, MIn w b A (Gp.kept p) S fb nb cb p.flags.toNat p.files.length p.ctrs.length st ∧ w0.heap.size ≤ b ∧ Gp.CntIn st.cnts
/-- As it begins: all of it lies in blocks of its own. -/
def Mach0 (w0 w : World) (b : Nat) (p : Rp.Prog) (st : Gp.St) : Prop := ∃ A S fb nb cb, MIn w b A (Gp.kept p) S fb nb cb p.flags.toNat p.files.length p.ctrs.length st ∧ (w0.heap.size ≤ b ∧ w0.heap.size ≤ fb ∧ w0.heap.size ≤ nb ∧ w0.heap.size ≤ cb ∧ ∀ k, S k → w0.heap.size ≤ k) ∧ Gp.CntIn st.cnts
theorem Mach0.mach {w0 w : World} {b : Nat} {p : Rp.Prog} {st : Gp.St} (h : Mach0 w0 w b p st) : Mach w0 w b p st := by
  obtain ⟨A, S, fb, nb, cb, h1, h2, h3⟩ := h
  exact ⟨A, S, fb, nb, cb, h1, h2.1, h3⟩
theorem Mach0.keep {T : Nat → Prop} {w0 w w' : World} {b : Nat} {p : Rp.Prog} {st : Gp.St} (h : Mach0 w0 w b p st) (k : Keep T w w') (hT : ∀ i, w0.heap.size ≤ i → ¬ T i) : Mach0 w0 w' b p st := by
  obtain ⟨A, S, fb, nb, cb, h1, h2, h3⟩ := h
  exact ⟨A, S, fb, nb, cb, h1.keep k (hT b h2.1) (fun i hi => hT i (h2.2.2.2.2 i hi)) (hT fb h2.2.1) (hT nb h2.2.2.1) (hT cb h2.2.2.2.1), h2, h3⟩
theorem Mach.below {w0 w w' : World} {b : Nat} {p : Rp.Prog} {st : Gp.St} (h : Mach w0 w b p st) (k : Below w.heap.size w w') : Mach w0 w' b p st := by
  obtain ⟨A, S, fb, nb, cb, h1, h2, h3⟩ := h
  exact ⟨A, S, fb, nb, cb, h1.below k, h2, h3⟩
theorem Mach.up {w0 w : World} {b : Nat} {p : Rp.Prog} {st : Gp.St} (h : Mach w0 w b p st) (f : Int) (v : Bool) (hv : Gp.upB p.flags.toNat st.fl f = v) : Calls Try.prog 20 #[.pointer (some ⟨b, 0, none⟩), .int .i64 f] w (fun e w' => e = .returned (.bool v) ∧ w' = w) := by
  obtain ⟨A, S, fb, nb, cb, h1, _, _⟩ := h
  rw [← hv]
  exact upD h1 f
theorem Mach.file {w0 w : World} {b : Nat} {p : Rp.Prog} {st : Gp.St} (h : Mach w0 w b p st) (s : ByteArray) (v : Int) (hv : Gp.fileS (Gp.kept p) st s = v) : Calls Try.prog 19 #[.pointer (some ⟨b, 0, none⟩), .string s] w (fun e w' => e = .returned (.int .i64 v) ∧ w' = w) := by
  obtain ⟨A, S, fb, nb, cb, h1, _, _⟩ := h
  rw [← hv]
  exact fileD11 h1 s
theorem Mach.do {w0 w : World} {b : Nat} {p : Rp.Prog} {st st' : Gp.St} {r : Int} (h : Mach w0 w b p st) (a : Gp.Act) (hd : Gp.doS (Gp.kept p) st a = (r, st')) : Calls Try.prog 15 #[.pointer (some ⟨b, 0, none⟩), actG a] w (fun e w' => e = .returned (.int .i64 r) ∧ Mach w0 w' b p st' ∧ Keep (fun k => k = b) w w') := by
  obtain ⟨A, S, fb, nb, cb, h1, h2, h3⟩ := h
  refine (doD11 h1 h3 a).mono ?_
  rintro e w' ⟨rfl, fb', nb', cb', m, k⟩
  have hc := Gp.cnts_do h1.ok h3 a
  rw [hd] at m hc ⊢
  exact ⟨rfl, ⟨A, S, fb', nb', cb', m, h2, hc⟩, k⟩
def NewPost (p : Rp.Prog) (w : World) (e : Ending) (w' : World) : Prop :=
  Below w.heap.size w w' ∧ match Gp.newP p with
  | some st => ∃ b, e = .returned (.tuple #[.pointer (some ⟨b, 0, none⟩), .int .i64 0]) ∧ Mach0 w w' b p st
  | none => e = .returned (.tuple #[.pointer none, .int .i64 4])
theorem goOn_flag {p : Rp.Prog} {g : List Bool} (h : Gp.goOn (Gp.kept p) (List.replicate p.files.length 0) 100 (Gp.firstF p) = some g) : Gp.newP p = some ⟨g, List.replicate p.files.length 0, List.replicate p.ctrs.length 0⟩ := by
  unfold Gp.newP
  rw [h]
theorem goOn_no {p : Rp.Prog} (h : Gp.goOn (Gp.kept p) (List.replicate p.files.length 0) 100 (Gp.firstF p) = none) : Gp.newP p = none := by
  unfold Gp.newP
  rw [h]
set_option maxHeartbeats 8000000 in
theorem newD (w : World) (A : PA) (p : Rp.Prog) (h : ProgAt w A p) (is : Rp.IsP p) (sm : Gp.SmallP p) : Calls Try.prog 11 #[.agg #[.int .i64 p.flags, .int .i64 p.lasting, .slice A.a2 p.first.length A.c2, .slice A.a3 p.over.length A.c3, .int .i64 p.frm, .slice A.a5 p.files.length A.c5, .slice A.a6 p.rules.length A.c6, .slice A.a7 p.ctrs.length A.c7, .slice A.a8 p.users.length A.c8, .slice A.a9 p.notes.length A.c9]] w (NewPost p w) := by
  obtain ⟨a2, c2, a3, c3, a5, c5, a6, c6, a7, c7, a8, c8, a9, c9⟩ := A
  show Calls _ _ #[.agg #[.int .i64 p.flags, .int .i64 p.lasting, .slice a2 p.first.length c2, .slice a3 p.over.length c3, .int .i64 p.frm, .slice a5 p.files.length c5, .slice a6 p.rules.length c6, .slice a7 p.ctrs.length c7, .slice a8 p.users.length c8, .slice a9 p.notes.length c9]] w _
  obtain ⟨V, hV⟩ : ∃ V, w.alloc (.cells #[.int .i64 p.flags, .int .i64 p.lasting, .slice a2 p.first.length c2, .slice a3 p.over.length c3, .int .i64 p.frm, .slice a5 p.files.length c5, .slice a6 p.rules.length c6, .slice a7 p.ctrs.length c7, .slice a8 p.users.length c8, .slice a9 p.notes.length c9] 29) = V := ⟨_, rfl⟩
  have BV : Below w.heap.size w V := by rw [← hV]; exact (Below.refl _ w).alloc (Nat.le_refl _) _
  have LV : Lies V w.heap.size 29 #[.int .i64 p.flags, .int .i64 p.lasting, .slice a2 p.first.length c2, .slice a3 p.over.length c3, .int .i64 p.frm, .slice a5 p.files.length c5, .slice a6 p.rules.length c6, .slice a7 p.ctrs.length c7, .slice a8 p.users.length c8, .slice a9 p.notes.length c9] := by rw [← hV]; exact Lies.new _ _ _
  have HP := hideT (h.below BV)
  have HB := hideT BV
  have HL := hideT LV
  have HV := hideT hV
  have HIS := hideT is
  have HSM := hideT sm
  have HVL : Hid (w.heap.size < V.heap.size) := LV.lt
  have HOP : Hid (∀ r ∈ p.rules, ∀ c ∈ r.2.2.1, Mp.opB c.2.1 = true) := fun r hr c hc => by
    obtain ⟨j, hj⟩ := List.getElem?_of_mem hr
    exact ((is.2.2.2.1.2 j r hj).2.1.2.1 c hc).2
  have HOK := hideT (Gp.kept_ok is sm)
  have y0 : V.cell? ⟨w.heap.size, 0, none⟩ = some (.int .i64 p.flags) := LV.cell 0
  have y1 : V.cell? ⟨w.heap.size, 1, none⟩ = some (.int .i64 p.lasting) := LV.cell 1
  have y2 : V.cell? ⟨w.heap.size, 2, none⟩ = some (.slice a2 p.first.length c2) := LV.cell 2
  have y3 : V.cell? ⟨w.heap.size, 3, none⟩ = some (.slice a3 p.over.length c3) := LV.cell 3
  have y4 : V.cell? ⟨w.heap.size, 4, none⟩ = some (.int .i64 p.frm) := LV.cell 4
  have y5 : V.cell? ⟨w.heap.size, 5, none⟩ = some (.slice a5 p.files.length c5) := LV.cell 5
  have y6 : V.cell? ⟨w.heap.size, 6, none⟩ = some (.slice a6 p.rules.length c6) := LV.cell 6
  have y7 : V.cell? ⟨w.heap.size, 7, none⟩ = some (.slice a7 p.ctrs.length c7) := LV.cell 7
  have y8 : V.cell? ⟨w.heap.size, 8, none⟩ = some (.slice a8 p.users.length c8) := LV.cell 8
  have y9 : V.cell? ⟨w.heap.size, 9, none⟩ = some (.slice a9 p.notes.length c9) := LV.cell 9
  clear h is sm BV LV hV
  go_enter Try.func11, Try.ntmps11
  go_wp2_with fail
  rw [HV.out]
  go_wp2_with fail
  refine (isD V ⟨a2, c2, a3, c3, a5, c5, a6, c6, a7, c7, a8, c8, a9, c9⟩ p HP.out).mono ?_
  rintro e w1 k1
  obtain ⟨rfl, b1⟩ := k1.yes HIS.out
  have HB1 := hideT b1
  clear k1 b1 y0 y1 y2 y3 y4 y5 y6 y7 y8 y9
  have hl1 := HL.out.below HB1.out
  have y0 : w1.cell? ⟨w.heap.size, 0, none⟩ = some (.int .i64 p.flags) := hl1.cell 0
  have y1 : w1.cell? ⟨w.heap.size, 1, none⟩ = some (.int .i64 p.lasting) := hl1.cell 1
  have y2 : w1.cell? ⟨w.heap.size, 2, none⟩ = some (.slice a2 p.first.length c2) := hl1.cell 2
  have y3 : w1.cell? ⟨w.heap.size, 3, none⟩ = some (.slice a3 p.over.length c3) := hl1.cell 3
  have y4 : w1.cell? ⟨w.heap.size, 4, none⟩ = some (.int .i64 p.frm) := hl1.cell 4
  have y5 : w1.cell? ⟨w.heap.size, 5, none⟩ = some (.slice a5 p.files.length c5) := hl1.cell 5
  have y6 : w1.cell? ⟨w.heap.size, 6, none⟩ = some (.slice a6 p.rules.length c6) := hl1.cell 6
  have y7 : w1.cell? ⟨w.heap.size, 7, none⟩ = some (.slice a7 p.ctrs.length c7) := hl1.cell 7
  have y8 : w1.cell? ⟨w.heap.size, 8, none⟩ = some (.slice a8 p.users.length c8) := hl1.cell 8
  have y9 : w1.cell? ⟨w.heap.size, 9, none⟩ = some (.slice a9 p.notes.length c9) := hl1.cell 9
  clear hl1
  go_wp2_with fail
  refine (keptD w1 ⟨a2, c2, a3, c3, a5, c5, a6, c6, a7, c7, a8, c8, a9, c9⟩ p (HP.out.below HB1.out) HSM.out HOP.out HIS.out.2.2.2.1.1 HIS.out.2.2.1.1).mono ?_
  rintro e w2 ⟨KAx, rfl, hn, b2⟩
  have HN := hideT hn
  have HB2 := hideT (HB1.out.trans (b2.mono HB1.out.size))
  have HS2 : Hid (w1.heap.size ≤ w2.heap.size) := b2.size
  clear hn b2 y0 y1 y2 y3 y4 y5 y6 y7 y8 y9
  obtain ⟨W, hW⟩ : ∃ W, w2.alloc (.cells (maC KAx (Gp.kept p) (.slice none 0 0) (.slice none 0 0) (.slice none 0 0)) 74) = W := ⟨_, rfl⟩
  have BW : Below w2.heap.size w2 W := by rw [← hW]; exact (Below.refl _ w2).alloc (Nat.le_refl _) _
  have LW : Lies W w2.heap.size 74 (maC KAx (Gp.kept p) (.slice none 0 0) (.slice none 0 0) (.slice none 0 0)) := by rw [← hW]; exact Lies.new _ _ _
  have HBW := hideT BW
  have HLW := hideT LW
  have HW := hideT hW
  have hlw := HL.out.below HB2.out
  have y0 : w2.cell? ⟨w.heap.size, 0, none⟩ = some (.int .i64 p.flags) := hlw.cell 0
  have y1 : w2.cell? ⟨w.heap.size, 1, none⟩ = some (.int .i64 p.lasting) := hlw.cell 1
  have y2 : w2.cell? ⟨w.heap.size, 2, none⟩ = some (.slice a2 p.first.length c2) := hlw.cell 2
  have y3 : w2.cell? ⟨w.heap.size, 3, none⟩ = some (.slice a3 p.over.length c3) := hlw.cell 3
  have y4 : w2.cell? ⟨w.heap.size, 4, none⟩ = some (.int .i64 p.frm) := hlw.cell 4
  have y5 : w2.cell? ⟨w.heap.size, 5, none⟩ = some (.slice a5 p.files.length c5) := hlw.cell 5
  have y6 : w2.cell? ⟨w.heap.size, 6, none⟩ = some (.slice a6 p.rules.length c6) := hlw.cell 6
  have y7 : w2.cell? ⟨w.heap.size, 7, none⟩ = some (.slice a7 p.ctrs.length c7) := hlw.cell 7
  have y8 : w2.cell? ⟨w.heap.size, 8, none⟩ = some (.slice a8 p.users.length c8) := hlw.cell 8
  have y9 : w2.cell? ⟨w.heap.size, 9, none⟩ = some (.slice a9 p.notes.length c9) := hlw.cell 9
  have hz2 := cell_lt y0
  have hz3 := World.new_ne w2 _ y0
  clear BW LW hW hlw
  go_wp2_with fail
  rw [HW.out]
  have HBVW := hideT (HB2.out.trans (HBW.out.mono HB2.out.size))
  refine (firstD W ⟨a2, c2, a3, c3, a5, c5, a6, c6, a7, c7, a8, c8, a9, c9⟩ p (HP.out.below HBVW.out) HIS.out HSM.out).mono ?_
  rintro e w3 ⟨f, n, c, rfl, ns, b3⟩
  have HNS := hideT ns
  have HB3 := hideT (HBVW.out.trans (b3.mono HBVW.out.size))
  have HLW3 := hideT (HLW.out.below b3)
  have HK3 : Hid (Hang (fun k => w1.heap.size ≤ k ∧ k < w2.heap.size) (fun w => KeptAt w KAx (Gp.kept p)) w3) := (((Hang.new HN.out).below HBW.out).below b3).sub (fun i _ hi => hi)
  have HSW : Hid (w2.heap.size < W.heap.size ∧ W.heap.size ≤ w3.heap.size) := ⟨HLW.out.lt, b3.size⟩
  clear ns b3 y0 y1 y2 y3 y4 y5 y6 y7 y8 y9
  go_wp2_with fail
  refine (goOnD w3 w2.heap.size KAx (Gp.kept p) (fun k => w1.heap.size ≤ k ∧ k < w2.heap.size) _ _ _ HLW3.out HK3.out f n c p.flags.toNat p.files.length p.ctrs.length (Gp.firstF p) (List.replicate p.files.length 0) HNS.out.fl HNS.out.lf HNS.out.nums HNS.out.ln HOK.out rfl (fun hs => by have := HNS.out.low.1; have := HSW.out; omega)).mono ?_
  rintro e w4 k4
  obtain ⟨r, hr⟩ : ∃ r, Gp.goOn (Gp.kept p) (List.replicate p.files.length 0) 100 (Gp.firstF p) = r := ⟨_, rfl⟩
  rw [hr] at k4
  have HW2 : Hid (V.heap.size ≤ w1.heap.size ∧ w1.heap.size ≤ w2.heap.size) := ⟨HB1.out.size, HS2.out⟩
  cases r with
  | none =>
    obtain ⟨rfl, k5, _⟩ := k4
    have HNO := hideT (goOn_no hr)
    have HB4 := hideT (Keep.below (HB.out.trans (HB3.out.mono HB.out.size)) k5 (fun i hi e => by have := HNS.out.low.1; have := HSW.out; have := HW2.out; have := HVL.out; omega))
    clear k5 hr
    go_wp2_with fail
    go_ret2
    refine ⟨HB4.out, ?_⟩
    rw [HNO.out]
    exact rfl
  | some g =>
    obtain ⟨rfl, k5, f5, l5⟩ := k4
    have HYES := hideT (goOn_flag hr)
    have hg : g.length = p.flags.toNat := by
      have := Gp.goOn_len 100 (fl := Gp.firstF p) (by have := HOK.out.las; have h2 := HNS.out.lf; dsimp only at h2; rw [h2]; omega) hr
      rw [this]
      exact HNS.out.lf
    have HB4 := hideT (Keep.below (HB.out.trans (HB3.out.mono HB.out.size)) k5 (fun i hi e => by have := HNS.out.low.1; have := HSW.out; have := HW2.out; have := HVL.out; omega))
    have fn := flag_int_ne HNS.out.fl HNS.out.nums
    have fc := flag_int_ne HNS.out.fl HNS.out.cnts
    have nb := lies_neG HNS.out.nums HLW3.out (by decide)
    have cb := lies_neG HNS.out.cnts HLW3.out (by decide)
    have HMA : Hid (Mach0 w w4 w2.heap.size p ⟨g, List.replicate p.files.length 0, List.replicate p.ctrs.length 0⟩) := ⟨KAx, (fun k => w1.heap.size ≤ k ∧ k < w2.heap.size), f, n, c, ⟨l5, HK3.out.keep k5 (fun i _ hi e => by have := HNS.out.low.1; have := HSW.out; omega), f5, HNS.out.nums.keep k5 (fun e => e.elim (fun e => fn e.symm) nb), HNS.out.cnts.keep k5 (fun e => e.elim (fun e => fc e.symm) cb), hg, by simp, by simp, HOK.out, rfl, rfl, HNS.out.nc, fun hs => by omega, fun i hi => by have := k5.size; have := HSW.out; omega⟩, ⟨by have := HW2.out; have := HVL.out; omega, by have := HNS.out.low.1; have := HW2.out; have := HVL.out; have := HSW.out; omega, by have := HNS.out.low.2.1; have := HW2.out; have := HVL.out; have := HSW.out; omega, by have := HNS.out.low.2.2; have := HW2.out; have := HVL.out; have := HSW.out; omega, fun k hk => by have := HW2.out; have := HVL.out; omega⟩, fun x hx => by rw [List.eq_of_mem_replicate hx]; omega⟩
    clear k5 f5 l5 hr hg fn fc nb cb
    go_wp2_with fail
    go_ret2
    refine ⟨HB4.out, ?_⟩
    rw [HYES.out]
    exact ⟨_, rfl, HMA.out⟩
end Go.Proofs.Ytkjekohncfhbiaa
/-
  When a program may be, reckoned; small ones.
-/
set_option linter.unusedSimpArgs false
set_option linter.unusedVariables false
namespace Go.Proofs.Ytkjekohncfhbiaa.Gp
open Rp
theorem ris_of {n : Int} {l : List Int} (h : l.Pairwise (· < ·)) (h2 : ∀ x ∈ l, 0 ≤ x ∧ x < n) : RisP n l := fun i x hx => ⟨h2 x (List.mem_of_getElem? hx), fun j y hj hy => by
  have hi := (List.getElem?_eq_some_iff.1 hx)
  have hjj := (List.getElem?_eq_some_iff.1 hy)
  obtain ⟨a1, a2⟩ := hi
  obtain ⟨b1, b2⟩ := hjj
  have := List.pairwise_iff_getElem.1 h j i b1 a1 (by omega)
  rw [a2, b2] at this
  exact this⟩
theorem is_of {p : Prog} (h1 : 0 ≤ p.lasting ∧ p.lasting ≤ p.flags ∧ p.flags ≤ 800) (h2 : p.first.Pairwise (· < ·) ∧ ∀ x ∈ p.first, 0 ≤ x ∧ x < p.lasting) (h3 : p.over.Pairwise (· < ·) ∧ ∀ x ∈ p.over, 0 ≤ x ∧ x < p.lasting) (h4 : 1 ≤ p.frm ∧ p.frm ≤ 20)
    (h5 : p.files.length ≤ 6 ∧ p.files.Nodup) (h6 : p.rules.length ≤ 1500) (h7 : ∀ r ∈ p.rules, (1 ≤ r.1 ∧ r.1 ≤ 20) ∧ (∀ x ∈ r.2.1, 0 ≤ x.1 ∧ x.1 < p.flags) ∧ (∀ c ∈ r.2.2.1, Mp.has p.files c.1 = true ∧ Mp.opB c.2.1 = true) ∧ (∀ x ∈ r.2.2.2, 0 ≤ x.1 ∧ x.1 < p.flags) ∧ 0 < r.2.2.2.length) (h8 : p.rules.Pairwise fun q r => q.1 ≤ r.1)
    (h9 : ∀ c ∈ p.ctrs, (0 ≤ c.1 ∧ c.1 < p.lasting) ∧ 1 ≤ c.2.1 ∧ c.2.1 ≤ 100 ∧ p.lasting ≤ c.2.2 ∧ c.2.2 < p.flags) (h10 : ∀ u ∈ p.users, (∀ x ∈ u.2.2.1, 0 ≤ x.1 ∧ x.1 < p.lasting) ∧ p.lasting ≤ u.2.2.2 ∧ u.2.2.2 < p.flags)
    (h11 : ∀ r ∈ p.rules, ∀ s ∈ r.2.2.2, (0 ≤ s.1 ∧ s.1 < p.lasting → r.1 = lastS p) ∧ (p.lasting ≤ s.1 ∧ s.1 < p.flags → ∀ q ∈ p.rules, ∀ l ∈ q.2.1, l.1 = s.1 → r.1 < q.1)) : IsP p := by
  refine ⟨⟨h1.1, h1.2.1, h1.2.2, ris_of h2.1 h2.2, ris_of h3.1 h3.2⟩, h4, ⟨h5.1, fun i j s hij hi hj => ?_⟩, ⟨h6, fun i r hr => ?_⟩, h9, h10, h11⟩
  · obtain ⟨a1, a2⟩ := List.getElem?_eq_some_iff.1 hi
    obtain ⟨b1, b2⟩ := List.getElem?_eq_some_iff.1 hj
    have := List.pairwise_iff_getElem.1 h5.2 i j a1 b1 hij
    rw [a2, b2] at this
    exact this rfl
  · have hm := h7 r (List.mem_of_getElem? hr)
    refine ⟨hm.1, ⟨hm.2.1, hm.2.2.1, hm.2.2.2.1, hm.2.2.2.2⟩, fun j q hj hq => ?_⟩
    obtain ⟨a1, a2⟩ := List.getElem?_eq_some_iff.1 hr
    obtain ⟨b1, b2⟩ := List.getElem?_eq_some_iff.1 hq
    have := List.pairwise_iff_getElem.1 h8 j i b1 a1 (by omega)
    rw [a2, b2] at this
    exact this
def kn0 : Prog := ⟨1, 1, [], [], 1, [], [(1, [(0, true)], [], [(0, true)])], [], [], []⟩
def kn1 : Prog := ⟨1, 1, [], [], 1, [], [(1, [(0, true)], [], [(0, true)]), (1, [(0, false)], [], [(0, false)])], [], [], []⟩
theorem kn0_is : IsP kn0 := is_of (by decide) (by decide) (by decide) (by decide) (by decide) (by decide) (by decide) (by decide) (by decide) (by decide) (by decide)
theorem kn1_is : IsP kn1 := is_of (by decide) (by decide) (by decide) (by decide) (by decide) (by decide) (by decide) (by decide) (by decide) (by decide) (by decide)
theorem kn0_small : SmallP kn0 := ⟨by decide, by decide, by decide, by decide, by decide, by decide, by decide⟩
theorem kn1_small : SmallP kn1 := ⟨by decide, by decide, by decide, by decide, by decide, by decide, by decide⟩
theorem kn0_new : newP kn0 = some ⟨[true], [], []⟩ := by kernel_rfl
theorem kn1_new : newP kn1 = none := by kernel_rfl
end Go.Proofs.Ytkjekohncfhbiaa.Gp
