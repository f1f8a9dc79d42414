/-
  What is kept of a program: its rows copied. (Written by GKept1.py.)
-/
import Derived.Test.YtkjekohncfhbiaaPartS
import Derived.Test.YtkjekohncfhbiaaGRound
set_option linter.unusedSimpArgs false
set_option linter.unusedVariables false
namespace Go.Proofs.Ytkjekohncfhbiaa
open Go.RowKit
set_option maxRecDepth 100000
theorem kept_fin {V w3 X : World} {ob : Nat} {las frm : Int} {v1 v4 v5 z0 z1 z2 z3 z4 z5 z6 : Value} {P : World → Prop} (hob : V.heap.size ≤ ob) (B3 : Below V.heap.size V w3) (LN : Lies w3 ob 69 #[z0, z1, z2, z3, z4, z5, z6])
    (hX : ((((((w3.setCell ⟨ob, 0, none⟩ (.int .i64 las)).setCell ⟨ob, 1, none⟩ v1).setCell ⟨ob, 2, none⟩ (.int .i64 frm)).setCell ⟨ob, 3, none⟩ (.slice none 0 0)).setCell ⟨ob, 4, none⟩ v4).setCell ⟨ob, 5, none⟩ v5).setCell ⟨ob, 6, none⟩ (.slice none 0 0) = X) (hH : Hang (fun k => V.heap.size ≤ k ∧ k ≠ ob) P w3) :
    Below V.heap.size V X ∧ Lies X ob 69 #[.int .i64 las, v1, .int .i64 frm, .slice none 0 0, v4, v5, .slice none 0 0] ∧ Hang (fun k => V.heap.size ≤ k ∧ k ≠ ob) P X := by
  have hk : Keep (fun k => k = ob) w3 X := by
    rw [← hX]
    have h1 : Keep (fun k => k = ob) w3 (w3.setCell ⟨ob, 0, none⟩ (.int .i64 las)) := Keep.set _ _ _ rfl
    exact (((((h1.trans (Keep.set _ _ _ rfl)).trans (Keep.set _ _ _ rfl)).trans (Keep.set _ _ _ rfl)).trans (Keep.set _ _ _ rfl)).trans (Keep.set _ _ _ rfl)).trans (Keep.set _ _ _ rfl)
  refine ⟨Keep.below B3 hk (fun i hi e => by omega), ?_, hH.keep hk (fun i _ h e => h.2 e)⟩
  have l0 : Lies (w3.setCell ⟨ob, 0, none⟩ (.int .i64 las)) ob 69 #[.int .i64 las, z1, z2, z3, z4, z5, z6] := LN.set 0 _
  have l1 : Lies ((w3.setCell ⟨ob, 0, none⟩ (.int .i64 las)).setCell ⟨ob, 1, none⟩ (v1)) ob 69 #[.int .i64 las, v1, z2, z3, z4, z5, z6] := l0.set 1 _
  have l2 : Lies (((w3.setCell ⟨ob, 0, none⟩ (.int .i64 las)).setCell ⟨ob, 1, none⟩ (v1)).setCell ⟨ob, 2, none⟩ (.int .i64 frm)) ob 69 #[.int .i64 las, v1, .int .i64 frm, z3, z4, z5, z6] := l1.set 2 _
  have l3 : Lies ((((w3.setCell ⟨ob, 0, none⟩ (.int .i64 las)).setCell ⟨ob, 1, none⟩ (v1)).setCell ⟨ob, 2, none⟩ (.int .i64 frm)).setCell ⟨ob, 3, none⟩ (.slice none 0 0)) ob 69 #[.int .i64 las, v1, .int .i64 frm, .slice none 0 0, z4, z5, z6] := l2.set 3 _
  have l4 : Lies (((((w3.setCell ⟨ob, 0, none⟩ (.int .i64 las)).setCell ⟨ob, 1, none⟩ (v1)).setCell ⟨ob, 2, none⟩ (.int .i64 frm)).setCell ⟨ob, 3, none⟩ (.slice none 0 0)).setCell ⟨ob, 4, none⟩ (v4)) ob 69 #[.int .i64 las, v1, .int .i64 frm, .slice none 0 0, v4, z5, z6] := l3.set 4 _
  have l5 : Lies ((((((w3.setCell ⟨ob, 0, none⟩ (.int .i64 las)).setCell ⟨ob, 1, none⟩ (v1)).setCell ⟨ob, 2, none⟩ (.int .i64 frm)).setCell ⟨ob, 3, none⟩ (.slice none 0 0)).setCell ⟨ob, 4, none⟩ (v4)).setCell ⟨ob, 5, none⟩ (v5)) ob 69 #[.int .i64 las, v1, .int .i64 frm, .slice none 0 0, v4, v5, z6] := l4.set 5 _
  have l6 : Lies (((((((w3.setCell ⟨ob, 0, none⟩ (.int .i64 las)).setCell ⟨ob, 1, none⟩ (v1)).setCell ⟨ob, 2, none⟩ (.int .i64 frm)).setCell ⟨ob, 3, none⟩ (.slice none 0 0)).setCell ⟨ob, 4, none⟩ (v4)).setCell ⟨ob, 5, none⟩ (v5)).setCell ⟨ob, 6, none⟩ (.slice none 0 0)) ob 69 #[.int .i64 las, v1, .int .i64 frm, .slice none 0 0, v4, v5, .slice none 0 0] := l5.set 6 _
  rw [← hX]
  exact l6
theorem kept_res {w X : World} {b : Nat} {v0 v1 v2 v3 v4 v5 v6 z0 z1 z2 z3 z4 z5 z6 : Value} (LN : Lies w b 69 #[z0, z1, z2, z3, z4, z5, z6]) (hX : (((((((w.setCell ⟨b, 0, none⟩ v0).setCell ⟨b, 1, none⟩ v1).setCell ⟨b, 2, none⟩ v2).setCell ⟨b, 3, none⟩ v3).setCell ⟨b, 4, none⟩ v4).setCell ⟨b, 5, none⟩ v5).setCell ⟨b, 6, none⟩ v6) = X) : Lies X b 69 #[v0, v1, v2, v3, v4, v5, v6] ∧ Keep (fun k => k = b) w X := by
  have l0 : Lies (w.setCell ⟨b, 0, none⟩ v0) b 69 #[v0, z1, z2, z3, z4, z5, z6] := LN.set 0 _
  have l1 : Lies ((w.setCell ⟨b, 0, none⟩ v0).setCell ⟨b, 1, none⟩ v1) b 69 #[v0, v1, z2, z3, z4, z5, z6] := l0.set 1 _
  have l2 : Lies (((w.setCell ⟨b, 0, none⟩ v0).setCell ⟨b, 1, none⟩ v1).setCell ⟨b, 2, none⟩ v2) b 69 #[v0, v1, v2, z3, z4, z5, z6] := l1.set 2 _
  have l3 : Lies ((((w.setCell ⟨b, 0, none⟩ v0).setCell ⟨b, 1, none⟩ v1).setCell ⟨b, 2, none⟩ v2).setCell ⟨b, 3, none⟩ v3) b 69 #[v0, v1, v2, v3, z4, z5, z6] := l2.set 3 _
  have l4 : Lies (((((w.setCell ⟨b, 0, none⟩ v0).setCell ⟨b, 1, none⟩ v1).setCell ⟨b, 2, none⟩ v2).setCell ⟨b, 3, none⟩ v3).setCell ⟨b, 4, none⟩ v4) b 69 #[v0, v1, v2, v3, v4, z5, z6] := l3.set 4 _
  have l5 : Lies ((((((w.setCell ⟨b, 0, none⟩ v0).setCell ⟨b, 1, none⟩ v1).setCell ⟨b, 2, none⟩ v2).setCell ⟨b, 3, none⟩ v3).setCell ⟨b, 4, none⟩ v4).setCell ⟨b, 5, none⟩ v5) b 69 #[v0, v1, v2, v3, v4, v5, z6] := l4.set 5 _
  have l6 : Lies (((((((w.setCell ⟨b, 0, none⟩ v0).setCell ⟨b, 1, none⟩ v1).setCell ⟨b, 2, none⟩ v2).setCell ⟨b, 3, none⟩ v3).setCell ⟨b, 4, none⟩ v4).setCell ⟨b, 5, none⟩ v5).setCell ⟨b, 6, none⟩ v6) b 69 #[v0, v1, v2, v3, v4, v5, v6] := l5.set 6 _
  have h1 : Keep (fun k => k = b) w (w.setCell ⟨b, 0, none⟩ v0) := Keep.set _ _ _ rfl
  rw [← hX]
  exact ⟨l6, (((((h1.trans (Keep.set _ _ _ rfl)).trans (Keep.set _ _ _ rfl)).trans (Keep.set _ _ _ rfl)).trans (Keep.set _ _ _ rfl)).trans (Keep.set _ _ _ rfl)).trans (Keep.set _ _ _ rfl)⟩
abbrev strE (x : ByteArray) : List Value := [.string x]
theorem strE_one (x : ByteArray) : ∀ u ∈ strE x, u.oneCell' = true := fun u hu => by
  simp at hu
  rw [hu]
  rfl
def celU (x : Rp.User) (a : Option Addr) (m c : Nat) : Cel 4 := ⟨[.string x.1, .int .i64 x.2.1, .slice a m c, .int .i64 x.2.2.2], rfl, fun u hu => by simp at hu; rcases hu with rfl | rfl | rfl | rfl <;> rfl⟩
theorem infoC_U : (Try.prog.info? 65).map (fun i => (i.zero, i.size, i.bytes)) = some (some (.agg #[.string ⟨#[]⟩, .int .i64 0, .slice none 0 0, .int .i64 0]), 4, 56) := by kernel_rfl
theorem infoC_Tx : (Try.prog.info? 9).map (fun i => (i.zero, i.size, i.bytes)) = some (some (.string ⟨#[]⟩), 1, 16) := by kernel_rfl
theorem putUA {w : World} {b : Nat} {v0 v1 v2 v3 n0 n2 : Value} (h : Lies w b 65 #[v0, v1, v2, v3]) : ∃ X, (w.setCell ⟨b, 0, none⟩ n0).setCell ⟨b, 2, none⟩ n2 = X ∧ Lies X b 65 #[n0, v1, n2, v3] ∧ Keep (fun k => k = b) w X := by
  have l0 : Lies (w.setCell ⟨b, 0, none⟩ n0) b 65 #[n0, v1, v2, v3] := h.set 0 _
  have l2 : Lies ((w.setCell ⟨b, 0, none⟩ n0).setCell ⟨b, 2, none⟩ n2) b 65 #[n0, v1, n2, v3] := l0.set 2 _
  have h1 : Keep (fun k => k = b) w (w.setCell ⟨b, 0, none⟩ n0) := Keep.set _ _ _ rfl
  exact ⟨_, rfl, l2, h1.trans (Keep.set _ _ _ rfl)⟩
theorem putUB {w : World} {b : Nat} {v0 v1 v2 v3 n0 n2 : Value} (h : Lies w b 65 #[v0, v1, v2, v3]) : ∃ X, (w.setCell ⟨b, 2, none⟩ n2).setCell ⟨b, 0, none⟩ n0 = X ∧ Lies X b 65 #[n0, v1, n2, v3] ∧ Keep (fun k => k = b) w X := by
  have l0 : Lies (w.setCell ⟨b, 2, none⟩ n2) b 65 #[v0, v1, n2, v3] := h.set 2 _
  have l2 : Lies ((w.setCell ⟨b, 2, none⟩ n2).setCell ⟨b, 0, none⟩ n0) b 65 #[n0, v1, n2, v3] := l0.set 0 _
  have h1 : Keep (fun k => k = b) w (w.setCell ⟨b, 2, none⟩ n2) := Keep.set _ _ _ rfl
  exact ⟨_, rfl, l2, h1.trans (Keep.set _ _ _ rfl)⟩
/-- The users' rows, as far as they are copied. -/
structure UsIn (B : Nat) (w : World) (vu : Value) (cl : List (Cel 4)) (l : List Rp.User) : Prop where
  own : OE B 65 4 celE w vu cl
  len : cl.length = l.length
  each : ∀ (i : Nat) x c, l[i]? = some x → cl[i]? = some c → Hang (fun k => B ≤ k ∧ vu.ownBlock ≠ some k) (fun w => userR w c.1 x) w
theorem UsIn.keep {S : Nat → Prop} {B : Nat} {w w' : World} {vu : Value} {cl : List (Cel 4)} {l : List Rp.User} (h : UsIn B w vu cl l) (k : Keep S w w') (hs : ∀ i, i < w.heap.size → B ≤ i → ¬ S i) : UsIn B w' vu cl l :=
  ⟨h.own.keep k (fun i hi => hs i (h.own.lt hi).1 (h.own.lt hi).2), h.len, fun i x c hx hc => (h.each i x c hx hc).keep k (fun j hj hb => hs j hj hb.1)⟩
theorem UsIn.below {B : Nat} {w w' : World} {vu : Value} {cl : List (Cel 4)} {l : List Rp.User} (h : UsIn B w vu cl l) (k : Below w.heap.size w w') : UsIn B w' vu cl l := h.keep (S := fun _ => False) (Keep.of_below k) (fun _ _ _ e => e)
theorem UsIn.push {B : Nat} {w w' : World} {vu vu' : Value} {cl : List (Cel 4)} {l : List Rp.User} {c : Cel 4} {x : Rp.User} {q : Nat} (h : UsIn B w vu cl l) (o : OE B 65 4 celE w' vu' (cl ++ [c])) (k : AppK w w' vu vu') (hn : Hang (fun k => k = q) (fun w => userR w c.1 x) w) (hq : vu.ownBlock ≠ some q) (hB : B ≤ q) (hql : q < w.heap.size) : UsIn B w' vu' (cl ++ [c]) (l ++ [x]) := by
  refine ⟨o, by rw [List.length_append, List.length_append, h.len]; rfl, fun i z d hz hd => ?_⟩
  by_cases hi : i < l.length
  · rw [List.getElem?_append_left hi] at hz
    rw [List.getElem?_append_left (by rw [h.len]; exact hi)] at hd
    have h1 := (h.each i z d hz hd).sub (S' := fun k => (B ≤ k ∧ vu.ownBlock ≠ some k) ∧ k < w.heap.size) (fun j hj hs => ⟨hs, hj⟩)
    exact (h1.keep k.keep (fun j _ hs e => hs.1.2 e)).sub (fun j _ hs => ⟨hs.1.1, fun e => hs.1.2 (k.old hs.2 e)⟩)
  · rw [List.getElem?_append_right (by omega)] at hz
    rw [List.getElem?_append_right (by rw [h.len]; omega), h.len] at hd
    have h0 : i - l.length = 0 := by have := (List.getElem?_eq_some_iff.1 hz).1; simp at this; omega
    rw [h0] at hz hd
    cases hz
    cases hd
    exact (hn.keep k.keep (fun j _ hs e => hq (by rw [← hs]; exact e))).sub (fun j _ hs => ⟨by omega, fun e => hq (by rw [← hs]; exact k.old (by omega) e)⟩)
theorem UsIn.done {B : Nat} {w : World} {vu : Value} {cl : List (Cel 4)} {l : List Rp.User} (h : UsIn B w vu cl l) (hl : l.length ≤ 10000000000000) : Hang (fun k => B ≤ k) (fun w => URow w vu l) w :=
  h.own.row (R := userR) h.len hl celE_len (fun g hg => (h.own.lt hg).2) (fun i x c hx hc => (h.each i x c hx hc).sub (fun j _ hs => hs.1))
/-- What kept leaves. -/
def KeptPost (p : Rp.Prog) (w : World) (e : Ending) (w' : World) : Prop := ∃ A : KA, e = .returned (.agg (kpC A (Gp.kept p))) ∧ NewR w.heap.size (fun w => KeptAt w A (Gp.kept p)) w' ∧ Below w.heap.size w w'
set_option maxHeartbeats 32000000 in
theorem keptD (w : World) (A : PA) (p : Rp.Prog) (h : ProgAt w A p) (sm : Gp.SmallP p) (hop : ∀ r ∈ p.rules, ∀ c ∈ r.2.2.1, Mp.opB c.2.1 = true) (hr : p.rules.length ≤ 1500) (hfl : p.files.length ≤ 6) :
    Calls Try.prog 22 #[.agg #[.int .i64 p.flags, .int .i64 p.lasting, .slice A.a2 p.first.length A.c2, .slice A.a3 p.over.length A.c3, .int .i64 p.frm, .slice A.a5 p.files.length A.c5, .slice A.a6 p.rules.length A.c6, .slice A.a7 p.ctrs.length A.c7, .slice A.a8 p.users.length A.c8, .slice A.a9 p.notes.length A.c9]] w (KeptPost p w) := by
  obtain ⟨a2, c2, a3, c3, a5, c5, a6, c6, a7, c7, a8, c8, a9, c9⟩ := A
  show Calls _ _ #[.agg #[.int .i64 p.flags, .int .i64 p.lasting, .slice a2 p.first.length c2, .slice a3 p.over.length c3, .int .i64 p.frm, .slice a5 p.files.length c5, .slice a6 p.rules.length c6, .slice a7 p.ctrs.length c7, .slice a8 p.users.length c8, .slice a9 p.notes.length c9]] w _
  obtain ⟨V, hV, BV, LA, LR, VS⟩ := boxes2 w 29 69 #[.int .i64 p.flags, .int .i64 p.lasting, .slice a2 p.first.length c2, .slice a3 p.over.length c3, .int .i64 p.frm, .slice a5 p.files.length c5, .slice a6 p.rules.length c6, .slice a7 p.ctrs.length c7, .slice a8 p.users.length c8, .slice a9 p.notes.length c9] #[.int .i64 0, .slice none 0 0, .int .i64 0, .slice none 0 0, .slice none 0 0, .slice none 0 0, .slice none 0 0]
  have HP := hideT (h.below BV)
  have HOV := hideT (show ZRow V (.slice a3 p.over.length c3) p.over from (h.below BV).over)
  have HCT := hideT (show TRow V (.slice a7 p.ctrs.length c7) p.ctrs from (h.below BV).ctrs)
  have HFI := hideT (show FRow V (.slice a5 p.files.length c5) p.files from (h.below BV).files)
  have HUS := hideT (show URow V (.slice a8 p.users.length c8) p.users from (h.below BV).users)
  have HB := hideT BV
  have HL := hideT LA
  have HLR := hideT LR
  have HVS := hideT VS
  have HV := hideT hV
  have HSM := hideT sm
  have HOP := hideT hop
  have HR15 := hideT hr
  have HF6 := hideT hfl
  have l3 := sm.over
  have l7 := sm.ctrs
  have y0 : V.cell? ⟨w.heap.size, 0, none⟩ = some (.int .i64 p.flags) := LA.cell 0
  have y1 : V.cell? ⟨w.heap.size, 1, none⟩ = some (.int .i64 p.lasting) := LA.cell 1
  have y2 : V.cell? ⟨w.heap.size, 2, none⟩ = some (.slice a2 p.first.length c2) := LA.cell 2
  have y3 : V.cell? ⟨w.heap.size, 3, none⟩ = some (.slice a3 p.over.length c3) := LA.cell 3
  have y4 : V.cell? ⟨w.heap.size, 4, none⟩ = some (.int .i64 p.frm) := LA.cell 4
  have y5 : V.cell? ⟨w.heap.size, 5, none⟩ = some (.slice a5 p.files.length c5) := LA.cell 5
  have y6 : V.cell? ⟨w.heap.size, 6, none⟩ = some (.slice a6 p.rules.length c6) := LA.cell 6
  have y7 : V.cell? ⟨w.heap.size, 7, none⟩ = some (.slice a7 p.ctrs.length c7) := LA.cell 7
  have y8 : V.cell? ⟨w.heap.size, 8, none⟩ = some (.slice a8 p.users.length c8) := LA.cell 8
  have y9 : V.cell? ⟨w.heap.size, 9, none⟩ = some (.slice a9 p.notes.length c9) := LA.cell 9
  have hne := World.new_ne V _ y0
  clear h sm hop hr BV LA LR VS hV
  go_enter Try.func22, Try.ntmps22
  go_wp2_with fail
  rw [HV.out]
  go_cut [3] from 8 to 20 (fun q wc => ∃ (ob : Nat) (v1 v4 v5 : Value), q = .pointer (some ⟨ob, 0, none⟩) ∧ V.heap.size ≤ ob ∧ Hid (Below V.heap.size V wc) ∧ Hid (Lies wc ob 69 #[.int .i64 p.lasting, v1, .int .i64 p.frm, .slice none 0 0, v4, v5, .slice none 0 0]) ∧ Hid (Hang (fun k => V.heap.size ≤ k ∧ k ≠ ob) (fun w => ZRow w v1 p.over ∧ KSRow w v4 (Gp.strataOf p.files p.rules) ∧ TRow w v5 p.ctrs) wc))
  case first =>
    go_region_held3 (fun w' => w'.cell? ⟨w.heap.size, 0, none⟩ = some (.int .i64 p.flags) ∧ w'.cell? ⟨w.heap.size, 1, none⟩ = some (.int .i64 p.lasting) ∧ w'.cell? ⟨w.heap.size, 2, none⟩ = some (.slice a2 p.first.length c2) ∧ w'.cell? ⟨w.heap.size, 3, none⟩ = some (.slice a3 p.over.length c3) ∧ w'.cell? ⟨w.heap.size, 4, none⟩ = some (.int .i64 p.frm) ∧ w'.cell? ⟨w.heap.size, 5, none⟩ = some (.slice a5 p.files.length c5) ∧ w'.cell? ⟨w.heap.size, 6, none⟩ = some (.slice a6 p.rules.length c6) ∧ w'.cell? ⟨w.heap.size, 7, none⟩ = some (.slice a7 p.ctrs.length c7) ∧ w'.cell? ⟨w.heap.size, 8, none⟩ = some (.slice a8 p.users.length c8) ∧ w'.cell? ⟨w.heap.size, 9, none⟩ = some (.slice a9 p.notes.length c9)) (go_keep) (first
      | (go_at_call 48; (refine (copyZg _ _ _ p.over (zrow_below HOV.out (below_drewN (Below.refl _ V) _)) (by omega)).mono ?_); rintro e w1 ⟨rfl, h1, b1, s1⟩; have B1 : Below V.heap.size V w1 := (below_drewN (Below.refl _ V) 1).trans b1; have ka0 := below_cell B1 _ _ y0; have ka1 := below_cell B1 _ _ y1; have ka2 := below_cell B1 _ _ y2; have ka3 := below_cell B1 _ _ y3; have ka4 := below_cell B1 _ _ y4; have ka5 := below_cell B1 _ _ y5; have ka6 := below_cell B1 _ _ y6; have ka7 := below_cell B1 _ _ y7; have ka8 := below_cell B1 _ _ y8; have ka9 := below_cell B1 _ _ y9; have hneka := World.new_ne w1 _ ka0; have nA1 : V.heap.size < w1.heap.size := s1)
      | (go_at_call 48; have BQ := (below_drewN (Below.refl _ V) 1).alloc (Nat.le_refl _) (.cells #[.int .i64 0, .slice none 0 0, .int .i64 0, .slice none 0 0, .slice none 0 0, .slice none 0 0, .slice none 0 0] 69); (refine (copyZg _ _ _ p.over (zrow_below HOV.out BQ) (by omega)).mono ?_); rintro e w1 ⟨rfl, h1, b1, s1⟩; have B1 : Below V.heap.size V w1 := BQ.trans (b1.mono BQ.size); have ka0 := below_cell B1 _ _ y0; have ka1 := below_cell B1 _ _ y1; have ka2 := below_cell B1 _ _ y2; have ka3 := below_cell B1 _ _ y3; have ka4 := below_cell B1 _ _ y4; have ka5 := below_cell B1 _ _ y5; have ka6 := below_cell B1 _ _ y6; have ka7 := below_cell B1 _ _ y7; have ka8 := below_cell B1 _ _ y8; have ka9 := below_cell B1 _ _ y9; have hneka := World.new_ne w1 _ ka0; have LNa : Lies w1 V.heap.size 69 #[.int .i64 0, .slice none 0 0, .int .i64 0, .slice none 0 0, .slice none 0 0, .slice none 0 0, .slice none 0 0] := (Lies.new (V.drewN 1) 69 #[.int .i64 0, .slice none 0 0, .int .i64 0, .slice none 0 0, .slice none 0 0, .slice none 0 0, .slice none 0 0]).below b1; have nB1 : V.heap.size + 1 < w1.heap.size := (by have := s1; simp at this; exact this))
      | (go_at_call 49; have hk := nA1; have BQ2 := B1; (refine (strataOfD _ ⟨a2, c2, a3, c3, a5, c5, a6, c6, a7, c7, a8, c8, a9, c9⟩ p (HP.out.below BQ2) HSM.out HOP.out HR15.out).mono ?_); rintro e w2 ⟨v4, rfl, h2, b2⟩; obtain ⟨xq, mq, yq, hxq⟩ : ∃ a n c, v4 = Value.slice a n c := (by obtain ⟨a, c, h⟩ := row_val h2.here; exact ⟨a, _, c, h⟩); subst hxq; have B2 : Below V.heap.size V w2 := B1.trans (b2.mono B1.size); have kb0 := below_cell B2 _ _ y0; have kb1 := below_cell B2 _ _ y1; have kb2 := below_cell B2 _ _ y2; have kb3 := below_cell B2 _ _ y3; have kb4 := below_cell B2 _ _ y4; have kb5 := below_cell B2 _ _ y5; have kb6 := below_cell B2 _ _ y6; have kb7 := below_cell B2 _ _ y7; have kb8 := below_cell B2 _ _ y8; have kb9 := below_cell B2 _ _ y9; have hnekb := World.new_ne w2 _ kb0; have nA2 : w1.heap.size ≤ w2.heap.size := b2.size)
      | (go_at_call 49; have hk := nB1; have BQ2 := B1; (refine (strataOfD _ ⟨a2, c2, a3, c3, a5, c5, a6, c6, a7, c7, a8, c8, a9, c9⟩ p (HP.out.below BQ2) HSM.out HOP.out HR15.out).mono ?_); rintro e w2 ⟨v4, rfl, h2, b2⟩; obtain ⟨xq, mq, yq, hxq⟩ : ∃ a n c, v4 = Value.slice a n c := (by obtain ⟨a, c, h⟩ := row_val h2.here; exact ⟨a, _, c, h⟩); subst hxq; have B2 : Below V.heap.size V w2 := B1.trans (b2.mono B1.size); have kb0 := below_cell B2 _ _ y0; have kb1 := below_cell B2 _ _ y1; have kb2 := below_cell B2 _ _ y2; have kb3 := below_cell B2 _ _ y3; have kb4 := below_cell B2 _ _ y4; have kb5 := below_cell B2 _ _ y5; have kb6 := below_cell B2 _ _ y6; have kb7 := below_cell B2 _ _ y7; have kb8 := below_cell B2 _ _ y8; have kb9 := below_cell B2 _ _ y9; have hnekb := World.new_ne w2 _ kb0; have LNa2 : Lies w2 V.heap.size 69 #[.int .i64 0, .slice none 0 0, .int .i64 0, .slice none 0 0, .slice none 0 0, .slice none 0 0, .slice none 0 0] := LNa.below b2; have nB2 : w1.heap.size ≤ w2.heap.size := b2.size)
      | (go_at_call 49; have hk := nA1; have BR := (Below.refl w1.heap.size w1).alloc (Nat.le_refl _) (.cells #[.int .i64 0, .slice none 0 0, .int .i64 0, .slice none 0 0, .slice none 0 0, .slice none 0 0, .slice none 0 0] 69); have BQ2 := B1.trans (BR.mono B1.size); (refine (strataOfD _ ⟨a2, c2, a3, c3, a5, c5, a6, c6, a7, c7, a8, c8, a9, c9⟩ p (HP.out.below BQ2) HSM.out HOP.out HR15.out).mono ?_); rintro e w2 ⟨v4, rfl, h2, b2⟩; obtain ⟨xq, mq, yq, hxq⟩ : ∃ a n c, v4 = Value.slice a n c := (by obtain ⟨a, c, h⟩ := row_val h2.here; exact ⟨a, _, c, h⟩); subst hxq; have B2 : Below V.heap.size V w2 := BQ2.trans (b2.mono BQ2.size); have kb0 := below_cell B2 _ _ y0; have kb1 := below_cell B2 _ _ y1; have kb2 := below_cell B2 _ _ y2; have kb3 := below_cell B2 _ _ y3; have kb4 := below_cell B2 _ _ y4; have kb5 := below_cell B2 _ _ y5; have kb6 := below_cell B2 _ _ y6; have kb7 := below_cell B2 _ _ y7; have kb8 := below_cell B2 _ _ y8; have kb9 := below_cell B2 _ _ y9; have hnekb := World.new_ne w2 _ kb0; have LNb2 : Lies w2 w1.heap.size 69 #[.int .i64 0, .slice none 0 0, .int .i64 0, .slice none 0 0, .slice none 0 0, .slice none 0 0, .slice none 0 0] := (Lies.new w1 69 #[.int .i64 0, .slice none 0 0, .int .i64 0, .slice none 0 0, .slice none 0 0, .slice none 0 0, .slice none 0 0]).below b2; have nC2 : w1.heap.size + 1 ≤ w2.heap.size := (by have := b2.size; simp at this; exact this))
      | (go_at_call 50; have hk := nA2; have BQ3 := B2; (refine (copyT _ _ _ p.ctrs (trow_below HCT.out BQ3) (by omega)).mono ?_); rintro e w3 ⟨rfl, h3, b3, s3⟩; have B3 : Below V.heap.size V w3 := B2.trans (b3.mono B2.size); have kc0 := below_cell B3 _ _ y0; have kc1 := below_cell B3 _ _ y1; have kc2 := below_cell B3 _ _ y2; have kc3 := below_cell B3 _ _ y3; have kc4 := below_cell B3 _ _ y4; have kc5 := below_cell B3 _ _ y5; have kc6 := below_cell B3 _ _ y6; have kc7 := below_cell B3 _ _ y7; have kc8 := below_cell B3 _ _ y8; have kc9 := below_cell B3 _ _ y9; have hnekc := World.new_ne w3 _ kc0; have nA3 : w2.heap.size < w3.heap.size := s3)
      | (go_at_call 50; have hk := nB2; have BQ3 := B2; (refine (copyT _ _ _ p.ctrs (trow_below HCT.out BQ3) (by omega)).mono ?_); rintro e w3 ⟨rfl, h3, b3, s3⟩; have B3 : Below V.heap.size V w3 := B2.trans (b3.mono B2.size); have kc0 := below_cell B3 _ _ y0; have kc1 := below_cell B3 _ _ y1; have kc2 := below_cell B3 _ _ y2; have kc3 := below_cell B3 _ _ y3; have kc4 := below_cell B3 _ _ y4; have kc5 := below_cell B3 _ _ y5; have kc6 := below_cell B3 _ _ y6; have kc7 := below_cell B3 _ _ y7; have kc8 := below_cell B3 _ _ y8; have kc9 := below_cell B3 _ _ y9; have hnekc := World.new_ne w3 _ kc0; have LNa3 : Lies w3 V.heap.size 69 #[.int .i64 0, .slice none 0 0, .int .i64 0, .slice none 0 0, .slice none 0 0, .slice none 0 0, .slice none 0 0] := LNa2.below b3; have mm0 : w3.cell? ⟨V.heap.size, 0, none⟩ = some (.int .i64 0) := LNa3.cell 0; have ff0 : w3.frozen? ⟨V.heap.size, 0, none⟩ = false := LNa3.free 0; have mm1 : w3.cell? ⟨V.heap.size, 1, none⟩ = some (.slice none 0 0) := LNa3.cell 1; have ff1 : w3.frozen? ⟨V.heap.size, 1, none⟩ = false := LNa3.free 1; have mm2 : w3.cell? ⟨V.heap.size, 2, none⟩ = some (.int .i64 0) := LNa3.cell 2; have ff2 : w3.frozen? ⟨V.heap.size, 2, none⟩ = false := LNa3.free 2; have mm3 : w3.cell? ⟨V.heap.size, 3, none⟩ = some (.slice none 0 0) := LNa3.cell 3; have ff3 : w3.frozen? ⟨V.heap.size, 3, none⟩ = false := LNa3.free 3; have mm4 : w3.cell? ⟨V.heap.size, 4, none⟩ = some (.slice none 0 0) := LNa3.cell 4; have ff4 : w3.frozen? ⟨V.heap.size, 4, none⟩ = false := LNa3.free 4; have mm5 : w3.cell? ⟨V.heap.size, 5, none⟩ = some (.slice none 0 0) := LNa3.cell 5; have ff5 : w3.frozen? ⟨V.heap.size, 5, none⟩ = false := LNa3.free 5; have mm6 : w3.cell? ⟨V.heap.size, 6, none⟩ = some (.slice none 0 0) := LNa3.cell 6; have ff6 : w3.frozen? ⟨V.heap.size, 6, none⟩ = false := LNa3.free 6; have nB3 : w2.heap.size < w3.heap.size := s3)
      | (go_at_call 50; have hk := nC2; have BQ3 := B2; (refine (copyT _ _ _ p.ctrs (trow_below HCT.out BQ3) (by omega)).mono ?_); rintro e w3 ⟨rfl, h3, b3, s3⟩; have B3 : Below V.heap.size V w3 := B2.trans (b3.mono B2.size); have kc0 := below_cell B3 _ _ y0; have kc1 := below_cell B3 _ _ y1; have kc2 := below_cell B3 _ _ y2; have kc3 := below_cell B3 _ _ y3; have kc4 := below_cell B3 _ _ y4; have kc5 := below_cell B3 _ _ y5; have kc6 := below_cell B3 _ _ y6; have kc7 := below_cell B3 _ _ y7; have kc8 := below_cell B3 _ _ y8; have kc9 := below_cell B3 _ _ y9; have hnekc := World.new_ne w3 _ kc0; have LNb3 : Lies w3 w1.heap.size 69 #[.int .i64 0, .slice none 0 0, .int .i64 0, .slice none 0 0, .slice none 0 0, .slice none 0 0, .slice none 0 0] := LNb2.below b3; have mm0 : w3.cell? ⟨w1.heap.size, 0, none⟩ = some (.int .i64 0) := LNb3.cell 0; have ff0 : w3.frozen? ⟨w1.heap.size, 0, none⟩ = false := LNb3.free 0; have mm1 : w3.cell? ⟨w1.heap.size, 1, none⟩ = some (.slice none 0 0) := LNb3.cell 1; have ff1 : w3.frozen? ⟨w1.heap.size, 1, none⟩ = false := LNb3.free 1; have mm2 : w3.cell? ⟨w1.heap.size, 2, none⟩ = some (.int .i64 0) := LNb3.cell 2; have ff2 : w3.frozen? ⟨w1.heap.size, 2, none⟩ = false := LNb3.free 2; have mm3 : w3.cell? ⟨w1.heap.size, 3, none⟩ = some (.slice none 0 0) := LNb3.cell 3; have ff3 : w3.frozen? ⟨w1.heap.size, 3, none⟩ = false := LNb3.free 3; have mm4 : w3.cell? ⟨w1.heap.size, 4, none⟩ = some (.slice none 0 0) := LNb3.cell 4; have ff4 : w3.frozen? ⟨w1.heap.size, 4, none⟩ = false := LNb3.free 4; have mm5 : w3.cell? ⟨w1.heap.size, 5, none⟩ = some (.slice none 0 0) := LNb3.cell 5; have ff5 : w3.frozen? ⟨w1.heap.size, 5, none⟩ = false := LNb3.free 5; have mm6 : w3.cell? ⟨w1.heap.size, 6, none⟩ = some (.slice none 0 0) := LNb3.cell 6; have ff6 : w3.frozen? ⟨w1.heap.size, 6, none⟩ = false := LNb3.free 6; have nC3 : w2.heap.size < w3.heap.size := s3)
      | (go_at_call 50; have hk := nA2; have BR3 := (Below.refl w2.heap.size w2).alloc (Nat.le_refl _) (.cells #[.int .i64 0, .slice none 0 0, .int .i64 0, .slice none 0 0, .slice none 0 0, .slice none 0 0, .slice none 0 0] 69); have BQ3 := B2.trans (BR3.mono B2.size); (refine (copyT _ _ _ p.ctrs (trow_below HCT.out BQ3) (by omega)).mono ?_); rintro e w3 ⟨rfl, h3, b3, s3⟩; have B3 : Below V.heap.size V w3 := BQ3.trans (b3.mono BQ3.size); have kc0 := below_cell B3 _ _ y0; have kc1 := below_cell B3 _ _ y1; have kc2 := below_cell B3 _ _ y2; have kc3 := below_cell B3 _ _ y3; have kc4 := below_cell B3 _ _ y4; have kc5 := below_cell B3 _ _ y5; have kc6 := below_cell B3 _ _ y6; have kc7 := below_cell B3 _ _ y7; have kc8 := below_cell B3 _ _ y8; have kc9 := below_cell B3 _ _ y9; have hnekc := World.new_ne w3 _ kc0; have LNc3 : Lies w3 w2.heap.size 69 #[.int .i64 0, .slice none 0 0, .int .i64 0, .slice none 0 0, .slice none 0 0, .slice none 0 0, .slice none 0 0] := (Lies.new w2 69 #[.int .i64 0, .slice none 0 0, .int .i64 0, .slice none 0 0, .slice none 0 0, .slice none 0 0, .slice none 0 0]).below b3; have mm0 : w3.cell? ⟨w2.heap.size, 0, none⟩ = some (.int .i64 0) := LNc3.cell 0; have ff0 : w3.frozen? ⟨w2.heap.size, 0, none⟩ = false := LNc3.free 0; have mm1 : w3.cell? ⟨w2.heap.size, 1, none⟩ = some (.slice none 0 0) := LNc3.cell 1; have ff1 : w3.frozen? ⟨w2.heap.size, 1, none⟩ = false := LNc3.free 1; have mm2 : w3.cell? ⟨w2.heap.size, 2, none⟩ = some (.int .i64 0) := LNc3.cell 2; have ff2 : w3.frozen? ⟨w2.heap.size, 2, none⟩ = false := LNc3.free 2; have mm3 : w3.cell? ⟨w2.heap.size, 3, none⟩ = some (.slice none 0 0) := LNc3.cell 3; have ff3 : w3.frozen? ⟨w2.heap.size, 3, none⟩ = false := LNc3.free 3; have mm4 : w3.cell? ⟨w2.heap.size, 4, none⟩ = some (.slice none 0 0) := LNc3.cell 4; have ff4 : w3.frozen? ⟨w2.heap.size, 4, none⟩ = false := LNc3.free 4; have mm5 : w3.cell? ⟨w2.heap.size, 5, none⟩ = some (.slice none 0 0) := LNc3.cell 5; have ff5 : w3.frozen? ⟨w2.heap.size, 5, none⟩ = false := LNc3.free 5; have mm6 : w3.cell? ⟨w2.heap.size, 6, none⟩ = some (.slice none 0 0) := LNc3.cell 6; have ff6 : w3.frozen? ⟨w2.heap.size, 6, none⟩ = false := LNc3.free 6; have nD3 : w2.heap.size + 1 < w3.heap.size := (by have := s3; simp at this; exact this)))
    all_goals go_wp2_with fail
    all_goals go_meet
    case rel =>
      have g1 := ((h1.below b2).below b3).sub (S' := fun k => V.heap.size ≤ k ∧ k ≠ w3.heap.size) (fun i hi e => by have e' : i = V.heap.size := e; have := b2.size; have := b3.size; omega)
      have g2 := ((Hang.new h2).below b3).sub (S' := fun k => V.heap.size ≤ k ∧ k ≠ w3.heap.size) (fun i hi e => by have := b3.size; omega)
      have g3 := h3.sub (S' := fun k => V.heap.size ≤ k ∧ k ≠ w3.heap.size) (fun i hi e => by have e' : i = w2.heap.size := e; omega)
      exact ⟨w3.heap.size, _, _, _, rfl, B3.size, B3.alloc B3.size _, Lies.new w3 _ _, (g1.and (g2.and g3)).below ((Below.refl _ w3).alloc (Nat.le_refl _) _)⟩
    case rel =>
      have g1 := ((h1.below b2).below (BR3.trans (b3.mono BR3.size))).sub (S' := fun k => V.heap.size ≤ k ∧ k ≠ w2.heap.size) (fun i hi e => by have e' : i = V.heap.size := e; omega)
      have g2 := ((Hang.new h2).below (BR3.trans (b3.mono BR3.size))).sub (S' := fun k => V.heap.size ≤ k ∧ k ≠ w2.heap.size) (fun i hi e => by omega)
      have h3' := h3
      rw [show (w2.alloc (.cells #[.int .i64 0, .slice none 0 0, .int .i64 0, .slice none 0 0, .slice none 0 0, .slice none 0 0, .slice none 0 0] 69)).heap.size = w2.heap.size + 1 by simp] at h3'
      have g3 := h3'.sub (S' := fun k => V.heap.size ≤ k ∧ k ≠ w2.heap.size) (fun i hi e => by have e' : i = w2.heap.size + 1 := e; omega)
      obtain ⟨r1, r2, r3⟩ := kept_fin (by omega) B3 LNc3 rfl (g1.and (g2.and g3))
      exact ⟨w2.heap.size, _, _, _, rfl, by omega, r1, r2, r3⟩
    case rel =>
      have g1 := ((h1.below (BR.trans (b2.mono BR.size))).below b3).sub (S' := fun k => V.heap.size ≤ k ∧ k ≠ w1.heap.size) (fun i hi e => by have e' : i = V.heap.size := e; omega)
      have h2' := Hang.new h2
      rw [show (w1.alloc (.cells #[.int .i64 0, .slice none 0 0, .int .i64 0, .slice none 0 0, .slice none 0 0, .slice none 0 0, .slice none 0 0] 69)).heap.size = w1.heap.size + 1 by simp] at h2'
      have g2 := (h2'.below b3).sub (S' := fun k => V.heap.size ≤ k ∧ k ≠ w1.heap.size) (fun i hi e => by omega)
      have g3 := h3.sub (S' := fun k => V.heap.size ≤ k ∧ k ≠ w1.heap.size) (fun i hi e => by have e' : i = w2.heap.size := e; omega)
      obtain ⟨r1, r2, r3⟩ := kept_fin (by omega) B3 LNb3 rfl (g1.and (g2.and g3))
      exact ⟨w1.heap.size, _, _, _, rfl, by omega, r1, r2, r3⟩
    case rel =>
      have h1' := h1
      rw [show ((V.drewN 1).alloc (.cells #[.int .i64 0, .slice none 0 0, .int .i64 0, .slice none 0 0, .slice none 0 0, .slice none 0 0, .slice none 0 0] 69)).heap.size = V.heap.size + 1 by simp] at h1'
      have g1 := ((h1'.below b2).below b3).sub (S' := fun k => V.heap.size ≤ k ∧ k ≠ V.heap.size) (fun i hi e => by have e' : i = V.heap.size + 1 := e; omega)
      have g2 := ((Hang.new h2).below b3).sub (S' := fun k => V.heap.size ≤ k ∧ k ≠ V.heap.size) (fun i hi e => by omega)
      have g3 := h3.sub (S' := fun k => V.heap.size ≤ k ∧ k ≠ V.heap.size) (fun i hi e => by have e' : i = w2.heap.size := e; omega)
      obtain ⟨r1, r2, r3⟩ := kept_fin (Nat.le_refl _) B3 LNa3 rfl (g1.and (g2.and g3))
      exact ⟨V.heap.size, _, _, _, rfl, Nat.le_refl _, r1, r2, r3⟩
  case rest =>
    obtain ⟨ob, v1, v4, v5, rfl, hob, BC, LC, HG⟩ := hcut
    have y5 : wc.cell? ⟨w.heap.size, 5, none⟩ = some (.slice a5 p.files.length c5) := (HL.out.below BC.out).cell 5
    have HOB : Hid (V.heap.size ≤ ob ∧ ob < wc.heap.size) := ⟨hob, LC.out.lt⟩
    have HU3 := hideT HSM.out.users
    obtain ⟨_, _, _, bf, of, haf, hcf⟩ := frow_at HFI.out
    have HCF := hideT hcf
    have HAF := hideT haf
    have hf6 : p.files.length ≤ 10000000 := by have := (frow_at HFI.out).2.1; have := HF6.out; omega
    clear hob hcf haf y0 y1 y2 y3 y4 y6 y7 y8 y9 hne
    go_wp2_with fail
    clear y5
    go_loopw [24] (fun i wr => ∃ (k : Nat) (vf : Value), k ≤ p.files.length ∧ i = .int .i64 k ∧ Hid (Keep (fun j => j = ob) wc wr) ∧ Hid (Lies wr ob 69 #[.int .i64 p.lasting, v1, .int .i64 p.frm, vf, v4, v5, .slice none 0 0]) ∧ Hid (OE wc.heap.size 9 1 strE wr vf (p.files.take k))) (fun i _ => p.files.length - (intOf i).toNat)
    case atStart => exact ⟨0, _, by omega, rfl, Keep.refl _ _, LC.out, OE.nil (Nat.le_refl _)⟩
    case round =>
      obtain ⟨k, vf, hk, rfl, HK, HLO, OO⟩ := hrel
      have HBW : Hid (Below V.heap.size V wr) := Keep.below BC.out HK.out (fun i hi e => by have := HOB.out; omega)
      by_cases hlt : k < p.files.length
      · obtain ⟨s, hx⟩ := Mp.at_lt (l := p.files) (k := k) hlt
        obtain ⟨hsz, d0⟩ := HCF.out k _ hx
        have d0 := below_cell HBW.out _ _ d0
        obtain rfl := HAF.out (by omega)
        have HTK : Hid (p.files.take (k + 1) = p.files.take k ++ [s]) := Mp.take_at hx
        have hLl : (p.files.take k).length ≤ 10000000 := by rw [List.length_take]; omega
        obtain ⟨oad, ocap, ho, hfo⟩ := OO.out.form
        obtain ⟨L, hL⟩ : ∃ L, p.files.take k = L := ⟨_, rfl⟩
        rw [hL] at OO HTK ho hLl
        have hLk : L.length + 1 ≤ 10000000 := by rw [← hL, List.length_take]; omega
        subst ho
        have t0 : (0 : Int) ≤ (k : Int) := by omega
        have t1 : (k : Int) < (p.files.length : Int) := by omega
        have u1 : wr.cell? ⟨ob, 3, none⟩ = some (.slice oad L.length ocap) := HLO.out.cell 3
        have HWL : Hid (ob < wr.heap.size) := HLO.out.lt
        clear hfo hx hL
        go_wp2_with fail
        clear d0
        go_region_law (first
          | (go_simp; go_at_call 51; (refine (cloneM s _ hsz).mono ?_); rintro e w1 ⟨rfl, b1⟩; have B1 := (below_drewN (Below.refl _ wr) 1).trans b1; have LO1 := HLO.out.below B1; have OO1 := OO.out.below B1; have u2 : w1.cell? ⟨ob, 3, none⟩ = some (.slice oad L.length ocap) := LO1.cell 3; have q1 : ob < w1.heap.size := LO1.lt; have q2 : ¬ w1.heap.size = ob := Nat.ne_of_gt q1; have q3 : ¬ ob = w1.heap.size := Nat.ne_of_lt q1; have u2a : (w1.alloc (.cells #[.string s] 9)).cell? ⟨ob, 3, none⟩ = some (.slice oad L.length ocap) := (LO1.below ((Below.refl _ w1).alloc (Nat.le_refl _) _)).cell 3)
          | (refine step_appO (t := 23) (e := 9) (z := 1) (E := strE) Try.underlying23 infoC_Tx rfl (by omega) (by omega) (fun _ => rfl) strE_one (by rfl) _ _ (by rfl) (v := .slice oad L.length ocap) (by rfl) (by rfl) (OO1.below ((Below.refl _ w1).alloc (Nat.le_refl _) _)) [s] rfl (fun _ => ⟨_, rfl, news1 w1 #[.string s] 9⟩) (by simp; omega) ?_; intro v' w3 o3 k3; obtain ⟨qad, qcap, hq, hqq⟩ := o3.form; clear hqq; rw [List.length_append, List.length_singleton] at hq; subst hq; have LO3 := (LO1.below ((Below.refl _ w1).alloc (Nat.le_refl _) (.cells #[.string s] 9))).keep k3.keep (fun e => by have := (OO1.lt e).2; have := HOB.out; omega); have u3 : w3.cell? ⟨ob, 3, none⟩ = some (.slice oad L.length ocap) := LO3.cell 3; have f3 : w3.frozen? ⟨ob, 3, none⟩ = false := LO3.free 3))
        all_goals obtain ⟨X, hX⟩ : ∃ X, w3.setCell ⟨ob, 3, none⟩ (.slice qad (L.length + 1) qcap) = X := ⟨_, rfl⟩
        all_goals have KX : Keep (fun j => j = ob) w3 X := (by rw [← hX]; exact Keep.set _ _ _ rfl)
        all_goals have LX : Lies X ob 69 #[.int .i64 p.lasting, v1, .int .i64 p.frm, .slice qad (L.length + 1) qcap, v4, v5, .slice none 0 0] := (by rw [← hX]; exact LO3.set 3 _)
        all_goals have OX := o3.keep KX (fun i hi e => by have := (o3.lt hi).2; have := HOB.out; omega)
        all_goals have KW3 := ((HK.out.trans (Keep.of_below B1)).trans (Keep.of_below ((Below.refl _ w1).alloc (Nat.le_refl _) (.cells #[.string s] 9)))).on k3.keep (fun i hi e => by have := (OO1.lt e).2; omega)
        all_goals have HKX := hideT (KW3.trans KX)
        all_goals have HLX := hideT LX
        all_goals have HOX : Hid (OE wc.heap.size 9 1 strE X (.slice qad (L.length + 1) qcap) (p.files.take (k + 1))) := (by rw [HTK.out]; exact OX)
        all_goals have HXX := hideT hX
        all_goals clear KX LX OX KW3 LO3 o3 k3 u3 f3 LO1 OO1 u2 q1 q2 q3 u2a B1 b1 u1 hX
        all_goals go_wp2_with fail
        all_goals rw [HXX.out]
        all_goals refine ⟨⟨k + 1, _, by omega, by go_num, HKX, HLX, HOX⟩, ?_⟩
        all_goals first | omega | (simp [intOf]; omega)
      have HFR : Hid (Hang (fun q => wc.heap.size ≤ q ∧ q < wr.heap.size) (fun w => FRow w vf p.files) wr) := by
        have HE := OO.out
        rw [List.take_of_length_le (by omega)] at HE
        exact HE.row (R := strR) (S := fun q => wc.heap.size ≤ q ∧ q < wr.heap.size) (l := p.files) rfl (by omega) (fun _ => rfl) (fun g hg => ⟨(HE.lt hg).2, (HE.lt hg).1⟩) (fun i x c hx hc => by
          rw [hx] at hc
          cases hc
          exact Hang.pure ⟨rfl, (HCF.out i x hx).1⟩)
      have y8 : wr.cell? ⟨w.heap.size, 8, none⟩ = some (.slice a8 p.users.length c8) := (HL.out.below HBW.out).cell 8
      have HOW : Hid (ob < wr.heap.size) := HLO.out.lt
      have HG2 := hideT (HG.out.keep HK.out (fun i _ h e => h.2 e))
      have HCS : Hid (wc.heap.size ≤ wr.heap.size) := HK.out.size
      have hu3 := HU3.out
      clear OO
      go_wp2_with fail
      clear y8
      go_loopw [39] (fun i wx => ∃ (k : Nat) (vu : Value) (cl : List (Cel 4)), k ≤ p.users.length ∧ i = .int .i64 k ∧ Hid (Keep (fun j => j = ob) wr wx) ∧ Hid (Lies wx ob 69 #[.int .i64 p.lasting, v1, .int .i64 p.frm, vf, v4, v5, vu]) ∧ Hid (UsIn wr.heap.size wx vu cl (p.users.take k))) (fun i _ => p.users.length - (intOf i).toNat)
      case atStart => exact ⟨0, _, [], by omega, rfl, Keep.refl _ _, HLO.out, OE.nil (Nat.le_refl _), rfl, fun i x c hx => by simp at hx⟩
      case round =>
        obtain ⟨k2, vu, cl, hk2, rfl, HK2, HLO2, UU⟩ := hrel
        have HBW2 : Hid (Below V.heap.size V wr) := Keep.below HBW.out HK2.out (fun i hi e => by have := HOB.out; omega)
        by_cases hlt2 : k2 < p.users.length
        · obtain ⟨⟨u0, u1, u2, u3⟩, hx⟩ := Mp.at_lt (l := p.users) (k := k2) hlt2
          obtain ⟨_, _, _, bu, ou, hau, hcu⟩ := urow_at (urow_below HUS.out HBW2.out)
          obtain ⟨a1, c1, hzi, hwh, e0, e1, e2, e3⟩ := hcu k2 _ hx
          dsimp only at hzi hwh e0 e1 e2 e3
          obtain rfl := hau (by omega)
          have hw3 : u2.length ≤ 3000 := HSM.out.whiles _ (List.mem_of_getElem? hx)
          have HTK : Hid (p.users.take (k2 + 1) = p.users.take k2 ++ [(u0, u1, u2, u3)]) := Mp.take_at hx
          have hcl : cl.length + 1 ≤ 10000 := by have := UU.out.len; rw [List.length_take] at this; omega
          have t0 : (0 : Int) ≤ (k2 : Int) := by omega
          have t1 : (k2 : Int) < (p.users.length : Int) := by omega
          obtain ⟨V1, hV1⟩ : ∃ V1, wr.alloc (.cells #[.string u0, .int .i64 u1, .slice a1 u2.length c1, .int .i64 u3] 65) = V1 := ⟨_, rfl⟩
          have BV1 : Below wr.heap.size wr V1 := by rw [← hV1]; exact (Below.refl _ wr).alloc (Nat.le_refl _) _
          have LV1 : Lies V1 wr.heap.size 65 #[.string u0, .int .i64 u1, .slice a1 u2.length c1, .int .i64 u3] := by rw [← hV1]; exact Lies.new _ _ _
          have HV1 := hideT hV1
          have HBV1 := hideT BV1
          have HLV1 := hideT LV1
          have HWH := hideT (lrow_below hwh BV1)
          have HVL : Hid (wr.heap.size < V1.heap.size) := LV1.lt
          obtain ⟨oad, ocap, ho, hfo⟩ := UU.out.own.form
          subst ho
          clear hcu hau hx hV1 BV1 LV1 hwh hfo
          go_wp2_with fail
          rw [HV1.out]
          clear e0 e1 e2 e3
          have y0 : V1.cell? ⟨wr.heap.size, 0, none⟩ = some (.string u0) := HLV1.out.cell 0
          have y2 : V1.cell? ⟨wr.heap.size, 2, none⟩ = some (.slice a1 u2.length c1) := HLV1.out.cell 2
          go_region_law (first
            | (go_simp; go_at_call 51; (refine (cloneM u0 _ hzi).mono ?_); rintro e w1 ⟨rfl, b1⟩; have B1 := (below_drewN (Below.refl _ V1) 1).trans b1; have z0 := below_cell B1 _ _ y0; have z2 := below_cell B1 _ _ y2; have q1 : wr.heap.size < w1.heap.size := Nat.lt_of_lt_of_le HVL.out B1.size)
            | (go_simp; go_at_call 52; (refine (copyL _ a1 c1 u2 (lrow_below HWH.out B1) (by omega)).mono ?_); rintro e w2 ⟨rfl, hg, b2, s2⟩; have B2 := B1.trans (b2.mono B1.size); have L2 := HLV1.out.below B2; have mm0 : w2.cell? ⟨wr.heap.size, 0, none⟩ = some (.string u0) := L2.cell 0; have mm2 : w2.cell? ⟨wr.heap.size, 2, none⟩ = some (.slice a1 u2.length c1) := L2.cell 2; have ff0 : w2.frozen? ⟨wr.heap.size, 0, none⟩ = false := L2.free 0; have ff2 : w2.frozen? ⟨wr.heap.size, 2, none⟩ = false := L2.free 2))
          all_goals (first
            | (obtain ⟨X, hX, LX, KX⟩ := putUA (n0 := .string u0) (n2 := .slice (some ⟨w1.heap.size, 0, none⟩) u2.length u2.length) L2; rw [hX])
            | (obtain ⟨X, hX, LX, KX⟩ := putUB (n0 := .string u0) (n2 := .slice (some ⟨w1.heap.size, 0, none⟩) u2.length u2.length) L2; rw [hX]))
          all_goals have hq1 := q1
          all_goals have hs2 := s2
          all_goals have BX : Below wr.heap.size wr X := Keep.below (HBV1.out.trans (B2.mono HBV1.out.size)) KX (fun i hi e => by omega)
          all_goals have HQ : Hid (Hang (fun q => q = w1.heap.size) (fun w => userR w (celU (u0, u1, u2, u3) (some ⟨w1.heap.size, 0, none⟩) u2.length u2.length).1 (u0, u1, u2, u3)) X) := ((hg.keep KX (fun i _ hi e => by have e1 : i = w1.heap.size := hi; omega)).imp (fun w hw => ⟨_, rfl, hzi, hw⟩))
          all_goals have HQL : Hid (w1.heap.size < X.heap.size ∧ wr.heap.size < w1.heap.size) := ⟨Nat.lt_of_lt_of_le s2 KX.size, q1⟩
          all_goals have HBX := hideT BX
          all_goals have HLX := hideT LX
          all_goals have HLOX := hideT (HLO2.out.below BX)
          all_goals have HUX := hideT (UU.out.below BX)
          all_goals have LXo := HLO2.out.below BX
          all_goals have x6 : X.cell? ⟨ob, 6, none⟩ = some (.slice oad cl.length ocap) := LXo.cell 6
          all_goals have x0 : X.cell? ⟨wr.heap.size, 0, none⟩ = some (.string u0) := LX.cell 0
          all_goals have x1 : X.cell? ⟨wr.heap.size, 1, none⟩ = some (.int .i64 u1) := LX.cell 1
          all_goals have x2 : X.cell? ⟨wr.heap.size, 2, none⟩ = some (.slice (some ⟨w1.heap.size, 0, none⟩) u2.length u2.length) := LX.cell 2
          all_goals have x3 : X.cell? ⟨wr.heap.size, 3, none⟩ = some (.int .i64 u3) := LX.cell 3
          all_goals clear hX LX KX BX LXo hg b2 s2 L2 mm0 mm2 ff0 ff2 B2 B1 b1 z0 z2 q1 y0 y2 hq1 hs2
          all_goals go_wp2_with (first | (at_builtin; (refine wpList_appO (t := 26) (e := 65) (z := 4) (E := celE) Try.underlying26 infoC_U rfl (by omega) (by omega) celE_len celE_one (by rfl) _ _ (by rfl) (v := .slice oad cl.length ocap) (by rfl) (by rfl) (HUX.out.own.below ((Below.refl _ _).alloc (Nat.le_refl _) _)) [celU (u0, u1, u2, u3) (some ⟨w1.heap.size, 0, none⟩) u2.length u2.length] rfl (one_cel (W := X) (cs := #[.string u0, .int .i64 u1, .slice (some ⟨w1.heap.size, 0, none⟩) u2.length u2.length, .int .i64 u3]) (ty := 65) _ rfl) (by simp; omega) ?_; intro v' w3 o3 k3; obtain ⟨qad, qcap, hq, hqq⟩ := o3.form; clear hqq; rw [List.length_append, List.length_singleton] at hq; subst hq; have LO3 := (HLOX.out.below ((Below.refl _ X).alloc (Nat.le_refl _) (.cells #[.string u0, .int .i64 u1, .slice (some ⟨w1.heap.size, 0, none⟩) u2.length u2.length, .int .i64 u3] 65))).keep k3.keep (fun e => by have := (HUX.out.own.lt e).2; have := HOW.out; omega); have u3' : w3.cell? ⟨ob, 6, none⟩ = some (.slice oad cl.length ocap) := LO3.cell 6; have f3 : w3.frozen? ⟨ob, 6, none⟩ = false := LO3.free 6)) | fail)
          all_goals obtain ⟨Y, hY⟩ : ∃ Y, w3.setCell ⟨ob, 6, none⟩ (.slice qad (cl.length + 1) qcap) = Y := ⟨_, rfl⟩
          all_goals have KY : Keep (fun j => j = ob) w3 Y := (by rw [← hY]; exact Keep.set _ _ _ rfl)
          all_goals have LY : Lies Y ob 69 #[.int .i64 p.lasting, v1, .int .i64 p.frm, vf, v4, v5, .slice qad (cl.length + 1) qcap] := (by rw [← hY]; exact LO3.set 6 _)
          all_goals have hBA := (Below.refl X.heap.size X).alloc (Nat.le_refl _) (.cells #[.string u0, .int .i64 u1, .slice (some ⟨w1.heap.size, 0, none⟩) u2.length u2.length, .int .i64 u3] 65)
          all_goals have UU3 := (HUX.out.below hBA).push o3 k3 (HQ.out.below hBA) (fun e => by have := (UU.out.own.lt e).1; have := HQL.out.2; omega) (by have := UU.out.own.low; have := HQL.out.2; omega) (Nat.lt_of_lt_of_le HQL.out.1 hBA.size)
          all_goals have UUY := UU3.keep KY (fun i hi hb e => by have := HOW.out; omega)
          all_goals have KW3 := ((HK2.out.trans (Keep.of_below HBX.out)).trans (Keep.of_below hBA)).on k3.keep (fun i hi e => by have := (HUX.out.own.lt e).2; omega)
          all_goals have HKY := hideT (KW3.trans KY)
          all_goals have HLY := hideT LY
          all_goals have HUY : Hid (UsIn _ Y (.slice qad (cl.length + 1) qcap) (cl ++ [celU (u0, u1, u2, u3) (some ⟨w1.heap.size, 0, none⟩) u2.length u2.length]) (p.users.take (k2 + 1))) := (by rw [HTK.out]; exact UUY)
          all_goals have HYY := hideT hY
          all_goals clear KY LY UU3 UUY KW3 LO3 o3 k3 u3' f3 hBA x0 x1 x2 x3 x6 hY
          all_goals try rw [HYY.out]
          all_goals refine ⟨⟨k2 + 1, _, _, by omega, by go_num, HKY, HLY, HUY⟩, ?_⟩
          all_goals first | omega | (simp [intOf]; omega)
        have HUE := UU.out
        rw [List.take_of_length_le (by omega)] at HUE
        have hur := HUE.done (by omega)
        have hg2 := HG2.out.keep HK2.out (fun i _ h e => h.2 e)
        have hfr := HFR.out.keep HK2.out (fun i _ h e => by have := HOB.out; omega)
        have LRX := HLR.out.below HBW2.out
        have hvs := HVS.out
        have HB3 := hideT (HB.out.trans (HBW2.out.mono HB.out.size))
        obtain ⟨j1, k1, rfl⟩ := zrow_val hg2.here.1
        obtain ⟨j4, k4, rfl⟩ := row_val hg2.here.2.1
        obtain ⟨j5, k5, rfl⟩ := row_val hg2.here.2.2
        obtain ⟨j3, k3, rfl⟩ := row_val hfr.here
        obtain ⟨j6, k6, rfl⟩ := row_val hur.here
        have hall : Hang (fun q => V.heap.size ≤ q) (fun w => KeptAt w ⟨j1, k1, j3, k3, j4, k4, j5, k5, j6, k6⟩ (Gp.kept p)) wr := (((hg2.sub (fun i _ h => h.1)).and (hfr.sub (fun i _ h => by have := BC.out.size; omega))).and (hur.sub (fun i _ h => by have := BC.out.size; have := HCS.out; omega))).imp (fun w2 ⟨⟨⟨p1, p2, p3⟩, p4⟩, p5⟩ => ⟨p1, p4, p2, p3, p5⟩)
        have HALL := hideT hall
        obtain ⟨n4, hn4⟩ : ∃ n4, (Gp.strataOf p.files p.rules).length = n4 := ⟨_, rfl⟩
        have HN4 := hideT hn4
        clear hg2 hfr hur hall HUE UU HG2 HFR
        rw [hn4] at HLO2
        have g0 : wr.cell? ⟨ob, 0, none⟩ = some (.int .i64 p.lasting) := HLO2.out.cell 0
        have g1 : wr.cell? ⟨ob, 1, none⟩ = some (.slice j1 p.over.length k1) := HLO2.out.cell 1
        have g2 : wr.cell? ⟨ob, 2, none⟩ = some (.int .i64 p.frm) := HLO2.out.cell 2
        have g3 : wr.cell? ⟨ob, 3, none⟩ = some (.slice j3 p.files.length k3) := HLO2.out.cell 3
        have g4 : wr.cell? ⟨ob, 4, none⟩ = some (.slice j4 n4 k4) := HLO2.out.cell 4
        have g5 : wr.cell? ⟨ob, 5, none⟩ = some (.slice j5 p.ctrs.length k5) := HLO2.out.cell 5
        have g6 : wr.cell? ⟨ob, 6, none⟩ = some (.slice j6 p.users.length k6) := HLO2.out.cell 6
        have mm0 : wr.cell? ⟨w.heap.size + 1, 0, none⟩ = some (.int .i64 0) := LRX.cell 0
        have ff0 : wr.frozen? ⟨w.heap.size + 1, 0, none⟩ = false := LRX.free 0
        have mm1 : wr.cell? ⟨w.heap.size + 1, 1, none⟩ = some (.slice none 0 0) := LRX.cell 1
        have ff1 : wr.frozen? ⟨w.heap.size + 1, 1, none⟩ = false := LRX.free 1
        have mm2 : wr.cell? ⟨w.heap.size + 1, 2, none⟩ = some (.int .i64 0) := LRX.cell 2
        have ff2 : wr.frozen? ⟨w.heap.size + 1, 2, none⟩ = false := LRX.free 2
        have mm3 : wr.cell? ⟨w.heap.size + 1, 3, none⟩ = some (.slice none 0 0) := LRX.cell 3
        have ff3 : wr.frozen? ⟨w.heap.size + 1, 3, none⟩ = false := LRX.free 3
        have mm4 : wr.cell? ⟨w.heap.size + 1, 4, none⟩ = some (.slice none 0 0) := LRX.cell 4
        have ff4 : wr.frozen? ⟨w.heap.size + 1, 4, none⟩ = false := LRX.free 4
        have mm5 : wr.cell? ⟨w.heap.size + 1, 5, none⟩ = some (.slice none 0 0) := LRX.cell 5
        have ff5 : wr.frozen? ⟨w.heap.size + 1, 5, none⟩ = false := LRX.free 5
        have mm6 : wr.cell? ⟨w.heap.size + 1, 6, none⟩ = some (.slice none 0 0) := LRX.cell 6
        have ff6 : wr.frozen? ⟨w.heap.size + 1, 6, none⟩ = false := LRX.free 6
        obtain ⟨X, hX⟩ : ∃ X, (((((((wr.setCell ⟨w.heap.size + 1, 0, none⟩ (.int .i64 p.lasting)).setCell ⟨w.heap.size + 1, 1, none⟩ (.slice j1 p.over.length k1)).setCell ⟨w.heap.size + 1, 2, none⟩ (.int .i64 p.frm)).setCell ⟨w.heap.size + 1, 3, none⟩ (.slice j3 p.files.length k3)).setCell ⟨w.heap.size + 1, 4, none⟩ (.slice j4 n4 k4)).setCell ⟨w.heap.size + 1, 5, none⟩ (.slice j5 p.ctrs.length k5)).setCell ⟨w.heap.size + 1, 6, none⟩ (.slice j6 p.users.length k6)) = X := ⟨_, rfl⟩
        obtain ⟨LX, KX⟩ := kept_res LRX hX
        have BX := hideT (Keep.below HB3.out KX (fun i hi e => by omega))
        have HNX := hideT ((HALL.out.keep KX (fun i hi h e => by omega)).toNew (B := w.heap.size) (fun i hi h => by omega))
        have HLX := hideT LX
        clear LX KX LRX
        go_wp2_with fail
        try rw [hX]
        have r0 : X.cell? ⟨w.heap.size + 1, 0, none⟩ = some (.int .i64 p.lasting) := HLX.out.cell 0
        have r1 : X.cell? ⟨w.heap.size + 1, 1, none⟩ = some (.slice j1 p.over.length k1) := HLX.out.cell 1
        have r2 : X.cell? ⟨w.heap.size + 1, 2, none⟩ = some (.int .i64 p.frm) := HLX.out.cell 2
        have r3 : X.cell? ⟨w.heap.size + 1, 3, none⟩ = some (.slice j3 p.files.length k3) := HLX.out.cell 3
        have r4 : X.cell? ⟨w.heap.size + 1, 4, none⟩ = some (.slice j4 n4 k4) := HLX.out.cell 4
        have r5 : X.cell? ⟨w.heap.size + 1, 5, none⟩ = some (.slice j5 p.ctrs.length k5) := HLX.out.cell 5
        have r6 : X.cell? ⟨w.heap.size + 1, 6, none⟩ = some (.slice j6 p.users.length k6) := HLX.out.cell 6
        refine bodyPost_ret (v := .agg #[.int .i64 p.lasting, .slice j1 p.over.length k1, .int .i64 p.frm, .slice j3 p.files.length k3, .slice j4 n4 k4, .slice j5 p.ctrs.length k5, .slice j6 p.users.length k6]) (by simp [results, Try.results22, go_sem, r0, r1, r2, r3, r4, r5, r6]) rfl ⟨⟨j1, k1, j3, k3, j4, k4, j5, k5, j6, k6⟩, ?_, HNX.out, BX.out⟩
        rw [← HN4.out]
        rfl
end Go.Proofs.Ytkjekohncfhbiaa
