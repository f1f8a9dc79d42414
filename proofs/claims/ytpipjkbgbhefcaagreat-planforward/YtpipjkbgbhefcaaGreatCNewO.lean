/-
  New: a case as it begins; what is made for it, in whatever order. (The masks are written by CNew.py.)
-/
import Derived.Test.YtpipjkbgbhefcaaGreatCGo
import Derived.Deep.CutRange
set_option linter.unusedSimpArgs false
set_option linter.unusedVariables false
namespace Go.Proofs.YtpipjkbgbhefcaaGreat
open Go.RowKit
open Qp
set_option maxRecDepth 100000
def stW (m : Mp.Model) : Cp.St := ⟨List.replicate m.items.length 0, List.replicate m.files.length 0, fun _ => false, fun _ => 0, 0, 0⟩
theorem IR.below {w w' : World} {b : Nat} {l : List Int} (h : IR w b l) (k : Below w.heap.size w w') : IR w' b l := Lies.below h k
theorem HIn.below {w w' : World} {b n : Nat} {hap : Mp.On → Bool} (h : HIn w b n hap) (k : Below w.heap.size w w') : HIn w' b n hap := h.keep (k.block _ h.lt)
theorem ZoneR.below {lo hi : Nat} {P : World → Prop} {w w' : World} (h : ZoneR lo hi P w) (k : Below w.heap.size w w') : ZoneR lo hi P w' := h.keep (S := fun _ => False) (Keep.of_below k) (fun _ _ _ e => e)
theorem QH.low {w : World} {H H' b : Nat} (h : QH w H' b nilS []) (hb : H ≤ b) : QH w H b nilS [] := ⟨⟨h.q.box, World.ownsRow_nil _ _ _ _, h.q.few, hb⟩, h.heap⟩
/-- What is made, as a function of the world: rows of noughts; a map. -/
theorem makers (n : Nat) (hn : n ≤ 1000) : ∃ mk : World → World, ∀ w, (Instr.makeSlice 44 (.int .i64 (n : Int)) (.int .i64 (n : Int))).run Tryz.prog w = .ok (.slice (some ⟨w.heap.size, 0, none⟩) n n) (mk w) ∧ IR (mk w) w.heap.size (List.replicate n 0) ∧ Below w.heap.size w (mk w) ∧ (mk w).heap.size = w.heap.size + 1 :=
  ⟨fun w => Classical.choose (madeI w n hn), fun w => Classical.choose_spec (madeI w n hn)⟩
theorem makerM : ∃ mk : World → World, ∀ w, (Instr.makeMap 56 none).run Tryz.prog w = .ok (.map (some w.heap.size)) (mk w) ∧ HIn (mk w) w.heap.size 0 (fun _ => false) ∧ Below w.heap.size w (mk w) ∧ (mk w).heap.size = w.heap.size + 1 :=
  ⟨fun w => w.alloc (.map #[] 0), fun w => ⟨run_makeMap _ w, HIn.made w, (Below.refl _ w).alloc (Nat.le_refl _) _, by simp⟩⟩
set_option maxHeartbeats 4000000 in
theorem newNo (w : World) (m : Mp.Model) (af ai : Option Addr) (cf ci : Nat) (hm : ModelAt w af cf ai ci m) (hb : Mp.isB m = false) :
    Calls Tryz.prog 10 #[.agg #[.slice af m.files.length cf, .slice ai m.items.length ci]] w fun e w' => e = .returned (.tuple #[.pointer none, .int .i64 7]) ∧ Below w.heap.size w w' := by
  obtain ⟨W, hW⟩ : ∃ W, w.alloc (.cells #[.slice af m.files.length cf, .slice ai m.items.length ci] 25) = W := ⟨_, rfl⟩
  obtain ⟨B1, L1, z1⟩ := of_alloc hW
  have x0 : W.cell? ⟨w.heap.size, 0, none⟩ = some (.slice af m.files.length cf) := L1.cell 0
  have x1 : W.cell? ⟨w.heap.size, 1, none⟩ = some (.slice ai m.items.length ci) := L1.cell 1
  have HM := hideT (hm.below B1)
  have HB := hideT B1
  have HI := hideT (isD W m af ai cf ci HM.out)
  have HBB := hideT hb
  clear hm B1 L1 hb
  go_enter Tryz.func10, Tryz.ntmps10
  go_wp2_with fail
  refine HI.out.mono ?_
  rintro e w1 ⟨rfl, b1⟩
  have HB1 := hideT (HB.out.trans (b1.mono HB.out.size))
  rw [HBB.out]
  clear b1
  go_wp2_with fail
  exact bodyPost_ret (v := .tuple #[.pointer none, .int .i64 7]) (by simp [results, Tryz.results10, go_sem]) rfl ⟨rfl, HB1.out⟩
/-- What a new case is, ahead of its first round. -/
def NewRel (w : World) (m : Mp.Model) (s : Value) (wc : World) : Prop := ∃ K : Kc, s = cP K ∧ CIn wc w.heap.size K m nilS [] 0 (stW m) ∧ Below w.heap.size w wc
theorem new_rel {w X : World} {m : Mp.Model} {af : Option Addr} {cf ib io ci sb nb mb qb lo hi : Nat} (hz : ZoneR lo hi (fun w => ModelAt w af cf (some ⟨ib, io, none⟩) ci m) X) (hs : IR X sb (List.replicate m.items.length 0)) (hn : IR X nb (List.replicate m.files.length 0)) (hm : HIn X mb 0 (fun _ => false)) (hq : ∃ H, QH X H qb nilS []) (hB : Below w.heap.size w X)
    (h1 : w.heap.size ≤ sb) (h2 : w.heap.size ≤ nb) (h3 : w.heap.size ≤ mb) (h4 : w.heap.size ≤ qb) (hne : sb ≠ nb) (hhi : hi ≤ X.heap.size) (k1 : sb < lo ∨ hi ≤ sb) (k2 : nb < lo ∨ hi ≤ nb) (k3 : mb < lo ∨ hi ≤ mb) (k4 : qb < lo ∨ hi ≤ qb) :
    NewRel w m (.pointer (some ⟨X.heap.size, 0, none⟩)) (X.alloc (.cells #[.slice af m.files.length cf, .slice (some ⟨ib, io, none⟩) m.items.length ci, .slice (some ⟨sb, 0, none⟩) m.items.length m.items.length, .slice (some ⟨nb, 0, none⟩) m.files.length m.files.length, .map (some mb), .pointer (some ⟨qb, 0, none⟩), .int .i64 0, .int .i64 0] 60)) := by
  have bX := (Below.refl X.heap.size X).alloc (Nat.le_refl _) (.cells #[.slice af m.files.length cf, .slice (some ⟨ib, io, none⟩) m.items.length ci, .slice (some ⟨sb, 0, none⟩) m.items.length m.items.length, .slice (some ⟨nb, 0, none⟩) m.files.length m.files.length, .map (some mb), .pointer (some ⟨qb, 0, none⟩), .int .i64 0, .int .i64 0] 60)
  obtain ⟨Hq, hq⟩ := hq
  refine ⟨⟨X.heap.size, sb, nb, mb, qb, lo, hi, af, cf, ib, io, ci⟩, rfl, ⟨Lies.new X _ _, hz.below bX, hs.below bX, hn.below bX, hm.below bX, (hq.low h4).below bX, hne, ?_, Nat.le_trans hhi bX.size, ⟨hB.size, h1, h2, h3⟩, by unfold stW; simp, by unfold stW; simp⟩, hB.alloc hB.size _⟩
  rintro k (rfl | rfl | rfl | rfl | rfl | e)
  · exact .inr hhi
  · exact k1
  · exact k2
  · exact k3
  · exact k4
  · cases e
theorem row_some {α : Type} {z : Nat} {R : World → List Value → α → Prop} {w : World} {a : Option Addr} {n c : Nat} {l : List α} (h : RowR z R w (.slice a n c) l) (h0 : 0 < n) : ∃ b o, a = some ⟨b, o, none⟩ := by
  obtain ⟨b, o, ⟨a1, c1, e, _, ha⟩, _, _⟩ := h
  cases e
  exact ⟨b, o, ha h0⟩
/-- What each world behind the region's beginning keeps. -/
def KeptN (w w1 : World) (v0 v1 : Value) (w' : World) : Prop := w'.cell? ⟨w.heap.size, 0, none⟩ = some v0 ∧ w'.cell? ⟨w.heap.size, 1, none⟩ = some v1 ∧ Below w1.heap.size w1 w'
theorem keptN_step {w w1 a b : World} {v0 v1 : Value} (h : a.cell? ⟨w.heap.size, 0, none⟩ = some v0 ∧ a.cell? ⟨w.heap.size, 1, none⟩ = some v1 ∧ Below w1.heap.size w1 a) (k : Below a.heap.size a b) : b.cell? ⟨w.heap.size, 0, none⟩ = some v0 ∧ b.cell? ⟨w.heap.size, 1, none⟩ = some v1 ∧ Below w1.heap.size w1 b :=
  ⟨below_cell k _ _ h.1, below_cell k _ _ h.2.1, h.2.2.trans (k.mono h.2.2.size)⟩
theorem keptN_b {w w1 a : World} {v0 v1 : Value} (h : a.cell? ⟨w.heap.size, 0, none⟩ = some v0 ∧ a.cell? ⟨w.heap.size, 1, none⟩ = some v1 ∧ Below w1.heap.size w1 a) : Below w1.heap.size w1 a := h.2.2
theorem belowS {a b c : World} (h : Below a.heap.size a b) (k : Below b.heap.size b c) : Below a.heap.size a c := h.trans (k.mono h.size)
theorem QHe.below {w w' : World} {b : Nat} (h : ∃ H, QH w H b nilS []) (k : Below w.heap.size w w') : ∃ H, QH w' H b nilS [] := by
  obtain ⟨H, h⟩ := h
  exact ⟨H, h.below k⟩
/-- What is known behind those that have come up. -/
structure NF (w : World) (m : Mp.Model) (c1 c5 c9 c10 c11 : Bool) (t9 t13 t17 t18 t19 : Value) (pf : Option Addr) (qf ib io qi lo hi sb nb mb qb : Nat) (W : World) : Prop where
  f1 : c1 = true → t9 = .agg #[.slice pf m.files.length qf, .slice (some ⟨ib, io, none⟩) m.items.length qi] ∧ ZoneR lo hi (fun w => ModelAt w pf qf (some ⟨ib, io, none⟩) qi m) W ∧ hi ≤ W.heap.size
  f5 : c5 = true → t13 = sliceN sb m.items.length ∧ IR W sb (List.replicate m.items.length 0) ∧ w.heap.size ≤ sb
  f9 : c9 = true → t17 = sliceN nb m.files.length ∧ IR W nb (List.replicate m.files.length 0) ∧ w.heap.size ≤ nb
  f10 : c10 = true → t18 = .map (some mb) ∧ HIn W mb 0 (fun _ => false) ∧ w.heap.size ≤ mb
  f11 : c11 = true → t19 = .pointer (some ⟨qb, 0, none⟩) ∧ (∃ H, QH W H qb nilS []) ∧ w.heap.size ≤ qb
  ne : c5 = true → c9 = true → sb ≠ nb
  z5 : c1 = true → c5 = true → (sb < lo ∨ hi ≤ sb)
  z9 : c1 = true → c9 = true → (nb < lo ∨ hi ≤ nb)
  z10 : c1 = true → c10 = true → (mb < lo ∨ hi ≤ mb)
  z11 : c1 = true → c11 = true → (qb < lo ∨ hi ≤ qb)
theorem qh_lt {W : World} {b : Nat} (h : ∃ H, QH W H b nilS []) : b < W.heap.size := by
  obtain ⟨H, h⟩ := h
  exact h.q.box.lt
section
variable {w : World} {m : Mp.Model} {c1 c5 c9 c10 c11 : Bool} {t9 t13 t17 t18 t19 : Value} {pf : Option Addr} {qf ib io qi lo hi sb nb mb qb : Nat} {W W' : World}
theorem NF.add1 {pf' : Option Addr} {qf' ib' io' qi' : Nat} (h : NF w m false c5 c9 c10 c11 t9 t13 t17 t18 t19 pf qf ib io qi lo hi sb nb mb qb W) (k : Below W.heap.size W W') (hw : w.heap.size ≤ W.heap.size) (n : NewR (W.heap.size + 2) (fun w => ModelAt w pf' qf' (some ⟨ib', io', none⟩) qi' m) W') : NF w m true c5 c9 c10 c11 (.agg #[.slice pf' m.files.length qf', .slice (some ⟨ib', io', none⟩) m.items.length qi']) t13 t17 t18 t19 pf' qf' ib' io' qi' (W.heap.size + 2) W'.heap.size sb nb mb qb W' :=
  ⟨fun _ => ⟨rfl, ZoneR.of_new n, Nat.le_refl _⟩, fun e => ⟨(h.f5 e).1, (h.f5 e).2.1.below k, (h.f5 e).2.2⟩, fun e => ⟨(h.f9 e).1, (h.f9 e).2.1.below k, (h.f9 e).2.2⟩, fun e => ⟨(h.f10 e).1, (h.f10 e).2.1.below k, (h.f10 e).2.2⟩, fun e => ⟨(h.f11 e).1, QHe.below (h.f11 e).2.1 k, (h.f11 e).2.2⟩, h.ne, fun _ e5 => .inl (by have := Lies.lt (h.f5 e5).2.1; omega), fun _ e9 => .inl (by have := Lies.lt (h.f9 e9).2.1; omega), fun _ e10 => .inl (by have := (h.f10 e10).2.1.lt; omega), fun _ e11 => .inl (by have := qh_lt (h.f11 e11).2.1; omega)⟩
theorem NF.add5  (h : NF w m c1 false c9 c10 c11 t9 t13 t17 t18 t19 pf qf ib io qi lo hi sb nb mb qb W) (k : Below W.heap.size W W') (hw : w.heap.size ≤ W.heap.size) (n : IR W' W.heap.size (List.replicate m.items.length 0)) : NF w m c1 true c9 c10 c11 t9 (sliceN W.heap.size m.items.length) t17 t18 t19 pf qf ib io qi lo hi W.heap.size nb mb qb W' :=
  ⟨fun e => ⟨(h.f1 e).1, (h.f1 e).2.1.below k, Nat.le_trans (h.f1 e).2.2 k.size⟩, fun _ => ⟨rfl, n, hw⟩, fun e => ⟨(h.f9 e).1, (h.f9 e).2.1.below k, (h.f9 e).2.2⟩, fun e => ⟨(h.f10 e).1, (h.f10 e).2.1.below k, (h.f10 e).2.2⟩, fun e => ⟨(h.f11 e).1, QHe.below (h.f11 e).2.1 k, (h.f11 e).2.2⟩, fun _ e9 => by have := Lies.lt (h.f9 e9).2.1; omega, fun e1 _ => .inr (h.f1 e1).2.2, h.z9, h.z10, h.z11⟩
theorem NF.add9  (h : NF w m c1 c5 false c10 c11 t9 t13 t17 t18 t19 pf qf ib io qi lo hi sb nb mb qb W) (k : Below W.heap.size W W') (hw : w.heap.size ≤ W.heap.size) (n : IR W' W.heap.size (List.replicate m.files.length 0)) : NF w m c1 c5 true c10 c11 t9 t13 (sliceN W.heap.size m.files.length) t18 t19 pf qf ib io qi lo hi sb W.heap.size mb qb W' :=
  ⟨fun e => ⟨(h.f1 e).1, (h.f1 e).2.1.below k, Nat.le_trans (h.f1 e).2.2 k.size⟩, fun e => ⟨(h.f5 e).1, (h.f5 e).2.1.below k, (h.f5 e).2.2⟩, fun _ => ⟨rfl, n, hw⟩, fun e => ⟨(h.f10 e).1, (h.f10 e).2.1.below k, (h.f10 e).2.2⟩, fun e => ⟨(h.f11 e).1, QHe.below (h.f11 e).2.1 k, (h.f11 e).2.2⟩, fun e5 _ => by have := Lies.lt (h.f5 e5).2.1; omega, h.z5, fun e1 _ => .inr (h.f1 e1).2.2, h.z10, h.z11⟩
theorem NF.add10  (h : NF w m c1 c5 c9 false c11 t9 t13 t17 t18 t19 pf qf ib io qi lo hi sb nb mb qb W) (k : Below W.heap.size W W') (hw : w.heap.size ≤ W.heap.size) (n : HIn W' W.heap.size 0 (fun _ => false)) : NF w m c1 c5 c9 true c11 t9 t13 t17 (.map (some W.heap.size)) t19 pf qf ib io qi lo hi sb nb W.heap.size qb W' :=
  ⟨fun e => ⟨(h.f1 e).1, (h.f1 e).2.1.below k, Nat.le_trans (h.f1 e).2.2 k.size⟩, fun e => ⟨(h.f5 e).1, (h.f5 e).2.1.below k, (h.f5 e).2.2⟩, fun e => ⟨(h.f9 e).1, (h.f9 e).2.1.below k, (h.f9 e).2.2⟩, fun _ => ⟨rfl, n, hw⟩, fun e => ⟨(h.f11 e).1, QHe.below (h.f11 e).2.1 k, (h.f11 e).2.2⟩, h.ne, h.z5, h.z9, fun e1 _ => .inr (h.f1 e1).2.2, h.z11⟩
theorem NF.add11  (h : NF w m c1 c5 c9 c10 false t9 t13 t17 t18 t19 pf qf ib io qi lo hi sb nb mb qb W) (k : Below W.heap.size W W') (hw : w.heap.size ≤ W.heap.size) (n : ∃ H, QH W' H W.heap.size nilS []) : NF w m c1 c5 c9 c10 true t9 t13 t17 t18 (.pointer (some ⟨W.heap.size, 0, none⟩)) pf qf ib io qi lo hi sb nb mb W.heap.size W' :=
  ⟨fun e => ⟨(h.f1 e).1, (h.f1 e).2.1.below k, Nat.le_trans (h.f1 e).2.2 k.size⟩, fun e => ⟨(h.f5 e).1, (h.f5 e).2.1.below k, (h.f5 e).2.2⟩, fun e => ⟨(h.f9 e).1, (h.f9 e).2.1.below k, (h.f9 e).2.2⟩, fun e => ⟨(h.f10 e).1, (h.f10 e).2.1.below k, (h.f10 e).2.2⟩, fun _ => ⟨rfl, n, hw⟩, h.ne, h.z5, h.z9, h.z10, fun e1 _ => .inr (h.f1 e1).2.2⟩
end
def opsN : Array Oper := #[{ dst := some 8, op := Go.Op.load 25 (Go.Operand.tmp 1), type := 25, pos := "plan.go:28", after := #[], guard := none }, { dst := some 9, op := Go.Op.call { callee := Go.Callee.value (Go.Operand.func 21), args := #[Go.Operand.tmp 8], argTypes := #[25] }, type := 25, pos := "plan.go:29", after := #[{ on := 0, ground := Go.Ground.data }], guard := none }, { dst := some 10, op := Go.Op.fieldAddr 25 (Go.Operand.tmp 1) 1, type := 0, pos := "plan.go:28", after := #[], guard := none }, { dst := some 11, op := Go.Op.load 23 (Go.Operand.tmp 10), type := 23, pos := "plan.go:28", after := #[{ on := 2, ground := Go.Ground.data }], guard := none }, { dst := some 12, op := Go.Op.call { callee := Go.Callee.builtin Go.Builtin.len, args := #[Go.Operand.tmp 11], argTypes := #[23] }, type := 3, pos := "plan.go:28", after := #[{ on := 3, ground := Go.Ground.data }], guard := none }, { dst := some 13, op := Go.Op.makeSlice 44 (Go.Operand.tmp 12) (Go.Operand.tmp 12), type := 44, pos := "plan.go:28", after := #[{ on := 4, ground := Go.Ground.data }, { on := 4, ground := Go.Ground.data }], guard := none }, { dst := some 14, op := Go.Op.fieldAddr 25 (Go.Operand.tmp 1) 0, type := 0, pos := "plan.go:28", after := #[], guard := none }, { dst := some 15, op := Go.Op.load 22 (Go.Operand.tmp 14), type := 22, pos := "plan.go:28", after := #[{ on := 6, ground := Go.Ground.data }], guard := none }, { dst := some 16, op := Go.Op.call { callee := Go.Callee.builtin Go.Builtin.len, args := #[Go.Operand.tmp 15], argTypes := #[22] }, type := 3, pos := "plan.go:28", after := #[{ on := 7, ground := Go.Ground.data }], guard := none }, { dst := some 17, op := Go.Op.makeSlice 44 (Go.Operand.tmp 16) (Go.Operand.tmp 16), type := 44, pos := "plan.go:28", after := #[{ on := 8, ground := Go.Ground.data }, { on := 8, ground := Go.Ground.data }], guard := none }, { dst := some 18, op := Go.Op.makeMap 56 none, type := 56, pos := "plan.go:28", after := #[], guard := none }, { dst := some 19, op := Go.Op.call { callee := Go.Callee.value (Go.Operand.func 22), args := #[], argTypes := #[] }, type := 57, pos := "plan.go:33", after := #[{ on := 1, ground := Go.Ground.chain }], guard := none }, { dst := some 20, op := Go.Op.build 60 #[(0, Go.Operand.tmp 9), (1, Go.Operand.tmp 13), (2, Go.Operand.tmp 17), (3, Go.Operand.tmp 18), (4, Go.Operand.tmp 19)], type := 60, pos := "plan.go:28", after := #[{ on := 1, ground := Go.Ground.data }, { on := 5, ground := Go.Ground.data }, { on := 9, ground := Go.Ground.data }, { on := 10, ground := Go.Ground.data }, { on := 11, ground := Go.Ground.data }], guard := none }, { dst := some 21, op := Go.Op.box 60 (Go.Operand.tmp 20), type := 29, pos := "plan.go:28", after := #[{ on := 12, ground := Go.Ground.data }], guard := none }, { dst := some 4, op := Go.Op.assign (Go.Operand.tmp 21), type := 29, pos := "plan.go:28", after := #[{ on := 13, ground := Go.Ground.data }, { on := 11, ground := Go.Ground.chain }, { on := 0, ground := Go.Ground.phase }, { on := 1, ground := Go.Ground.phase }, { on := 2, ground := Go.Ground.phase }, { on := 3, ground := Go.Ground.phase }, { on := 4, ground := Go.Ground.phase }, { on := 5, ground := Go.Ground.phase }, { on := 6, ground := Go.Ground.phase }, { on := 7, ground := Go.Ground.phase }, { on := 8, ground := Go.Ground.phase }, { on := 9, ground := Go.Ground.phase }, { on := 10, ground := Go.Ground.phase }, { on := 11, ground := Go.Ground.phase }, { on := 12, ground := Go.Ground.phase }, { on := 13, ground := Go.Ground.phase }], guard := none }]
section
variable (w w1 : World) (m : Mp.Model) (af ai : Option Addr) (cf ci : Nat) (mkS mkN mkM : World → World) (Q : Exit → Act → World → Prop) (s0 s1 s2 s3 s4 s5 s6 s7 t10 t11 t14 t15 : Value) (ds : List Deferred)
set_option maxHeartbeats 4000000 in
theorem nw_11111 (hw : Below w.heap.size w w1) (hm1 : Hid (ModelAt w1 af cf ai ci m)) (hl : Hid (light m)) (h16 : Hid (1 ≤ m.items.length))
    (HS : Hid (∀ w, (Instr.makeSlice 44 (.int .i64 (m.items.length : Int)) (.int .i64 (m.items.length : Int))).run Tryz.prog w = .ok (.slice (some ⟨w.heap.size, 0, none⟩) m.items.length m.items.length) (mkS w) ∧ IR (mkS w) w.heap.size (List.replicate m.items.length 0) ∧ Below w.heap.size w (mkS w)))
    (HN : Hid (∀ w, (Instr.makeSlice 44 (.int .i64 (m.files.length : Int)) (.int .i64 (m.files.length : Int))).run Tryz.prog w = .ok (.slice (some ⟨w.heap.size, 0, none⟩) m.files.length m.files.length) (mkN w) ∧ IR (mkN w) w.heap.size (List.replicate m.files.length 0) ∧ Below w.heap.size w (mkN w)))
    (HMM : Hid (∀ w, (Instr.makeMap 56 none).run Tryz.prog w = .ok (.map (some w.heap.size)) (mkM w) ∧ HIn (mkM w) w.heap.size 0 (fun _ => false) ∧ Below w.heap.size w (mkM w)))
    (hfin : Hid (∀ (X : World) (x : Value) (u9 u13 u17 u18 u19 u20 : Value), NewRel w m x X → Q .normal { tmps := #[s0, s1, s2, s3, x, s5, s6, s7, .agg #[.slice af m.files.length cf, .slice ai m.items.length ci], u9, t10, t11, .int .i64 (m.items.length : Int), u13, t14, t15, .int .i64 (m.files.length : Int), u17, u18, u19, u20, x, undef, undef, undef, undef, undef, undef, undef, undef], defers := ds } X)) (t9 t13 t17 t18 t19 : Value) (pf : Option Addr) (qf ib io qi lo hi sb nb mb qb : Nat) (W : World) (hF : Hid (NF w m true true true true true t9 t13 t17 t18 t19 pf qf ib io qi lo hi sb nb mb qb W)) (hS : (fun w' => w'.cell? ⟨w.heap.size, 0, none⟩ = some (.slice af m.files.length cf) ∧ w'.cell? ⟨w.heap.size, 1, none⟩ = some (.slice ai m.items.length ci) ∧ Below w1.heap.size w1 w') W) (listed : Array Bool) (hli : listed = #[true, true, true, true, true, true, true, true, true, true, true, true, false, false, false]) :
    wpAnyH Tryz.prog .any opsN Q (fun w' => w'.cell? ⟨w.heap.size, 0, none⟩ = some (.slice af m.files.length cf) ∧ w'.cell? ⟨w.heap.size, 1, none⟩ = some (.slice ai m.items.length ci) ∧ Below w1.heap.size w1 w') 3 listed { tmps := #[s0, s1, s2, s3, s4, s5, s6, s7, .agg #[.slice af m.files.length cf, .slice ai m.items.length ci], t9, t10, t11, .int .i64 (m.items.length : Int), t13, t14, t15, .int .i64 (m.files.length : Int), t17, t18, t19, undef, undef, undef, undef, undef, undef, undef, undef, undef, undef], defers := ds } W := by
  subst hli
  obtain ⟨rfl, hz, hhi⟩ := hF.out.f1 rfl
  obtain ⟨rfl, hs, h5⟩ := hF.out.f5 rfl
  obtain ⟨rfl, hn, h9⟩ := hF.out.f9 rfl
  obtain ⟨rfl, hm, h10⟩ := hF.out.f10 rfl
  obtain ⟨rfl, hq, h11⟩ := hF.out.f11 rfl
  have HR := hideT (new_rel hz hs hn hm hq (hw.trans (hS.2.2.mono hw.size)) h5 h9 h10 h11 (hF.out.ne rfl rfl) hhi (hF.out.z5 rfl rfl) (hF.out.z9 rfl rfl) (hF.out.z10 rfl rfl) (hF.out.z11 rfl rfl))
  clear hz hs hn hm hq
  refine wpAnyH_ready (rs := [12]) (by kernel_rfl) (by simp) ?_
  refine AllReadyH.cons (o := { dst := some 20, op := Go.Op.build 60 #[(0, Go.Operand.tmp 9), (1, Go.Operand.tmp 13), (2, Go.Operand.tmp 17), (3, Go.Operand.tmp 18), (4, Go.Operand.tmp 19)], type := 60, pos := "plan.go:28", after := #[{ on := 1, ground := Go.Ground.data }, { on := 5, ground := Go.Ground.data }, { on := 9, ground := Go.Ground.data }, { on := 10, ground := Go.Ground.data }, { on := 11, ground := Go.Ground.data }], guard := none }) rfl (fun Kx hK => ?_) AllReadyH.nil
  rw [if_pos (by rfl)]
  go_simp
  refine hK.out _ _ hS (fun _ => ?_)
  clear hK Kx
  try simp only [Act.put, List.setIfInBounds_toArray, List.set_cons_zero, List.set_cons_succ]
  refine wpAnyH_ready (rs := [13]) (by kernel_rfl) (by simp) ?_
  refine AllReadyH.cons (o := { dst := some 21, op := Go.Op.box 60 (Go.Operand.tmp 20), type := 29, pos := "plan.go:28", after := #[{ on := 12, ground := Go.Ground.data }], guard := none }) rfl (fun Kx hK => ?_) AllReadyH.nil
  rw [if_pos (by rfl)]
  go_simp
  refine hK.out _ _ (keptN_step hS ((Below.refl _ W).alloc (Nat.le_refl _) _)) (fun hS2 => ?_)
  clear hK Kx
  try simp only [Act.put, List.setIfInBounds_toArray, List.set_cons_zero, List.set_cons_succ]
  refine wpAnyH_ready (rs := [14]) (by kernel_rfl) (by simp) ?_
  refine AllReadyH.cons (o := { dst := some 4, op := Go.Op.assign (Go.Operand.tmp 21), type := 29, pos := "plan.go:28", after := #[{ on := 13, ground := Go.Ground.data }, { on := 11, ground := Go.Ground.chain }, { on := 0, ground := Go.Ground.phase }, { on := 1, ground := Go.Ground.phase }, { on := 2, ground := Go.Ground.phase }, { on := 3, ground := Go.Ground.phase }, { on := 4, ground := Go.Ground.phase }, { on := 5, ground := Go.Ground.phase }, { on := 6, ground := Go.Ground.phase }, { on := 7, ground := Go.Ground.phase }, { on := 8, ground := Go.Ground.phase }, { on := 9, ground := Go.Ground.phase }, { on := 10, ground := Go.Ground.phase }, { on := 11, ground := Go.Ground.phase }, { on := 12, ground := Go.Ground.phase }, { on := 13, ground := Go.Ground.phase }], guard := none }) rfl (fun Kx hK => ?_) AllReadyH.nil
  rw [if_pos (by rfl)]
  go_simp
  refine hK.out _ _ hS2 (fun _ => ?_)
  clear hK Kx
  try simp only [Act.put, List.setIfInBounds_toArray, List.set_cons_zero, List.set_cons_succ]
  refine wpAnyH_done (by kernel_rfl) ?_ _
  exact hfin.out _ _ _ _ _ _ _ _ HR.out
set_option maxHeartbeats 4000000 in
theorem nw_11110 (hw : Below w.heap.size w w1) (hm1 : Hid (ModelAt w1 af cf ai ci m)) (hl : Hid (light m)) (h16 : Hid (1 ≤ m.items.length))
    (HS : Hid (∀ w, (Instr.makeSlice 44 (.int .i64 (m.items.length : Int)) (.int .i64 (m.items.length : Int))).run Tryz.prog w = .ok (.slice (some ⟨w.heap.size, 0, none⟩) m.items.length m.items.length) (mkS w) ∧ IR (mkS w) w.heap.size (List.replicate m.items.length 0) ∧ Below w.heap.size w (mkS w)))
    (HN : Hid (∀ w, (Instr.makeSlice 44 (.int .i64 (m.files.length : Int)) (.int .i64 (m.files.length : Int))).run Tryz.prog w = .ok (.slice (some ⟨w.heap.size, 0, none⟩) m.files.length m.files.length) (mkN w) ∧ IR (mkN w) w.heap.size (List.replicate m.files.length 0) ∧ Below w.heap.size w (mkN w)))
    (HMM : Hid (∀ w, (Instr.makeMap 56 none).run Tryz.prog w = .ok (.map (some w.heap.size)) (mkM w) ∧ HIn (mkM w) w.heap.size 0 (fun _ => false) ∧ Below w.heap.size w (mkM w)))
    (hfin : Hid (∀ (X : World) (x : Value) (u9 u13 u17 u18 u19 u20 : Value), NewRel w m x X → Q .normal { tmps := #[s0, s1, s2, s3, x, s5, s6, s7, .agg #[.slice af m.files.length cf, .slice ai m.items.length ci], u9, t10, t11, .int .i64 (m.items.length : Int), u13, t14, t15, .int .i64 (m.files.length : Int), u17, u18, u19, u20, x, undef, undef, undef, undef, undef, undef, undef, undef], defers := ds } X)) (t9 t13 t17 t18 t19 : Value) (pf : Option Addr) (qf ib io qi lo hi sb nb mb qb : Nat) (W : World) (hF : Hid (NF w m true true true true false t9 t13 t17 t18 t19 pf qf ib io qi lo hi sb nb mb qb W)) (hS : (fun w' => w'.cell? ⟨w.heap.size, 0, none⟩ = some (.slice af m.files.length cf) ∧ w'.cell? ⟨w.heap.size, 1, none⟩ = some (.slice ai m.items.length ci) ∧ Below w1.heap.size w1 w') W) (listed : Array Bool) (hli : listed = #[true, true, true, true, true, true, true, true, true, true, true, false, false, false, false]) :
    wpAnyH Tryz.prog .any opsN Q (fun w' => w'.cell? ⟨w.heap.size, 0, none⟩ = some (.slice af m.files.length cf) ∧ w'.cell? ⟨w.heap.size, 1, none⟩ = some (.slice ai m.items.length ci) ∧ Below w1.heap.size w1 w') 4 listed { tmps := #[s0, s1, s2, s3, s4, s5, s6, s7, .agg #[.slice af m.files.length cf, .slice ai m.items.length ci], t9, t10, t11, .int .i64 (m.items.length : Int), t13, t14, t15, .int .i64 (m.files.length : Int), t17, t18, t19, undef, undef, undef, undef, undef, undef, undef, undef, undef, undef], defers := ds } W := by
  subst hli
  refine wpAnyH_ready (rs := [11]) (by kernel_rfl) (by simp) ?_
  refine AllReadyH.cons (o := { dst := some 19, op := Go.Op.call { callee := Go.Callee.value (Go.Operand.func 22), args := #[], argTypes := #[] }, type := 57, pos := "plan.go:33", after := #[{ on := 1, ground := Go.Ground.chain }], guard := none }) rfl (fun Kx hK => ?_) ?_
  · rw [if_pos (by rfl)]
    go_simp
    go_at_call 22
    refine (newQ W.heap.size W (Nat.le_refl _)).mono ?_
    rintro e w3 ⟨qb', rfl, rfl, q3, b3⟩
    refine hK.out _ _ (keptN_step hS b3) (fun hS2 => ?_)
    clear hK Kx
    try simp only [Act.put, List.setIfInBounds_toArray, List.set_cons_zero, List.set_cons_succ]
    exact nw_11111 w w1 m af ai cf ci mkS mkN mkM Q s0 s1 s2 s3 s4 s5 s6 s7 t10 t11 t14 t15 ds hw hm1 hl h16 HS HN HMM hfin _ _ _ _ _ _ _ _ _ _ _ _ _ _ _ _ _ (hF.out.add11 b3 (Nat.le_trans hw.size hS.2.2.size) ⟨_, q3⟩) hS2 _ (by kernel_rfl)
  exact AllReadyH.nil
set_option maxHeartbeats 4000000 in
theorem nw_11101 (hw : Below w.heap.size w w1) (hm1 : Hid (ModelAt w1 af cf ai ci m)) (hl : Hid (light m)) (h16 : Hid (1 ≤ m.items.length))
    (HS : Hid (∀ w, (Instr.makeSlice 44 (.int .i64 (m.items.length : Int)) (.int .i64 (m.items.length : Int))).run Tryz.prog w = .ok (.slice (some ⟨w.heap.size, 0, none⟩) m.items.length m.items.length) (mkS w) ∧ IR (mkS w) w.heap.size (List.replicate m.items.length 0) ∧ Below w.heap.size w (mkS w)))
    (HN : Hid (∀ w, (Instr.makeSlice 44 (.int .i64 (m.files.length : Int)) (.int .i64 (m.files.length : Int))).run Tryz.prog w = .ok (.slice (some ⟨w.heap.size, 0, none⟩) m.files.length m.files.length) (mkN w) ∧ IR (mkN w) w.heap.size (List.replicate m.files.length 0) ∧ Below w.heap.size w (mkN w)))
    (HMM : Hid (∀ w, (Instr.makeMap 56 none).run Tryz.prog w = .ok (.map (some w.heap.size)) (mkM w) ∧ HIn (mkM w) w.heap.size 0 (fun _ => false) ∧ Below w.heap.size w (mkM w)))
    (hfin : Hid (∀ (X : World) (x : Value) (u9 u13 u17 u18 u19 u20 : Value), NewRel w m x X → Q .normal { tmps := #[s0, s1, s2, s3, x, s5, s6, s7, .agg #[.slice af m.files.length cf, .slice ai m.items.length ci], u9, t10, t11, .int .i64 (m.items.length : Int), u13, t14, t15, .int .i64 (m.files.length : Int), u17, u18, u19, u20, x, undef, undef, undef, undef, undef, undef, undef, undef], defers := ds } X)) (t9 t13 t17 t18 t19 : Value) (pf : Option Addr) (qf ib io qi lo hi sb nb mb qb : Nat) (W : World) (hF : Hid (NF w m true true true false true t9 t13 t17 t18 t19 pf qf ib io qi lo hi sb nb mb qb W)) (hS : (fun w' => w'.cell? ⟨w.heap.size, 0, none⟩ = some (.slice af m.files.length cf) ∧ w'.cell? ⟨w.heap.size, 1, none⟩ = some (.slice ai m.items.length ci) ∧ Below w1.heap.size w1 w') W) (listed : Array Bool) (hli : listed = #[true, true, true, true, true, true, true, true, true, true, false, true, false, false, false]) :
    wpAnyH Tryz.prog .any opsN Q (fun w' => w'.cell? ⟨w.heap.size, 0, none⟩ = some (.slice af m.files.length cf) ∧ w'.cell? ⟨w.heap.size, 1, none⟩ = some (.slice ai m.items.length ci) ∧ Below w1.heap.size w1 w') 4 listed { tmps := #[s0, s1, s2, s3, s4, s5, s6, s7, .agg #[.slice af m.files.length cf, .slice ai m.items.length ci], t9, t10, t11, .int .i64 (m.items.length : Int), t13, t14, t15, .int .i64 (m.files.length : Int), t17, t18, t19, undef, undef, undef, undef, undef, undef, undef, undef, undef, undef], defers := ds } W := by
  subst hli
  refine wpAnyH_ready (rs := [10]) (by kernel_rfl) (by simp) ?_
  refine AllReadyH.cons (o := { dst := some 18, op := Go.Op.makeMap 56 none, type := 56, pos := "plan.go:28", after := #[], guard := none }) rfl (fun Kx hK => ?_) ?_
  · have hrun := (HMM.out W).1
    rw [if_pos (by rfl)]
    go_simp
    refine hK.out _ _ (keptN_step hS (HMM.out W).2.2) (fun hS2 => ?_)
    clear hK Kx hrun
    try simp only [Act.put, List.setIfInBounds_toArray, List.set_cons_zero, List.set_cons_succ]
    exact nw_11111 w w1 m af ai cf ci mkS mkN mkM Q s0 s1 s2 s3 s4 s5 s6 s7 t10 t11 t14 t15 ds hw hm1 hl h16 HS HN HMM hfin _ _ _ _ _ _ _ _ _ _ _ _ _ _ _ _ _ (hF.out.add10 (HMM.out W).2.2 (Nat.le_trans hw.size hS.2.2.size) (HMM.out W).2.1) hS2 _ (by kernel_rfl)
  exact AllReadyH.nil
set_option maxHeartbeats 4000000 in
theorem nw_11011 (hw : Below w.heap.size w w1) (hm1 : Hid (ModelAt w1 af cf ai ci m)) (hl : Hid (light m)) (h16 : Hid (1 ≤ m.items.length))
    (HS : Hid (∀ w, (Instr.makeSlice 44 (.int .i64 (m.items.length : Int)) (.int .i64 (m.items.length : Int))).run Tryz.prog w = .ok (.slice (some ⟨w.heap.size, 0, none⟩) m.items.length m.items.length) (mkS w) ∧ IR (mkS w) w.heap.size (List.replicate m.items.length 0) ∧ Below w.heap.size w (mkS w)))
    (HN : Hid (∀ w, (Instr.makeSlice 44 (.int .i64 (m.files.length : Int)) (.int .i64 (m.files.length : Int))).run Tryz.prog w = .ok (.slice (some ⟨w.heap.size, 0, none⟩) m.files.length m.files.length) (mkN w) ∧ IR (mkN w) w.heap.size (List.replicate m.files.length 0) ∧ Below w.heap.size w (mkN w)))
    (HMM : Hid (∀ w, (Instr.makeMap 56 none).run Tryz.prog w = .ok (.map (some w.heap.size)) (mkM w) ∧ HIn (mkM w) w.heap.size 0 (fun _ => false) ∧ Below w.heap.size w (mkM w)))
    (hfin : Hid (∀ (X : World) (x : Value) (u9 u13 u17 u18 u19 u20 : Value), NewRel w m x X → Q .normal { tmps := #[s0, s1, s2, s3, x, s5, s6, s7, .agg #[.slice af m.files.length cf, .slice ai m.items.length ci], u9, t10, t11, .int .i64 (m.items.length : Int), u13, t14, t15, .int .i64 (m.files.length : Int), u17, u18, u19, u20, x, undef, undef, undef, undef, undef, undef, undef, undef], defers := ds } X)) (t9 t13 t17 t18 t19 : Value) (pf : Option Addr) (qf ib io qi lo hi sb nb mb qb : Nat) (W : World) (hF : Hid (NF w m true true false true true t9 t13 t17 t18 t19 pf qf ib io qi lo hi sb nb mb qb W)) (hS : (fun w' => w'.cell? ⟨w.heap.size, 0, none⟩ = some (.slice af m.files.length cf) ∧ w'.cell? ⟨w.heap.size, 1, none⟩ = some (.slice ai m.items.length ci) ∧ Below w1.heap.size w1 w') W) (listed : Array Bool) (hli : listed = #[true, true, true, true, true, true, true, true, true, false, true, true, false, false, false]) :
    wpAnyH Tryz.prog .any opsN Q (fun w' => w'.cell? ⟨w.heap.size, 0, none⟩ = some (.slice af m.files.length cf) ∧ w'.cell? ⟨w.heap.size, 1, none⟩ = some (.slice ai m.items.length ci) ∧ Below w1.heap.size w1 w') 4 listed { tmps := #[s0, s1, s2, s3, s4, s5, s6, s7, .agg #[.slice af m.files.length cf, .slice ai m.items.length ci], t9, t10, t11, .int .i64 (m.items.length : Int), t13, t14, t15, .int .i64 (m.files.length : Int), t17, t18, t19, undef, undef, undef, undef, undef, undef, undef, undef, undef, undef], defers := ds } W := by
  subst hli
  refine wpAnyH_ready (rs := [9]) (by kernel_rfl) (by simp) ?_
  refine AllReadyH.cons (o := { dst := some 17, op := Go.Op.makeSlice 44 (Go.Operand.tmp 16) (Go.Operand.tmp 16), type := 44, pos := "plan.go:28", after := #[{ on := 8, ground := Go.Ground.data }, { on := 8, ground := Go.Ground.data }], guard := none }) rfl (fun Kx hK => ?_) ?_
  · have hrun := (HN.out W).1
    rw [if_pos (by rfl)]
    go_simp
    refine hK.out _ _ (keptN_step hS (HN.out W).2.2) (fun hS2 => ?_)
    clear hK Kx hrun
    try simp only [Act.put, List.setIfInBounds_toArray, List.set_cons_zero, List.set_cons_succ]
    exact nw_11111 w w1 m af ai cf ci mkS mkN mkM Q s0 s1 s2 s3 s4 s5 s6 s7 t10 t11 t14 t15 ds hw hm1 hl h16 HS HN HMM hfin _ _ _ _ _ _ _ _ _ _ _ _ _ _ _ _ _ (hF.out.add9 (HN.out W).2.2 (Nat.le_trans hw.size hS.2.2.size) (HN.out W).2.1) hS2 _ (by kernel_rfl)
  exact AllReadyH.nil
set_option maxHeartbeats 4000000 in
theorem nw_10111 (hw : Below w.heap.size w w1) (hm1 : Hid (ModelAt w1 af cf ai ci m)) (hl : Hid (light m)) (h16 : Hid (1 ≤ m.items.length))
    (HS : Hid (∀ w, (Instr.makeSlice 44 (.int .i64 (m.items.length : Int)) (.int .i64 (m.items.length : Int))).run Tryz.prog w = .ok (.slice (some ⟨w.heap.size, 0, none⟩) m.items.length m.items.length) (mkS w) ∧ IR (mkS w) w.heap.size (List.replicate m.items.length 0) ∧ Below w.heap.size w (mkS w)))
    (HN : Hid (∀ w, (Instr.makeSlice 44 (.int .i64 (m.files.length : Int)) (.int .i64 (m.files.length : Int))).run Tryz.prog w = .ok (.slice (some ⟨w.heap.size, 0, none⟩) m.files.length m.files.length) (mkN w) ∧ IR (mkN w) w.heap.size (List.replicate m.files.length 0) ∧ Below w.heap.size w (mkN w)))
    (HMM : Hid (∀ w, (Instr.makeMap 56 none).run Tryz.prog w = .ok (.map (some w.heap.size)) (mkM w) ∧ HIn (mkM w) w.heap.size 0 (fun _ => false) ∧ Below w.heap.size w (mkM w)))
    (hfin : Hid (∀ (X : World) (x : Value) (u9 u13 u17 u18 u19 u20 : Value), NewRel w m x X → Q .normal { tmps := #[s0, s1, s2, s3, x, s5, s6, s7, .agg #[.slice af m.files.length cf, .slice ai m.items.length ci], u9, t10, t11, .int .i64 (m.items.length : Int), u13, t14, t15, .int .i64 (m.files.length : Int), u17, u18, u19, u20, x, undef, undef, undef, undef, undef, undef, undef, undef], defers := ds } X)) (t9 t13 t17 t18 t19 : Value) (pf : Option Addr) (qf ib io qi lo hi sb nb mb qb : Nat) (W : World) (hF : Hid (NF w m true false true true true t9 t13 t17 t18 t19 pf qf ib io qi lo hi sb nb mb qb W)) (hS : (fun w' => w'.cell? ⟨w.heap.size, 0, none⟩ = some (.slice af m.files.length cf) ∧ w'.cell? ⟨w.heap.size, 1, none⟩ = some (.slice ai m.items.length ci) ∧ Below w1.heap.size w1 w') W) (listed : Array Bool) (hli : listed = #[true, true, true, true, true, false, true, true, true, true, true, true, false, false, false]) :
    wpAnyH Tryz.prog .any opsN Q (fun w' => w'.cell? ⟨w.heap.size, 0, none⟩ = some (.slice af m.files.length cf) ∧ w'.cell? ⟨w.heap.size, 1, none⟩ = some (.slice ai m.items.length ci) ∧ Below w1.heap.size w1 w') 4 listed { tmps := #[s0, s1, s2, s3, s4, s5, s6, s7, .agg #[.slice af m.files.length cf, .slice ai m.items.length ci], t9, t10, t11, .int .i64 (m.items.length : Int), t13, t14, t15, .int .i64 (m.files.length : Int), t17, t18, t19, undef, undef, undef, undef, undef, undef, undef, undef, undef, undef], defers := ds } W := by
  subst hli
  refine wpAnyH_ready (rs := [5]) (by kernel_rfl) (by simp) ?_
  refine AllReadyH.cons (o := { dst := some 13, op := Go.Op.makeSlice 44 (Go.Operand.tmp 12) (Go.Operand.tmp 12), type := 44, pos := "plan.go:28", after := #[{ on := 4, ground := Go.Ground.data }, { on := 4, ground := Go.Ground.data }], guard := none }) rfl (fun Kx hK => ?_) ?_
  · have hrun := (HS.out W).1
    rw [if_pos (by rfl)]
    go_simp
    refine hK.out _ _ (keptN_step hS (HS.out W).2.2) (fun hS2 => ?_)
    clear hK Kx hrun
    try simp only [Act.put, List.setIfInBounds_toArray, List.set_cons_zero, List.set_cons_succ]
    exact nw_11111 w w1 m af ai cf ci mkS mkN mkM Q s0 s1 s2 s3 s4 s5 s6 s7 t10 t11 t14 t15 ds hw hm1 hl h16 HS HN HMM hfin _ _ _ _ _ _ _ _ _ _ _ _ _ _ _ _ _ (hF.out.add5 (HS.out W).2.2 (Nat.le_trans hw.size hS.2.2.size) (HS.out W).2.1) hS2 _ (by kernel_rfl)
  exact AllReadyH.nil
set_option maxHeartbeats 4000000 in
theorem nw_11100 (hw : Below w.heap.size w w1) (hm1 : Hid (ModelAt w1 af cf ai ci m)) (hl : Hid (light m)) (h16 : Hid (1 ≤ m.items.length))
    (HS : Hid (∀ w, (Instr.makeSlice 44 (.int .i64 (m.items.length : Int)) (.int .i64 (m.items.length : Int))).run Tryz.prog w = .ok (.slice (some ⟨w.heap.size, 0, none⟩) m.items.length m.items.length) (mkS w) ∧ IR (mkS w) w.heap.size (List.replicate m.items.length 0) ∧ Below w.heap.size w (mkS w)))
    (HN : Hid (∀ w, (Instr.makeSlice 44 (.int .i64 (m.files.length : Int)) (.int .i64 (m.files.length : Int))).run Tryz.prog w = .ok (.slice (some ⟨w.heap.size, 0, none⟩) m.files.length m.files.length) (mkN w) ∧ IR (mkN w) w.heap.size (List.replicate m.files.length 0) ∧ Below w.heap.size w (mkN w)))
    (HMM : Hid (∀ w, (Instr.makeMap 56 none).run Tryz.prog w = .ok (.map (some w.heap.size)) (mkM w) ∧ HIn (mkM w) w.heap.size 0 (fun _ => false) ∧ Below w.heap.size w (mkM w)))
    (hfin : Hid (∀ (X : World) (x : Value) (u9 u13 u17 u18 u19 u20 : Value), NewRel w m x X → Q .normal { tmps := #[s0, s1, s2, s3, x, s5, s6, s7, .agg #[.slice af m.files.length cf, .slice ai m.items.length ci], u9, t10, t11, .int .i64 (m.items.length : Int), u13, t14, t15, .int .i64 (m.files.length : Int), u17, u18, u19, u20, x, undef, undef, undef, undef, undef, undef, undef, undef], defers := ds } X)) (t9 t13 t17 t18 t19 : Value) (pf : Option Addr) (qf ib io qi lo hi sb nb mb qb : Nat) (W : World) (hF : Hid (NF w m true true true false false t9 t13 t17 t18 t19 pf qf ib io qi lo hi sb nb mb qb W)) (hS : (fun w' => w'.cell? ⟨w.heap.size, 0, none⟩ = some (.slice af m.files.length cf) ∧ w'.cell? ⟨w.heap.size, 1, none⟩ = some (.slice ai m.items.length ci) ∧ Below w1.heap.size w1 w') W) (listed : Array Bool) (hli : listed = #[true, true, true, true, true, true, true, true, true, true, false, false, false, false, false]) :
    wpAnyH Tryz.prog .any opsN Q (fun w' => w'.cell? ⟨w.heap.size, 0, none⟩ = some (.slice af m.files.length cf) ∧ w'.cell? ⟨w.heap.size, 1, none⟩ = some (.slice ai m.items.length ci) ∧ Below w1.heap.size w1 w') 5 listed { tmps := #[s0, s1, s2, s3, s4, s5, s6, s7, .agg #[.slice af m.files.length cf, .slice ai m.items.length ci], t9, t10, t11, .int .i64 (m.items.length : Int), t13, t14, t15, .int .i64 (m.files.length : Int), t17, t18, t19, undef, undef, undef, undef, undef, undef, undef, undef, undef, undef], defers := ds } W := by
  subst hli
  refine wpAnyH_ready (rs := [10, 11]) (by kernel_rfl) (by simp) ?_
  refine AllReadyH.cons (o := { dst := some 18, op := Go.Op.makeMap 56 none, type := 56, pos := "plan.go:28", after := #[], guard := none }) rfl (fun Kx hK => ?_) ?_
  · have hrun := (HMM.out W).1
    rw [if_pos (by rfl)]
    go_simp
    refine hK.out _ _ (keptN_step hS (HMM.out W).2.2) (fun hS2 => ?_)
    clear hK Kx hrun
    try simp only [Act.put, List.setIfInBounds_toArray, List.set_cons_zero, List.set_cons_succ]
    exact nw_11110 w w1 m af ai cf ci mkS mkN mkM Q s0 s1 s2 s3 s4 s5 s6 s7 t10 t11 t14 t15 ds hw hm1 hl h16 HS HN HMM hfin _ _ _ _ _ _ _ _ _ _ _ _ _ _ _ _ _ (hF.out.add10 (HMM.out W).2.2 (Nat.le_trans hw.size hS.2.2.size) (HMM.out W).2.1) hS2 _ (by kernel_rfl)
  refine AllReadyH.cons (o := { dst := some 19, op := Go.Op.call { callee := Go.Callee.value (Go.Operand.func 22), args := #[], argTypes := #[] }, type := 57, pos := "plan.go:33", after := #[{ on := 1, ground := Go.Ground.chain }], guard := none }) rfl (fun Kx hK => ?_) ?_
  · rw [if_pos (by rfl)]
    go_simp
    go_at_call 22
    refine (newQ W.heap.size W (Nat.le_refl _)).mono ?_
    rintro e w3 ⟨qb', rfl, rfl, q3, b3⟩
    refine hK.out _ _ (keptN_step hS b3) (fun hS2 => ?_)
    clear hK Kx
    try simp only [Act.put, List.setIfInBounds_toArray, List.set_cons_zero, List.set_cons_succ]
    exact nw_11101 w w1 m af ai cf ci mkS mkN mkM Q s0 s1 s2 s3 s4 s5 s6 s7 t10 t11 t14 t15 ds hw hm1 hl h16 HS HN HMM hfin _ _ _ _ _ _ _ _ _ _ _ _ _ _ _ _ _ (hF.out.add11 b3 (Nat.le_trans hw.size hS.2.2.size) ⟨_, q3⟩) hS2 _ (by kernel_rfl)
  exact AllReadyH.nil
set_option maxHeartbeats 4000000 in
theorem nw_11010 (hw : Below w.heap.size w w1) (hm1 : Hid (ModelAt w1 af cf ai ci m)) (hl : Hid (light m)) (h16 : Hid (1 ≤ m.items.length))
    (HS : Hid (∀ w, (Instr.makeSlice 44 (.int .i64 (m.items.length : Int)) (.int .i64 (m.items.length : Int))).run Tryz.prog w = .ok (.slice (some ⟨w.heap.size, 0, none⟩) m.items.length m.items.length) (mkS w) ∧ IR (mkS w) w.heap.size (List.replicate m.items.length 0) ∧ Below w.heap.size w (mkS w)))
    (HN : Hid (∀ w, (Instr.makeSlice 44 (.int .i64 (m.files.length : Int)) (.int .i64 (m.files.length : Int))).run Tryz.prog w = .ok (.slice (some ⟨w.heap.size, 0, none⟩) m.files.length m.files.length) (mkN w) ∧ IR (mkN w) w.heap.size (List.replicate m.files.length 0) ∧ Below w.heap.size w (mkN w)))
    (HMM : Hid (∀ w, (Instr.makeMap 56 none).run Tryz.prog w = .ok (.map (some w.heap.size)) (mkM w) ∧ HIn (mkM w) w.heap.size 0 (fun _ => false) ∧ Below w.heap.size w (mkM w)))
    (hfin : Hid (∀ (X : World) (x : Value) (u9 u13 u17 u18 u19 u20 : Value), NewRel w m x X → Q .normal { tmps := #[s0, s1, s2, s3, x, s5, s6, s7, .agg #[.slice af m.files.length cf, .slice ai m.items.length ci], u9, t10, t11, .int .i64 (m.items.length : Int), u13, t14, t15, .int .i64 (m.files.length : Int), u17, u18, u19, u20, x, undef, undef, undef, undef, undef, undef, undef, undef], defers := ds } X)) (t9 t13 t17 t18 t19 : Value) (pf : Option Addr) (qf ib io qi lo hi sb nb mb qb : Nat) (W : World) (hF : Hid (NF w m true true false true false t9 t13 t17 t18 t19 pf qf ib io qi lo hi sb nb mb qb W)) (hS : (fun w' => w'.cell? ⟨w.heap.size, 0, none⟩ = some (.slice af m.files.length cf) ∧ w'.cell? ⟨w.heap.size, 1, none⟩ = some (.slice ai m.items.length ci) ∧ Below w1.heap.size w1 w') W) (listed : Array Bool) (hli : listed = #[true, true, true, true, true, true, true, true, true, false, true, false, false, false, false]) :
    wpAnyH Tryz.prog .any opsN Q (fun w' => w'.cell? ⟨w.heap.size, 0, none⟩ = some (.slice af m.files.length cf) ∧ w'.cell? ⟨w.heap.size, 1, none⟩ = some (.slice ai m.items.length ci) ∧ Below w1.heap.size w1 w') 5 listed { tmps := #[s0, s1, s2, s3, s4, s5, s6, s7, .agg #[.slice af m.files.length cf, .slice ai m.items.length ci], t9, t10, t11, .int .i64 (m.items.length : Int), t13, t14, t15, .int .i64 (m.files.length : Int), t17, t18, t19, undef, undef, undef, undef, undef, undef, undef, undef, undef, undef], defers := ds } W := by
  subst hli
  refine wpAnyH_ready (rs := [9, 11]) (by kernel_rfl) (by simp) ?_
  refine AllReadyH.cons (o := { dst := some 17, op := Go.Op.makeSlice 44 (Go.Operand.tmp 16) (Go.Operand.tmp 16), type := 44, pos := "plan.go:28", after := #[{ on := 8, ground := Go.Ground.data }, { on := 8, ground := Go.Ground.data }], guard := none }) rfl (fun Kx hK => ?_) ?_
  · have hrun := (HN.out W).1
    rw [if_pos (by rfl)]
    go_simp
    refine hK.out _ _ (keptN_step hS (HN.out W).2.2) (fun hS2 => ?_)
    clear hK Kx hrun
    try simp only [Act.put, List.setIfInBounds_toArray, List.set_cons_zero, List.set_cons_succ]
    exact nw_11110 w w1 m af ai cf ci mkS mkN mkM Q s0 s1 s2 s3 s4 s5 s6 s7 t10 t11 t14 t15 ds hw hm1 hl h16 HS HN HMM hfin _ _ _ _ _ _ _ _ _ _ _ _ _ _ _ _ _ (hF.out.add9 (HN.out W).2.2 (Nat.le_trans hw.size hS.2.2.size) (HN.out W).2.1) hS2 _ (by kernel_rfl)
  refine AllReadyH.cons (o := { dst := some 19, op := Go.Op.call { callee := Go.Callee.value (Go.Operand.func 22), args := #[], argTypes := #[] }, type := 57, pos := "plan.go:33", after := #[{ on := 1, ground := Go.Ground.chain }], guard := none }) rfl (fun Kx hK => ?_) ?_
  · rw [if_pos (by rfl)]
    go_simp
    go_at_call 22
    refine (newQ W.heap.size W (Nat.le_refl _)).mono ?_
    rintro e w3 ⟨qb', rfl, rfl, q3, b3⟩
    refine hK.out _ _ (keptN_step hS b3) (fun hS2 => ?_)
    clear hK Kx
    try simp only [Act.put, List.setIfInBounds_toArray, List.set_cons_zero, List.set_cons_succ]
    exact nw_11011 w w1 m af ai cf ci mkS mkN mkM Q s0 s1 s2 s3 s4 s5 s6 s7 t10 t11 t14 t15 ds hw hm1 hl h16 HS HN HMM hfin _ _ _ _ _ _ _ _ _ _ _ _ _ _ _ _ _ (hF.out.add11 b3 (Nat.le_trans hw.size hS.2.2.size) ⟨_, q3⟩) hS2 _ (by kernel_rfl)
  exact AllReadyH.nil
set_option maxHeartbeats 4000000 in
theorem nw_11001 (hw : Below w.heap.size w w1) (hm1 : Hid (ModelAt w1 af cf ai ci m)) (hl : Hid (light m)) (h16 : Hid (1 ≤ m.items.length))
    (HS : Hid (∀ w, (Instr.makeSlice 44 (.int .i64 (m.items.length : Int)) (.int .i64 (m.items.length : Int))).run Tryz.prog w = .ok (.slice (some ⟨w.heap.size, 0, none⟩) m.items.length m.items.length) (mkS w) ∧ IR (mkS w) w.heap.size (List.replicate m.items.length 0) ∧ Below w.heap.size w (mkS w)))
    (HN : Hid (∀ w, (Instr.makeSlice 44 (.int .i64 (m.files.length : Int)) (.int .i64 (m.files.length : Int))).run Tryz.prog w = .ok (.slice (some ⟨w.heap.size, 0, none⟩) m.files.length m.files.length) (mkN w) ∧ IR (mkN w) w.heap.size (List.replicate m.files.length 0) ∧ Below w.heap.size w (mkN w)))
    (HMM : Hid (∀ w, (Instr.makeMap 56 none).run Tryz.prog w = .ok (.map (some w.heap.size)) (mkM w) ∧ HIn (mkM w) w.heap.size 0 (fun _ => false) ∧ Below w.heap.size w (mkM w)))
    (hfin : Hid (∀ (X : World) (x : Value) (u9 u13 u17 u18 u19 u20 : Value), NewRel w m x X → Q .normal { tmps := #[s0, s1, s2, s3, x, s5, s6, s7, .agg #[.slice af m.files.length cf, .slice ai m.items.length ci], u9, t10, t11, .int .i64 (m.items.length : Int), u13, t14, t15, .int .i64 (m.files.length : Int), u17, u18, u19, u20, x, undef, undef, undef, undef, undef, undef, undef, undef], defers := ds } X)) (t9 t13 t17 t18 t19 : Value) (pf : Option Addr) (qf ib io qi lo hi sb nb mb qb : Nat) (W : World) (hF : Hid (NF w m true true false false true t9 t13 t17 t18 t19 pf qf ib io qi lo hi sb nb mb qb W)) (hS : (fun w' => w'.cell? ⟨w.heap.size, 0, none⟩ = some (.slice af m.files.length cf) ∧ w'.cell? ⟨w.heap.size, 1, none⟩ = some (.slice ai m.items.length ci) ∧ Below w1.heap.size w1 w') W) (listed : Array Bool) (hli : listed = #[true, true, true, true, true, true, true, true, true, false, false, true, false, false, false]) :
    wpAnyH Tryz.prog .any opsN Q (fun w' => w'.cell? ⟨w.heap.size, 0, none⟩ = some (.slice af m.files.length cf) ∧ w'.cell? ⟨w.heap.size, 1, none⟩ = some (.slice ai m.items.length ci) ∧ Below w1.heap.size w1 w') 5 listed { tmps := #[s0, s1, s2, s3, s4, s5, s6, s7, .agg #[.slice af m.files.length cf, .slice ai m.items.length ci], t9, t10, t11, .int .i64 (m.items.length : Int), t13, t14, t15, .int .i64 (m.files.length : Int), t17, t18, t19, undef, undef, undef, undef, undef, undef, undef, undef, undef, undef], defers := ds } W := by
  subst hli
  refine wpAnyH_ready (rs := [9, 10]) (by kernel_rfl) (by simp) ?_
  refine AllReadyH.cons (o := { dst := some 17, op := Go.Op.makeSlice 44 (Go.Operand.tmp 16) (Go.Operand.tmp 16), type := 44, pos := "plan.go:28", after := #[{ on := 8, ground := Go.Ground.data }, { on := 8, ground := Go.Ground.data }], guard := none }) rfl (fun Kx hK => ?_) ?_
  · have hrun := (HN.out W).1
    rw [if_pos (by rfl)]
    go_simp
    refine hK.out _ _ (keptN_step hS (HN.out W).2.2) (fun hS2 => ?_)
    clear hK Kx hrun
    try simp only [Act.put, List.setIfInBounds_toArray, List.set_cons_zero, List.set_cons_succ]
    exact nw_11101 w w1 m af ai cf ci mkS mkN mkM Q s0 s1 s2 s3 s4 s5 s6 s7 t10 t11 t14 t15 ds hw hm1 hl h16 HS HN HMM hfin _ _ _ _ _ _ _ _ _ _ _ _ _ _ _ _ _ (hF.out.add9 (HN.out W).2.2 (Nat.le_trans hw.size hS.2.2.size) (HN.out W).2.1) hS2 _ (by kernel_rfl)
  refine AllReadyH.cons (o := { dst := some 18, op := Go.Op.makeMap 56 none, type := 56, pos := "plan.go:28", after := #[], guard := none }) rfl (fun Kx hK => ?_) ?_
  · have hrun := (HMM.out W).1
    rw [if_pos (by rfl)]
    go_simp
    refine hK.out _ _ (keptN_step hS (HMM.out W).2.2) (fun hS2 => ?_)
    clear hK Kx hrun
    try simp only [Act.put, List.setIfInBounds_toArray, List.set_cons_zero, List.set_cons_succ]
    exact nw_11011 w w1 m af ai cf ci mkS mkN mkM Q s0 s1 s2 s3 s4 s5 s6 s7 t10 t11 t14 t15 ds hw hm1 hl h16 HS HN HMM hfin _ _ _ _ _ _ _ _ _ _ _ _ _ _ _ _ _ (hF.out.add10 (HMM.out W).2.2 (Nat.le_trans hw.size hS.2.2.size) (HMM.out W).2.1) hS2 _ (by kernel_rfl)
  exact AllReadyH.nil
set_option maxHeartbeats 4000000 in
theorem nw_10110 (hw : Below w.heap.size w w1) (hm1 : Hid (ModelAt w1 af cf ai ci m)) (hl : Hid (light m)) (h16 : Hid (1 ≤ m.items.length))
    (HS : Hid (∀ w, (Instr.makeSlice 44 (.int .i64 (m.items.length : Int)) (.int .i64 (m.items.length : Int))).run Tryz.prog w = .ok (.slice (some ⟨w.heap.size, 0, none⟩) m.items.length m.items.length) (mkS w) ∧ IR (mkS w) w.heap.size (List.replicate m.items.length 0) ∧ Below w.heap.size w (mkS w)))
    (HN : Hid (∀ w, (Instr.makeSlice 44 (.int .i64 (m.files.length : Int)) (.int .i64 (m.files.length : Int))).run Tryz.prog w = .ok (.slice (some ⟨w.heap.size, 0, none⟩) m.files.length m.files.length) (mkN w) ∧ IR (mkN w) w.heap.size (List.replicate m.files.length 0) ∧ Below w.heap.size w (mkN w)))
    (HMM : Hid (∀ w, (Instr.makeMap 56 none).run Tryz.prog w = .ok (.map (some w.heap.size)) (mkM w) ∧ HIn (mkM w) w.heap.size 0 (fun _ => false) ∧ Below w.heap.size w (mkM w)))
    (hfin : Hid (∀ (X : World) (x : Value) (u9 u13 u17 u18 u19 u20 : Value), NewRel w m x X → Q .normal { tmps := #[s0, s1, s2, s3, x, s5, s6, s7, .agg #[.slice af m.files.length cf, .slice ai m.items.length ci], u9, t10, t11, .int .i64 (m.items.length : Int), u13, t14, t15, .int .i64 (m.files.length : Int), u17, u18, u19, u20, x, undef, undef, undef, undef, undef, undef, undef, undef], defers := ds } X)) (t9 t13 t17 t18 t19 : Value) (pf : Option Addr) (qf ib io qi lo hi sb nb mb qb : Nat) (W : World) (hF : Hid (NF w m true false true true false t9 t13 t17 t18 t19 pf qf ib io qi lo hi sb nb mb qb W)) (hS : (fun w' => w'.cell? ⟨w.heap.size, 0, none⟩ = some (.slice af m.files.length cf) ∧ w'.cell? ⟨w.heap.size, 1, none⟩ = some (.slice ai m.items.length ci) ∧ Below w1.heap.size w1 w') W) (listed : Array Bool) (hli : listed = #[true, true, true, true, true, false, true, true, true, true, true, false, false, false, false]) :
    wpAnyH Tryz.prog .any opsN Q (fun w' => w'.cell? ⟨w.heap.size, 0, none⟩ = some (.slice af m.files.length cf) ∧ w'.cell? ⟨w.heap.size, 1, none⟩ = some (.slice ai m.items.length ci) ∧ Below w1.heap.size w1 w') 5 listed { tmps := #[s0, s1, s2, s3, s4, s5, s6, s7, .agg #[.slice af m.files.length cf, .slice ai m.items.length ci], t9, t10, t11, .int .i64 (m.items.length : Int), t13, t14, t15, .int .i64 (m.files.length : Int), t17, t18, t19, undef, undef, undef, undef, undef, undef, undef, undef, undef, undef], defers := ds } W := by
  subst hli
  refine wpAnyH_ready (rs := [5, 11]) (by kernel_rfl) (by simp) ?_
  refine AllReadyH.cons (o := { dst := some 13, op := Go.Op.makeSlice 44 (Go.Operand.tmp 12) (Go.Operand.tmp 12), type := 44, pos := "plan.go:28", after := #[{ on := 4, ground := Go.Ground.data }, { on := 4, ground := Go.Ground.data }], guard := none }) rfl (fun Kx hK => ?_) ?_
  · have hrun := (HS.out W).1
    rw [if_pos (by rfl)]
    go_simp
    refine hK.out _ _ (keptN_step hS (HS.out W).2.2) (fun hS2 => ?_)
    clear hK Kx hrun
    try simp only [Act.put, List.setIfInBounds_toArray, List.set_cons_zero, List.set_cons_succ]
    exact nw_11110 w w1 m af ai cf ci mkS mkN mkM Q s0 s1 s2 s3 s4 s5 s6 s7 t10 t11 t14 t15 ds hw hm1 hl h16 HS HN HMM hfin _ _ _ _ _ _ _ _ _ _ _ _ _ _ _ _ _ (hF.out.add5 (HS.out W).2.2 (Nat.le_trans hw.size hS.2.2.size) (HS.out W).2.1) hS2 _ (by kernel_rfl)
  refine AllReadyH.cons (o := { dst := some 19, op := Go.Op.call { callee := Go.Callee.value (Go.Operand.func 22), args := #[], argTypes := #[] }, type := 57, pos := "plan.go:33", after := #[{ on := 1, ground := Go.Ground.chain }], guard := none }) rfl (fun Kx hK => ?_) ?_
  · rw [if_pos (by rfl)]
    go_simp
    go_at_call 22
    refine (newQ W.heap.size W (Nat.le_refl _)).mono ?_
    rintro e w3 ⟨qb', rfl, rfl, q3, b3⟩
    refine hK.out _ _ (keptN_step hS b3) (fun hS2 => ?_)
    clear hK Kx
    try simp only [Act.put, List.setIfInBounds_toArray, List.set_cons_zero, List.set_cons_succ]
    exact nw_10111 w w1 m af ai cf ci mkS mkN mkM Q s0 s1 s2 s3 s4 s5 s6 s7 t10 t11 t14 t15 ds hw hm1 hl h16 HS HN HMM hfin _ _ _ _ _ _ _ _ _ _ _ _ _ _ _ _ _ (hF.out.add11 b3 (Nat.le_trans hw.size hS.2.2.size) ⟨_, q3⟩) hS2 _ (by kernel_rfl)
  exact AllReadyH.nil
set_option maxHeartbeats 4000000 in
theorem nw_10101 (hw : Below w.heap.size w w1) (hm1 : Hid (ModelAt w1 af cf ai ci m)) (hl : Hid (light m)) (h16 : Hid (1 ≤ m.items.length))
    (HS : Hid (∀ w, (Instr.makeSlice 44 (.int .i64 (m.items.length : Int)) (.int .i64 (m.items.length : Int))).run Tryz.prog w = .ok (.slice (some ⟨w.heap.size, 0, none⟩) m.items.length m.items.length) (mkS w) ∧ IR (mkS w) w.heap.size (List.replicate m.items.length 0) ∧ Below w.heap.size w (mkS w)))
    (HN : Hid (∀ w, (Instr.makeSlice 44 (.int .i64 (m.files.length : Int)) (.int .i64 (m.files.length : Int))).run Tryz.prog w = .ok (.slice (some ⟨w.heap.size, 0, none⟩) m.files.length m.files.length) (mkN w) ∧ IR (mkN w) w.heap.size (List.replicate m.files.length 0) ∧ Below w.heap.size w (mkN w)))
    (HMM : Hid (∀ w, (Instr.makeMap 56 none).run Tryz.prog w = .ok (.map (some w.heap.size)) (mkM w) ∧ HIn (mkM w) w.heap.size 0 (fun _ => false) ∧ Below w.heap.size w (mkM w)))
    (hfin : Hid (∀ (X : World) (x : Value) (u9 u13 u17 u18 u19 u20 : Value), NewRel w m x X → Q .normal { tmps := #[s0, s1, s2, s3, x, s5, s6, s7, .agg #[.slice af m.files.length cf, .slice ai m.items.length ci], u9, t10, t11, .int .i64 (m.items.length : Int), u13, t14, t15, .int .i64 (m.files.length : Int), u17, u18, u19, u20, x, undef, undef, undef, undef, undef, undef, undef, undef], defers := ds } X)) (t9 t13 t17 t18 t19 : Value) (pf : Option Addr) (qf ib io qi lo hi sb nb mb qb : Nat) (W : World) (hF : Hid (NF w m true false true false true t9 t13 t17 t18 t19 pf qf ib io qi lo hi sb nb mb qb W)) (hS : (fun w' => w'.cell? ⟨w.heap.size, 0, none⟩ = some (.slice af m.files.length cf) ∧ w'.cell? ⟨w.heap.size, 1, none⟩ = some (.slice ai m.items.length ci) ∧ Below w1.heap.size w1 w') W) (listed : Array Bool) (hli : listed = #[true, true, true, true, true, false, true, true, true, true, false, true, false, false, false]) :
    wpAnyH Tryz.prog .any opsN Q (fun w' => w'.cell? ⟨w.heap.size, 0, none⟩ = some (.slice af m.files.length cf) ∧ w'.cell? ⟨w.heap.size, 1, none⟩ = some (.slice ai m.items.length ci) ∧ Below w1.heap.size w1 w') 5 listed { tmps := #[s0, s1, s2, s3, s4, s5, s6, s7, .agg #[.slice af m.files.length cf, .slice ai m.items.length ci], t9, t10, t11, .int .i64 (m.items.length : Int), t13, t14, t15, .int .i64 (m.files.length : Int), t17, t18, t19, undef, undef, undef, undef, undef, undef, undef, undef, undef, undef], defers := ds } W := by
  subst hli
  refine wpAnyH_ready (rs := [5, 10]) (by kernel_rfl) (by simp) ?_
  refine AllReadyH.cons (o := { dst := some 13, op := Go.Op.makeSlice 44 (Go.Operand.tmp 12) (Go.Operand.tmp 12), type := 44, pos := "plan.go:28", after := #[{ on := 4, ground := Go.Ground.data }, { on := 4, ground := Go.Ground.data }], guard := none }) rfl (fun Kx hK => ?_) ?_
  · have hrun := (HS.out W).1
    rw [if_pos (by rfl)]
    go_simp
    refine hK.out _ _ (keptN_step hS (HS.out W).2.2) (fun hS2 => ?_)
    clear hK Kx hrun
    try simp only [Act.put, List.setIfInBounds_toArray, List.set_cons_zero, List.set_cons_succ]
    exact nw_11101 w w1 m af ai cf ci mkS mkN mkM Q s0 s1 s2 s3 s4 s5 s6 s7 t10 t11 t14 t15 ds hw hm1 hl h16 HS HN HMM hfin _ _ _ _ _ _ _ _ _ _ _ _ _ _ _ _ _ (hF.out.add5 (HS.out W).2.2 (Nat.le_trans hw.size hS.2.2.size) (HS.out W).2.1) hS2 _ (by kernel_rfl)
  refine AllReadyH.cons (o := { dst := some 18, op := Go.Op.makeMap 56 none, type := 56, pos := "plan.go:28", after := #[], guard := none }) rfl (fun Kx hK => ?_) ?_
  · have hrun := (HMM.out W).1
    rw [if_pos (by rfl)]
    go_simp
    refine hK.out _ _ (keptN_step hS (HMM.out W).2.2) (fun hS2 => ?_)
    clear hK Kx hrun
    try simp only [Act.put, List.setIfInBounds_toArray, List.set_cons_zero, List.set_cons_succ]
    exact nw_10111 w w1 m af ai cf ci mkS mkN mkM Q s0 s1 s2 s3 s4 s5 s6 s7 t10 t11 t14 t15 ds hw hm1 hl h16 HS HN HMM hfin _ _ _ _ _ _ _ _ _ _ _ _ _ _ _ _ _ (hF.out.add10 (HMM.out W).2.2 (Nat.le_trans hw.size hS.2.2.size) (HMM.out W).2.1) hS2 _ (by kernel_rfl)
  exact AllReadyH.nil
set_option maxHeartbeats 4000000 in
theorem nw_10011 (hw : Below w.heap.size w w1) (hm1 : Hid (ModelAt w1 af cf ai ci m)) (hl : Hid (light m)) (h16 : Hid (1 ≤ m.items.length))
    (HS : Hid (∀ w, (Instr.makeSlice 44 (.int .i64 (m.items.length : Int)) (.int .i64 (m.items.length : Int))).run Tryz.prog w = .ok (.slice (some ⟨w.heap.size, 0, none⟩) m.items.length m.items.length) (mkS w) ∧ IR (mkS w) w.heap.size (List.replicate m.items.length 0) ∧ Below w.heap.size w (mkS w)))
    (HN : Hid (∀ w, (Instr.makeSlice 44 (.int .i64 (m.files.length : Int)) (.int .i64 (m.files.length : Int))).run Tryz.prog w = .ok (.slice (some ⟨w.heap.size, 0, none⟩) m.files.length m.files.length) (mkN w) ∧ IR (mkN w) w.heap.size (List.replicate m.files.length 0) ∧ Below w.heap.size w (mkN w)))
    (HMM : Hid (∀ w, (Instr.makeMap 56 none).run Tryz.prog w = .ok (.map (some w.heap.size)) (mkM w) ∧ HIn (mkM w) w.heap.size 0 (fun _ => false) ∧ Below w.heap.size w (mkM w)))
    (hfin : Hid (∀ (X : World) (x : Value) (u9 u13 u17 u18 u19 u20 : Value), NewRel w m x X → Q .normal { tmps := #[s0, s1, s2, s3, x, s5, s6, s7, .agg #[.slice af m.files.length cf, .slice ai m.items.length ci], u9, t10, t11, .int .i64 (m.items.length : Int), u13, t14, t15, .int .i64 (m.files.length : Int), u17, u18, u19, u20, x, undef, undef, undef, undef, undef, undef, undef, undef], defers := ds } X)) (t9 t13 t17 t18 t19 : Value) (pf : Option Addr) (qf ib io qi lo hi sb nb mb qb : Nat) (W : World) (hF : Hid (NF w m true false false true true t9 t13 t17 t18 t19 pf qf ib io qi lo hi sb nb mb qb W)) (hS : (fun w' => w'.cell? ⟨w.heap.size, 0, none⟩ = some (.slice af m.files.length cf) ∧ w'.cell? ⟨w.heap.size, 1, none⟩ = some (.slice ai m.items.length ci) ∧ Below w1.heap.size w1 w') W) (listed : Array Bool) (hli : listed = #[true, true, true, true, true, false, true, true, true, false, true, true, false, false, false]) :
    wpAnyH Tryz.prog .any opsN Q (fun w' => w'.cell? ⟨w.heap.size, 0, none⟩ = some (.slice af m.files.length cf) ∧ w'.cell? ⟨w.heap.size, 1, none⟩ = some (.slice ai m.items.length ci) ∧ Below w1.heap.size w1 w') 5 listed { tmps := #[s0, s1, s2, s3, s4, s5, s6, s7, .agg #[.slice af m.files.length cf, .slice ai m.items.length ci], t9, t10, t11, .int .i64 (m.items.length : Int), t13, t14, t15, .int .i64 (m.files.length : Int), t17, t18, t19, undef, undef, undef, undef, undef, undef, undef, undef, undef, undef], defers := ds } W := by
  subst hli
  refine wpAnyH_ready (rs := [5, 9]) (by kernel_rfl) (by simp) ?_
  refine AllReadyH.cons (o := { dst := some 13, op := Go.Op.makeSlice 44 (Go.Operand.tmp 12) (Go.Operand.tmp 12), type := 44, pos := "plan.go:28", after := #[{ on := 4, ground := Go.Ground.data }, { on := 4, ground := Go.Ground.data }], guard := none }) rfl (fun Kx hK => ?_) ?_
  · have hrun := (HS.out W).1
    rw [if_pos (by rfl)]
    go_simp
    refine hK.out _ _ (keptN_step hS (HS.out W).2.2) (fun hS2 => ?_)
    clear hK Kx hrun
    try simp only [Act.put, List.setIfInBounds_toArray, List.set_cons_zero, List.set_cons_succ]
    exact nw_11011 w w1 m af ai cf ci mkS mkN mkM Q s0 s1 s2 s3 s4 s5 s6 s7 t10 t11 t14 t15 ds hw hm1 hl h16 HS HN HMM hfin _ _ _ _ _ _ _ _ _ _ _ _ _ _ _ _ _ (hF.out.add5 (HS.out W).2.2 (Nat.le_trans hw.size hS.2.2.size) (HS.out W).2.1) hS2 _ (by kernel_rfl)
  refine AllReadyH.cons (o := { dst := some 17, op := Go.Op.makeSlice 44 (Go.Operand.tmp 16) (Go.Operand.tmp 16), type := 44, pos := "plan.go:28", after := #[{ on := 8, ground := Go.Ground.data }, { on := 8, ground := Go.Ground.data }], guard := none }) rfl (fun Kx hK => ?_) ?_
  · have hrun := (HN.out W).1
    rw [if_pos (by rfl)]
    go_simp
    refine hK.out _ _ (keptN_step hS (HN.out W).2.2) (fun hS2 => ?_)
    clear hK Kx hrun
    try simp only [Act.put, List.setIfInBounds_toArray, List.set_cons_zero, List.set_cons_succ]
    exact nw_10111 w w1 m af ai cf ci mkS mkN mkM Q s0 s1 s2 s3 s4 s5 s6 s7 t10 t11 t14 t15 ds hw hm1 hl h16 HS HN HMM hfin _ _ _ _ _ _ _ _ _ _ _ _ _ _ _ _ _ (hF.out.add9 (HN.out W).2.2 (Nat.le_trans hw.size hS.2.2.size) (HN.out W).2.1) hS2 _ (by kernel_rfl)
  exact AllReadyH.nil
set_option maxHeartbeats 4000000 in
theorem nw_01110 (hw : Below w.heap.size w w1) (hm1 : Hid (ModelAt w1 af cf ai ci m)) (hl : Hid (light m)) (h16 : Hid (1 ≤ m.items.length))
    (HS : Hid (∀ w, (Instr.makeSlice 44 (.int .i64 (m.items.length : Int)) (.int .i64 (m.items.length : Int))).run Tryz.prog w = .ok (.slice (some ⟨w.heap.size, 0, none⟩) m.items.length m.items.length) (mkS w) ∧ IR (mkS w) w.heap.size (List.replicate m.items.length 0) ∧ Below w.heap.size w (mkS w)))
    (HN : Hid (∀ w, (Instr.makeSlice 44 (.int .i64 (m.files.length : Int)) (.int .i64 (m.files.length : Int))).run Tryz.prog w = .ok (.slice (some ⟨w.heap.size, 0, none⟩) m.files.length m.files.length) (mkN w) ∧ IR (mkN w) w.heap.size (List.replicate m.files.length 0) ∧ Below w.heap.size w (mkN w)))
    (HMM : Hid (∀ w, (Instr.makeMap 56 none).run Tryz.prog w = .ok (.map (some w.heap.size)) (mkM w) ∧ HIn (mkM w) w.heap.size 0 (fun _ => false) ∧ Below w.heap.size w (mkM w)))
    (hfin : Hid (∀ (X : World) (x : Value) (u9 u13 u17 u18 u19 u20 : Value), NewRel w m x X → Q .normal { tmps := #[s0, s1, s2, s3, x, s5, s6, s7, .agg #[.slice af m.files.length cf, .slice ai m.items.length ci], u9, t10, t11, .int .i64 (m.items.length : Int), u13, t14, t15, .int .i64 (m.files.length : Int), u17, u18, u19, u20, x, undef, undef, undef, undef, undef, undef, undef, undef], defers := ds } X)) (t9 t13 t17 t18 t19 : Value) (pf : Option Addr) (qf ib io qi lo hi sb nb mb qb : Nat) (W : World) (hF : Hid (NF w m false true true true false t9 t13 t17 t18 t19 pf qf ib io qi lo hi sb nb mb qb W)) (hS : (fun w' => w'.cell? ⟨w.heap.size, 0, none⟩ = some (.slice af m.files.length cf) ∧ w'.cell? ⟨w.heap.size, 1, none⟩ = some (.slice ai m.items.length ci) ∧ Below w1.heap.size w1 w') W) (listed : Array Bool) (hli : listed = #[true, false, true, true, true, true, true, true, true, true, true, false, false, false, false]) :
    wpAnyH Tryz.prog .any opsN Q (fun w' => w'.cell? ⟨w.heap.size, 0, none⟩ = some (.slice af m.files.length cf) ∧ w'.cell? ⟨w.heap.size, 1, none⟩ = some (.slice ai m.items.length ci) ∧ Below w1.heap.size w1 w') 5 listed { tmps := #[s0, s1, s2, s3, s4, s5, s6, s7, .agg #[.slice af m.files.length cf, .slice ai m.items.length ci], t9, t10, t11, .int .i64 (m.items.length : Int), t13, t14, t15, .int .i64 (m.files.length : Int), t17, t18, t19, undef, undef, undef, undef, undef, undef, undef, undef, undef, undef], defers := ds } W := by
  subst hli
  refine wpAnyH_ready (rs := [1]) (by kernel_rfl) (by simp) ?_
  refine AllReadyH.cons (o := { dst := some 9, op := Go.Op.call { callee := Go.Callee.value (Go.Operand.func 21), args := #[Go.Operand.tmp 8], argTypes := #[25] }, type := 25, pos := "plan.go:29", after := #[{ on := 0, ground := Go.Ground.data }], guard := none }) rfl (fun Kx hK => ?_) ?_
  · rw [if_pos (by rfl)]
    go_simp
    go_at_call 21
    refine (copyD af ai cf ci m.files m.items W (frow_below hm1.out.files hS.2.2) (irow_below hm1.out.items hS.2.2) hl.out).mono ?_
    rintro e w2 ⟨pf', qf', pi', qi', rfl, n2, b2⟩
    obtain ⟨ib', io', rfl⟩ := row_some n2.here.items (Nat.lt_of_lt_of_le (by decide) h16.out)
    refine hK.out _ _ (keptN_step hS b2) (fun hS2 => ?_)
    clear hK Kx
    try simp only [Act.put, List.setIfInBounds_toArray, List.set_cons_zero, List.set_cons_succ]
    exact nw_11110 w w1 m af ai cf ci mkS mkN mkM Q s0 s1 s2 s3 s4 s5 s6 s7 t10 t11 t14 t15 ds hw hm1 hl h16 HS HN HMM hfin _ _ _ _ _ _ _ _ _ _ _ _ _ _ _ _ _ (hF.out.add1 b2 (Nat.le_trans hw.size hS.2.2.size) n2) hS2 _ (by kernel_rfl)
  exact AllReadyH.nil
set_option maxHeartbeats 4000000 in
theorem nw_11000 (hw : Below w.heap.size w w1) (hm1 : Hid (ModelAt w1 af cf ai ci m)) (hl : Hid (light m)) (h16 : Hid (1 ≤ m.items.length))
    (HS : Hid (∀ w, (Instr.makeSlice 44 (.int .i64 (m.items.length : Int)) (.int .i64 (m.items.length : Int))).run Tryz.prog w = .ok (.slice (some ⟨w.heap.size, 0, none⟩) m.items.length m.items.length) (mkS w) ∧ IR (mkS w) w.heap.size (List.replicate m.items.length 0) ∧ Below w.heap.size w (mkS w)))
    (HN : Hid (∀ w, (Instr.makeSlice 44 (.int .i64 (m.files.length : Int)) (.int .i64 (m.files.length : Int))).run Tryz.prog w = .ok (.slice (some ⟨w.heap.size, 0, none⟩) m.files.length m.files.length) (mkN w) ∧ IR (mkN w) w.heap.size (List.replicate m.files.length 0) ∧ Below w.heap.size w (mkN w)))
    (HMM : Hid (∀ w, (Instr.makeMap 56 none).run Tryz.prog w = .ok (.map (some w.heap.size)) (mkM w) ∧ HIn (mkM w) w.heap.size 0 (fun _ => false) ∧ Below w.heap.size w (mkM w)))
    (hfin : Hid (∀ (X : World) (x : Value) (u9 u13 u17 u18 u19 u20 : Value), NewRel w m x X → Q .normal { tmps := #[s0, s1, s2, s3, x, s5, s6, s7, .agg #[.slice af m.files.length cf, .slice ai m.items.length ci], u9, t10, t11, .int .i64 (m.items.length : Int), u13, t14, t15, .int .i64 (m.files.length : Int), u17, u18, u19, u20, x, undef, undef, undef, undef, undef, undef, undef, undef], defers := ds } X)) (t9 t13 t17 t18 t19 : Value) (pf : Option Addr) (qf ib io qi lo hi sb nb mb qb : Nat) (W : World) (hF : Hid (NF w m true true false false false t9 t13 t17 t18 t19 pf qf ib io qi lo hi sb nb mb qb W)) (hS : (fun w' => w'.cell? ⟨w.heap.size, 0, none⟩ = some (.slice af m.files.length cf) ∧ w'.cell? ⟨w.heap.size, 1, none⟩ = some (.slice ai m.items.length ci) ∧ Below w1.heap.size w1 w') W) (listed : Array Bool) (hli : listed = #[true, true, true, true, true, true, true, true, true, false, false, false, false, false, false]) :
    wpAnyH Tryz.prog .any opsN Q (fun w' => w'.cell? ⟨w.heap.size, 0, none⟩ = some (.slice af m.files.length cf) ∧ w'.cell? ⟨w.heap.size, 1, none⟩ = some (.slice ai m.items.length ci) ∧ Below w1.heap.size w1 w') 6 listed { tmps := #[s0, s1, s2, s3, s4, s5, s6, s7, .agg #[.slice af m.files.length cf, .slice ai m.items.length ci], t9, t10, t11, .int .i64 (m.items.length : Int), t13, t14, t15, .int .i64 (m.files.length : Int), t17, t18, t19, undef, undef, undef, undef, undef, undef, undef, undef, undef, undef], defers := ds } W := by
  subst hli
  refine wpAnyH_ready (rs := [9, 10, 11]) (by kernel_rfl) (by simp) ?_
  refine AllReadyH.cons (o := { dst := some 17, op := Go.Op.makeSlice 44 (Go.Operand.tmp 16) (Go.Operand.tmp 16), type := 44, pos := "plan.go:28", after := #[{ on := 8, ground := Go.Ground.data }, { on := 8, ground := Go.Ground.data }], guard := none }) rfl (fun Kx hK => ?_) ?_
  · have hrun := (HN.out W).1
    rw [if_pos (by rfl)]
    go_simp
    refine hK.out _ _ (keptN_step hS (HN.out W).2.2) (fun hS2 => ?_)
    clear hK Kx hrun
    try simp only [Act.put, List.setIfInBounds_toArray, List.set_cons_zero, List.set_cons_succ]
    exact nw_11100 w w1 m af ai cf ci mkS mkN mkM Q s0 s1 s2 s3 s4 s5 s6 s7 t10 t11 t14 t15 ds hw hm1 hl h16 HS HN HMM hfin _ _ _ _ _ _ _ _ _ _ _ _ _ _ _ _ _ (hF.out.add9 (HN.out W).2.2 (Nat.le_trans hw.size hS.2.2.size) (HN.out W).2.1) hS2 _ (by kernel_rfl)
  refine AllReadyH.cons (o := { dst := some 18, op := Go.Op.makeMap 56 none, type := 56, pos := "plan.go:28", after := #[], guard := none }) rfl (fun Kx hK => ?_) ?_
  · have hrun := (HMM.out W).1
    rw [if_pos (by rfl)]
    go_simp
    refine hK.out _ _ (keptN_step hS (HMM.out W).2.2) (fun hS2 => ?_)
    clear hK Kx hrun
    try simp only [Act.put, List.setIfInBounds_toArray, List.set_cons_zero, List.set_cons_succ]
    exact nw_11010 w w1 m af ai cf ci mkS mkN mkM Q s0 s1 s2 s3 s4 s5 s6 s7 t10 t11 t14 t15 ds hw hm1 hl h16 HS HN HMM hfin _ _ _ _ _ _ _ _ _ _ _ _ _ _ _ _ _ (hF.out.add10 (HMM.out W).2.2 (Nat.le_trans hw.size hS.2.2.size) (HMM.out W).2.1) hS2 _ (by kernel_rfl)
  refine AllReadyH.cons (o := { dst := some 19, op := Go.Op.call { callee := Go.Callee.value (Go.Operand.func 22), args := #[], argTypes := #[] }, type := 57, pos := "plan.go:33", after := #[{ on := 1, ground := Go.Ground.chain }], guard := none }) rfl (fun Kx hK => ?_) ?_
  · rw [if_pos (by rfl)]
    go_simp
    go_at_call 22
    refine (newQ W.heap.size W (Nat.le_refl _)).mono ?_
    rintro e w3 ⟨qb', rfl, rfl, q3, b3⟩
    refine hK.out _ _ (keptN_step hS b3) (fun hS2 => ?_)
    clear hK Kx
    try simp only [Act.put, List.setIfInBounds_toArray, List.set_cons_zero, List.set_cons_succ]
    exact nw_11001 w w1 m af ai cf ci mkS mkN mkM Q s0 s1 s2 s3 s4 s5 s6 s7 t10 t11 t14 t15 ds hw hm1 hl h16 HS HN HMM hfin _ _ _ _ _ _ _ _ _ _ _ _ _ _ _ _ _ (hF.out.add11 b3 (Nat.le_trans hw.size hS.2.2.size) ⟨_, q3⟩) hS2 _ (by kernel_rfl)
  exact AllReadyH.nil
set_option maxHeartbeats 4000000 in
theorem nw_10100 (hw : Below w.heap.size w w1) (hm1 : Hid (ModelAt w1 af cf ai ci m)) (hl : Hid (light m)) (h16 : Hid (1 ≤ m.items.length))
    (HS : Hid (∀ w, (Instr.makeSlice 44 (.int .i64 (m.items.length : Int)) (.int .i64 (m.items.length : Int))).run Tryz.prog w = .ok (.slice (some ⟨w.heap.size, 0, none⟩) m.items.length m.items.length) (mkS w) ∧ IR (mkS w) w.heap.size (List.replicate m.items.length 0) ∧ Below w.heap.size w (mkS w)))
    (HN : Hid (∀ w, (Instr.makeSlice 44 (.int .i64 (m.files.length : Int)) (.int .i64 (m.files.length : Int))).run Tryz.prog w = .ok (.slice (some ⟨w.heap.size, 0, none⟩) m.files.length m.files.length) (mkN w) ∧ IR (mkN w) w.heap.size (List.replicate m.files.length 0) ∧ Below w.heap.size w (mkN w)))
    (HMM : Hid (∀ w, (Instr.makeMap 56 none).run Tryz.prog w = .ok (.map (some w.heap.size)) (mkM w) ∧ HIn (mkM w) w.heap.size 0 (fun _ => false) ∧ Below w.heap.size w (mkM w)))
    (hfin : Hid (∀ (X : World) (x : Value) (u9 u13 u17 u18 u19 u20 : Value), NewRel w m x X → Q .normal { tmps := #[s0, s1, s2, s3, x, s5, s6, s7, .agg #[.slice af m.files.length cf, .slice ai m.items.length ci], u9, t10, t11, .int .i64 (m.items.length : Int), u13, t14, t15, .int .i64 (m.files.length : Int), u17, u18, u19, u20, x, undef, undef, undef, undef, undef, undef, undef, undef], defers := ds } X)) (t9 t13 t17 t18 t19 : Value) (pf : Option Addr) (qf ib io qi lo hi sb nb mb qb : Nat) (W : World) (hF : Hid (NF w m true false true false false t9 t13 t17 t18 t19 pf qf ib io qi lo hi sb nb mb qb W)) (hS : (fun w' => w'.cell? ⟨w.heap.size, 0, none⟩ = some (.slice af m.files.length cf) ∧ w'.cell? ⟨w.heap.size, 1, none⟩ = some (.slice ai m.items.length ci) ∧ Below w1.heap.size w1 w') W) (listed : Array Bool) (hli : listed = #[true, true, true, true, true, false, true, true, true, true, false, false, false, false, false]) :
    wpAnyH Tryz.prog .any opsN Q (fun w' => w'.cell? ⟨w.heap.size, 0, none⟩ = some (.slice af m.files.length cf) ∧ w'.cell? ⟨w.heap.size, 1, none⟩ = some (.slice ai m.items.length ci) ∧ Below w1.heap.size w1 w') 6 listed { tmps := #[s0, s1, s2, s3, s4, s5, s6, s7, .agg #[.slice af m.files.length cf, .slice ai m.items.length ci], t9, t10, t11, .int .i64 (m.items.length : Int), t13, t14, t15, .int .i64 (m.files.length : Int), t17, t18, t19, undef, undef, undef, undef, undef, undef, undef, undef, undef, undef], defers := ds } W := by
  subst hli
  refine wpAnyH_ready (rs := [5, 10, 11]) (by kernel_rfl) (by simp) ?_
  refine AllReadyH.cons (o := { dst := some 13, op := Go.Op.makeSlice 44 (Go.Operand.tmp 12) (Go.Operand.tmp 12), type := 44, pos := "plan.go:28", after := #[{ on := 4, ground := Go.Ground.data }, { on := 4, ground := Go.Ground.data }], guard := none }) rfl (fun Kx hK => ?_) ?_
  · have hrun := (HS.out W).1
    rw [if_pos (by rfl)]
    go_simp
    refine hK.out _ _ (keptN_step hS (HS.out W).2.2) (fun hS2 => ?_)
    clear hK Kx hrun
    try simp only [Act.put, List.setIfInBounds_toArray, List.set_cons_zero, List.set_cons_succ]
    exact nw_11100 w w1 m af ai cf ci mkS mkN mkM Q s0 s1 s2 s3 s4 s5 s6 s7 t10 t11 t14 t15 ds hw hm1 hl h16 HS HN HMM hfin _ _ _ _ _ _ _ _ _ _ _ _ _ _ _ _ _ (hF.out.add5 (HS.out W).2.2 (Nat.le_trans hw.size hS.2.2.size) (HS.out W).2.1) hS2 _ (by kernel_rfl)
  refine AllReadyH.cons (o := { dst := some 18, op := Go.Op.makeMap 56 none, type := 56, pos := "plan.go:28", after := #[], guard := none }) rfl (fun Kx hK => ?_) ?_
  · have hrun := (HMM.out W).1
    rw [if_pos (by rfl)]
    go_simp
    refine hK.out _ _ (keptN_step hS (HMM.out W).2.2) (fun hS2 => ?_)
    clear hK Kx hrun
    try simp only [Act.put, List.setIfInBounds_toArray, List.set_cons_zero, List.set_cons_succ]
    exact nw_10110 w w1 m af ai cf ci mkS mkN mkM Q s0 s1 s2 s3 s4 s5 s6 s7 t10 t11 t14 t15 ds hw hm1 hl h16 HS HN HMM hfin _ _ _ _ _ _ _ _ _ _ _ _ _ _ _ _ _ (hF.out.add10 (HMM.out W).2.2 (Nat.le_trans hw.size hS.2.2.size) (HMM.out W).2.1) hS2 _ (by kernel_rfl)
  refine AllReadyH.cons (o := { dst := some 19, op := Go.Op.call { callee := Go.Callee.value (Go.Operand.func 22), args := #[], argTypes := #[] }, type := 57, pos := "plan.go:33", after := #[{ on := 1, ground := Go.Ground.chain }], guard := none }) rfl (fun Kx hK => ?_) ?_
  · rw [if_pos (by rfl)]
    go_simp
    go_at_call 22
    refine (newQ W.heap.size W (Nat.le_refl _)).mono ?_
    rintro e w3 ⟨qb', rfl, rfl, q3, b3⟩
    refine hK.out _ _ (keptN_step hS b3) (fun hS2 => ?_)
    clear hK Kx
    try simp only [Act.put, List.setIfInBounds_toArray, List.set_cons_zero, List.set_cons_succ]
    exact nw_10101 w w1 m af ai cf ci mkS mkN mkM Q s0 s1 s2 s3 s4 s5 s6 s7 t10 t11 t14 t15 ds hw hm1 hl h16 HS HN HMM hfin _ _ _ _ _ _ _ _ _ _ _ _ _ _ _ _ _ (hF.out.add11 b3 (Nat.le_trans hw.size hS.2.2.size) ⟨_, q3⟩) hS2 _ (by kernel_rfl)
  exact AllReadyH.nil
set_option maxHeartbeats 4000000 in
theorem nw_10010 (hw : Below w.heap.size w w1) (hm1 : Hid (ModelAt w1 af cf ai ci m)) (hl : Hid (light m)) (h16 : Hid (1 ≤ m.items.length))
    (HS : Hid (∀ w, (Instr.makeSlice 44 (.int .i64 (m.items.length : Int)) (.int .i64 (m.items.length : Int))).run Tryz.prog w = .ok (.slice (some ⟨w.heap.size, 0, none⟩) m.items.length m.items.length) (mkS w) ∧ IR (mkS w) w.heap.size (List.replicate m.items.length 0) ∧ Below w.heap.size w (mkS w)))
    (HN : Hid (∀ w, (Instr.makeSlice 44 (.int .i64 (m.files.length : Int)) (.int .i64 (m.files.length : Int))).run Tryz.prog w = .ok (.slice (some ⟨w.heap.size, 0, none⟩) m.files.length m.files.length) (mkN w) ∧ IR (mkN w) w.heap.size (List.replicate m.files.length 0) ∧ Below w.heap.size w (mkN w)))
    (HMM : Hid (∀ w, (Instr.makeMap 56 none).run Tryz.prog w = .ok (.map (some w.heap.size)) (mkM w) ∧ HIn (mkM w) w.heap.size 0 (fun _ => false) ∧ Below w.heap.size w (mkM w)))
    (hfin : Hid (∀ (X : World) (x : Value) (u9 u13 u17 u18 u19 u20 : Value), NewRel w m x X → Q .normal { tmps := #[s0, s1, s2, s3, x, s5, s6, s7, .agg #[.slice af m.files.length cf, .slice ai m.items.length ci], u9, t10, t11, .int .i64 (m.items.length : Int), u13, t14, t15, .int .i64 (m.files.length : Int), u17, u18, u19, u20, x, undef, undef, undef, undef, undef, undef, undef, undef], defers := ds } X)) (t9 t13 t17 t18 t19 : Value) (pf : Option Addr) (qf ib io qi lo hi sb nb mb qb : Nat) (W : World) (hF : Hid (NF w m true false false true false t9 t13 t17 t18 t19 pf qf ib io qi lo hi sb nb mb qb W)) (hS : (fun w' => w'.cell? ⟨w.heap.size, 0, none⟩ = some (.slice af m.files.length cf) ∧ w'.cell? ⟨w.heap.size, 1, none⟩ = some (.slice ai m.items.length ci) ∧ Below w1.heap.size w1 w') W) (listed : Array Bool) (hli : listed = #[true, true, true, true, true, false, true, true, true, false, true, false, false, false, false]) :
    wpAnyH Tryz.prog .any opsN Q (fun w' => w'.cell? ⟨w.heap.size, 0, none⟩ = some (.slice af m.files.length cf) ∧ w'.cell? ⟨w.heap.size, 1, none⟩ = some (.slice ai m.items.length ci) ∧ Below w1.heap.size w1 w') 6 listed { tmps := #[s0, s1, s2, s3, s4, s5, s6, s7, .agg #[.slice af m.files.length cf, .slice ai m.items.length ci], t9, t10, t11, .int .i64 (m.items.length : Int), t13, t14, t15, .int .i64 (m.files.length : Int), t17, t18, t19, undef, undef, undef, undef, undef, undef, undef, undef, undef, undef], defers := ds } W := by
  subst hli
  refine wpAnyH_ready (rs := [5, 9, 11]) (by kernel_rfl) (by simp) ?_
  refine AllReadyH.cons (o := { dst := some 13, op := Go.Op.makeSlice 44 (Go.Operand.tmp 12) (Go.Operand.tmp 12), type := 44, pos := "plan.go:28", after := #[{ on := 4, ground := Go.Ground.data }, { on := 4, ground := Go.Ground.data }], guard := none }) rfl (fun Kx hK => ?_) ?_
  · have hrun := (HS.out W).1
    rw [if_pos (by rfl)]
    go_simp
    refine hK.out _ _ (keptN_step hS (HS.out W).2.2) (fun hS2 => ?_)
    clear hK Kx hrun
    try simp only [Act.put, List.setIfInBounds_toArray, List.set_cons_zero, List.set_cons_succ]
    exact nw_11010 w w1 m af ai cf ci mkS mkN mkM Q s0 s1 s2 s3 s4 s5 s6 s7 t10 t11 t14 t15 ds hw hm1 hl h16 HS HN HMM hfin _ _ _ _ _ _ _ _ _ _ _ _ _ _ _ _ _ (hF.out.add5 (HS.out W).2.2 (Nat.le_trans hw.size hS.2.2.size) (HS.out W).2.1) hS2 _ (by kernel_rfl)
  refine AllReadyH.cons (o := { dst := some 17, op := Go.Op.makeSlice 44 (Go.Operand.tmp 16) (Go.Operand.tmp 16), type := 44, pos := "plan.go:28", after := #[{ on := 8, ground := Go.Ground.data }, { on := 8, ground := Go.Ground.data }], guard := none }) rfl (fun Kx hK => ?_) ?_
  · have hrun := (HN.out W).1
    rw [if_pos (by rfl)]
    go_simp
    refine hK.out _ _ (keptN_step hS (HN.out W).2.2) (fun hS2 => ?_)
    clear hK Kx hrun
    try simp only [Act.put, List.setIfInBounds_toArray, List.set_cons_zero, List.set_cons_succ]
    exact nw_10110 w w1 m af ai cf ci mkS mkN mkM Q s0 s1 s2 s3 s4 s5 s6 s7 t10 t11 t14 t15 ds hw hm1 hl h16 HS HN HMM hfin _ _ _ _ _ _ _ _ _ _ _ _ _ _ _ _ _ (hF.out.add9 (HN.out W).2.2 (Nat.le_trans hw.size hS.2.2.size) (HN.out W).2.1) hS2 _ (by kernel_rfl)
  refine AllReadyH.cons (o := { dst := some 19, op := Go.Op.call { callee := Go.Callee.value (Go.Operand.func 22), args := #[], argTypes := #[] }, type := 57, pos := "plan.go:33", after := #[{ on := 1, ground := Go.Ground.chain }], guard := none }) rfl (fun Kx hK => ?_) ?_
  · rw [if_pos (by rfl)]
    go_simp
    go_at_call 22
    refine (newQ W.heap.size W (Nat.le_refl _)).mono ?_
    rintro e w3 ⟨qb', rfl, rfl, q3, b3⟩
    refine hK.out _ _ (keptN_step hS b3) (fun hS2 => ?_)
    clear hK Kx
    try simp only [Act.put, List.setIfInBounds_toArray, List.set_cons_zero, List.set_cons_succ]
    exact nw_10011 w w1 m af ai cf ci mkS mkN mkM Q s0 s1 s2 s3 s4 s5 s6 s7 t10 t11 t14 t15 ds hw hm1 hl h16 HS HN HMM hfin _ _ _ _ _ _ _ _ _ _ _ _ _ _ _ _ _ (hF.out.add11 b3 (Nat.le_trans hw.size hS.2.2.size) ⟨_, q3⟩) hS2 _ (by kernel_rfl)
  exact AllReadyH.nil
set_option maxHeartbeats 4000000 in
theorem nw_10001 (hw : Below w.heap.size w w1) (hm1 : Hid (ModelAt w1 af cf ai ci m)) (hl : Hid (light m)) (h16 : Hid (1 ≤ m.items.length))
    (HS : Hid (∀ w, (Instr.makeSlice 44 (.int .i64 (m.items.length : Int)) (.int .i64 (m.items.length : Int))).run Tryz.prog w = .ok (.slice (some ⟨w.heap.size, 0, none⟩) m.items.length m.items.length) (mkS w) ∧ IR (mkS w) w.heap.size (List.replicate m.items.length 0) ∧ Below w.heap.size w (mkS w)))
    (HN : Hid (∀ w, (Instr.makeSlice 44 (.int .i64 (m.files.length : Int)) (.int .i64 (m.files.length : Int))).run Tryz.prog w = .ok (.slice (some ⟨w.heap.size, 0, none⟩) m.files.length m.files.length) (mkN w) ∧ IR (mkN w) w.heap.size (List.replicate m.files.length 0) ∧ Below w.heap.size w (mkN w)))
    (HMM : Hid (∀ w, (Instr.makeMap 56 none).run Tryz.prog w = .ok (.map (some w.heap.size)) (mkM w) ∧ HIn (mkM w) w.heap.size 0 (fun _ => false) ∧ Below w.heap.size w (mkM w)))
    (hfin : Hid (∀ (X : World) (x : Value) (u9 u13 u17 u18 u19 u20 : Value), NewRel w m x X → Q .normal { tmps := #[s0, s1, s2, s3, x, s5, s6, s7, .agg #[.slice af m.files.length cf, .slice ai m.items.length ci], u9, t10, t11, .int .i64 (m.items.length : Int), u13, t14, t15, .int .i64 (m.files.length : Int), u17, u18, u19, u20, x, undef, undef, undef, undef, undef, undef, undef, undef], defers := ds } X)) (t9 t13 t17 t18 t19 : Value) (pf : Option Addr) (qf ib io qi lo hi sb nb mb qb : Nat) (W : World) (hF : Hid (NF w m true false false false true t9 t13 t17 t18 t19 pf qf ib io qi lo hi sb nb mb qb W)) (hS : (fun w' => w'.cell? ⟨w.heap.size, 0, none⟩ = some (.slice af m.files.length cf) ∧ w'.cell? ⟨w.heap.size, 1, none⟩ = some (.slice ai m.items.length ci) ∧ Below w1.heap.size w1 w') W) (listed : Array Bool) (hli : listed = #[true, true, true, true, true, false, true, true, true, false, false, true, false, false, false]) :
    wpAnyH Tryz.prog .any opsN Q (fun w' => w'.cell? ⟨w.heap.size, 0, none⟩ = some (.slice af m.files.length cf) ∧ w'.cell? ⟨w.heap.size, 1, none⟩ = some (.slice ai m.items.length ci) ∧ Below w1.heap.size w1 w') 6 listed { tmps := #[s0, s1, s2, s3, s4, s5, s6, s7, .agg #[.slice af m.files.length cf, .slice ai m.items.length ci], t9, t10, t11, .int .i64 (m.items.length : Int), t13, t14, t15, .int .i64 (m.files.length : Int), t17, t18, t19, undef, undef, undef, undef, undef, undef, undef, undef, undef, undef], defers := ds } W := by
  subst hli
  refine wpAnyH_ready (rs := [5, 9, 10]) (by kernel_rfl) (by simp) ?_
  refine AllReadyH.cons (o := { dst := some 13, op := Go.Op.makeSlice 44 (Go.Operand.tmp 12) (Go.Operand.tmp 12), type := 44, pos := "plan.go:28", after := #[{ on := 4, ground := Go.Ground.data }, { on := 4, ground := Go.Ground.data }], guard := none }) rfl (fun Kx hK => ?_) ?_
  · have hrun := (HS.out W).1
    rw [if_pos (by rfl)]
    go_simp
    refine hK.out _ _ (keptN_step hS (HS.out W).2.2) (fun hS2 => ?_)
    clear hK Kx hrun
    try simp only [Act.put, List.setIfInBounds_toArray, List.set_cons_zero, List.set_cons_succ]
    exact nw_11001 w w1 m af ai cf ci mkS mkN mkM Q s0 s1 s2 s3 s4 s5 s6 s7 t10 t11 t14 t15 ds hw hm1 hl h16 HS HN HMM hfin _ _ _ _ _ _ _ _ _ _ _ _ _ _ _ _ _ (hF.out.add5 (HS.out W).2.2 (Nat.le_trans hw.size hS.2.2.size) (HS.out W).2.1) hS2 _ (by kernel_rfl)
  refine AllReadyH.cons (o := { dst := some 17, op := Go.Op.makeSlice 44 (Go.Operand.tmp 16) (Go.Operand.tmp 16), type := 44, pos := "plan.go:28", after := #[{ on := 8, ground := Go.Ground.data }, { on := 8, ground := Go.Ground.data }], guard := none }) rfl (fun Kx hK => ?_) ?_
  · have hrun := (HN.out W).1
    rw [if_pos (by rfl)]
    go_simp
    refine hK.out _ _ (keptN_step hS (HN.out W).2.2) (fun hS2 => ?_)
    clear hK Kx hrun
    try simp only [Act.put, List.setIfInBounds_toArray, List.set_cons_zero, List.set_cons_succ]
    exact nw_10101 w w1 m af ai cf ci mkS mkN mkM Q s0 s1 s2 s3 s4 s5 s6 s7 t10 t11 t14 t15 ds hw hm1 hl h16 HS HN HMM hfin _ _ _ _ _ _ _ _ _ _ _ _ _ _ _ _ _ (hF.out.add9 (HN.out W).2.2 (Nat.le_trans hw.size hS.2.2.size) (HN.out W).2.1) hS2 _ (by kernel_rfl)
  refine AllReadyH.cons (o := { dst := some 18, op := Go.Op.makeMap 56 none, type := 56, pos := "plan.go:28", after := #[], guard := none }) rfl (fun Kx hK => ?_) ?_
  · have hrun := (HMM.out W).1
    rw [if_pos (by rfl)]
    go_simp
    refine hK.out _ _ (keptN_step hS (HMM.out W).2.2) (fun hS2 => ?_)
    clear hK Kx hrun
    try simp only [Act.put, List.setIfInBounds_toArray, List.set_cons_zero, List.set_cons_succ]
    exact nw_10011 w w1 m af ai cf ci mkS mkN mkM Q s0 s1 s2 s3 s4 s5 s6 s7 t10 t11 t14 t15 ds hw hm1 hl h16 HS HN HMM hfin _ _ _ _ _ _ _ _ _ _ _ _ _ _ _ _ _ (hF.out.add10 (HMM.out W).2.2 (Nat.le_trans hw.size hS.2.2.size) (HMM.out W).2.1) hS2 _ (by kernel_rfl)
  exact AllReadyH.nil
set_option maxHeartbeats 4000000 in
theorem nw_01100 (hw : Below w.heap.size w w1) (hm1 : Hid (ModelAt w1 af cf ai ci m)) (hl : Hid (light m)) (h16 : Hid (1 ≤ m.items.length))
    (HS : Hid (∀ w, (Instr.makeSlice 44 (.int .i64 (m.items.length : Int)) (.int .i64 (m.items.length : Int))).run Tryz.prog w = .ok (.slice (some ⟨w.heap.size, 0, none⟩) m.items.length m.items.length) (mkS w) ∧ IR (mkS w) w.heap.size (List.replicate m.items.length 0) ∧ Below w.heap.size w (mkS w)))
    (HN : Hid (∀ w, (Instr.makeSlice 44 (.int .i64 (m.files.length : Int)) (.int .i64 (m.files.length : Int))).run Tryz.prog w = .ok (.slice (some ⟨w.heap.size, 0, none⟩) m.files.length m.files.length) (mkN w) ∧ IR (mkN w) w.heap.size (List.replicate m.files.length 0) ∧ Below w.heap.size w (mkN w)))
    (HMM : Hid (∀ w, (Instr.makeMap 56 none).run Tryz.prog w = .ok (.map (some w.heap.size)) (mkM w) ∧ HIn (mkM w) w.heap.size 0 (fun _ => false) ∧ Below w.heap.size w (mkM w)))
    (hfin : Hid (∀ (X : World) (x : Value) (u9 u13 u17 u18 u19 u20 : Value), NewRel w m x X → Q .normal { tmps := #[s0, s1, s2, s3, x, s5, s6, s7, .agg #[.slice af m.files.length cf, .slice ai m.items.length ci], u9, t10, t11, .int .i64 (m.items.length : Int), u13, t14, t15, .int .i64 (m.files.length : Int), u17, u18, u19, u20, x, undef, undef, undef, undef, undef, undef, undef, undef], defers := ds } X)) (t9 t13 t17 t18 t19 : Value) (pf : Option Addr) (qf ib io qi lo hi sb nb mb qb : Nat) (W : World) (hF : Hid (NF w m false true true false false t9 t13 t17 t18 t19 pf qf ib io qi lo hi sb nb mb qb W)) (hS : (fun w' => w'.cell? ⟨w.heap.size, 0, none⟩ = some (.slice af m.files.length cf) ∧ w'.cell? ⟨w.heap.size, 1, none⟩ = some (.slice ai m.items.length ci) ∧ Below w1.heap.size w1 w') W) (listed : Array Bool) (hli : listed = #[true, false, true, true, true, true, true, true, true, true, false, false, false, false, false]) :
    wpAnyH Tryz.prog .any opsN Q (fun w' => w'.cell? ⟨w.heap.size, 0, none⟩ = some (.slice af m.files.length cf) ∧ w'.cell? ⟨w.heap.size, 1, none⟩ = some (.slice ai m.items.length ci) ∧ Below w1.heap.size w1 w') 6 listed { tmps := #[s0, s1, s2, s3, s4, s5, s6, s7, .agg #[.slice af m.files.length cf, .slice ai m.items.length ci], t9, t10, t11, .int .i64 (m.items.length : Int), t13, t14, t15, .int .i64 (m.files.length : Int), t17, t18, t19, undef, undef, undef, undef, undef, undef, undef, undef, undef, undef], defers := ds } W := by
  subst hli
  refine wpAnyH_ready (rs := [1, 10]) (by kernel_rfl) (by simp) ?_
  refine AllReadyH.cons (o := { dst := some 9, op := Go.Op.call { callee := Go.Callee.value (Go.Operand.func 21), args := #[Go.Operand.tmp 8], argTypes := #[25] }, type := 25, pos := "plan.go:29", after := #[{ on := 0, ground := Go.Ground.data }], guard := none }) rfl (fun Kx hK => ?_) ?_
  · rw [if_pos (by rfl)]
    go_simp
    go_at_call 21
    refine (copyD af ai cf ci m.files m.items W (frow_below hm1.out.files hS.2.2) (irow_below hm1.out.items hS.2.2) hl.out).mono ?_
    rintro e w2 ⟨pf', qf', pi', qi', rfl, n2, b2⟩
    obtain ⟨ib', io', rfl⟩ := row_some n2.here.items (Nat.lt_of_lt_of_le (by decide) h16.out)
    refine hK.out _ _ (keptN_step hS b2) (fun hS2 => ?_)
    clear hK Kx
    try simp only [Act.put, List.setIfInBounds_toArray, List.set_cons_zero, List.set_cons_succ]
    exact nw_11100 w w1 m af ai cf ci mkS mkN mkM Q s0 s1 s2 s3 s4 s5 s6 s7 t10 t11 t14 t15 ds hw hm1 hl h16 HS HN HMM hfin _ _ _ _ _ _ _ _ _ _ _ _ _ _ _ _ _ (hF.out.add1 b2 (Nat.le_trans hw.size hS.2.2.size) n2) hS2 _ (by kernel_rfl)
  refine AllReadyH.cons (o := { dst := some 18, op := Go.Op.makeMap 56 none, type := 56, pos := "plan.go:28", after := #[], guard := none }) rfl (fun Kx hK => ?_) ?_
  · have hrun := (HMM.out W).1
    rw [if_pos (by rfl)]
    go_simp
    refine hK.out _ _ (keptN_step hS (HMM.out W).2.2) (fun hS2 => ?_)
    clear hK Kx hrun
    try simp only [Act.put, List.setIfInBounds_toArray, List.set_cons_zero, List.set_cons_succ]
    exact nw_01110 w w1 m af ai cf ci mkS mkN mkM Q s0 s1 s2 s3 s4 s5 s6 s7 t10 t11 t14 t15 ds hw hm1 hl h16 HS HN HMM hfin _ _ _ _ _ _ _ _ _ _ _ _ _ _ _ _ _ (hF.out.add10 (HMM.out W).2.2 (Nat.le_trans hw.size hS.2.2.size) (HMM.out W).2.1) hS2 _ (by kernel_rfl)
  exact AllReadyH.nil
set_option maxHeartbeats 4000000 in
theorem nw_01010 (hw : Below w.heap.size w w1) (hm1 : Hid (ModelAt w1 af cf ai ci m)) (hl : Hid (light m)) (h16 : Hid (1 ≤ m.items.length))
    (HS : Hid (∀ w, (Instr.makeSlice 44 (.int .i64 (m.items.length : Int)) (.int .i64 (m.items.length : Int))).run Tryz.prog w = .ok (.slice (some ⟨w.heap.size, 0, none⟩) m.items.length m.items.length) (mkS w) ∧ IR (mkS w) w.heap.size (List.replicate m.items.length 0) ∧ Below w.heap.size w (mkS w)))
    (HN : Hid (∀ w, (Instr.makeSlice 44 (.int .i64 (m.files.length : Int)) (.int .i64 (m.files.length : Int))).run Tryz.prog w = .ok (.slice (some ⟨w.heap.size, 0, none⟩) m.files.length m.files.length) (mkN w) ∧ IR (mkN w) w.heap.size (List.replicate m.files.length 0) ∧ Below w.heap.size w (mkN w)))
    (HMM : Hid (∀ w, (Instr.makeMap 56 none).run Tryz.prog w = .ok (.map (some w.heap.size)) (mkM w) ∧ HIn (mkM w) w.heap.size 0 (fun _ => false) ∧ Below w.heap.size w (mkM w)))
    (hfin : Hid (∀ (X : World) (x : Value) (u9 u13 u17 u18 u19 u20 : Value), NewRel w m x X → Q .normal { tmps := #[s0, s1, s2, s3, x, s5, s6, s7, .agg #[.slice af m.files.length cf, .slice ai m.items.length ci], u9, t10, t11, .int .i64 (m.items.length : Int), u13, t14, t15, .int .i64 (m.files.length : Int), u17, u18, u19, u20, x, undef, undef, undef, undef, undef, undef, undef, undef], defers := ds } X)) (t9 t13 t17 t18 t19 : Value) (pf : Option Addr) (qf ib io qi lo hi sb nb mb qb : Nat) (W : World) (hF : Hid (NF w m false true false true false t9 t13 t17 t18 t19 pf qf ib io qi lo hi sb nb mb qb W)) (hS : (fun w' => w'.cell? ⟨w.heap.size, 0, none⟩ = some (.slice af m.files.length cf) ∧ w'.cell? ⟨w.heap.size, 1, none⟩ = some (.slice ai m.items.length ci) ∧ Below w1.heap.size w1 w') W) (listed : Array Bool) (hli : listed = #[true, false, true, true, true, true, true, true, true, false, true, false, false, false, false]) :
    wpAnyH Tryz.prog .any opsN Q (fun w' => w'.cell? ⟨w.heap.size, 0, none⟩ = some (.slice af m.files.length cf) ∧ w'.cell? ⟨w.heap.size, 1, none⟩ = some (.slice ai m.items.length ci) ∧ Below w1.heap.size w1 w') 6 listed { tmps := #[s0, s1, s2, s3, s4, s5, s6, s7, .agg #[.slice af m.files.length cf, .slice ai m.items.length ci], t9, t10, t11, .int .i64 (m.items.length : Int), t13, t14, t15, .int .i64 (m.files.length : Int), t17, t18, t19, undef, undef, undef, undef, undef, undef, undef, undef, undef, undef], defers := ds } W := by
  subst hli
  refine wpAnyH_ready (rs := [1, 9]) (by kernel_rfl) (by simp) ?_
  refine AllReadyH.cons (o := { dst := some 9, op := Go.Op.call { callee := Go.Callee.value (Go.Operand.func 21), args := #[Go.Operand.tmp 8], argTypes := #[25] }, type := 25, pos := "plan.go:29", after := #[{ on := 0, ground := Go.Ground.data }], guard := none }) rfl (fun Kx hK => ?_) ?_
  · rw [if_pos (by rfl)]
    go_simp
    go_at_call 21
    refine (copyD af ai cf ci m.files m.items W (frow_below hm1.out.files hS.2.2) (irow_below hm1.out.items hS.2.2) hl.out).mono ?_
    rintro e w2 ⟨pf', qf', pi', qi', rfl, n2, b2⟩
    obtain ⟨ib', io', rfl⟩ := row_some n2.here.items (Nat.lt_of_lt_of_le (by decide) h16.out)
    refine hK.out _ _ (keptN_step hS b2) (fun hS2 => ?_)
    clear hK Kx
    try simp only [Act.put, List.setIfInBounds_toArray, List.set_cons_zero, List.set_cons_succ]
    exact nw_11010 w w1 m af ai cf ci mkS mkN mkM Q s0 s1 s2 s3 s4 s5 s6 s7 t10 t11 t14 t15 ds hw hm1 hl h16 HS HN HMM hfin _ _ _ _ _ _ _ _ _ _ _ _ _ _ _ _ _ (hF.out.add1 b2 (Nat.le_trans hw.size hS.2.2.size) n2) hS2 _ (by kernel_rfl)
  refine AllReadyH.cons (o := { dst := some 17, op := Go.Op.makeSlice 44 (Go.Operand.tmp 16) (Go.Operand.tmp 16), type := 44, pos := "plan.go:28", after := #[{ on := 8, ground := Go.Ground.data }, { on := 8, ground := Go.Ground.data }], guard := none }) rfl (fun Kx hK => ?_) ?_
  · have hrun := (HN.out W).1
    rw [if_pos (by rfl)]
    go_simp
    refine hK.out _ _ (keptN_step hS (HN.out W).2.2) (fun hS2 => ?_)
    clear hK Kx hrun
    try simp only [Act.put, List.setIfInBounds_toArray, List.set_cons_zero, List.set_cons_succ]
    exact nw_01110 w w1 m af ai cf ci mkS mkN mkM Q s0 s1 s2 s3 s4 s5 s6 s7 t10 t11 t14 t15 ds hw hm1 hl h16 HS HN HMM hfin _ _ _ _ _ _ _ _ _ _ _ _ _ _ _ _ _ (hF.out.add9 (HN.out W).2.2 (Nat.le_trans hw.size hS.2.2.size) (HN.out W).2.1) hS2 _ (by kernel_rfl)
  exact AllReadyH.nil
set_option maxHeartbeats 4000000 in
theorem nw_00110 (hw : Below w.heap.size w w1) (hm1 : Hid (ModelAt w1 af cf ai ci m)) (hl : Hid (light m)) (h16 : Hid (1 ≤ m.items.length))
    (HS : Hid (∀ w, (Instr.makeSlice 44 (.int .i64 (m.items.length : Int)) (.int .i64 (m.items.length : Int))).run Tryz.prog w = .ok (.slice (some ⟨w.heap.size, 0, none⟩) m.items.length m.items.length) (mkS w) ∧ IR (mkS w) w.heap.size (List.replicate m.items.length 0) ∧ Below w.heap.size w (mkS w)))
    (HN : Hid (∀ w, (Instr.makeSlice 44 (.int .i64 (m.files.length : Int)) (.int .i64 (m.files.length : Int))).run Tryz.prog w = .ok (.slice (some ⟨w.heap.size, 0, none⟩) m.files.length m.files.length) (mkN w) ∧ IR (mkN w) w.heap.size (List.replicate m.files.length 0) ∧ Below w.heap.size w (mkN w)))
    (HMM : Hid (∀ w, (Instr.makeMap 56 none).run Tryz.prog w = .ok (.map (some w.heap.size)) (mkM w) ∧ HIn (mkM w) w.heap.size 0 (fun _ => false) ∧ Below w.heap.size w (mkM w)))
    (hfin : Hid (∀ (X : World) (x : Value) (u9 u13 u17 u18 u19 u20 : Value), NewRel w m x X → Q .normal { tmps := #[s0, s1, s2, s3, x, s5, s6, s7, .agg #[.slice af m.files.length cf, .slice ai m.items.length ci], u9, t10, t11, .int .i64 (m.items.length : Int), u13, t14, t15, .int .i64 (m.files.length : Int), u17, u18, u19, u20, x, undef, undef, undef, undef, undef, undef, undef, undef], defers := ds } X)) (t9 t13 t17 t18 t19 : Value) (pf : Option Addr) (qf ib io qi lo hi sb nb mb qb : Nat) (W : World) (hF : Hid (NF w m false false true true false t9 t13 t17 t18 t19 pf qf ib io qi lo hi sb nb mb qb W)) (hS : (fun w' => w'.cell? ⟨w.heap.size, 0, none⟩ = some (.slice af m.files.length cf) ∧ w'.cell? ⟨w.heap.size, 1, none⟩ = some (.slice ai m.items.length ci) ∧ Below w1.heap.size w1 w') W) (listed : Array Bool) (hli : listed = #[true, false, true, true, true, false, true, true, true, true, true, false, false, false, false]) :
    wpAnyH Tryz.prog .any opsN Q (fun w' => w'.cell? ⟨w.heap.size, 0, none⟩ = some (.slice af m.files.length cf) ∧ w'.cell? ⟨w.heap.size, 1, none⟩ = some (.slice ai m.items.length ci) ∧ Below w1.heap.size w1 w') 6 listed { tmps := #[s0, s1, s2, s3, s4, s5, s6, s7, .agg #[.slice af m.files.length cf, .slice ai m.items.length ci], t9, t10, t11, .int .i64 (m.items.length : Int), t13, t14, t15, .int .i64 (m.files.length : Int), t17, t18, t19, undef, undef, undef, undef, undef, undef, undef, undef, undef, undef], defers := ds } W := by
  subst hli
  refine wpAnyH_ready (rs := [1, 5]) (by kernel_rfl) (by simp) ?_
  refine AllReadyH.cons (o := { dst := some 9, op := Go.Op.call { callee := Go.Callee.value (Go.Operand.func 21), args := #[Go.Operand.tmp 8], argTypes := #[25] }, type := 25, pos := "plan.go:29", after := #[{ on := 0, ground := Go.Ground.data }], guard := none }) rfl (fun Kx hK => ?_) ?_
  · rw [if_pos (by rfl)]
    go_simp
    go_at_call 21
    refine (copyD af ai cf ci m.files m.items W (frow_below hm1.out.files hS.2.2) (irow_below hm1.out.items hS.2.2) hl.out).mono ?_
    rintro e w2 ⟨pf', qf', pi', qi', rfl, n2, b2⟩
    obtain ⟨ib', io', rfl⟩ := row_some n2.here.items (Nat.lt_of_lt_of_le (by decide) h16.out)
    refine hK.out _ _ (keptN_step hS b2) (fun hS2 => ?_)
    clear hK Kx
    try simp only [Act.put, List.setIfInBounds_toArray, List.set_cons_zero, List.set_cons_succ]
    exact nw_10110 w w1 m af ai cf ci mkS mkN mkM Q s0 s1 s2 s3 s4 s5 s6 s7 t10 t11 t14 t15 ds hw hm1 hl h16 HS HN HMM hfin _ _ _ _ _ _ _ _ _ _ _ _ _ _ _ _ _ (hF.out.add1 b2 (Nat.le_trans hw.size hS.2.2.size) n2) hS2 _ (by kernel_rfl)
  refine AllReadyH.cons (o := { dst := some 13, op := Go.Op.makeSlice 44 (Go.Operand.tmp 12) (Go.Operand.tmp 12), type := 44, pos := "plan.go:28", after := #[{ on := 4, ground := Go.Ground.data }, { on := 4, ground := Go.Ground.data }], guard := none }) rfl (fun Kx hK => ?_) ?_
  · have hrun := (HS.out W).1
    rw [if_pos (by rfl)]
    go_simp
    refine hK.out _ _ (keptN_step hS (HS.out W).2.2) (fun hS2 => ?_)
    clear hK Kx hrun
    try simp only [Act.put, List.setIfInBounds_toArray, List.set_cons_zero, List.set_cons_succ]
    exact nw_01110 w w1 m af ai cf ci mkS mkN mkM Q s0 s1 s2 s3 s4 s5 s6 s7 t10 t11 t14 t15 ds hw hm1 hl h16 HS HN HMM hfin _ _ _ _ _ _ _ _ _ _ _ _ _ _ _ _ _ (hF.out.add5 (HS.out W).2.2 (Nat.le_trans hw.size hS.2.2.size) (HS.out W).2.1) hS2 _ (by kernel_rfl)
  exact AllReadyH.nil
set_option maxHeartbeats 4000000 in
theorem nw_10000 (hw : Below w.heap.size w w1) (hm1 : Hid (ModelAt w1 af cf ai ci m)) (hl : Hid (light m)) (h16 : Hid (1 ≤ m.items.length))
    (HS : Hid (∀ w, (Instr.makeSlice 44 (.int .i64 (m.items.length : Int)) (.int .i64 (m.items.length : Int))).run Tryz.prog w = .ok (.slice (some ⟨w.heap.size, 0, none⟩) m.items.length m.items.length) (mkS w) ∧ IR (mkS w) w.heap.size (List.replicate m.items.length 0) ∧ Below w.heap.size w (mkS w)))
    (HN : Hid (∀ w, (Instr.makeSlice 44 (.int .i64 (m.files.length : Int)) (.int .i64 (m.files.length : Int))).run Tryz.prog w = .ok (.slice (some ⟨w.heap.size, 0, none⟩) m.files.length m.files.length) (mkN w) ∧ IR (mkN w) w.heap.size (List.replicate m.files.length 0) ∧ Below w.heap.size w (mkN w)))
    (HMM : Hid (∀ w, (Instr.makeMap 56 none).run Tryz.prog w = .ok (.map (some w.heap.size)) (mkM w) ∧ HIn (mkM w) w.heap.size 0 (fun _ => false) ∧ Below w.heap.size w (mkM w)))
    (hfin : Hid (∀ (X : World) (x : Value) (u9 u13 u17 u18 u19 u20 : Value), NewRel w m x X → Q .normal { tmps := #[s0, s1, s2, s3, x, s5, s6, s7, .agg #[.slice af m.files.length cf, .slice ai m.items.length ci], u9, t10, t11, .int .i64 (m.items.length : Int), u13, t14, t15, .int .i64 (m.files.length : Int), u17, u18, u19, u20, x, undef, undef, undef, undef, undef, undef, undef, undef], defers := ds } X)) (t9 t13 t17 t18 t19 : Value) (pf : Option Addr) (qf ib io qi lo hi sb nb mb qb : Nat) (W : World) (hF : Hid (NF w m true false false false false t9 t13 t17 t18 t19 pf qf ib io qi lo hi sb nb mb qb W)) (hS : (fun w' => w'.cell? ⟨w.heap.size, 0, none⟩ = some (.slice af m.files.length cf) ∧ w'.cell? ⟨w.heap.size, 1, none⟩ = some (.slice ai m.items.length ci) ∧ Below w1.heap.size w1 w') W) (listed : Array Bool) (hli : listed = #[true, true, true, true, true, false, true, true, true, false, false, false, false, false, false]) :
    wpAnyH Tryz.prog .any opsN Q (fun w' => w'.cell? ⟨w.heap.size, 0, none⟩ = some (.slice af m.files.length cf) ∧ w'.cell? ⟨w.heap.size, 1, none⟩ = some (.slice ai m.items.length ci) ∧ Below w1.heap.size w1 w') 7 listed { tmps := #[s0, s1, s2, s3, s4, s5, s6, s7, .agg #[.slice af m.files.length cf, .slice ai m.items.length ci], t9, t10, t11, .int .i64 (m.items.length : Int), t13, t14, t15, .int .i64 (m.files.length : Int), t17, t18, t19, undef, undef, undef, undef, undef, undef, undef, undef, undef, undef], defers := ds } W := by
  subst hli
  refine wpAnyH_ready (rs := [5, 9, 10, 11]) (by kernel_rfl) (by simp) ?_
  refine AllReadyH.cons (o := { dst := some 13, op := Go.Op.makeSlice 44 (Go.Operand.tmp 12) (Go.Operand.tmp 12), type := 44, pos := "plan.go:28", after := #[{ on := 4, ground := Go.Ground.data }, { on := 4, ground := Go.Ground.data }], guard := none }) rfl (fun Kx hK => ?_) ?_
  · have hrun := (HS.out W).1
    rw [if_pos (by rfl)]
    go_simp
    refine hK.out _ _ (keptN_step hS (HS.out W).2.2) (fun hS2 => ?_)
    clear hK Kx hrun
    try simp only [Act.put, List.setIfInBounds_toArray, List.set_cons_zero, List.set_cons_succ]
    exact nw_11000 w w1 m af ai cf ci mkS mkN mkM Q s0 s1 s2 s3 s4 s5 s6 s7 t10 t11 t14 t15 ds hw hm1 hl h16 HS HN HMM hfin _ _ _ _ _ _ _ _ _ _ _ _ _ _ _ _ _ (hF.out.add5 (HS.out W).2.2 (Nat.le_trans hw.size hS.2.2.size) (HS.out W).2.1) hS2 _ (by kernel_rfl)
  refine AllReadyH.cons (o := { dst := some 17, op := Go.Op.makeSlice 44 (Go.Operand.tmp 16) (Go.Operand.tmp 16), type := 44, pos := "plan.go:28", after := #[{ on := 8, ground := Go.Ground.data }, { on := 8, ground := Go.Ground.data }], guard := none }) rfl (fun Kx hK => ?_) ?_
  · have hrun := (HN.out W).1
    rw [if_pos (by rfl)]
    go_simp
    refine hK.out _ _ (keptN_step hS (HN.out W).2.2) (fun hS2 => ?_)
    clear hK Kx hrun
    try simp only [Act.put, List.setIfInBounds_toArray, List.set_cons_zero, List.set_cons_succ]
    exact nw_10100 w w1 m af ai cf ci mkS mkN mkM Q s0 s1 s2 s3 s4 s5 s6 s7 t10 t11 t14 t15 ds hw hm1 hl h16 HS HN HMM hfin _ _ _ _ _ _ _ _ _ _ _ _ _ _ _ _ _ (hF.out.add9 (HN.out W).2.2 (Nat.le_trans hw.size hS.2.2.size) (HN.out W).2.1) hS2 _ (by kernel_rfl)
  refine AllReadyH.cons (o := { dst := some 18, op := Go.Op.makeMap 56 none, type := 56, pos := "plan.go:28", after := #[], guard := none }) rfl (fun Kx hK => ?_) ?_
  · have hrun := (HMM.out W).1
    rw [if_pos (by rfl)]
    go_simp
    refine hK.out _ _ (keptN_step hS (HMM.out W).2.2) (fun hS2 => ?_)
    clear hK Kx hrun
    try simp only [Act.put, List.setIfInBounds_toArray, List.set_cons_zero, List.set_cons_succ]
    exact nw_10010 w w1 m af ai cf ci mkS mkN mkM Q s0 s1 s2 s3 s4 s5 s6 s7 t10 t11 t14 t15 ds hw hm1 hl h16 HS HN HMM hfin _ _ _ _ _ _ _ _ _ _ _ _ _ _ _ _ _ (hF.out.add10 (HMM.out W).2.2 (Nat.le_trans hw.size hS.2.2.size) (HMM.out W).2.1) hS2 _ (by kernel_rfl)
  refine AllReadyH.cons (o := { dst := some 19, op := Go.Op.call { callee := Go.Callee.value (Go.Operand.func 22), args := #[], argTypes := #[] }, type := 57, pos := "plan.go:33", after := #[{ on := 1, ground := Go.Ground.chain }], guard := none }) rfl (fun Kx hK => ?_) ?_
  · rw [if_pos (by rfl)]
    go_simp
    go_at_call 22
    refine (newQ W.heap.size W (Nat.le_refl _)).mono ?_
    rintro e w3 ⟨qb', rfl, rfl, q3, b3⟩
    refine hK.out _ _ (keptN_step hS b3) (fun hS2 => ?_)
    clear hK Kx
    try simp only [Act.put, List.setIfInBounds_toArray, List.set_cons_zero, List.set_cons_succ]
    exact nw_10001 w w1 m af ai cf ci mkS mkN mkM Q s0 s1 s2 s3 s4 s5 s6 s7 t10 t11 t14 t15 ds hw hm1 hl h16 HS HN HMM hfin _ _ _ _ _ _ _ _ _ _ _ _ _ _ _ _ _ (hF.out.add11 b3 (Nat.le_trans hw.size hS.2.2.size) ⟨_, q3⟩) hS2 _ (by kernel_rfl)
  exact AllReadyH.nil
set_option maxHeartbeats 4000000 in
theorem nw_01000 (hw : Below w.heap.size w w1) (hm1 : Hid (ModelAt w1 af cf ai ci m)) (hl : Hid (light m)) (h16 : Hid (1 ≤ m.items.length))
    (HS : Hid (∀ w, (Instr.makeSlice 44 (.int .i64 (m.items.length : Int)) (.int .i64 (m.items.length : Int))).run Tryz.prog w = .ok (.slice (some ⟨w.heap.size, 0, none⟩) m.items.length m.items.length) (mkS w) ∧ IR (mkS w) w.heap.size (List.replicate m.items.length 0) ∧ Below w.heap.size w (mkS w)))
    (HN : Hid (∀ w, (Instr.makeSlice 44 (.int .i64 (m.files.length : Int)) (.int .i64 (m.files.length : Int))).run Tryz.prog w = .ok (.slice (some ⟨w.heap.size, 0, none⟩) m.files.length m.files.length) (mkN w) ∧ IR (mkN w) w.heap.size (List.replicate m.files.length 0) ∧ Below w.heap.size w (mkN w)))
    (HMM : Hid (∀ w, (Instr.makeMap 56 none).run Tryz.prog w = .ok (.map (some w.heap.size)) (mkM w) ∧ HIn (mkM w) w.heap.size 0 (fun _ => false) ∧ Below w.heap.size w (mkM w)))
    (hfin : Hid (∀ (X : World) (x : Value) (u9 u13 u17 u18 u19 u20 : Value), NewRel w m x X → Q .normal { tmps := #[s0, s1, s2, s3, x, s5, s6, s7, .agg #[.slice af m.files.length cf, .slice ai m.items.length ci], u9, t10, t11, .int .i64 (m.items.length : Int), u13, t14, t15, .int .i64 (m.files.length : Int), u17, u18, u19, u20, x, undef, undef, undef, undef, undef, undef, undef, undef], defers := ds } X)) (t9 t13 t17 t18 t19 : Value) (pf : Option Addr) (qf ib io qi lo hi sb nb mb qb : Nat) (W : World) (hF : Hid (NF w m false true false false false t9 t13 t17 t18 t19 pf qf ib io qi lo hi sb nb mb qb W)) (hS : (fun w' => w'.cell? ⟨w.heap.size, 0, none⟩ = some (.slice af m.files.length cf) ∧ w'.cell? ⟨w.heap.size, 1, none⟩ = some (.slice ai m.items.length ci) ∧ Below w1.heap.size w1 w') W) (listed : Array Bool) (hli : listed = #[true, false, true, true, true, true, true, true, true, false, false, false, false, false, false]) :
    wpAnyH Tryz.prog .any opsN Q (fun w' => w'.cell? ⟨w.heap.size, 0, none⟩ = some (.slice af m.files.length cf) ∧ w'.cell? ⟨w.heap.size, 1, none⟩ = some (.slice ai m.items.length ci) ∧ Below w1.heap.size w1 w') 7 listed { tmps := #[s0, s1, s2, s3, s4, s5, s6, s7, .agg #[.slice af m.files.length cf, .slice ai m.items.length ci], t9, t10, t11, .int .i64 (m.items.length : Int), t13, t14, t15, .int .i64 (m.files.length : Int), t17, t18, t19, undef, undef, undef, undef, undef, undef, undef, undef, undef, undef], defers := ds } W := by
  subst hli
  refine wpAnyH_ready (rs := [1, 9, 10]) (by kernel_rfl) (by simp) ?_
  refine AllReadyH.cons (o := { dst := some 9, op := Go.Op.call { callee := Go.Callee.value (Go.Operand.func 21), args := #[Go.Operand.tmp 8], argTypes := #[25] }, type := 25, pos := "plan.go:29", after := #[{ on := 0, ground := Go.Ground.data }], guard := none }) rfl (fun Kx hK => ?_) ?_
  · rw [if_pos (by rfl)]
    go_simp
    go_at_call 21
    refine (copyD af ai cf ci m.files m.items W (frow_below hm1.out.files hS.2.2) (irow_below hm1.out.items hS.2.2) hl.out).mono ?_
    rintro e w2 ⟨pf', qf', pi', qi', rfl, n2, b2⟩
    obtain ⟨ib', io', rfl⟩ := row_some n2.here.items (Nat.lt_of_lt_of_le (by decide) h16.out)
    refine hK.out _ _ (keptN_step hS b2) (fun hS2 => ?_)
    clear hK Kx
    try simp only [Act.put, List.setIfInBounds_toArray, List.set_cons_zero, List.set_cons_succ]
    exact nw_11000 w w1 m af ai cf ci mkS mkN mkM Q s0 s1 s2 s3 s4 s5 s6 s7 t10 t11 t14 t15 ds hw hm1 hl h16 HS HN HMM hfin _ _ _ _ _ _ _ _ _ _ _ _ _ _ _ _ _ (hF.out.add1 b2 (Nat.le_trans hw.size hS.2.2.size) n2) hS2 _ (by kernel_rfl)
  refine AllReadyH.cons (o := { dst := some 17, op := Go.Op.makeSlice 44 (Go.Operand.tmp 16) (Go.Operand.tmp 16), type := 44, pos := "plan.go:28", after := #[{ on := 8, ground := Go.Ground.data }, { on := 8, ground := Go.Ground.data }], guard := none }) rfl (fun Kx hK => ?_) ?_
  · have hrun := (HN.out W).1
    rw [if_pos (by rfl)]
    go_simp
    refine hK.out _ _ (keptN_step hS (HN.out W).2.2) (fun hS2 => ?_)
    clear hK Kx hrun
    try simp only [Act.put, List.setIfInBounds_toArray, List.set_cons_zero, List.set_cons_succ]
    exact nw_01100 w w1 m af ai cf ci mkS mkN mkM Q s0 s1 s2 s3 s4 s5 s6 s7 t10 t11 t14 t15 ds hw hm1 hl h16 HS HN HMM hfin _ _ _ _ _ _ _ _ _ _ _ _ _ _ _ _ _ (hF.out.add9 (HN.out W).2.2 (Nat.le_trans hw.size hS.2.2.size) (HN.out W).2.1) hS2 _ (by kernel_rfl)
  refine AllReadyH.cons (o := { dst := some 18, op := Go.Op.makeMap 56 none, type := 56, pos := "plan.go:28", after := #[], guard := none }) rfl (fun Kx hK => ?_) ?_
  · have hrun := (HMM.out W).1
    rw [if_pos (by rfl)]
    go_simp
    refine hK.out _ _ (keptN_step hS (HMM.out W).2.2) (fun hS2 => ?_)
    clear hK Kx hrun
    try simp only [Act.put, List.setIfInBounds_toArray, List.set_cons_zero, List.set_cons_succ]
    exact nw_01010 w w1 m af ai cf ci mkS mkN mkM Q s0 s1 s2 s3 s4 s5 s6 s7 t10 t11 t14 t15 ds hw hm1 hl h16 HS HN HMM hfin _ _ _ _ _ _ _ _ _ _ _ _ _ _ _ _ _ (hF.out.add10 (HMM.out W).2.2 (Nat.le_trans hw.size hS.2.2.size) (HMM.out W).2.1) hS2 _ (by kernel_rfl)
  exact AllReadyH.nil
set_option maxHeartbeats 4000000 in
theorem nw_00100 (hw : Below w.heap.size w w1) (hm1 : Hid (ModelAt w1 af cf ai ci m)) (hl : Hid (light m)) (h16 : Hid (1 ≤ m.items.length))
    (HS : Hid (∀ w, (Instr.makeSlice 44 (.int .i64 (m.items.length : Int)) (.int .i64 (m.items.length : Int))).run Tryz.prog w = .ok (.slice (some ⟨w.heap.size, 0, none⟩) m.items.length m.items.length) (mkS w) ∧ IR (mkS w) w.heap.size (List.replicate m.items.length 0) ∧ Below w.heap.size w (mkS w)))
    (HN : Hid (∀ w, (Instr.makeSlice 44 (.int .i64 (m.files.length : Int)) (.int .i64 (m.files.length : Int))).run Tryz.prog w = .ok (.slice (some ⟨w.heap.size, 0, none⟩) m.files.length m.files.length) (mkN w) ∧ IR (mkN w) w.heap.size (List.replicate m.files.length 0) ∧ Below w.heap.size w (mkN w)))
    (HMM : Hid (∀ w, (Instr.makeMap 56 none).run Tryz.prog w = .ok (.map (some w.heap.size)) (mkM w) ∧ HIn (mkM w) w.heap.size 0 (fun _ => false) ∧ Below w.heap.size w (mkM w)))
    (hfin : Hid (∀ (X : World) (x : Value) (u9 u13 u17 u18 u19 u20 : Value), NewRel w m x X → Q .normal { tmps := #[s0, s1, s2, s3, x, s5, s6, s7, .agg #[.slice af m.files.length cf, .slice ai m.items.length ci], u9, t10, t11, .int .i64 (m.items.length : Int), u13, t14, t15, .int .i64 (m.files.length : Int), u17, u18, u19, u20, x, undef, undef, undef, undef, undef, undef, undef, undef], defers := ds } X)) (t9 t13 t17 t18 t19 : Value) (pf : Option Addr) (qf ib io qi lo hi sb nb mb qb : Nat) (W : World) (hF : Hid (NF w m false false true false false t9 t13 t17 t18 t19 pf qf ib io qi lo hi sb nb mb qb W)) (hS : (fun w' => w'.cell? ⟨w.heap.size, 0, none⟩ = some (.slice af m.files.length cf) ∧ w'.cell? ⟨w.heap.size, 1, none⟩ = some (.slice ai m.items.length ci) ∧ Below w1.heap.size w1 w') W) (listed : Array Bool) (hli : listed = #[true, false, true, true, true, false, true, true, true, true, false, false, false, false, false]) :
    wpAnyH Tryz.prog .any opsN Q (fun w' => w'.cell? ⟨w.heap.size, 0, none⟩ = some (.slice af m.files.length cf) ∧ w'.cell? ⟨w.heap.size, 1, none⟩ = some (.slice ai m.items.length ci) ∧ Below w1.heap.size w1 w') 7 listed { tmps := #[s0, s1, s2, s3, s4, s5, s6, s7, .agg #[.slice af m.files.length cf, .slice ai m.items.length ci], t9, t10, t11, .int .i64 (m.items.length : Int), t13, t14, t15, .int .i64 (m.files.length : Int), t17, t18, t19, undef, undef, undef, undef, undef, undef, undef, undef, undef, undef], defers := ds } W := by
  subst hli
  refine wpAnyH_ready (rs := [1, 5, 10]) (by kernel_rfl) (by simp) ?_
  refine AllReadyH.cons (o := { dst := some 9, op := Go.Op.call { callee := Go.Callee.value (Go.Operand.func 21), args := #[Go.Operand.tmp 8], argTypes := #[25] }, type := 25, pos := "plan.go:29", after := #[{ on := 0, ground := Go.Ground.data }], guard := none }) rfl (fun Kx hK => ?_) ?_
  · rw [if_pos (by rfl)]
    go_simp
    go_at_call 21
    refine (copyD af ai cf ci m.files m.items W (frow_below hm1.out.files hS.2.2) (irow_below hm1.out.items hS.2.2) hl.out).mono ?_
    rintro e w2 ⟨pf', qf', pi', qi', rfl, n2, b2⟩
    obtain ⟨ib', io', rfl⟩ := row_some n2.here.items (Nat.lt_of_lt_of_le (by decide) h16.out)
    refine hK.out _ _ (keptN_step hS b2) (fun hS2 => ?_)
    clear hK Kx
    try simp only [Act.put, List.setIfInBounds_toArray, List.set_cons_zero, List.set_cons_succ]
    exact nw_10100 w w1 m af ai cf ci mkS mkN mkM Q s0 s1 s2 s3 s4 s5 s6 s7 t10 t11 t14 t15 ds hw hm1 hl h16 HS HN HMM hfin _ _ _ _ _ _ _ _ _ _ _ _ _ _ _ _ _ (hF.out.add1 b2 (Nat.le_trans hw.size hS.2.2.size) n2) hS2 _ (by kernel_rfl)
  refine AllReadyH.cons (o := { dst := some 13, op := Go.Op.makeSlice 44 (Go.Operand.tmp 12) (Go.Operand.tmp 12), type := 44, pos := "plan.go:28", after := #[{ on := 4, ground := Go.Ground.data }, { on := 4, ground := Go.Ground.data }], guard := none }) rfl (fun Kx hK => ?_) ?_
  · have hrun := (HS.out W).1
    rw [if_pos (by rfl)]
    go_simp
    refine hK.out _ _ (keptN_step hS (HS.out W).2.2) (fun hS2 => ?_)
    clear hK Kx hrun
    try simp only [Act.put, List.setIfInBounds_toArray, List.set_cons_zero, List.set_cons_succ]
    exact nw_01100 w w1 m af ai cf ci mkS mkN mkM Q s0 s1 s2 s3 s4 s5 s6 s7 t10 t11 t14 t15 ds hw hm1 hl h16 HS HN HMM hfin _ _ _ _ _ _ _ _ _ _ _ _ _ _ _ _ _ (hF.out.add5 (HS.out W).2.2 (Nat.le_trans hw.size hS.2.2.size) (HS.out W).2.1) hS2 _ (by kernel_rfl)
  refine AllReadyH.cons (o := { dst := some 18, op := Go.Op.makeMap 56 none, type := 56, pos := "plan.go:28", after := #[], guard := none }) rfl (fun Kx hK => ?_) ?_
  · have hrun := (HMM.out W).1
    rw [if_pos (by rfl)]
    go_simp
    refine hK.out _ _ (keptN_step hS (HMM.out W).2.2) (fun hS2 => ?_)
    clear hK Kx hrun
    try simp only [Act.put, List.setIfInBounds_toArray, List.set_cons_zero, List.set_cons_succ]
    exact nw_00110 w w1 m af ai cf ci mkS mkN mkM Q s0 s1 s2 s3 s4 s5 s6 s7 t10 t11 t14 t15 ds hw hm1 hl h16 HS HN HMM hfin _ _ _ _ _ _ _ _ _ _ _ _ _ _ _ _ _ (hF.out.add10 (HMM.out W).2.2 (Nat.le_trans hw.size hS.2.2.size) (HMM.out W).2.1) hS2 _ (by kernel_rfl)
  exact AllReadyH.nil
set_option maxHeartbeats 4000000 in
theorem nw_00010 (hw : Below w.heap.size w w1) (hm1 : Hid (ModelAt w1 af cf ai ci m)) (hl : Hid (light m)) (h16 : Hid (1 ≤ m.items.length))
    (HS : Hid (∀ w, (Instr.makeSlice 44 (.int .i64 (m.items.length : Int)) (.int .i64 (m.items.length : Int))).run Tryz.prog w = .ok (.slice (some ⟨w.heap.size, 0, none⟩) m.items.length m.items.length) (mkS w) ∧ IR (mkS w) w.heap.size (List.replicate m.items.length 0) ∧ Below w.heap.size w (mkS w)))
    (HN : Hid (∀ w, (Instr.makeSlice 44 (.int .i64 (m.files.length : Int)) (.int .i64 (m.files.length : Int))).run Tryz.prog w = .ok (.slice (some ⟨w.heap.size, 0, none⟩) m.files.length m.files.length) (mkN w) ∧ IR (mkN w) w.heap.size (List.replicate m.files.length 0) ∧ Below w.heap.size w (mkN w)))
    (HMM : Hid (∀ w, (Instr.makeMap 56 none).run Tryz.prog w = .ok (.map (some w.heap.size)) (mkM w) ∧ HIn (mkM w) w.heap.size 0 (fun _ => false) ∧ Below w.heap.size w (mkM w)))
    (hfin : Hid (∀ (X : World) (x : Value) (u9 u13 u17 u18 u19 u20 : Value), NewRel w m x X → Q .normal { tmps := #[s0, s1, s2, s3, x, s5, s6, s7, .agg #[.slice af m.files.length cf, .slice ai m.items.length ci], u9, t10, t11, .int .i64 (m.items.length : Int), u13, t14, t15, .int .i64 (m.files.length : Int), u17, u18, u19, u20, x, undef, undef, undef, undef, undef, undef, undef, undef], defers := ds } X)) (t9 t13 t17 t18 t19 : Value) (pf : Option Addr) (qf ib io qi lo hi sb nb mb qb : Nat) (W : World) (hF : Hid (NF w m false false false true false t9 t13 t17 t18 t19 pf qf ib io qi lo hi sb nb mb qb W)) (hS : (fun w' => w'.cell? ⟨w.heap.size, 0, none⟩ = some (.slice af m.files.length cf) ∧ w'.cell? ⟨w.heap.size, 1, none⟩ = some (.slice ai m.items.length ci) ∧ Below w1.heap.size w1 w') W) (listed : Array Bool) (hli : listed = #[true, false, true, true, true, false, true, true, true, false, true, false, false, false, false]) :
    wpAnyH Tryz.prog .any opsN Q (fun w' => w'.cell? ⟨w.heap.size, 0, none⟩ = some (.slice af m.files.length cf) ∧ w'.cell? ⟨w.heap.size, 1, none⟩ = some (.slice ai m.items.length ci) ∧ Below w1.heap.size w1 w') 7 listed { tmps := #[s0, s1, s2, s3, s4, s5, s6, s7, .agg #[.slice af m.files.length cf, .slice ai m.items.length ci], t9, t10, t11, .int .i64 (m.items.length : Int), t13, t14, t15, .int .i64 (m.files.length : Int), t17, t18, t19, undef, undef, undef, undef, undef, undef, undef, undef, undef, undef], defers := ds } W := by
  subst hli
  refine wpAnyH_ready (rs := [1, 5, 9]) (by kernel_rfl) (by simp) ?_
  refine AllReadyH.cons (o := { dst := some 9, op := Go.Op.call { callee := Go.Callee.value (Go.Operand.func 21), args := #[Go.Operand.tmp 8], argTypes := #[25] }, type := 25, pos := "plan.go:29", after := #[{ on := 0, ground := Go.Ground.data }], guard := none }) rfl (fun Kx hK => ?_) ?_
  · rw [if_pos (by rfl)]
    go_simp
    go_at_call 21
    refine (copyD af ai cf ci m.files m.items W (frow_below hm1.out.files hS.2.2) (irow_below hm1.out.items hS.2.2) hl.out).mono ?_
    rintro e w2 ⟨pf', qf', pi', qi', rfl, n2, b2⟩
    obtain ⟨ib', io', rfl⟩ := row_some n2.here.items (Nat.lt_of_lt_of_le (by decide) h16.out)
    refine hK.out _ _ (keptN_step hS b2) (fun hS2 => ?_)
    clear hK Kx
    try simp only [Act.put, List.setIfInBounds_toArray, List.set_cons_zero, List.set_cons_succ]
    exact nw_10010 w w1 m af ai cf ci mkS mkN mkM Q s0 s1 s2 s3 s4 s5 s6 s7 t10 t11 t14 t15 ds hw hm1 hl h16 HS HN HMM hfin _ _ _ _ _ _ _ _ _ _ _ _ _ _ _ _ _ (hF.out.add1 b2 (Nat.le_trans hw.size hS.2.2.size) n2) hS2 _ (by kernel_rfl)
  refine AllReadyH.cons (o := { dst := some 13, op := Go.Op.makeSlice 44 (Go.Operand.tmp 12) (Go.Operand.tmp 12), type := 44, pos := "plan.go:28", after := #[{ on := 4, ground := Go.Ground.data }, { on := 4, ground := Go.Ground.data }], guard := none }) rfl (fun Kx hK => ?_) ?_
  · have hrun := (HS.out W).1
    rw [if_pos (by rfl)]
    go_simp
    refine hK.out _ _ (keptN_step hS (HS.out W).2.2) (fun hS2 => ?_)
    clear hK Kx hrun
    try simp only [Act.put, List.setIfInBounds_toArray, List.set_cons_zero, List.set_cons_succ]
    exact nw_01010 w w1 m af ai cf ci mkS mkN mkM Q s0 s1 s2 s3 s4 s5 s6 s7 t10 t11 t14 t15 ds hw hm1 hl h16 HS HN HMM hfin _ _ _ _ _ _ _ _ _ _ _ _ _ _ _ _ _ (hF.out.add5 (HS.out W).2.2 (Nat.le_trans hw.size hS.2.2.size) (HS.out W).2.1) hS2 _ (by kernel_rfl)
  refine AllReadyH.cons (o := { dst := some 17, op := Go.Op.makeSlice 44 (Go.Operand.tmp 16) (Go.Operand.tmp 16), type := 44, pos := "plan.go:28", after := #[{ on := 8, ground := Go.Ground.data }, { on := 8, ground := Go.Ground.data }], guard := none }) rfl (fun Kx hK => ?_) ?_
  · have hrun := (HN.out W).1
    rw [if_pos (by rfl)]
    go_simp
    refine hK.out _ _ (keptN_step hS (HN.out W).2.2) (fun hS2 => ?_)
    clear hK Kx hrun
    try simp only [Act.put, List.setIfInBounds_toArray, List.set_cons_zero, List.set_cons_succ]
    exact nw_00110 w w1 m af ai cf ci mkS mkN mkM Q s0 s1 s2 s3 s4 s5 s6 s7 t10 t11 t14 t15 ds hw hm1 hl h16 HS HN HMM hfin _ _ _ _ _ _ _ _ _ _ _ _ _ _ _ _ _ (hF.out.add9 (HN.out W).2.2 (Nat.le_trans hw.size hS.2.2.size) (HN.out W).2.1) hS2 _ (by kernel_rfl)
  exact AllReadyH.nil
set_option maxHeartbeats 4000000 in
theorem nw_00000 (hw : Below w.heap.size w w1) (hm1 : Hid (ModelAt w1 af cf ai ci m)) (hl : Hid (light m)) (h16 : Hid (1 ≤ m.items.length))
    (HS : Hid (∀ w, (Instr.makeSlice 44 (.int .i64 (m.items.length : Int)) (.int .i64 (m.items.length : Int))).run Tryz.prog w = .ok (.slice (some ⟨w.heap.size, 0, none⟩) m.items.length m.items.length) (mkS w) ∧ IR (mkS w) w.heap.size (List.replicate m.items.length 0) ∧ Below w.heap.size w (mkS w)))
    (HN : Hid (∀ w, (Instr.makeSlice 44 (.int .i64 (m.files.length : Int)) (.int .i64 (m.files.length : Int))).run Tryz.prog w = .ok (.slice (some ⟨w.heap.size, 0, none⟩) m.files.length m.files.length) (mkN w) ∧ IR (mkN w) w.heap.size (List.replicate m.files.length 0) ∧ Below w.heap.size w (mkN w)))
    (HMM : Hid (∀ w, (Instr.makeMap 56 none).run Tryz.prog w = .ok (.map (some w.heap.size)) (mkM w) ∧ HIn (mkM w) w.heap.size 0 (fun _ => false) ∧ Below w.heap.size w (mkM w)))
    (hfin : Hid (∀ (X : World) (x : Value) (u9 u13 u17 u18 u19 u20 : Value), NewRel w m x X → Q .normal { tmps := #[s0, s1, s2, s3, x, s5, s6, s7, .agg #[.slice af m.files.length cf, .slice ai m.items.length ci], u9, t10, t11, .int .i64 (m.items.length : Int), u13, t14, t15, .int .i64 (m.files.length : Int), u17, u18, u19, u20, x, undef, undef, undef, undef, undef, undef, undef, undef], defers := ds } X)) (t9 t13 t17 t18 t19 : Value) (pf : Option Addr) (qf ib io qi lo hi sb nb mb qb : Nat) (W : World) (hF : Hid (NF w m false false false false false t9 t13 t17 t18 t19 pf qf ib io qi lo hi sb nb mb qb W)) (hS : (fun w' => w'.cell? ⟨w.heap.size, 0, none⟩ = some (.slice af m.files.length cf) ∧ w'.cell? ⟨w.heap.size, 1, none⟩ = some (.slice ai m.items.length ci) ∧ Below w1.heap.size w1 w') W) (listed : Array Bool) (hli : listed = #[true, false, true, true, true, false, true, true, true, false, false, false, false, false, false]) :
    wpAnyH Tryz.prog .any opsN Q (fun w' => w'.cell? ⟨w.heap.size, 0, none⟩ = some (.slice af m.files.length cf) ∧ w'.cell? ⟨w.heap.size, 1, none⟩ = some (.slice ai m.items.length ci) ∧ Below w1.heap.size w1 w') 8 listed { tmps := #[s0, s1, s2, s3, s4, s5, s6, s7, .agg #[.slice af m.files.length cf, .slice ai m.items.length ci], t9, t10, t11, .int .i64 (m.items.length : Int), t13, t14, t15, .int .i64 (m.files.length : Int), t17, t18, t19, undef, undef, undef, undef, undef, undef, undef, undef, undef, undef], defers := ds } W := by
  subst hli
  refine wpAnyH_ready (rs := [1, 5, 9, 10]) (by kernel_rfl) (by simp) ?_
  refine AllReadyH.cons (o := { dst := some 9, op := Go.Op.call { callee := Go.Callee.value (Go.Operand.func 21), args := #[Go.Operand.tmp 8], argTypes := #[25] }, type := 25, pos := "plan.go:29", after := #[{ on := 0, ground := Go.Ground.data }], guard := none }) rfl (fun Kx hK => ?_) ?_
  · rw [if_pos (by rfl)]
    go_simp
    go_at_call 21
    refine (copyD af ai cf ci m.files m.items W (frow_below hm1.out.files hS.2.2) (irow_below hm1.out.items hS.2.2) hl.out).mono ?_
    rintro e w2 ⟨pf', qf', pi', qi', rfl, n2, b2⟩
    obtain ⟨ib', io', rfl⟩ := row_some n2.here.items (Nat.lt_of_lt_of_le (by decide) h16.out)
    refine hK.out _ _ (keptN_step hS b2) (fun hS2 => ?_)
    clear hK Kx
    try simp only [Act.put, List.setIfInBounds_toArray, List.set_cons_zero, List.set_cons_succ]
    exact nw_10000 w w1 m af ai cf ci mkS mkN mkM Q s0 s1 s2 s3 s4 s5 s6 s7 t10 t11 t14 t15 ds hw hm1 hl h16 HS HN HMM hfin _ _ _ _ _ _ _ _ _ _ _ _ _ _ _ _ _ (hF.out.add1 b2 (Nat.le_trans hw.size hS.2.2.size) n2) hS2 _ (by kernel_rfl)
  refine AllReadyH.cons (o := { dst := some 13, op := Go.Op.makeSlice 44 (Go.Operand.tmp 12) (Go.Operand.tmp 12), type := 44, pos := "plan.go:28", after := #[{ on := 4, ground := Go.Ground.data }, { on := 4, ground := Go.Ground.data }], guard := none }) rfl (fun Kx hK => ?_) ?_
  · have hrun := (HS.out W).1
    rw [if_pos (by rfl)]
    go_simp
    refine hK.out _ _ (keptN_step hS (HS.out W).2.2) (fun hS2 => ?_)
    clear hK Kx hrun
    try simp only [Act.put, List.setIfInBounds_toArray, List.set_cons_zero, List.set_cons_succ]
    exact nw_01000 w w1 m af ai cf ci mkS mkN mkM Q s0 s1 s2 s3 s4 s5 s6 s7 t10 t11 t14 t15 ds hw hm1 hl h16 HS HN HMM hfin _ _ _ _ _ _ _ _ _ _ _ _ _ _ _ _ _ (hF.out.add5 (HS.out W).2.2 (Nat.le_trans hw.size hS.2.2.size) (HS.out W).2.1) hS2 _ (by kernel_rfl)
  refine AllReadyH.cons (o := { dst := some 17, op := Go.Op.makeSlice 44 (Go.Operand.tmp 16) (Go.Operand.tmp 16), type := 44, pos := "plan.go:28", after := #[{ on := 8, ground := Go.Ground.data }, { on := 8, ground := Go.Ground.data }], guard := none }) rfl (fun Kx hK => ?_) ?_
  · have hrun := (HN.out W).1
    rw [if_pos (by rfl)]
    go_simp
    refine hK.out _ _ (keptN_step hS (HN.out W).2.2) (fun hS2 => ?_)
    clear hK Kx hrun
    try simp only [Act.put, List.setIfInBounds_toArray, List.set_cons_zero, List.set_cons_succ]
    exact nw_00100 w w1 m af ai cf ci mkS mkN mkM Q s0 s1 s2 s3 s4 s5 s6 s7 t10 t11 t14 t15 ds hw hm1 hl h16 HS HN HMM hfin _ _ _ _ _ _ _ _ _ _ _ _ _ _ _ _ _ (hF.out.add9 (HN.out W).2.2 (Nat.le_trans hw.size hS.2.2.size) (HN.out W).2.1) hS2 _ (by kernel_rfl)
  refine AllReadyH.cons (o := { dst := some 18, op := Go.Op.makeMap 56 none, type := 56, pos := "plan.go:28", after := #[], guard := none }) rfl (fun Kx hK => ?_) ?_
  · have hrun := (HMM.out W).1
    rw [if_pos (by rfl)]
    go_simp
    refine hK.out _ _ (keptN_step hS (HMM.out W).2.2) (fun hS2 => ?_)
    clear hK Kx hrun
    try simp only [Act.put, List.setIfInBounds_toArray, List.set_cons_zero, List.set_cons_succ]
    exact nw_00010 w w1 m af ai cf ci mkS mkN mkM Q s0 s1 s2 s3 s4 s5 s6 s7 t10 t11 t14 t15 ds hw hm1 hl h16 HS HN HMM hfin _ _ _ _ _ _ _ _ _ _ _ _ _ _ _ _ _ (hF.out.add10 (HMM.out W).2.2 (Nat.le_trans hw.size hS.2.2.size) (HMM.out W).2.1) hS2 _ (by kernel_rfl)
  exact AllReadyH.nil
end
end Go.Proofs.YtpipjkbgbhefcaaGreat
