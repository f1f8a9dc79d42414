/-
  A case that a law has made.
-/
import Derived.Test.YtpipjkbgbhefcaaGreatCNew
import Derived.Test.YtpipjkbgbhefcaaGreatCDo
set_option linter.unusedSimpArgs false
set_option linter.unusedVariables false
namespace Go.Proofs.YtpipjkbgbhefcaaGreat
open Go.RowKit
open Qp
set_option maxRecDepth 100000
theorem own_low {w : World} {H H' : Nat} {e : TypeId} {z : Nat} {v : Value} {n : Nat} {xs : List Value} (h : w.ownsRow H e z v n xs) (hH : H' ≤ H) : w.ownsRow H' e z v n xs := by
  obtain ⟨h1, h2⟩ := h
  refine ⟨h1, ?_⟩
  rcases h2 with h2 | ⟨g, cap, cur, a1, a2, a3⟩
  · exact .inl h2
  · exact .inr ⟨g, cap, cur, a1, Nat.le_trans hH a2, a3⟩
theorem CIn.lowH {w : World} {H H' : Nat} {K : Kc} {m : Mp.Model} {v : Value} {L : List Thing} {N : Nat} {st : Cp.St} (h : CIn w H K m v L N st) (hH : H' ≤ H) : CIn w H' K m v L N st :=
  ⟨h.box, h.model, h.ss, h.nn, h.map, ⟨⟨h.q.q.box, own_low h.q.q.row hH, h.q.q.few, Nat.le_trans hH h.q.q.low⟩, h.q.heap⟩, h.apart, h.zone, h.zhi, ⟨Nat.le_trans hH h.low.1, Nat.le_trans hH h.low.2.1, Nat.le_trans hH h.low.2.2.1, Nat.le_trans hH h.low.2.2.2⟩, h.ns, h.nf⟩
/-- A case that was made since the world w0. -/
def Lc (w0 w : World) (K : Kc) (m : Mp.Model) (st : Cp.St) : Prop := ∃ (v : Value) (L : List Thing) (N : Nat), CAll w w0.heap.size K m v L N st noP ∧ Below w0.heap.size w0 w
section
variable {w0 w w' : World} {K : Kc} {m : Mp.Model} {st : Cp.St}
theorem Lc.base (h : Lc w0 w K m st) : Below w0.heap.size w0 w := by
  obtain ⟨v, L, N, ha, hb⟩ := h
  exact hb
theorem Lc.below (h : Lc w0 w K m st) (b : Below w.heap.size w w') : Lc w0 w' K m st := by
  obtain ⟨v, L, N, ha, hb⟩ := h
  exact ⟨v, L, N, ha.below b, hb.trans (b.mono hb.size)⟩
theorem Lc.do (h : Lc w0 w K m st) (hnow : st.now < 1000000000000) (a : Cp.ActP) (r : Int) (st' : Cp.St) (hp : Hid (Cp.doP m st a = (r, st'))) :
    Calls Tryz.prog 14 #[cP K, actV a] w fun e w' => e = .returned (.int .i64 r) ∧ Lc w0 w' K m st' := by
  obtain ⟨v, L, N, ha, hb⟩ := h
  refine (doD ha hb.size hnow a).mono ?_
  rintro e w' ⟨rfl, v', L', N', T⟩
  rw [hp.out] at T
  refine ⟨by rw [hp.out], v', L', N', T.a, ?_⟩
  exact ⟨T.keep.os.trans hb.os, T.keep.tape.trans hb.tape, T.keep.output.trans hb.output, Nat.le_trans hb.size T.keep.size, fun i hi => by
    rw [T.keep.block i (Nat.lt_of_lt_of_le hi hb.size) (fun e => by have := (ha.c.lt e).2; omega)]
    exact hb.block i hi⟩
theorem Lc.state (h : Lc w0 w K m st) (s : ByteArray) (x : Int) (hx : Hid (Cp.stateN m st s = x)) :
    Calls Tryz.prog 18 #[cP K, .string s] w fun e w' => e = .returned (.int .i64 x) ∧ Lc w0 w' K m st := by
  have h' := h
  obtain ⟨v, L, N, ha, hb⟩ := h
  refine (stateD ha.c s).mono ?_
  rintro e w' ⟨rfl, b⟩
  exact ⟨by rw [hx.out], h'.below b⟩
theorem Lc.file (h : Lc w0 w K m st) (s : ByteArray) (x : Int) (hx : Hid (Cp.fileN m st s = x)) :
    Calls Tryz.prog 29 #[cP K, .string s] w fun e w' => e = .returned (.int .i64 x) ∧ Lc w0 w' K m st := by
  have h' := h
  obtain ⟨v, L, N, ha, hb⟩ := h
  refine (fileD ha.c s).mono ?_
  rintro e w' ⟨rfl, hw⟩
  exact ⟨by rw [hx.out], by rw [hw]; exact h'⟩
theorem Lc.now (h : Lc w0 w K m st) : Calls Tryz.prog 26 #[cP K] w fun e w' => e = .returned (.int .i64 st.now) ∧ Lc w0 w' K m st := by
  have h' := h
  obtain ⟨v, L, N, ha, hb⟩ := h
  refine (nowD ha.c).mono ?_
  rintro e w' ⟨rfl, hw⟩
  exact ⟨rfl, by rw [hw]; exact h'⟩
theorem Lc.new (h0 : Below w0.heap.size w0 w) (m : Mp.Model) (af ai : Option Addr) (cf ci : Nat) (hm : ModelAt w af cf ai ci m) (hl : light m) (hb : Mp.isB m = true) (nf ni : Nat) (e1 : m.files.length = nf) (e2 : m.items.length = ni) (s : Cp.St) (hs : Hid (Cp.newP m = s)) :
    Calls Tryz.prog 10 #[.agg #[.slice af nf cf, .slice ai ni ci]] w fun e w' => ∃ K, e = .returned (.tuple #[cP K, .int .i64 0]) ∧ Lc w0 w' K m s := by
  subst e1
  subst e2
  refine (newD w m af ai cf ci hm hl hb).mono ?_
  rintro e w' ⟨K, v, L, N, rfl, ha, hbb⟩
  rw [hs.out] at ha
  exact ⟨K, rfl, v, L, N, ⟨ha.c.lowH h0.size, ha.good, ha.few, ha.tq, ha.clock, ha.ok⟩, h0.trans (hbb.mono h0.size)⟩
end
/-! ### The law's own 'known' -/
abbrev bT : ByteArray := ⟨#[116]⟩
abbrev bP : ByteArray := ⟨#[112]⟩
def kM : Mp.Model := ⟨[], [⟨bP, 1, Mp.e0, false, 0, [], []⟩, ⟨bT, 2, bP, false, 0, [], []⟩]⟩
def kS1 : Cp.St := Cp.newP kM
def kA1 : Cp.ActP := ⟨1, bT, 3, Mp.e0, 0⟩
def kA2 : Cp.ActP := ⟨3, Mp.e0, 0, Mp.e0, 0⟩
def kS2 : Cp.St := (Cp.doP kM kS1 kA1).2
theorem k_is : Mp.isB kM = true := by kernel_rfl
theorem k_t1 : Cp.stateN kM kS1 bT = 2 := by kernel_rfl
theorem k_p1 : Cp.stateN kM kS1 bP = 2 := by kernel_rfl
theorem k_d1 : (Cp.doP kM kS1 kA1).1 = 0 := by kernel_rfl
theorem k_t2 : Cp.stateN kM kS2 bT = 3 := by kernel_rfl
theorem k_p2 : Cp.stateN kM kS2 bP = 3 := by kernel_rfl
theorem k_d2 : (Cp.doP kM kS2 kA2).1 = 9 := by kernel_rfl
theorem k_n1 : kS1.now = 0 := by kernel_rfl
theorem k_n2 : kS2.now = 0 := by kernel_rfl
set_option maxHeartbeats 8000000 in
theorem known9 (w : World) : Calls Tryz.prog 12 #[] w fun e w' => e = .returned (.bool true) ∧ Below w.heap.size w w' := by
  obtain ⟨W, hW⟩ : ∃ W, w.alloc (.cells #[.string bP, .int .i64 1, .string ⟨#[]⟩, .bool false, .int .i64 0, .slice none 0 0, .slice none 0 0, .string bT, .int .i64 2, .string bP, .bool false, .int .i64 0, .slice none 0 0, .slice none 0 0] 48) = W := ⟨_, rfl⟩
  obtain ⟨B1, L1, z1⟩ := of_alloc hW
  have HM : Hid (ModelAt W none 0 (some ⟨w.heap.size, 0, none⟩) 2 kM) := ⟨rowR_nil W, irow_bare (H := 0) (own_of_lies (z := 7) (n := 2) L1 (Nat.zero_le _) rfl (by decide)) rfl (by decide) (fun x hx => by
    simp only [kM, List.mem_cons, List.mem_nil_iff, or_false] at hx
    rcases hx with rfl | rfl <;> exact ⟨by decide, by decide, rfl, rfl⟩)⟩
  have HB := hideT B1
  clear B1 L1 z1
  go_enter Tryz.func12, Tryz.ntmps12
  go_wp2_with fail
  refine (Lc.new HB.out kM none _ 0 2 HM.out ⟨by decide, by decide, fun x hx => ?_⟩ k_is 0 2 rfl rfl kS1 rfl).mono ?_
  · simp only [kM, List.mem_cons, List.mem_nil_iff, or_false] at hx
    rcases hx with rfl | rfl <;> exact ⟨by decide, by decide, fun s hs => (by cases hs), fun s hs => (by cases hs)⟩
  rintro e w1 ⟨K, rfl, c1⟩
  have C1 := hideT c1
  clear c1 hW
  go_wp2_with fail
  refine (C1.out.state bT 2 k_t1).mono ?_
  rintro e w2 ⟨rfl, c2⟩
  have C2 := hideT c2
  clear c2
  go_wp2_with fail
  refine (C2.out.state bP 2 k_p1).mono ?_
  rintro e w3 ⟨rfl, c3⟩
  have C3 := hideT c3
  clear c3
  go_wp2_with fail
  refine (C3.out.do (by rw [k_n1]; decide) kA1 0 kS2 (Prod.ext k_d1 rfl)).mono ?_
  rintro e w4 ⟨rfl, c4⟩
  have C4 := hideT c4
  clear c4
  go_wp2_with fail
  refine (C4.out.state bT 3 k_t2).mono ?_
  rintro e w5 ⟨rfl, c5⟩
  have C5 := hideT c5
  clear c5
  go_wp2_with fail
  refine (C5.out.state bP 3 k_p2).mono ?_
  rintro e w6 ⟨rfl, c6⟩
  have C6 := hideT c6
  clear c6
  go_wp2_with fail
  refine (C6.out.do (by rw [k_n2]; decide) kA2 9 _ (Prod.ext k_d2 rfl)).mono ?_
  rintro e w7 ⟨rfl, c7⟩
  have C7 := hideT c7
  clear c7
  go_wp2_with fail
  go_ret
  exact ⟨rfl, C7.out.base⟩
end Go.Proofs.YtpipjkbgbhefcaaGreat
