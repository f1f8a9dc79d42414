/-
  How all is ahead of the first round. (Written by GFirst.py.)
-/
import Derived.Test.YtkjekohncfhbiaaPartH
import Derived.Test.YtkjekohncfhbiaaPartM
import Derived.Deep.CutRange
set_option linter.unusedSimpArgs false
set_option linter.unusedVariables false
namespace Go.Proofs.Ytkjekohncfhbiaa
open Go.RowKit
set_option maxRecDepth 100000
theorem act_of {a : Act} {n : Nat} (hs : a.tmps.size = n) (hd : a.defers = []) : a = { tmps := (List.ofFn (n := n) fun i => a.eval (.tmp i)).toArray, defers := [] } := by
  obtain ⟨t, d⟩ := a
  dsimp only at hs hd
  subst hd
  have h : t = (List.ofFn (n := n) fun i : Fin n => Act.eval ⟨t, []⟩ (.tmp i)).toArray := by
    apply Array.ext
    · simp [hs]
    · intro i h1 h2
      simp [Act.eval, Array.getD_eq_getD_getElem?, h1]
  exact congrArg (fun q => ({ tmps := q, defers := [] } : Act)) h
section
variable (bb V0 F N C : Nat) (fl : Int) (v5 v7 : Value)
/-- What each slot of the region holds. -/
def SpecF : Nat → Value → World → Prop
  | 0, v, _ => v = .pointer (some ⟨bb, 0, none⟩)
  | 1, v, _ => v = .int .i64 fl
  | 2, v, w => ∃ b, v = sl b F ∧ FlagR w b (List.replicate F false) ∧ V0 ≤ b
  | 3, v, _ => v = .pointer (some ⟨bb, 5, none⟩)
  | 4, v, _ => v = v5
  | 5, v, _ => v = .int .i64 (N : Int)
  | 6, v, w => ∃ b, v = sl b N ∧ IntR w b (List.replicate N 0) ∧ V0 ≤ b
  | 7, v, _ => v = .pointer (some ⟨bb, 7, none⟩)
  | 8, v, _ => v = v7
  | 9, v, _ => v = .int .i64 (C : Int)
  | 10, v, w => ∃ b, v = sl b C ∧ IntR w b (List.replicate C 0) ∧ V0 ≤ b
  | 11, v, w => ∃ f n c, v = .agg (stC f n c F N C) ∧ NewS w V0 f n c F N C ⟨List.replicate F false, List.replicate N 0, List.replicate C 0⟩
  | _, v, w => ∃ ob, v = .pointer (some ⟨ob, 0, none⟩) ∧ Lies w ob 72 #[.slice none 0 0, .slice none 0 0, .slice none 0 0] ∧ V0 ≤ ob
theorem SpecF_st {k : Nat} {v : Value} {w w' : World} (h : SpecF bb V0 F N C fl v5 v7 k v w) (b : Below w.heap.size w w') : SpecF bb V0 F N C fl v5 v7 k v w' :=
  match k, h with
  | 0, h => h
  | 1, h => h
  | 2, ⟨q, h1, h2, h3⟩ => ⟨q, h1, h2.below b, h3⟩
  | 3, h => h
  | 4, h => h
  | 5, h => h
  | 6, ⟨q, h1, h2, h3⟩ => ⟨q, h1, h2.below b, h3⟩
  | 7, h => h
  | 8, h => h
  | 9, h => h
  | 10, ⟨q, h1, h2, h3⟩ => ⟨q, h1, h2.below b, h3⟩
  | 11, ⟨f, n, c, h1, h2⟩ => ⟨f, n, c, h1, h2.below b⟩
  | k + 12, ⟨q, h1, h2, h3⟩ => ⟨q, h1, h2.below b, h3⟩
end
/-- The two rows of numbers lie apart. -/
def RelF (j k : Nat) (u v : Value) : Prop := (j = 6 ∧ k = 10) ∨ (j = 10 ∧ k = 6) → ∀ b c m n, u = sl b m → v = sl c n → b ≠ c
theorem rel_none {j k : Nat} {u v : Value} (hk : k ≠ 6) (hk2 : k ≠ 10) : RelF j k u v ∧ RelF k j v u := ⟨fun h => by omega, fun h => by omega⟩
theorem sl_inj {b c m n : Nat} (h : sl b m = sl c n) : b = c := by
  simp only [sl, Value.slice.injEq, Option.some.injEq, Addr.mk.injEq] at h
  exact h.1.1
theorem flagr_new (u : World) (F : Nat) : FlagR (u.alloc (.cells (Array.replicate F (Value.bool false)) 4)) u.heap.size (List.replicate F false) := by
  have h := Lies.new u 4 (Array.replicate F (Value.bool false))
  unfold FlagR
  rw [show ((List.replicate F false).map Value.bool).toArray = Array.replicate F (Value.bool false) by simp]
  exact h
theorem intr_new (u : World) (F : Nat) : IntR (u.alloc (.cells (Array.replicate F (Value.int .i64 0)) 3)) u.heap.size (List.replicate F 0) := by
  have h := Lies.new u 3 (Array.replicate F (Value.int .i64 0))
  unfold IntR
  rw [show ((List.replicate F (0 : Int)).map (Value.int .i64)).toArray = Array.replicate F (Value.int .i64 0) by simp]
  exact h
theorem rel_new {V0 : Nat} {x : Value} {u : World} {k m : Nat} {l : List Int} (hs : ∃ b, x = sl b m ∧ IntR u b l ∧ V0 ≤ b) : ∀ b c m' n', x = sl b m' → sl u.heap.size k = sl c n' → b ≠ c := by
  obtain ⟨b0, hx, hi, _⟩ := hs
  intro b c m' n' h1 h2 e
  have e1 := sl_inj (hx.symm.trans h1)
  have e2 := sl_inj h2
  have := Lies.lt hi
  omega
theorem rel_new' {V0 : Nat} {x : Value} {u : World} {k m : Nat} {l : List Int} (hs : ∃ b, x = sl b m ∧ IntR u b l ∧ V0 ≤ b) : ∀ b c m' n', sl u.heap.size k = sl b m' → x = sl c n' → b ≠ c := fun b c m' n' h1 h2 e => rel_new hs c b n' m' h2 h1 e.symm
set_option maxHeartbeats 32000000 in
theorem firstD (w : World) (A : PA) (p : Rp.Prog) (h : ProgAt w A p) (is : Rp.IsP p) (sm : Gp.SmallP p) :
    Calls Try.prog 24 #[.agg #[.int .i64 p.flags, .int .i64 p.lasting, .slice A.a2 p.first.length A.c2, .slice A.a3 p.over.length A.c3, .int .i64 p.frm, .slice A.a5 p.files.length A.c5, .slice A.a6 p.rules.length A.c6, .slice A.a7 p.ctrs.length A.c7, .slice A.a8 p.users.length A.c8, .slice A.a9 p.notes.length A.c9]] w (fun e w' => ∃ f n c, e = .returned (.agg (stC f n c p.flags.toNat p.files.length p.ctrs.length)) ∧ NewS w' w.heap.size f n c p.flags.toNat p.files.length p.ctrs.length ⟨Gp.firstF p, List.replicate p.files.length 0, List.replicate p.ctrs.length 0⟩ ∧ Below w.heap.size w w') := by
  obtain ⟨a2, c2, a3, c3, a5, c5, a6, c6, a7, c7, a8, c8, a9, c9⟩ := A
  show Calls _ _ #[.agg #[.int .i64 p.flags, .int .i64 p.lasting, .slice a2 p.first.length c2, .slice a3 p.over.length c3, .int .i64 p.frm, .slice a5 p.files.length c5, .slice a6 p.rules.length c6, .slice a7 p.ctrs.length c7, .slice a8 p.users.length c8, .slice a9 p.notes.length c9]] w _
  obtain ⟨V, hV, BV, LA, LR, VS⟩ := boxes2 w 29 72 #[.int .i64 p.flags, .int .i64 p.lasting, .slice a2 p.first.length c2, .slice a3 p.over.length c3, .int .i64 p.frm, .slice a5 p.files.length c5, .slice a6 p.rules.length c6, .slice a7 p.ctrs.length c7, .slice a8 p.users.length c8, .slice a9 p.notes.length c9] #[.slice none 0 0, .slice none 0 0, .slice none 0 0]
  obtain ⟨F, hF⟩ : ∃ F : Nat, p.flags = F := ⟨p.flags.toNat, by have := is.1.1; have := is.1.2.1; omega⟩
  have hFt : p.flags.toNat = F := by omega
  obtain ⟨N, hN⟩ : ∃ N, p.files.length = N := ⟨_, rfl⟩
  obtain ⟨C, hC⟩ : ∃ C, p.ctrs.length = C := ⟨_, rfl⟩
  have hF8 : F ≤ 800 := by have := is.1.2.2.1; omega
  have hN6 : N ≤ 6 := by rw [← hN]; exact is.2.2.1.1
  have hC3 : C ≤ 3000 := by rw [← hC]; exact sm.ctrs
  obtain ⟨i1, hi1, hz1, hy1, hx1⟩ := info_parts infoC_B
  obtain ⟨i2, hi2, hz2, hy2, hx2⟩ := info_parts infoC_I
  have hm1 : ∀ n, madeCells (Value.bool false).cells n = ((List.replicate n false).map Value.bool).toArray := fun n => by
    apply Array.ext'
    rw [show (Value.bool false).cells = #[.bool false] from rfl, toList_madeCells_one, List.map_replicate]
  have hm2 : ∀ n, madeCells (Value.int .i64 0).cells n = ((List.replicate n (0 : Int)).map (Value.int .i64)).toArray := fun n => by
    apply Array.ext'
    rw [show (Value.int .i64 0).cells = #[.int .i64 0] from rfl, toList_madeCells_one, List.map_replicate]
  have hr1 : ∀ u : World, (Instr.makeSlice 47 (.int .i64 p.flags) (.int .i64 p.flags)).run Try.prog u = .ok (.slice (some ⟨u.heap.size, 0, none⟩) F F) (u.alloc (.cells ((List.replicate F false).map Value.bool).toArray 4)) := fun u => by
    have hr := run_make (P := Try.prog) u 47 4 i1 _ Try.underlying47 hi1 hz1 .i64 .i64 F F (by omega) (Int.le_refl _) (by rw [hx1]; omega) (by omega)
    simp only [Int.toNat_natCast, hy1, Nat.mul_one, hm1] at hr
    rw [hF]
    exact hr
  have hr2 : ∀ (n : Nat) (hn : n ≤ 3000) (u : World), (Instr.makeSlice 22 (.int .i64 (n : Int)) (.int .i64 (n : Int))).run Try.prog u = .ok (.slice (some ⟨u.heap.size, 0, none⟩) n n) (u.alloc (.cells ((List.replicate n (0 : Int)).map (Value.int .i64)).toArray 3)) := fun n hn u => by
    have hr := run_make (P := Try.prog) u 22 3 i2 _ Try.underlying22 hi2 hz2 .i64 .i64 n n (by omega) (Int.le_refl _) (by rw [hx2]; omega) (by omega)
    simp only [Int.toNat_natCast, hy2, Nat.mul_one, hm2] at hr
    exact hr
  have hrN := hr2 N (by omega)
  have hrC := hr2 C hC3
  rw [hN, hC, hFt]
  have HLA : Hid (Lies V w.heap.size 29 #[.int .i64 p.flags, .int .i64 p.lasting, .slice a2 p.first.length c2, .slice a3 p.over.length c3, .int .i64 p.frm, .slice a5 N c5, .slice a6 p.rules.length c6, .slice a7 C c7, .slice a8 p.users.length c8, .slice a9 p.notes.length c9]) := by
    show Lies _ _ _ _
    rw [← hN, ← hC]
    exact LA
  have HLR := hideT LR
  have HB := hideT BV
  have HVS := hideT VS
  have HV : Hid ((w.alloc (.cells #[.int .i64 p.flags, .int .i64 p.lasting, .slice a2 p.first.length c2, .slice a3 p.over.length c3, .int .i64 p.frm, .slice a5 N c5, .slice a6 p.rules.length c6, .slice a7 C c7, .slice a8 p.users.length c8, .slice a9 p.notes.length c9] 29)).alloc (.cells #[.slice none 0 0, .slice none 0 0, .slice none 0 0] 72) = V) := by
    show _ = _
    rw [← hN, ← hC]
    exact hV
  have HFI := hideT (show ZRow V (.slice a2 p.first.length c2) p.first from (h.below BV).first)
  have HRS := hideT is.1.2.2.2.1
  have HLF := hideT (show p.lasting ≤ (F : Int) by have := is.1.2.1; omega)
  have HFT : Hid (Gp.firstF p = p.first.foldl Gp.upF (List.replicate F false)) := by show _ = _; unfold Gp.firstF; rw [hFt]
  clear h is sm LA LR BV VS hV hi1 hz1 hy1 hx1 hi2 hz2 hy2 hx2 hm1 hm2 hr2 hF hFt hN hC
  go_enter Try.func24, Try.ntmps24
  go_upto_region 1 with fail
  rw [HV.out]
  refine wp_region_storeB (by kernel_rfl) [6, 7, 8, 9, 10, 11, 12, 13, 14, 15, 16, 17, 3] 13 (by kernel_rfl) (SpecF w.heap.size V.heap.size F N C p.flags (.slice a5 N c5) (.slice a7 C c7)) RelF (fun a u => a.defers = [] ∧ a.tmps.size = 31 ∧ a.eval (.tmp 0) = .agg #[.int .i64 p.flags, .int .i64 p.lasting, .slice a2 p.first.length c2, .slice a3 p.over.length c3, .int .i64 p.frm, .slice a5 N c5, .slice a6 p.rules.length c6, .slice a7 C c7, .slice a8 p.users.length c8, .slice a9 p.notes.length c9] ∧ a.eval (.tmp 1) = .pointer (some ⟨w.heap.size, 0, none⟩) ∧ a.eval (.tmp 2) = .pointer (some ⟨w.heap.size + 1, 0, none⟩) ∧ ∃ f n c ob, a.eval (.tmp 3) = .pointer (some ⟨ob, 0, none⟩) ∧ Lies u ob 72 (stC f n c F N C) ∧ NewS u V.heap.size f n c F N C ⟨List.replicate F false, List.replicate N 0, List.replicate C 0⟩ ∧ V.heap.size ≤ ob ∧ Below V.heap.size V u) (fun k v w w' hs hb => SpecF_st _ _ _ _ _ _ _ _ hs hb) ?_ ?_ ?_
  · intro k o a u hk ho hBu hL hS hR K hK
    match k, hk, ho with
    | 0, _, ho =>
      obtain rfl : o = { dst := some 6, op := Go.Op.fieldAddr 29 (Go.Operand.tmp 1) 0, type := 0, pos := "rounds.go:20", after := #[], guard := none } := (Option.some.inj ho).symm
      have l1 := hL 1 (by decide)
      simp only [Act.eval, Array.getD_eq_getD_getElem?] at l1
      have HK := hideT hK
      clear hK hS hR hL
      go_simp
      exact HK.out _ _ rfl (Below.refl _ _) (fun j x _ _ _ => rel_none (by decide) (by decide))
    | 1, _, ho =>
      obtain rfl : o = { dst := some 7, op := Go.Op.load 3 (Go.Operand.tmp 6), type := 3, pos := "rounds.go:20", after := #[{ on := 0, ground := Go.Ground.data }], guard := none } := (Option.some.inj ho).symm
      have s0 : a.eval (.tmp 6) = .pointer (some ⟨w.heap.size, 0, none⟩) := hS ⟨0, .data⟩ (by simp) (by rfl)
      simp only [Act.eval, Array.getD_eq_getD_getElem?] at s0
      have y : u.cell? ⟨w.heap.size, 0, none⟩ = some (.int .i64 p.flags) := (HLA.out.below hBu).cell 0
      have HK := hideT hK
      clear hK hS hR hL
      go_simp
      exact HK.out _ _ rfl (Below.refl _ _) (fun j x _ _ _ => rel_none (by decide) (by decide))
    | 2, _, ho =>
      obtain rfl : o = { dst := some 8, op := Go.Op.makeSlice 47 (Go.Operand.tmp 7) (Go.Operand.tmp 7), type := 47, pos := "rounds.go:20", after := #[{ on := 1, ground := Go.Ground.data }, { on := 1, ground := Go.Ground.data }], guard := none } := (Option.some.inj ho).symm
      have s1 : a.eval (.tmp 7) = .int .i64 p.flags := hS ⟨1, .data⟩ (by simp) (by rfl)
      simp only [Act.eval, Array.getD_eq_getD_getElem?] at s1
      have HK := hideT hK
      clear hK hS hR hL
      go_simp
      exact HK.out _ _ ⟨u.heap.size, rfl, flagr_new _ _, hBu.size⟩ ((Below.refl _ u).alloc (Nat.le_refl _) _) (fun j x _ _ _ => rel_none (by decide) (by decide))
    | 3, _, ho =>
      obtain rfl : o = { dst := some 9, op := Go.Op.fieldAddr 29 (Go.Operand.tmp 1) 5, type := 0, pos := "rounds.go:20", after := #[], guard := none } := (Option.some.inj ho).symm
      have l1 := hL 1 (by decide)
      simp only [Act.eval, Array.getD_eq_getD_getElem?] at l1
      have HK := hideT hK
      clear hK hS hR hL
      go_simp
      exact HK.out _ _ rfl (Below.refl _ _) (fun j x _ _ _ => rel_none (by decide) (by decide))
    | 4, _, ho =>
      obtain rfl : o = { dst := some 10, op := Go.Op.load 23 (Go.Operand.tmp 9), type := 23, pos := "rounds.go:20", after := #[{ on := 3, ground := Go.Ground.data }], guard := none } := (Option.some.inj ho).symm
      have s3 : a.eval (.tmp 9) = .pointer (some ⟨w.heap.size, 5, none⟩) := hS ⟨3, .data⟩ (by simp) (by rfl)
      simp only [Act.eval, Array.getD_eq_getD_getElem?] at s3
      have y : u.cell? ⟨w.heap.size, 5, none⟩ = some (.slice a5 N c5) := (HLA.out.below hBu).cell 5
      have HK := hideT hK
      clear hK hS hR hL
      go_simp
      exact HK.out _ _ rfl (Below.refl _ _) (fun j x _ _ _ => rel_none (by decide) (by decide))
    | 5, _, ho =>
      obtain rfl : o = { dst := some 11, op := Go.Op.call { callee := Go.Callee.builtin Go.Builtin.len, args := #[Go.Operand.tmp 10], argTypes := #[23] }, type := 3, pos := "rounds.go:20", after := #[{ on := 4, ground := Go.Ground.data }], guard := none } := (Option.some.inj ho).symm
      have s4 : a.eval (.tmp 10) = .slice a5 N c5 := hS ⟨4, .data⟩ (by simp) (by rfl)
      simp only [Act.eval, Array.getD_eq_getD_getElem?] at s4
      have HK := hideT hK
      clear hK hS hR hL
      go_simp
      exact HK.out _ _ rfl (Below.refl _ _) (fun j x _ _ _ => rel_none (by decide) (by decide))
    | 6, _, ho =>
      obtain rfl : o = { dst := some 12, op := Go.Op.makeSlice 22 (Go.Operand.tmp 11) (Go.Operand.tmp 11), type := 22, pos := "rounds.go:20", after := #[{ on := 5, ground := Go.Ground.data }, { on := 5, ground := Go.Ground.data }], guard := none } := (Option.some.inj ho).symm
      have s5 : a.eval (.tmp 11) = .int .i64 (N : Int) := hS ⟨5, .data⟩ (by simp) (by rfl)
      simp only [Act.eval, Array.getD_eq_getD_getElem?] at s5
      have HK := hideT hK
      clear hK hS hR hL
      go_simp
      exact HK.out _ _ ⟨u.heap.size, rfl, intr_new _ _, hBu.size⟩ ((Below.refl _ u).alloc (Nat.le_refl _) _) (fun j x hj hne hs => ⟨fun hc => (by obtain rfl : j = 10 := (by omega); exact rel_new hs), fun hc => (by obtain rfl : j = 10 := (by omega); exact rel_new' hs)⟩)
    | 7, _, ho =>
      obtain rfl : o = { dst := some 13, op := Go.Op.fieldAddr 29 (Go.Operand.tmp 1) 7, type := 0, pos := "rounds.go:20", after := #[], guard := none } := (Option.some.inj ho).symm
      have l1 := hL 1 (by decide)
      simp only [Act.eval, Array.getD_eq_getD_getElem?] at l1
      have HK := hideT hK
      clear hK hS hR hL
      go_simp
      exact HK.out _ _ rfl (Below.refl _ _) (fun j x _ _ _ => rel_none (by decide) (by decide))
    | 8, _, ho =>
      obtain rfl : o = { dst := some 14, op := Go.Op.load 25 (Go.Operand.tmp 13), type := 25, pos := "rounds.go:20", after := #[{ on := 7, ground := Go.Ground.data }], guard := none } := (Option.some.inj ho).symm
      have s7 : a.eval (.tmp 13) = .pointer (some ⟨w.heap.size, 7, none⟩) := hS ⟨7, .data⟩ (by simp) (by rfl)
      simp only [Act.eval, Array.getD_eq_getD_getElem?] at s7
      have y : u.cell? ⟨w.heap.size, 7, none⟩ = some (.slice a7 C c7) := (HLA.out.below hBu).cell 7
      have HK := hideT hK
      clear hK hS hR hL
      go_simp
      exact HK.out _ _ rfl (Below.refl _ _) (fun j x _ _ _ => rel_none (by decide) (by decide))
    | 9, _, ho =>
      obtain rfl : o = { dst := some 15, op := Go.Op.call { callee := Go.Callee.builtin Go.Builtin.len, args := #[Go.Operand.tmp 14], argTypes := #[25] }, type := 3, pos := "rounds.go:20", after := #[{ on := 8, ground := Go.Ground.data }], guard := none } := (Option.some.inj ho).symm
      have s8 : a.eval (.tmp 14) = .slice a7 C c7 := hS ⟨8, .data⟩ (by simp) (by rfl)
      simp only [Act.eval, Array.getD_eq_getD_getElem?] at s8
      have HK := hideT hK
      clear hK hS hR hL
      go_simp
      exact HK.out _ _ rfl (Below.refl _ _) (fun j x _ _ _ => rel_none (by decide) (by decide))
    | 10, _, ho =>
      obtain rfl : o = { dst := some 16, op := Go.Op.makeSlice 22 (Go.Operand.tmp 15) (Go.Operand.tmp 15), type := 22, pos := "rounds.go:20", after := #[{ on := 9, ground := Go.Ground.data }, { on := 9, ground := Go.Ground.data }], guard := none } := (Option.some.inj ho).symm
      have s9 : a.eval (.tmp 15) = .int .i64 (C : Int) := hS ⟨9, .data⟩ (by simp) (by rfl)
      simp only [Act.eval, Array.getD_eq_getD_getElem?] at s9
      have HK := hideT hK
      clear hK hS hR hL
      go_simp
      exact HK.out _ _ ⟨u.heap.size, rfl, intr_new _ _, hBu.size⟩ ((Below.refl _ u).alloc (Nat.le_refl _) _) (fun j x hj hne hs => ⟨fun hc => (by obtain rfl : j = 6 := (by omega); exact rel_new hs), fun hc => (by obtain rfl : j = 6 := (by omega); exact rel_new' hs)⟩)
    | 11, _, ho =>
      obtain rfl : o = { dst := some 17, op := Go.Op.build 72 #[(0, Go.Operand.tmp 8), (1, Go.Operand.tmp 12), (2, Go.Operand.tmp 16)], type := 72, pos := "rounds.go:20", after := #[{ on := 2, ground := Go.Ground.data }, { on := 6, ground := Go.Ground.data }, { on := 10, ground := Go.Ground.data }], guard := none } := (Option.some.inj ho).symm
      obtain ⟨f, ef, hf, lf⟩ := hS ⟨2, .data⟩ (by simp) (by rfl)
      obtain ⟨n, en, hn, ln⟩ := hS ⟨6, .data⟩ (by simp) (by rfl)
      obtain ⟨c, ec, hc, lc⟩ := hS ⟨10, .data⟩ (by simp) (by rfl)
      have hap := hR ⟨6, .data⟩ (by simp) ⟨10, .data⟩ (by simp) (by rfl) (by rfl) (by decide) (Or.inl ⟨rfl, rfl⟩) n c N C en ec
      have ef : a.eval (.tmp 8) = sl f F := ef
      have en : a.eval (.tmp 12) = sl n N := en
      have ec : a.eval (.tmp 16) = sl c C := ec
      simp only [Act.eval, Array.getD_eq_getD_getElem?] at ef en ec
      have HK := hideT hK
      clear hK hS hR hL
      go_simp
      exact HK.out _ _ ⟨f, n, c, rfl, hf, hn, hc, by simp, by simp, by simp, hap, lf, ln, lc⟩ (Below.refl _ _) (fun j x _ _ _ => rel_none (by decide) (by decide))
    | 12, _, ho =>
      obtain rfl : o = { dst := some 3, op := Go.Op.alloc 72, type := 0, pos := "rounds.go:20", after := #[], guard := none } := (Option.some.inj ho).symm
      have HK := hideT hK
      clear hK hS hR hL
      go_simp
      exact HK.out _ _ ⟨u.heap.size, rfl, Lies.new _ _ _, hBu.size⟩ ((Below.refl _ u).alloc (Nat.le_refl _) _) (fun j x _ _ _ => rel_none (by decide) (by decide))
  · intro o a u ho hd hsz hBu hL hS K hK
    obtain rfl : o = { dst := none, op := Go.Op.store 72 (Go.Operand.tmp 3) (Go.Operand.tmp 17), type := 0, pos := "rounds.go:20", after := #[{ on := 12, ground := Go.Ground.data }, { on := 11, ground := Go.Ground.data }, { on := 0, ground := Go.Ground.phase }, { on := 1, ground := Go.Ground.phase }, { on := 2, ground := Go.Ground.phase }, { on := 3, ground := Go.Ground.phase }, { on := 4, ground := Go.Ground.phase }, { on := 5, ground := Go.Ground.phase }, { on := 6, ground := Go.Ground.phase }, { on := 7, ground := Go.Ground.phase }, { on := 8, ground := Go.Ground.phase }, { on := 9, ground := Go.Ground.phase }, { on := 10, ground := Go.Ground.phase }, { on := 11, ground := Go.Ground.phase }, { on := 12, ground := Go.Ground.phase }], guard := none } := (Option.some.inj ho).symm
    obtain ⟨f, n, c, e11, hns⟩ := hS 11 (by decide)
    obtain ⟨ob, e12, hob, hol⟩ := hS 12 (by decide)
    have e11 : a.eval (.tmp 17) = .agg (stC f n c F N C) := e11
    have e12 : a.eval (.tmp 3) = .pointer (some ⟨ob, 0, none⟩) := e12
    have l0 := hL 0 (by decide)
    have l1 := hL 1 (by decide)
    have l2 := hL 2 (by decide)
    have m0 : u.cell? ⟨ob, 0, none⟩ = some (.slice none 0 0) := hob.cell 0
    have m1 : u.cell? ⟨ob, 1, none⟩ = some (.slice none 0 0) := hob.cell 1
    have m2 : u.cell? ⟨ob, 2, none⟩ = some (.slice none 0 0) := hob.cell 2
    have g0 : u.frozen? ⟨ob, 0, none⟩ = false := hob.free 0
    have g1 : u.frozen? ⟨ob, 1, none⟩ = false := hob.free 1
    have g2 : u.frozen? ⟨ob, 2, none⟩ = false := hob.free 2
    obtain ⟨X, hX⟩ : ∃ X, ((u.setCell ⟨ob, 0, none⟩ (sl f F)).setCell ⟨ob, 1, none⟩ (sl n N)).setCell ⟨ob, 2, none⟩ (sl c C) = X := ⟨_, rfl⟩
    have lX : Lies X ob 72 (stC f n c F N C) := by
      rw [← hX]
      exact ((hob.set 0 _).set 1 _).set 2 _
    have kX : Keep (fun k => k = ob) u X := by
      rw [← hX]
      have h1 : Keep (fun k => k = ob) u (u.setCell ⟨ob, 0, none⟩ (sl f F)) := Keep.set _ _ _ rfl
      exact (h1.trans (Keep.set _ _ _ rfl)).trans (Keep.set _ _ _ rfl)
    have hfin := hK X ⟨hd, hsz, l0, l1, l2, f, n, c, ob, e12, lX, hns.keep kX (lies_neG hns.fl hob (by decide)) (lies_neG hns.nums hob (by decide)) (lies_neG hns.cnts hob (by decide)), hol, Keep.below hBu kX (fun i hi e => by omega)⟩
    have HFN := hideT hfin
    clear hfin lX kX hns hob hS hL hK l0 l1 l2 hsz hd
    simp only [Act.eval, Array.getD_eq_getD_getElem?] at e11 e12
    go_simp
    try rw [hX]
    exact HFN.out
  · rintro a u ⟨hd, hsz, l0, l1, l2, f, n, c, ob, e12, lX, hns, hol, hBu⟩
    have hact := act_of hsz hd
    have hofn : (List.ofFn (n := 31) fun i => a.eval (.tmp i)) = [a.eval (.tmp 0), a.eval (.tmp 1), a.eval (.tmp 2), a.eval (.tmp 3), a.eval (.tmp 4), a.eval (.tmp 5), a.eval (.tmp 6), a.eval (.tmp 7), a.eval (.tmp 8), a.eval (.tmp 9), a.eval (.tmp 10), a.eval (.tmp 11), a.eval (.tmp 12), a.eval (.tmp 13), a.eval (.tmp 14), a.eval (.tmp 15), a.eval (.tmp 16), a.eval (.tmp 17), a.eval (.tmp 18), a.eval (.tmp 19), a.eval (.tmp 20), a.eval (.tmp 21), a.eval (.tmp 22), a.eval (.tmp 23), a.eval (.tmp 24), a.eval (.tmp 25), a.eval (.tmp 26), a.eval (.tmp 27), a.eval (.tmp 28), a.eval (.tmp 29), a.eval (.tmp 30)] := by first | rfl | (simp [List.ofFn_succ]; done)
    rw [hofn] at hact
    rw [hact, l0, l1, l2, e12]
    generalize a.eval (.tmp 4) = t4
    generalize a.eval (.tmp 5) = t5
    generalize a.eval (.tmp 6) = t6
    generalize a.eval (.tmp 7) = t7
    generalize a.eval (.tmp 8) = t8
    generalize a.eval (.tmp 9) = t9
    generalize a.eval (.tmp 10) = t10
    generalize a.eval (.tmp 11) = t11
    generalize a.eval (.tmp 12) = t12
    generalize a.eval (.tmp 13) = t13
    generalize a.eval (.tmp 14) = t14
    generalize a.eval (.tmp 15) = t15
    generalize a.eval (.tmp 16) = t16
    generalize a.eval (.tmp 17) = t17
    generalize a.eval (.tmp 18) = t18
    generalize a.eval (.tmp 19) = t19
    generalize a.eval (.tmp 20) = t20
    generalize a.eval (.tmp 21) = t21
    generalize a.eval (.tmp 22) = t22
    generalize a.eval (.tmp 23) = t23
    generalize a.eval (.tmp 24) = t24
    generalize a.eval (.tmp 25) = t25
    generalize a.eval (.tmp 26) = t26
    generalize a.eval (.tmp 27) = t27
    generalize a.eval (.tmp 28) = t28
    generalize a.eval (.tmp 29) = t29
    generalize a.eval (.tmp 30) = t30
    have HNS := hideT hns
    have HLX := hideT lX
    have HBU := hideT hBu
    have HOL : Hid (V.heap.size ≤ ob) := hol
    have HL1 := hideT (HLA.out.below hBu)
    clear hact hofn hd hsz l0 l1 l2 e12 lX hns hol hBu
    have x2 : u.cell? ⟨w.heap.size, 2, none⟩ = some (.slice a2 p.first.length c2) := HL1.out.cell 2
    have HFZ := hideT (zrow_at HFI.out)
    go_wp2_with fail
    clear x2
    go_loopw [21] (fun i wr => ∃ k : Nat, k ≤ p.first.length ∧ i = .int .i64 k ∧ Hid (Keep (fun j => j = f) u wr) ∧ Hid (FlagR wr f ((p.first.take k).foldl Gp.upF (List.replicate F false)))) (fun i _ => p.first.length - (intOf i).toNat)
    case atStart => exact ⟨0, by omega, rfl, Keep.refl _ _, HNS.out.fl⟩
    case round =>
      obtain ⟨k, hk, rfl, HK, HFL⟩ := hrel
      have hfl2 : f < u.heap.size := Lies.lt HNS.out.fl
      have HBK : Hid (Below V.heap.size V wr) := Keep.below HBU.out HK.out (fun i hi e => by have := HNS.out.low.1; omega)
      have HLK := hideT (HLX.out.keep HK.out (lies_neG HLX.out HNS.out.fl (by decide)))
      have z0 : wr.cell? ⟨ob, 0, none⟩ = some (.slice (some ⟨f, 0, none⟩) F F) := HLK.out.cell 0
      have HLEN : Hid (((p.first.take k).foldl Gp.upF (List.replicate F false)).length = F) := by show _ = _; rw [Gp.upF_len]; simp
      by_cases hlt : k < p.first.length
      · obtain ⟨x, hx⟩ := Mp.at_lt (l := p.first) (k := k) hlt
        obtain ⟨_, _, _, bs, os, has, hcs⟩ := HFZ.out
        have e0 := below_cell HBK.out _ _ (hcs k _ hx)
        obtain rfl := has (by omega)
        clear hcs
        have HX := hideT (Gp.upF_step (fl := List.replicate F false) hx)
        have hxi := (HRS.out k x hx).1
        obtain ⟨q, hq⟩ : ∃ q : Nat, x = q := ⟨x.toNat, by have := hxi.1; omega⟩
        subst hq
        have t0 : (0 : Int) ≤ (k : Int) := by omega
        have t1 : (k : Int) < (p.first.length : Int) := by omega
        have t2 : (0 : Int) ≤ (q : Int) := by omega
        have t3 : (q : Int) < (F : Int) := by have := hxi.2; have := HLF.out; omega
        have hfl := HFL.out
        have c0 : wr.cell? ⟨f, q, none⟩ = some (.bool (Gp.atB ((p.first.take k).foldl Gp.upF (List.replicate F false)) q)) := by
          have := hfl.at (f := (q : Int)) t2 (by rw [HLEN.out]; exact t3)
          rwa [show ((q : Int)).toNat = q by omega] at this
        have f0 : wr.frozen? ⟨f, q, none⟩ = false := Lies.free hfl q
        obtain ⟨X, hX⟩ : ∃ X, wr.setCell ⟨f, q, none⟩ (.bool true) = X := ⟨_, rfl⟩
        have KX : Keep (fun j => j = f) wr X := by
          rw [← hX]
          exact Keep.set _ _ _ rfl
        have FX : FlagR X f ((p.first.take (k + 1)).foldl Gp.upF (List.replicate F false)) := by
          rw [← hX, HX.out]
          have := hfl.set q true
          unfold Gp.upF
          rwa [show ((q : Int)).toNat = q by omega]
        have HKX := hideT (HK.out.trans KX)
        have HFX := hideT FX
        have HXX := hideT hX
        clear hx hxi hfl KX FX hX
        go_wp2_with fail
        rw [HXX.out]
        refine ⟨⟨k + 1, by omega, by go_num, HKX, HFX⟩, ?_⟩
        first | omega | (simp [intOf]; omega)
      · have hE := HFL.out
        rw [List.take_of_length_le (by omega)] at hE
        have HE := hideT hE
        have hLE := HLEN.out
        rw [List.take_of_length_le (by omega)] at hLE
        have HLE := hideT hLE
        have z1 : wr.cell? ⟨ob, 1, none⟩ = some (.slice (some ⟨n, 0, none⟩) N N) := HLK.out.cell 1
        have z2 : wr.cell? ⟨ob, 2, none⟩ = some (.slice (some ⟨c, 0, none⟩) C C) := HLK.out.cell 2
        have LR1 := HLR.out.below HBK.out
        have m0 : wr.cell? ⟨w.heap.size + 1, 0, none⟩ = some (.slice none 0 0) := LR1.cell 0
        have m1 : wr.cell? ⟨w.heap.size + 1, 1, none⟩ = some (.slice none 0 0) := LR1.cell 1
        have m2 : wr.cell? ⟨w.heap.size + 1, 2, none⟩ = some (.slice none 0 0) := LR1.cell 2
        have g0 : wr.frozen? ⟨w.heap.size + 1, 0, none⟩ = false := LR1.free 0
        have g1 : wr.frozen? ⟨w.heap.size + 1, 1, none⟩ = false := LR1.free 1
        have g2 : wr.frozen? ⟨w.heap.size + 1, 2, none⟩ = false := LR1.free 2
        obtain ⟨X, hX⟩ : ∃ X, ((wr.setCell ⟨w.heap.size + 1, 0, none⟩ (.slice (some ⟨f, 0, none⟩) F F)).setCell ⟨w.heap.size + 1, 1, none⟩ (.slice (some ⟨n, 0, none⟩) N N)).setCell ⟨w.heap.size + 1, 2, none⟩ (.slice (some ⟨c, 0, none⟩) C C) = X := ⟨_, rfl⟩
        have LX : Lies X (w.heap.size + 1) 72 (stC f n c F N C) := by
          rw [← hX]
          exact ((LR1.set 0 _).set 1 _).set 2 _
        have KX : Keep (fun k => k = w.heap.size + 1) wr X := by
          rw [← hX]
          have h1 : Keep (fun k => k = w.heap.size + 1) wr (wr.setCell ⟨w.heap.size + 1, 0, none⟩ (.slice (some ⟨f, 0, none⟩) F F)) := Keep.set _ _ _ rfl
          exact (h1.trans (Keep.set _ _ _ rfl)).trans (Keep.set _ _ _ rfl)
        have hvs := HVS.out
        have hlow := HNS.out.low
        have HNX : Hid (NewS X w.heap.size f n c F N C ⟨p.first.foldl Gp.upF (List.replicate F false), List.replicate N 0, List.replicate C 0⟩) := ⟨hE.keep KX (by omega), (HNS.out.nums.keep HK.out (fun e => flag_int_ne HNS.out.fl HNS.out.nums e.symm)).keep KX (by omega), (HNS.out.cnts.keep HK.out (fun e => flag_int_ne HNS.out.fl HNS.out.cnts e.symm)).keep KX (by omega), HLE.out, by simp, by simp, HNS.out.nc, by omega, by omega, by omega⟩
        have HBX := hideT (Keep.below (HB.out.trans (HBK.out.mono HB.out.size)) KX (fun i hi e => by omega))
        have HLX2 := hideT LX
        clear LX KX LR1 hE hLE hlow
        go_wp2_with fail
        try rw [hX]
        have r0 : X.cell? ⟨w.heap.size + 1, 0, none⟩ = some (.slice (some ⟨f, 0, none⟩) F F) := HLX2.out.cell 0
        have r1 : X.cell? ⟨w.heap.size + 1, 1, none⟩ = some (.slice (some ⟨n, 0, none⟩) N N) := HLX2.out.cell 1
        have r2 : X.cell? ⟨w.heap.size + 1, 2, none⟩ = some (.slice (some ⟨c, 0, none⟩) C C) := HLX2.out.cell 2
        refine bodyPost_ret (v := .agg (stC f n c F N C)) (by simp [results, Try.results24, go_sem, r0, r1, r2]) rfl ⟨_, _, _, rfl, ?_, HBX.out⟩
        rw [HFT.out]
        exact HNX.out
end Go.Proofs.Ytkjekohncfhbiaa
