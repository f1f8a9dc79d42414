/-
  A head; Pack.
-/
import Derived.Test.YtcfalhgcdffjoaaKAll
import Derived.Test.YtcfalhgcdffjoaaMLaw
import Derived.Lib.SlBytesConst
import Derived.Lib.BufferWrite
set_option linter.unusedSimpArgs false
set_option linter.unusedVariables false
namespace Go.Proofs.Ytcfalhgcdffjoaa
open Go.RowKit
set_option maxRecDepth 100000
theorem flatMap_len {α : Type} {f : α → List UInt8} {c : Nat} : ∀ {l : List α}, (∀ x ∈ l, (f x).length ≤ c) → (l.flatMap f).length ≤ l.length * c
  | [], _ => by simp
  | x :: l, h => by
    rw [List.flatMap_cons, List.length_append, List.length_cons, Nat.succ_mul]
    have h1 := h x List.mem_cons_self
    have h2 := flatMap_len (l := l) (fun y hy => h y (List.mem_cons_of_mem _ hy))
    omega
theorem sent_len (m : Mp.Model) (s : Mp.Sent) (h : Mp.sentB m s = true) : (Kp.sentW m s).length ≤ 154 := by
  unfold Mp.sentB Mp.onB Mp.ifB at h
  simp only [Bool.and_eq_true, decide_eq_true_eq] at h
  obtain ⟨⟨_, h1, _⟩, h2, _⟩ := h
  have e1 := flatMap_len (f := Kp.onW m) (c := 22) (l := s.1) (fun o _ => by
    unfold Kp.onW
    rw [List.length_append]
    have := num_len (Mp.placeZ m.items o.1)
    have := num_len o.2
    omega)
  have e2 := flatMap_len (f := Kp.condW m) (c := 33) (l := s.2) (fun c _ => by
    unfold Kp.condW
    rw [List.length_append, List.length_append]
    have := num_len (Kp.atZ m.files c.1)
    have := num_len (Kp.atZ Kp.opsL c.2.1)
    have := num_len (Kp.fold c.2.2)
    omega)
  have e3 := num_len s.1.length
  have e4 := num_len s.2.length
  unfold Kp.sentW
  rw [List.length_append, List.length_append, List.length_append]
  have e5 : s.1.length * 22 ≤ 3 * 22 := Nat.mul_le_mul_right _ h1
  have e6 : s.2.length * 33 ≤ 2 * 33 := Nat.mul_le_mul_right _ h2
  omega
theorem sents_len (m : Mp.Model) (l : List Mp.Sent) (h : Mp.sentsB m l = true) : (Kp.sentsW m l).length ≤ 500 := by
  unfold Mp.sentsB at h
  simp only [Bool.and_eq_true, decide_eq_true_eq] at h
  have e1 := flatMap_len (f := Kp.sentW m) (c := 154) (l := l) (fun s hs => sent_len m s (List.all_eq_true.1 h.2 s hs))
  have e2 := num_len l.length
  have e5 : l.length * 154 ≤ 3 * 154 := Nat.mul_le_mul_right _ h.1
  unfold Kp.sentsW
  rw [List.length_append]
  omega
theorem text_len (s : ByteArray) (h : s.size ≤ 12) : (Kp.text s).length ≤ 23 := by
  unfold Kp.text
  rw [List.length_append]
  have := num_len s.size
  have : s.data.toList.length = s.size := Array.length_toList
  omega
theorem body_len {m : Mp.Model} (G : Kp.Good m) : (Kp.body m).length ≤ 30000 := by
  have e1 := flatMap_len (f := Kp.text) (c := 23) (l := m.files) (fun s hs => text_len s (G.fz s hs).2)
  have e2 := flatMap_len (f := fun x : Mp.Item => Kp.text x.id) (c := 23) (l := m.items) (fun x hx => text_len x.id (G.ids x hx).2)
  have e3 := flatMap_len (f := Kp.itemW m) (c := 1100) (l := m.items) (fun x hx => by
    have F := G.fine x hx
    have := num_len x.kind
    have := num_len (Mp.placeZ m.items x.parent + 1)
    have := num_len (if x.req = true then 1 else 0)
    have := num_len x.ticks
    have := sents_len m _ F.entry
    have := sents_len m _ F.exit
    unfold Kp.itemW
    simp only [List.length_append]
    omega)
  have e4 := num_len ((m.files.length : Int) + m.items.length)
  have e5 := num_len m.files.length
  have e6 : m.files.length * 23 ≤ 6 * 23 := Nat.mul_le_mul_right _ G.files
  have e7 : m.items.length * 23 ≤ 16 * 23 := Nat.mul_le_mul_right _ G.items
  have e8 : m.items.length * 1100 ≤ 16 * 1100 := Nat.mul_le_mul_right _ G.items
  unfold Kp.body
  simp only [List.length_append]
  omega
theorem num_pos (n : Int) : 0 < (Kp.num n).length := by
  show 0 < (if 128 ≤ n then UInt8.ofNat ((n % 128).toNat + 128) :: Kp.numF 9 (n / 128) else [Kp.byte n]).length
  split <;> simp
theorem body_pos (m : Mp.Model) : 0 < (Kp.body m).length := by
  unfold Kp.body
  rw [List.length_append]
  have := num_pos ((m.files.length : Int) + m.items.length)
  omega
theorem sealed_len (l : List UInt8) : (Kp.sealed l).length = 8 + l.length := by
  unfold Kp.sealed
  rw [List.length_append, Kp.head_len]
theorem hd_cells (s : Nat) : Lib.byteCells (Kp.head s) = [.int .u8 83, .int .u8 78, .int .u8 84, .int .u8 49, .int .u8 ((s / 16777216 % 256 : Nat) : Int), .int .u8 ((s / 65536 % 256 : Nat) : Int), .int .u8 ((s / 256 % 256 : Nat) : Int), .int .u8 ((s % 256 : Nat) : Int)] := by
  unfold Kp.head Lib.byteCells
  simp only [List.map_cons, List.map_nil, UInt8.toNat_ofNat']
  rfl
theorem wpList_app {ops : Array Oper} {rest : List Oper} {o : Oper} {a : Act} {Q : Exit → Act → World → Prop} {w : World} (hgd : o.guard = none) (s x : Operand) (t : TypeId) (ho : o.op = .call { callee := .builtin .append, args := #[s, x], argTypes := #[t, t] }) (v xv : Value) (hs : a.eval s = v) (hx : a.eval x = xv) (v' : Value) (w' : World) (ty : TypeId) (hty : o.type = ty)
    (hr : (Builtin.append_ #[t, t] ty #[v, xv]).run Try.prog w = .ok v' w') (h : wpList Try.prog ops Q rest (a.put o.dst v') w') : wpList Try.prog ops Q (o :: rest) a w := by
  subst hty
  refine wpList_plain hgd fun K hK => ?_
  unfold Oper.wp execOp
  simp only [ho, resolve, invoke, builtin, Sem.run_bind, Sem.run_pure, Result.andThen_ok, List.map_toArray, List.map_cons, List.map_nil, hs, hx, hr]
  exact hK _ _ h
/-- Four bytes behind four, where there is no room. -/
theorem app_four (w : World) (a0 a1 : Addr) (xs ys : List Value) (hx : xs.length = 4) (hy : ys.length = 4) (h0 : ∀ j v, xs[j]? = some v → w.cell? (a0.add j) = some v) (h1 : ∀ j v, ys[j]? = some v → w.cell? (a1.add j) = some v) :
    ∃ (cap : Nat) (w' : World), (Builtin.append_ #[27, 27] 27 #[.slice (some a0) 4 4, .slice (some a1) 4 4]).run Try.prog w = .ok (.slice (some ⟨w.heap.size, 0, none⟩) 8 cap) w' ∧ w'.ownsRow w.heap.size 5 1 (.slice (some ⟨w.heap.size, 0, none⟩) 8 cap) 8 (xs ++ ys) ∧ Below w.heap.size w w' := by
  obtain ⟨i, hi, hz, hz1, hz2⟩ := info_parts infoB
  have hr := run_append_grow (P := Try.prog) w 27 27 5 i (.int .u8 0) Try.underlying27 hi hz a0 4 4 xs (by rw [hz1, hx]) h0 a1 4 4 ys (by rw [hz1, hy]) h1 (by decide) (by decide) (by rw [hz2]; decide)
  have hge := grownCap_ge w 8 4 5
  have hcm : grownCap w 8 4 5 ≤ maxLen := grownCap_le_maxLen w 8 4 5 (by unfold maxLen; decide)
  have hlen : (xs ++ ys).length = 8 * 1 := by rw [List.length_append, hx, hy]
  refine ⟨_, _, hr, ⟨hlen, .inr ⟨w.heap.size, _, _, rfl, Nat.le_refl _, heap_alloc_new w.drew _, hge, hcm, ?_, ?_⟩⟩, ⟨rfl, rfl, rfl, by simp, fun k hk => heap_alloc_old w.drew _ hk⟩⟩
  · simp only [Array.size_append, List.size_toArray, size_zeroCells, hx, hy]
    simp [Value.cells]
    omega
  · simp only [Array.toList_append, List.append_assoc]
    rw [← List.append_assoc, ← hlen]
    exact List.take_left
set_option maxHeartbeats 2000000 in
theorem withHeadD (w : World) (v : Value) (l : List UInt8) (h : BRow w v l) (h0 : 0 < l.length) (hl : l.length ≤ 1000000) :
    Calls Try.prog 22 #[v] w fun e w' => ∃ v', e = .returned v' ∧ w'.ownsRow w.heap.size 5 1 v' (Kp.sealed l).length (Lib.byteCells (Kp.sealed l)) ∧ Below w.heap.size w w' := by
  have HV := hideT h
  obtain ⟨b, o, ao, cap, rfl, h2, h3, h4, h5⟩ := h
  obtain rfl := h3 h0
  have HC := hideT h5
  obtain ⟨s, ES⟩ : ∃ s, Hid (Kp.sum l = s) := ⟨_, rfl⟩
  have hs : s < 4294967296 := by rw [← ES.out]; exact Kp.sum_lt l
  obtain ⟨i0, hi0, hz0, hz1, hz2⟩ := info_parts infoB
  clear h3 h5
  go_enter Try.func22, Try.ntmps22
  go_wp2_with fail
  refine (sumD w _ l HV.out s ES).mono ?_
  rintro e w1 ⟨rfl, rfl⟩
  have hcv := Lib.run_convert_bytes_const (P := Try.prog) w1 27 5 #[.int .u8 83, .int .u8 78, .int .u8 84, .int .u8 49] 4 4 Try.underlying27 Try.underlying5
  obtain ⟨X1, hX1⟩ : ∃ X1, w1.alloc (.cells #[.int .u8 83, .int .u8 78, .int .u8 84, .int .u8 49] 5 (4, 5)) = X1 := ⟨_, rfl⟩
  obtain ⟨X2, hX2⟩ : ∃ X2, X1.alloc (.cells #[.int .u8 ((s : Int) / 16777216), .int .u8 ((s : Int) / 65536 % 256), .int .u8 ((s : Int) / 256 % 256), .int .u8 ((s : Int) % 256)] 5) = X2 := ⟨_, rfl⟩
  have B1 : Below w1.heap.size w1 X1 := by rw [← hX1]; exact (Below.refl _ w1).alloc (Nat.le_refl _) _
  have z1 : X1.heap.size = w1.heap.size + 1 := by rw [← hX1]; simp
  have B2 : Below X1.heap.size X1 X2 := by rw [← hX2]; exact (Below.refl _ X1).alloc (Nat.le_refl _) _
  have z2 : X2.heap.size = w1.heap.size + 2 := by rw [← hX2]; simp [z1]
  have N0 : ∀ (j : Nat) v, [Value.int .u8 83, .int .u8 78, .int .u8 84, .int .u8 49][j]? = some v → X2.cell? ((⟨w1.heap.size, 0, none⟩ : Addr).add j) = some v := by
    intro j v hj
    refine below_cell B2 _ _ ?_
    rw [← hX1]
    exact World.news_of_block (fr := (4, 5)) (heap_alloc_new w1 _) j v hj
  have N1 : ∀ (j : Nat) v, [Value.int .u8 ((s : Int) / 16777216), .int .u8 ((s : Int) / 65536 % 256), .int .u8 ((s : Int) / 256 % 256), .int .u8 ((s : Int) % 256)][j]? = some v → X2.cell? ((⟨w1.heap.size + 1, 0, none⟩ : Addr).add j) = some v := by
    intro j v hj
    rw [← hX2, ← z1]
    exact World.news_of_block (fr := (0, 0)) (heap_alloc_new X1 _) j v hj
  obtain ⟨cap1, X3, hr3, O3, B3⟩ := app_four X2 ⟨w1.heap.size, 0, none⟩ ⟨w1.heap.size + 1, 0, none⟩ _ _ rfl rfl N0 N1
  have B123 : Below w1.heap.size w1 X3 := (B1.trans (B2.mono B1.size)).trans (B3.mono (by omega))
  have HCX : Hid (∀ (j : Nat) v, (Lib.byteCells l)[j]? = some v → X3.cell? ((⟨b, o, none⟩ : Addr).add j) = some v) := by
    intro j v hj
    unfold Lib.byteCells at hj
    rw [List.getElem?_map] at hj
    cases hlj : l[j]? with
    | none => rw [hlj] at hj; cases hj
    | some x =>
      rw [hlj] at hj
      obtain rfl := Option.some.inj hj
      rw [show (⟨b, o, none⟩ : Addr).add j = ⟨b, o + j, none⟩ by unfold Addr.add; split <;> simp_all]
      exact below_cell B123 _ _ (HC.out j x hlj)
  rw [z2] at hr3 O3
  have HO3 := hideT O3
  have HB3 := hideT B123
  have HR3 := hideT hr3
  have HX1 := hideT hX1
  have HX2 := hideT hX2
  clear N0 N1 O3 B1 B2 B3 hr3 B123 hX1 hX2
  have hs2 : w1.heap.size ≤ X3.heap.size := HB3.out.size
  have hbl : (Lib.byteCells l).length = l.length * 1 := by rw [Lib.byteCells_length, Nat.mul_one]
  go_wp2_with (first | (at_builtin; rw [HX1.out, HX2.out]; refine wpList_app (by rfl) _ _ _ (by rfl) _ _ (by rfl) (by rfl) _ _ _ (by rfl) HR3.out ?_) | (at_builtin; refine wpList_append_lies _ (by rfl) _ _ _ (by rfl) (w1.heap.size + 2) 5 i0 _ 1 1 Try.underlying27 hi0 hz0 hz1 hz2 rfl (by omega) (.slice (some ⟨w1.heap.size + 2, 0, none⟩) 8 cap1) 8 _ (by rfl) HO3.out ⟨b, o, none⟩ l.length cap (Lib.byteCells l) (by rfl) hbl HCX.out (Lib.byteCells_one l) (by omega) (by unfold maxLen; omega) (by omega) (by have := HO3.out; rcases this.2 with ⟨h, _⟩ | ⟨g, _, cur, h, _, hg, _⟩; (cases h); (have := (Array.getElem?_eq_some_iff.1 hg).1; simp only [Value.slice.injEq, Option.some.injEq, Addr.mk.injEq] at h; omega)) X3.heap.size rfl ?_; intro gb cap2 w3 hown hgrow hat hlt3) | fail)
  go_ret
  have e1 : ((s / 16777216 % 256 : Nat) : Int) = (s : Int) / 16777216 := by omega
  have e2 : ((s / 65536 % 256 : Nat) : Int) = (s : Int) / 65536 % 256 := by omega
  have e3 : ((s / 256 % 256 : Nat) : Int) = (s : Int) / 256 % 256 := by omega
  have e4 : ((s % 256 : Nat) : Int) = (s : Int) % 256 := by omega
  have hc := hd_cells s
  rw [e1, e2, e3, e4] at hc
  refine ⟨_, rfl, ?_, ?_⟩
  · rw [sealed_len]
    unfold Kp.sealed
    rw [ES.out, Lib.byteCells_append, hc]
    exact ⟨hown.1, hown.2.elim Or.inl (fun ⟨g, cap, cur, hv, hg, r⟩ => Or.inr ⟨g, cap, cur, hv, by omega, r⟩)⟩
  · exact ⟨hgrow.os.trans HB3.out.os, hgrow.tape.trans HB3.out.tape, hgrow.output.trans HB3.out.output, Nat.le_trans hs2 hgrow.size, fun k hk => (hgrow.block k (by omega) (fun e => by have : w1.heap.size + 2 = k := Option.some.inj e.symm; omega)).trans (HB3.out.block k hk)⟩
set_option maxHeartbeats 2000000 in
theorem packD (w : World) (m : Mp.Model) (af ai : Option Addr) (cf ci : Nat) (hm : ModelAt w af cf ai ci m) (hb : Mp.isB m = true) :
    Calls Try.prog 11 #[.agg #[.slice af m.files.length cf, .slice ai m.items.length ci]] w fun e w' => ∃ v, e = .returned (.tuple #[v, .int .i64 0]) ∧ w'.ownsRow w.heap.size 5 1 v (Kp.pack m).length (Lib.byteCells (Kp.pack m)) ∧ Below w.heap.size w w' := by
  have HM := hideT hm
  have HB := hideT hb
  have G := Kp.good_of hb
  have HG := hideT G
  have hbl := body_len G
  have hbp := body_pos m
  clear hm hb G
  go_enter Try.func11, Try.ntmps11
  go_wp2_with fail
  generalize hW1 : w.alloc _ = W1
  obtain ⟨B1, L1, z1⟩ := of_alloc hW1
  have HB1 := hideT B1
  have HL1 := hideT L1
  refine (isProgV W1 m af ai cf ci (HM.out.below B1) true HB).mono ?_
  rintro e w2 ⟨rfl, b2⟩
  have B2 := hideT (B1.trans (b2.mono B1.size))
  have L2 := hideT (L1.below b2)
  have x0 : w2.cell? ⟨w.heap.size, 0, none⟩ = some (.slice af m.files.length cf) := L2.out.cell 0
  have x1 : w2.cell? ⟨w.heap.size, 1, none⟩ = some (.slice ai m.items.length ci) := L2.out.cell 1
  clear b2 B1 L1 hW1
  obtain ⟨W3, hW3⟩ : ∃ W3, w2.alloc (.cells #[.slice af m.files.length cf, .slice ai m.items.length ci, .slice none 0 0] 54) = W3 := ⟨_, rfl⟩
  obtain ⟨B3, L3, z3⟩ := of_alloc hW3
  have HB3 := hideT B3
  have I3 : Hid (WIn w2.heap.size w2.heap.size W3 (.slice af m.files.length cf) (.slice ai m.items.length ci) (.slice none 0 0) []) := ⟨L3, Nat.le_refl _, World.ownsRow_nil _ _ _ _⟩
  have HW3 := hideT hW3
  clear hW3 B3 L3
  go_wp2_with fail
  rw [HW3.out]
  refine (allWr w2 m af ai cf ci (HM.out.below B2.out) w2.heap.size _ [] W3 HB3.out I3.out HG.out (Kp.body m) (by show [] ++ _ = _; rfl) (by omega)).mono ?_
  rintro e w4 ⟨rfl, ov4, i4, q4⟩
  have I4 := hideT i4
  obtain ⟨oa, oc, hov⟩ := slice_form i4.out
  subst hov
  have y2 : w4.cell? ⟨w2.heap.size, 2, none⟩ = some (.slice oa (Kp.body m).length oc) := i4.cells.2.2.1
  have B4 := hideT (B2.out.trans (((HB3.out.trans q4.1)).mono B2.out.size))
  clear i4 q4 x0 x1
  go_wp2_with fail
  refine (withHeadD w4 _ (Kp.body m) (brow_own I4.out.out (by omega)) hbp (by omega)).mono ?_
  rintro e w5 ⟨v, rfl, o5, b5⟩
  have O5 := hideT o5
  have B5 := hideT (B4.out.trans (b5.mono B4.out.size))
  clear o5 b5 y2
  go_wp2_with fail
  refine bodyPost_ret (v := .tuple #[v, .int .i64 0]) (by simp [results, Try.results11, go_sem]) rfl ⟨v, rfl, ?_, B5.out⟩
  have := B4.out.size
  exact ⟨O5.out.1, O5.out.2.elim Or.inl (fun ⟨g, cap, cur, hv, hg, r⟩ => Or.inr ⟨g, cap, cur, hv, by omega, r⟩)⟩
set_option maxHeartbeats 2000000 in
theorem packNo (w : World) (m : Mp.Model) (af ai : Option Addr) (cf ci : Nat) (hm : ModelAt w af cf ai ci m) (hb : Mp.isB m = false) :
    Calls Try.prog 11 #[.agg #[.slice af m.files.length cf, .slice ai m.items.length ci]] w fun e w' => e = .returned (.tuple #[.slice none 0 0, .int .i64 1]) ∧ Below w.heap.size w w' := by
  have HM := hideT hm
  have HB := hideT hb
  clear hm hb
  go_enter Try.func11, Try.ntmps11
  go_wp2_with fail
  generalize hW1 : w.alloc _ = W1
  obtain ⟨B1, L1, z1⟩ := of_alloc hW1
  refine (isProgV W1 m af ai cf ci (HM.out.below B1) false HB).mono ?_
  rintro e w2 ⟨rfl, b2⟩
  have B2 := hideT (B1.trans (b2.mono B1.size))
  clear b2 B1 L1 hW1
  go_wp2_with fail
  refine bodyPost_ret (v := .tuple #[.slice none 0 0, .int .i64 1]) (by simp [results, Try.results11, go_sem]) rfl ⟨rfl, B2.out⟩
theorem own_form {w : World} {H : Nat} {e : TypeId} {z : Nat} {v : Value} {n : Nat} {xs : List Value} (h : w.ownsRow H e z v n xs) (hn : 0 < n) : ∃ g cap, v = .slice (some ⟨g, 0, none⟩) n cap := by
  rcases h.2 with ⟨_, h0⟩ | ⟨g, cap, _, hv, _⟩
  · omega
  · exact ⟨g, cap, hv⟩
theorem own_capS {w : World} {H : Nat} {e : TypeId} {z : Nat} {a : Option Addr} {n c k : Nat} {xs : List Value} (h : w.ownsRow H e z (.slice a k c) n xs) : n ≤ c ∧ c ≤ maxLen := by
  rcases h.2 with ⟨h1, h0⟩ | ⟨g, cap, _, hv, _, _, h2, h3, _⟩
  · simp only [Value.slice.injEq] at h1
    exact ⟨by omega, by rw [h1.2.2]; exact Nat.zero_le _⟩
  · simp only [Value.slice.injEq] at hv
    rw [hv.2.2]
    exact ⟨h2, h3⟩
def mP : Mp.Model := ⟨[], [⟨⟨#[112]⟩, 1, Mp.e0, false, 0, [], []⟩]⟩
theorem is_mP : Mp.isB mP = true := by kernel_rfl
theorem len_mP : (Kp.pack mP).length = 18 := by kernel_rfl
theorem head_mP : (Kp.pack mP).take 4 = [83, 78, 84, 49] := by kernel_rfl
theorem sum_abc : Kp.sum [97, 98, 99] = 38600999 := by kernel_rfl
set_option maxHeartbeats 2000000 in
theorem known6 (w : World) : Calls Try.prog 14 #[] w fun e w' => e = .returned (.bool true) ∧ Below w.heap.size w w' := by
  go_enter Try.func14, Try.ntmps14
  go_wp2_with fail
  generalize hW1 : World.alloc _ _ = W1
  obtain ⟨B1, L1, z1⟩ := of_alloc hW1
  have HM : ModelAt W1 none 0 (some ⟨w.heap.size, 0, none⟩) 1 mP := ⟨rowR_nil _, irow_bare (H := 0) (own_of_lies (z := 7) (n := 1) L1 (Nat.zero_le _) rfl (by decide)) rfl (by decide) (fun x hx => by rw [List.mem_singleton.1 hx]; exact ⟨by decide, by decide, rfl, rfl⟩)⟩
  refine (packD W1 mP _ _ _ _ HM is_mP).mono ?_
  rintro e w2 ⟨v, rfl, o2, b2⟩
  have B2 := hideT (B1.trans (b2.mono B1.size))
  rw [len_mP] at o2
  obtain ⟨g, cap, hv⟩ := own_form o2 (by decide)
  subst hv
  have hcap := own_capS o2
  have O2 := hideT o2
  clear HM L1 B1 b2 o2 hW1
  have hcv := Lib.run_convert_bytes_const (P := Try.prog) w2 27 5 #[.int .u8 97, .int .u8 98, .int .u8 99] 3 3 Try.underlying27 Try.underlying5
  obtain ⟨X1, hX1⟩ : ∃ X1, w2.alloc (.cells #[.int .u8 97, .int .u8 98, .int .u8 99] 5 (3, 4)) = X1 := ⟨_, rfl⟩
  have BX : Hid (Below w2.heap.size w2 X1) := by rw [← hX1]; exact (Below.refl _ w2).alloc (Nat.le_refl _) _
  have HR : Hid (BRow X1 (.slice (some ⟨w2.heap.size, 0, none⟩) 3 3) [97, 98, 99]) := by
    refine ⟨w2.heap.size, 0, _, 3, rfl, Nat.le_refl _, fun _ => rfl, by decide, fun i x hx => ?_⟩
    have hlt := (List.getElem?_eq_some_iff.1 hx).1
    rw [← hX1]
    have := World.news_of_block (fr := (3, 4)) (heap_alloc_new w2 (.cells #[.int .u8 97, .int .u8 98, .int .u8 99] 5 (3, 4))) i (.int .u8 x.toNat) (by
      match i, hlt with
      | 0, _ => simp at hx; subst hx; rfl
      | 1, _ => simp at hx; subst hx; rfl
      | 2, _ => simp at hx; subst hx; rfl)
    rw [show (⟨w2.heap.size, 0, none⟩ : Addr).add i = ⟨w2.heap.size, 0 + i, none⟩ by unfold Addr.add; split <;> simp_all] at this
    exact this
  have hcs : (convert 27 9 (.slice (some ⟨g, 0, none⟩) 4 cap)).run Try.prog X1 = .ok (.string ⟨#[83, 78, 84, 49]⟩) X1 := by
    refine run_convert_bytes_back (P := Try.prog) X1 27 9 5 ⟨g, 0, none⟩ cap [83, 78, 84, 49] Try.underlying27 Try.underlying5 Try.underlying9 ?_
    intro j hj
    have hj4 : j < 4 := hj
    rw [show (⟨g, 0, none⟩ : Addr).add j = ⟨g, j, none⟩ by unfold Addr.add; split <;> simp_all]
    refine below_cell BX.out _ _ (own_cell O2.out ?_)
    unfold Lib.byteCells
    have h1 : (Kp.pack mP)[j]? = ([83, 78, 84, 49] : List UInt8)[j]? := by rw [← head_mP, List.getElem?_take, if_pos hj4]
    rw [List.getElem?_map, h1, List.getElem?_eq_getElem hj]
    rfl
  have HX1 := hideT hX1
  clear hX1
  go_wp2_with fail
  rw [HX1.out]
  refine (sumD X1 _ _ HR.out 38600999 (by show _ = _; exact sum_abc)).mono ?_
  rintro e w3 ⟨rfl, rfl⟩
  obtain ⟨hc1, hc2⟩ := hcap
  go_wp2_with fail
  go_ret
  exact ⟨rfl, B2.out.trans (BX.out.mono B2.out.size)⟩
end Go.Proofs.Ytcfalhgcdffjoaa
