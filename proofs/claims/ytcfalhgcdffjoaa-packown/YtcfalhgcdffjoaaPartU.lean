/-
  Several texts in one: each opens with its own word.
-/
import Derived.Test.YtcfalhgcdffjoaaKPlain
import Derived.Test.YtcfalhgcdffjoaaMBuild
import Derived.Lib.UnsafeStr
import Derived.Laws.BitsLemmas
import Derived.Deep.Upon
import Derived.Lib.AppendStr
import Derived.Maps.AppendAt
import Derived.Test.YtcfalhgcdffjoaaMPlace
import Derived.Laws.BytesArg
import Derived.Test.YtcfalhgcdffjoaaKBack
import Derived.Deep.RegionHeld3
import Derived.Test.YtcfalhgcdffjoaaMLaw
import Derived.Lib.SlBytesConst
import Derived.Lib.BufferWrite
/-
  The sum hangs on each byte.
-/
set_option linter.unusedVariables false
namespace Go.Proofs.Ytcfalhgcdffjoaa.Kp
def total : List UInt8 → Nat
  | [] => 0
  | x :: r => x.toNat + total r
theorem sumF_fst : ∀ (l : List UInt8) (a c : Nat), a < 65521 → (sumF a c l).1 = (a + total l) % 65521
  | [], a, c, h => by
    show a = (a + 0) % 65521
    omega
  | x :: r, a, c, h => by
    rw [sumF, sumF_fst r _ _ (Nat.mod_lt _ (by decide)), total]
    omega
theorem sumF_lt : ∀ (l : List UInt8) (a c : Nat), a < 65521 → c < 65521 → (sumF a c l).1 < 65521 ∧ (sumF a c l).2 < 65521
  | [], a, c, h, k => ⟨h, k⟩
  | x :: r, a, c, h, k => by
    rw [sumF]
    exact sumF_lt r _ _ (Nat.mod_lt _ (by decide)) (Nat.mod_lt _ (by decide))
theorem sum_lt (l : List UInt8) : sum l < 4294967296 := by
  have := sumF_lt l 1 0 (by decide) (by decide)
  unfold sum
  omega
theorem total_set : ∀ (l : List UInt8) (k : Nat) (x y : UInt8), l[k]? = some y → total (l.set k x) + y.toNat = total l + x.toNat
  | [], k, x, y, h => by simp at h
  | a :: l, 0, x, y, h => by
    simp only [List.getElem?_cons_zero, Option.some.injEq] at h
    subst h
    rw [List.set_cons_zero, total, total]
    omega
  | a :: l, k + 1, x, y, h => by
    rw [List.getElem?_cons_succ] at h
    have := total_set l k x y h
    rw [List.set_cons_succ, total, total]
    omega
theorem sum_set {l : List UInt8} {k : Nat} {x y : UInt8} (h : l[k]? = some y) (hx : x ≠ y) : sum (l.set k x) ≠ sum l := by
  have h1 := sumF_lt l 1 0 (by decide) (by decide)
  have h2 := sumF_lt (l.set k x) 1 0 (by decide) (by decide)
  have h3 := sumF_fst l 1 0 (by decide)
  have h4 := sumF_fst (l.set k x) 1 0 (by decide)
  have h5 := total_set l k x y h
  have h6 : x.toNat ≠ y.toNat := fun e => hx (UInt8.toNat_inj.1 e)
  have h7 : x.toNat < 256 := x.toNat_lt
  have h8 : y.toNat < 256 := y.toNat_lt
  unfold sum
  omega
end Go.Proofs.Ytcfalhgcdffjoaa.Kp
/-
  Bytes in memory; the sum.
-/
set_option linter.unusedSimpArgs false
set_option linter.unusedVariables false
namespace Go.Proofs.Ytcfalhgcdffjoaa
open Go.RowKit
set_option maxRecDepth 100000
/-- Bytes in a row. -/
def BRow (w : World) (v : Value) (l : List UInt8) : Prop :=
  ∃ b o ao cap, v = .slice ao l.length cap ∧ l.length ≤ cap ∧ (0 < l.length → ao = some ⟨b, o, none⟩) ∧ l.length ≤ 140737488355328 ∧ ∀ (i : Nat) x, l[i]? = some x → w.cell? ⟨b, o + i, none⟩ = some (.int .u8 x.toNat)
theorem brow_below {w w' : World} {v : Value} {l : List UInt8} (h : BRow w v l) (hb : Below w.heap.size w w') : BRow w' v l := by
  obtain ⟨b, o, ao, cap, h1, h2, h3, h4, h5⟩ := h
  exact ⟨b, o, ao, cap, h1, h2, h3, h4, fun i x hx => below_cell hb _ _ (h5 i x hx)⟩
theorem brow_own {w : World} {H : Nat} {v : Value} {l : List UInt8} (h : w.ownsRow H 5 1 v l.length (Lib.byteCells l)) (hl : l.length ≤ 140737488355328) : BRow w v l := by
  rcases h.2 with ⟨rfl, h0⟩ | ⟨g, cap, cur, rfl, g1, g2, g3, g4, g5, g6⟩
  · have : l = [] := List.eq_nil_of_length_eq_zero h0
    subst this
    exact ⟨0, 0, none, 0, rfl, Nat.le_refl _, fun h => absurd h (Nat.lt_irrefl 0), Nat.zero_le _, fun i x hx => by simp at hx⟩
  · refine ⟨g, 0, _, cap, rfl, g3, fun _ => rfl, hl, fun i x hx => ?_⟩
    rw [Nat.zero_add]
    refine own_cell h ?_
    unfold Lib.byteCells
    rw [List.getElem?_map, hx]
    rfl
theorem wraps_u32' (n : Int) (h₀ : 0 ≤ n) (h₁ : n < 2 ^ 32) : IntKind.u32.wrap n = n := by rw [IntKind.wrap_u32]; omega
theorem or32 (c a : Nat) (hc : c < 65536) (ha : a < 65536) : bits .or .u32 ((c : Int) * 65536) (a : Int) = (c : Int) * 65536 + a :=
  bits_join .u32 32 (by decide) wraps_u32' 16 _ _ (by omega) (by omega) (by omega) (by omega) (by omega) (by omega)
theorem sumF_snoc : ∀ (l : List UInt8) (x : UInt8) (a c : Nat), Kp.sumF a c (l ++ [x]) = (((Kp.sumF a c l).1 + x.toNat) % 65521, ((Kp.sumF a c l).2 + ((Kp.sumF a c l).1 + x.toNat) % 65521) % 65521)
  | [], x, a, c => rfl
  | y :: l, x, a, c => by
    rw [List.cons_append, Kp.sumF, Kp.sumF, sumF_snoc l x]
set_option maxHeartbeats 1000000 in
theorem sumD (w : World) (v : Value) (l : List UInt8) (h : BRow w v l) (s : Nat) (hs : Hid (Kp.sum l = s)) :
    Calls Try.prog 15 #[v] w fun e w' => e = .returned (.int .u32 s) ∧ w' = w := by
  obtain ⟨b, o, ao, cap, rfl, h2, h3, h4, h5⟩ := h
  have HA := hideT h3
  have HC := hideT h5
  clear h3 h5
  go_enter Try.func15, Try.ntmps15
  go_wp2_with fail
  go_loop [3, 4, 9] (fun a c i => ∃ (k A C : Nat), k ≤ l.length ∧ i = .int .i64 k ∧ a = .int .u32 A ∧ c = .int .u32 C ∧ A < 65521 ∧ C < 65521 ∧ Hid (Kp.sumF 1 0 (l.take k) = (A, C))) (fun _ _ i => l.length - (intOf i).toNat)
  case atStart => exact ⟨0, 1, 0, Nat.zero_le _, rfl, rfl, rfl, by decide, by decide, rfl⟩
  case round =>
    obtain ⟨k, A, C, hk, rfl, rfl, rfl, hA, hC, HS⟩ := hrel
    by_cases hlt : k < l.length
    · obtain ⟨x, hx⟩ := Mp.at_lt hlt
      have x0 := HC.out k x hx
      obtain rfl := HA.out (by omega)
      have hx8 : x.toNat < 256 := x.toNat_lt
      have HN : Hid (Kp.sumF 1 0 (l.take (k + 1)) = ((A + x.toNat) % 65521, (C + (A + x.toNat) % 65521) % 65521)) := by
        show _ = _
        rw [Mp.take_at hx, sumF_snoc, HS.out]
      clear hx
      go_wp2_with fail
      go_round
      case rel => exact ⟨k + 1, (A + x.toNat) % 65521, (C + (A + x.toNat) % 65521) % 65521, by omega, by go_num, by go_num, by go_num, by omega, by omega, HN⟩
      case measure => simp [intOf]; omega
    · have hkl : k = l.length := by omega
      have HE : Hid (s = C * 65536 + A) := by
        show _ = _
        rw [← hs.out]
        have := HS.out
        rw [hkl, List.take_length] at this
        unfold Kp.sum
        rw [this]
      go_wp2_with fail
      go_ret
      refine ⟨?_, rfl⟩
      rw [HE.out]
      exact ret_i (by rw [or32 C A (by omega) (by omega)]; omega)
end Go.Proofs.Ytcfalhgcdffjoaa
/-
  The writer in memory: a number more, a text more.
-/
set_option linter.unusedSimpArgs false
set_option linter.unusedVariables false
namespace Go.Proofs.Ytcfalhgcdffjoaa
open Go.RowKit
set_option maxRecDepth 100000
theorem infoB : (Try.prog.info? 5).map (fun i => (i.zero, i.size, i.bytes)) = some (some (.int .u8 0), 1, 1) := by kernel_rfl
/-- The writer at b: its model's two rows, what is written. -/
structure WIn (H b : Nat) (w : World) (fv iv ov : Value) (l : List UInt8) : Prop where
  lies : Lies w b 54 #[fv, iv, ov]
  bH : H ≤ b
  out : w.ownsRow H 5 1 ov l.length (Lib.byteCells l)
/-- What a writing keeps: all below H, and all blocks but bytes and the writer's own. -/
def Wr (H b : Nat) (w w' : World) : Prop := Below H w w' ∧ ∀ k t C, Lies w k t C → k ≠ b → t ≠ 5 → Lies w' k t C
theorem Wr.refl (H b : Nat) (w : World) : Wr H b w w := ⟨Below.refl _ _, fun _ _ _ h _ _ => h⟩
theorem Wr.trans {H b : Nat} {a c d : World} (h : Wr H b a c) (k : Wr H b c d) : Wr H b a d := ⟨h.1.trans k.1, fun i t C hi h1 h2 => k.2 i t C (h.2 i t C hi h1 h2) h1 h2⟩
theorem Wr.of_below {H b : Nat} {w w' : World} (hH : H ≤ w.heap.size) (h : Below w.heap.size w w') : Wr H b w w' := ⟨h.mono hH, fun k t C hk _ _ => hk.below h⟩
theorem WIn.below {H b : Nat} {w w' : World} {fv iv ov : Value} {l : List UInt8} (h : WIn H b w fv iv ov l) (hb : Below w.heap.size w w') : WIn H b w' fv iv ov l := ⟨h.lies.below hb, h.bH, own_below h.out hb⟩
theorem WIn.cells {H b : Nat} {w : World} {fv iv ov : Value} {l : List UInt8} (h : WIn H b w fv iv ov l) : w.cell? ⟨b, 0, none⟩ = some fv ∧ w.cell? ⟨b, 1, none⟩ = some iv ∧ w.cell? ⟨b, 2, none⟩ = some ov ∧ w.frozen? ⟨b, 2, none⟩ = false :=
  ⟨h.lies.cell 0, h.lies.cell 1, h.lies.cell 2, h.lies.free 2⟩
theorem WIn.push {H b : Nat} {w W w3 : World} {fv iv ov ov' : Value} {l l' : List UInt8} {n : Nat} {xs : List Value} (h : WIn H b w fv iv ov l) (hH : H ≤ w.heap.size) (hB : Below w.heap.size w W) (hg : W.grownBy w3 ov.ownBlock) (ho : w3.ownsRow H 5 1 ov' n xs) (hn : n = l'.length) (hx : xs = Lib.byteCells l') :
    (w3.cell? ⟨b, 2, none⟩ = some ov ∧ w3.frozen? ⟨b, 2, none⟩ = false) ∧ WIn H b (w3.setCell ⟨b, 2, none⟩ ov') fv iv ov' l' ∧ Wr H b w (w3.setCell ⟨b, 2, none⟩ ov') := by
  subst hn
  subst hx
  have h1 := h.below hB
  have hl3 : Lies w3 b 54 #[fv, iv, ov] := h1.lies.keep (Keep.grown hg) (own_ne h1.out h1.lies (by decide))
  refine ⟨⟨hl3.cell 2, hl3.free 2⟩, ⟨hl3.set 2 ov', h.bH, own_off ho hl3 (by decide) 2 ov'⟩, ?_, fun k t C hk hkb ht => ?_⟩
  · have hb3 : Below H w w3 := ⟨hg.os.trans hB.os, hg.tape.trans hB.tape, hg.output.trans hB.output, Nat.le_trans hB.size hg.size, fun k hk => (hg.block k (by have := hB.size; omega) (fun e => by have := (own_lt h.out e.symm).2; omega)).trans (hB.block k (by omega))⟩
    exact hb3.setCell h.bH _
  · have hk1 := hk.below hB
    have hk3 : Lies w3 k t C := hk1.keep (Keep.grown hg) (own_ne h1.out hk1 ht)
    exact hk3.off _ _ hkb
/-- What a writing comes to. -/
def WPost (H b : Nat) (fv iv : Value) (L : List UInt8) (w : World) (e : Ending) (w' : World) : Prop := e = .returned (.tuple #[]) ∧ ∃ ov', WIn H b w' fv iv ov' L ∧ Wr H b w w'
theorem numF_len : ∀ (k : Nat) (n : Int), (Kp.numF k n).length ≤ k + 1
  | 0, n => Nat.le_refl _
  | k + 1, n => by
    show (if 128 ≤ n then UInt8.ofNat ((n % 128).toNat + 128) :: Kp.numF k (n / 128) else [Kp.byte n]).length ≤ k + 2
    split
    · have := numF_len k (n / 128)
      rw [List.length_cons]
      omega
    · rw [List.length_singleton]
      omega
theorem num_len (n : Int) : (Kp.num n).length ≤ 11 := numF_len 10 n
theorem or8A : (List.range 256).all (fun x => bits .or .u8 (x : Int) 128 == ((x % 128 + 128 : Nat) : Int)) = true := by kernel_rfl
theorem byte_or (m : Int) (h : 0 ≤ m) : bits .or .u8 (m % 256) 128 = ((UInt8.ofNat ((m % 128).toNat + 128)).toNat : Int) := by
  obtain ⟨k, hk⟩ : ∃ k : Nat, m % 256 = k := ⟨(m % 256).toNat, by omega⟩
  have h1 := beq_iff_eq.1 (List.all_eq_true.1 or8A k (List.mem_range.2 (by omega)))
  rw [hk, h1, UInt8.toNat_ofNat']
  omega
theorem byte_of (m : Int) : m % 256 = ((Kp.byte m).toNat : Int) := by
  unfold Kp.byte
  rw [UInt8.toNat_ofNat']
  omega
set_option maxHeartbeats 1000000 in
theorem numberD (H b : Nat) (fv iv ov : Value) (l : List UInt8) (n : Int) (w : World) (h : WIn H b w fv iv ov l) (hH : H ≤ w.heap.size) (hn : n < 9223372036854775808) (hl : l.length ≤ 1000000) (L : List UInt8) (hL : Hid (l ++ Kp.num n = L)) :
    Calls Try.prog 39 #[.pointer (some ⟨b, 0, none⟩), .int .i64 n] w (WPost H b fv iv L w) := by
  have H1 := hideT h
  have hLl : L.length ≤ 1000011 := by
    rw [← hL.out, List.length_append]
    have := num_len n
    omega
  obtain ⟨i0, hi0, hz0, hz1, hz2⟩ := info_parts infoB
  clear h
  go_enter Try.func39, Try.ntmps39
  go_wp2_with fail
  go_loopw [1] (fun q wr => ∃ (m : Int) (ov' : Value) (l' : List UInt8), q = .int .i64 m ∧ m < 9223372036854775808 ∧ Hid (WIn H b wr fv iv ov' l') ∧ Hid (l' ++ Kp.num m = L) ∧ Hid (Wr H b w wr)) (fun q _ => (intOf q).toNat)
  case atStart => exact ⟨n, ov, l, rfl, hn, H1, hL, Wr.refl _ _ _⟩
  case round =>
    obtain ⟨m, ov', l', rfl, hm, HI, HL, HW⟩ := hrel
    obtain ⟨x0, x1, x2, x3⟩ := HI.out.cells
    have hl' : l'.length ≤ 1000011 := by
      have := congrArg List.length HL.out
      rw [List.length_append] at this
      omega
    have hlt := HI.out.lies.lt
    obtain ⟨ia, ic, rfl⟩ := slice_form HI.out.out
    have hHr : H ≤ wr.heap.size := by have := HW.out.1.size; omega
    by_cases h128 : 128 ≤ m
    · have HC := hideT (byte_or m (by omega))
      have HN : Hid ((l' ++ [UInt8.ofNat ((m % 128).toNat + 128)]) ++ Kp.num (m / 128) = L) := by
        show _ = _
        rw [← HL.out, Kp.num_step h128 hm, List.append_assoc]
        rfl
      go_wp2_with (first | (at_builtin; refine wpList_append_lies _ (by rfl) _ _ _ (by rfl) H 5 i0 _ 1 1 Try.underlying27 hi0 hz0 hz1 hz2 rfl (by omega) (.slice ia l'.length ic) l'.length (Lib.byteCells l') (by rfl) (HI.out.out.alloc _) ⟨wr.heap.size, 0, none⟩ 1 1 [.int .u8 (bits .or .u8 (m % 256) 128)] (by rfl) (by rfl) (news1 wr #[.int .u8 (bits .or .u8 (m % 256) 128)] 5) (by simp [Value.oneCell']) (by omega) (by unfold maxLen; omega) (by omega) (by simp; omega) (wr.heap.size + 1) (by simp) ?_; intro gb cap2 w3 hown hgrow hat hlt3; obtain ⟨⟨y1, y2⟩, P1, P2⟩ := HI.out.push (l' := l' ++ [UInt8.ofNat ((m % 128).toNat + 128)]) hHr ((Below.refl wr.heap.size wr).alloc (Nat.le_refl _) _) hgrow hown (by simp) (by rw [HC.out, Lib.byteCells_append]; rfl)) | fail)
      exact ⟨⟨_, _, _, rfl, by omega, P1, HN, HW.out.trans P2⟩, by simp [intOf]; omega⟩
    · have HC := hideT (byte_of m)
      have HN : Hid (l' ++ [Kp.byte m] = L) := by
        show _ = _
        rw [← HL.out, Kp.num_last h128]
      go_wp2_with (first | (at_builtin; refine wpList_append_lies _ (by rfl) _ _ _ (by rfl) H 5 i0 _ 1 1 Try.underlying27 hi0 hz0 hz1 hz2 rfl (by omega) (.slice ia l'.length ic) l'.length (Lib.byteCells l') (by rfl) (HI.out.out.alloc _) ⟨wr.heap.size, 0, none⟩ 1 1 [.int .u8 (m % 256)] (by rfl) (by rfl) (news1 wr #[.int .u8 (m % 256)] 5) (by simp [Value.oneCell']) (by omega) (by unfold maxLen; omega) (by omega) (by simp; omega) (wr.heap.size + 1) (by simp) ?_; intro gb cap2 w3 hown hgrow hat hlt3; obtain ⟨⟨y1, y2⟩, P1, P2⟩ := HI.out.push (l' := l' ++ [Kp.byte m]) hHr ((Below.refl wr.heap.size wr).alloc (Nat.le_refl _) _) hgrow hown (by simp) (by rw [HC.out, Lib.byteCells_append]; rfl)) | fail)
      rw [HN.out] at P1
      first | go_end0 | refine bodyPost_ret (results_none rfl _ _ _) rfl ?_
      exact ⟨rfl, _, P1, HW.out.trans P2⟩
set_option maxHeartbeats 1000000 in
theorem textD (H b : Nat) (fv iv ov : Value) (l : List UInt8) (s : ByteArray) (w : World) (h : WIn H b w fv iv ov l) (hH : H ≤ w.heap.size) (hs : s.size ≤ 1000) (L : List UInt8) (hL : Hid (l ++ Kp.text s = L)) (hl : L.length ≤ 1000000) :
    Calls Try.prog 40 #[.pointer (some ⟨b, 0, none⟩), .string s] w (WPost H b fv iv L w) := by
  have H1 := hideT h
  have hll : l.length ≤ 1000000 := by
    rw [← hL.out, List.length_append] at hl
    omega
  obtain ⟨i0, hi0, hz0, hz1, hz2⟩ := info_parts infoB
  clear h
  obtain ⟨l1, E1⟩ : ∃ l1, Hid (l ++ Kp.num s.size = l1) := ⟨_, rfl⟩
  go_enter Try.func40, Try.ntmps40
  go_wp2_with fail
  refine (numberD H b fv iv ov l s.size w H1.out hH (by omega) hll l1 E1).mono ?_
  rintro e w1 ⟨rfl, ov1, I1, R1⟩
  have HI := hideT I1
  have HR := hideT R1
  obtain ⟨x0, x1, x2, x3⟩ := I1.cells
  have hlt := I1.lies.lt
  have hH1 : H ≤ w1.heap.size := Nat.le_trans hH R1.1.size
  obtain ⟨ia, ic, rfl⟩ := slice_form I1.out
  have HN : Hid (l1 ++ s.data.toList = L) := by
    show _ = _
    rw [← hL.out, ← E1.out, List.append_assoc]
    rfl
  have hnl := num_len s.size
  have hsl : s.data.toList.length = s.size := Array.length_toList
  have hlen : l1.length ≤ 1000011 := by rw [← E1.out, List.length_append]; omega
  clear I1 R1
  go_wp2_with (first | (at_builtin; refine Lib.wpList_append_own_string _ (by rfl) _ _ _ _ (by rfl) H 5 i0 Try.underlying27 Try.underlying9 hi0 hz0 hz1 hz2 (.slice ia l1.length ic) l1.length (Lib.byteCells l1) (by rfl) HI.out.out s (by rfl) (by unfold maxLen; omega) (by omega) hH1 ?_; intro v' w3 hown hgrow hnil; obtain ⟨⟨y1, y2⟩, P1, P2⟩ := HI.out.push (l' := L) hH1 (Below.refl _ _) hgrow hown (by rw [← HN.out, List.length_append, hsl]) (by rw [← HN.out, Lib.byteCells_append l1, Lib.strCells_eq]); obtain ⟨ja, jc, rfl⟩ := slice_form hown) | fail)
  first | go_end0 | refine bodyPost_ret (results_none rfl _ _ _) rfl ?_
  exact ⟨rfl, _, P1, HR.out.trans P2⟩
end Go.Proofs.Ytcfalhgcdffjoaa
/-
  fold, unfold, ops.
-/
set_option linter.unusedSimpArgs false
set_option linter.unusedVariables false
namespace Go.Proofs.Ytcfalhgcdffjoaa
open Go.RowKit
set_option maxRecDepth 100000
theorem foldD (n : Int) (w : World) (h : -1000000 ≤ n ∧ n ≤ 1000000) (r : Int) (hr : Hid (Kp.fold n = r)) : Calls Try.prog 90 #[.int .i64 n] w fun e w' => e = .returned (.int .i64 r) ∧ w' = w := by
  obtain ⟨h1, h2⟩ := h
  rw [← hr.out]
  clear hr
  by_cases h0 : n < 0
  · have HF : Hid (Kp.fold n = -2 * n - 1) := by show _ = _; unfold Kp.fold; rw [if_pos h0]
    go_enter Try.func90, Try.ntmps90
    go_wp2_with fail
    go_ret
    exact ⟨ret_i (by rw [HF.out]), rfl⟩
  · have HF : Hid (Kp.fold n = 2 * n) := by show _ = _; unfold Kp.fold; rw [if_neg h0]
    go_enter Try.func90, Try.ntmps90
    go_wp2_with fail
    go_ret
    exact ⟨ret_i (by rw [HF.out]), rfl⟩
theorem unfoldD (n : Int) (w : World) (h : 0 ≤ n ∧ n ≤ 10000000) (r : Int) (hr : Hid (Kp.unfold n = r)) : Calls Try.prog 92 #[.int .i64 n] w fun e w' => e = .returned (.int .i64 r) ∧ w' = w := by
  obtain ⟨h1, h2⟩ := h
  rw [← hr.out]
  clear hr
  by_cases h0 : n % 2 = 1
  · have HF : Hid (Kp.unfold n = -((n + 1) / 2)) := by show _ = _; unfold Kp.unfold; rw [if_pos h0]
    have t1 : Int.tmod n 2 = 1 := by rw [Int.tmod_eq_emod_of_nonneg h1]; exact h0
    go_enter Try.func92, Try.ntmps92
    go_wp2_with fail
    go_ret
    exact ⟨ret_i (by rw [HF.out, Int.tdiv_eq_ediv_of_nonneg (show 0 ≤ n + 1 by omega)]; unfold wrap64; omega), rfl⟩
  · have HF : Hid (Kp.unfold n = n / 2) := by show _ = _; unfold Kp.unfold; rw [if_neg h0]
    have t1 : ¬ Int.tmod n 2 = 1 := by rw [Int.tmod_eq_emod_of_nonneg h1]; exact h0
    go_enter Try.func92, Try.ntmps92
    go_wp2_with fail
    go_ret
    exact ⟨ret_i (by rw [HF.out]), rfl⟩
theorem opsD (w : World) : Calls Try.prog 89 #[] w fun e w' => ∃ g, e = .returned (.slice (some ⟨g, 0, none⟩) 6 6) ∧ FRow w' (.slice (some ⟨g, 0, none⟩) 6 6) Kp.opsL ∧ Below w.heap.size w w' := by
  go_enter Try.func89, Try.ntmps89
  go_wp2_with fail
  generalize hW1 : w.alloc _ = W1
  obtain ⟨B1, L1, z1⟩ := of_alloc hW1
  go_ret
  exact ⟨_, rfl, frow_of_own (H := 0) (own_of_lies (z := 1) (n := 6) L1 (Nat.zero_le _) rfl (by decide)) rfl (by decide) (fun s hs => by
    unfold Kp.opsL at hs
    simp only [List.mem_cons, List.mem_nil_iff, or_false] at hs
    rcases hs with rfl | rfl | rfl | rfl | rfl | rfl <;> decide), B1⟩
theorem Wr.sz {H b : Nat} {w w' : World} (h : Wr H b w w') : w.heap.size ≤ w'.heap.size := h.1.size
theorem Wr.drew {H b : Nat} {w w' : World} (h : Wr H b w w') (n : Nat) : Wr H b w (w'.drewN n) := ⟨h.1.trans ⟨rfl, rfl, rfl, Nat.le_refl _, fun _ _ => rfl⟩, fun k t C hk h1 h2 => h.2 k t C hk h1 h2⟩
end Go.Proofs.Ytcfalhgcdffjoaa
/-
  Bytes as a text.
-/
set_option linter.unusedSimpArgs false
set_option linter.unusedVariables false
namespace Go.Proofs.Ytcfalhgcdffjoaa
open Go.RowKit
set_option maxRecDepth 100000
/-- Bytes as a text. -/
theorem conv_str (w : World) (v : Value) (l : List UInt8) (h : BRow w v l) : (convert 27 9 v).run Try.prog w = .ok (.string ⟨l.toArray⟩) w := by
  obtain ⟨b, o, ao, cap, rfl, h2, h3, h4, h5⟩ := h
  cases l with
  | nil =>
    cases ao with
    | none => exact run_convert_bytes_nil (P := Try.prog) w 27 5 Try.underlying27 Try.underlying5 _ _ 9 Try.underlying9
    | some a => exact run_convert_bytes_back (P := Try.prog) w 27 9 5 a cap [] Try.underlying27 Try.underlying5 Try.underlying9 (fun j hj => by simp at hj)
  | cons x l =>
    obtain rfl := h3 (by simp)
    refine run_convert_bytes_back (P := Try.prog) w 27 9 5 ⟨b, o, none⟩ cap (x :: l) Try.underlying27 Try.underlying5 Try.underlying9 ?_
    intro j hj
    rw [show (⟨b, o, none⟩ : Addr).add j = ⟨b, o + j, none⟩ by unfold Addr.add; split <;> simp_all]
    exact h5 j _ (List.getElem?_eq_getElem hj)
theorem brow_drew {w : World} {v : Value} {l : List UInt8} (n : Nat) (h : BRow w v l) : BRow (w.drewN n) v l := h
end Go.Proofs.Ytcfalhgcdffjoaa
/-
  The writer: a sentry more.
-/
set_option linter.unusedSimpArgs false
set_option linter.unusedVariables false
namespace Go.Proofs.Ytcfalhgcdffjoaa
open Go.RowKit
set_option maxRecDepth 100000
theorem flatMap_at {α β : Type} {l : List α} {k : Nat} {x : α} (h : l[k]? = some x) (f : α → List β) : (l.drop k).flatMap f = f x ++ (l.drop (k + 1)).flatMap f := by
  rw [Mp.drop_at h, List.flatMap_cons]
theorem le_of_app {α : Type} {a b L : List α} {n : Nat} (h : a ++ b = L) (hl : L.length ≤ n) : a.length ≤ n := by
  rw [← h, List.length_append] at hl
  omega
theorem placeZ_lt63 (l : List Mp.Item) (s : ByteArray) (h : l.length ≤ 10000000000000) : -1 ≤ Mp.placeZ l s ∧ Mp.placeZ l s < 20000000000000 := by
  have := Mp.placeZ_ge l s
  rcases Mp.placeZ_lt l s with h1 | h1 <;> omega
theorem idxZ_lt63 (l : List ByteArray) (s : ByteArray) (h : l.length ≤ 10000000000000) : idxZ l s < 20000000000000 := by
  unfold idxZ
  cases e : Mp.idx l s with
  | none => show (-1 : Int) < _; omega
  | some k =>
    obtain ⟨x, hx, _⟩ := Mp.find_some_inv e
    have := (List.getElem?_eq_some_iff.1 hx).1
    show (k : Int) < _
    omega
set_option maxHeartbeats 8000000 in
theorem sentryD (wB : World) (m : Mp.Model) (af ai : Option Addr) (cf ci : Nat) (hm : ModelAt wB af cf ai ci m) (b : Nat) (ov : Value) (l : List UInt8) (w : World) (hB : Below wB.heap.size wB w) (h : WIn wB.heap.size b w (.slice af m.files.length cf) (.slice ai m.items.length ci) ov l) (s1 : List Mp.On) (s2 : List Mp.Cond) (a1 a2 : Option Addr) (c1 c2 : Nat) (r1 : ORow wB (.slice a1 s1.length c1) s1) (r2 : CRow wB (.slice a2 s2.length c2) s2) (hx : Mp.sentB m (s1, s2) = true) (L : List UInt8) (hL : Hid (l ++ Kp.sentW m (s1, s2) = L)) (hl : L.length ≤ 1000000) :
    Calls Try.prog 75 #[.pointer (some ⟨b, 0, none⟩), .agg #[.slice a1 s1.length c1, .slice a2 s2.length c2]] w (WPost wB.heap.size b (.slice af m.files.length cf) (.slice ai m.items.length ci) L w) := by
  unfold Mp.sentB Mp.onB Mp.ifB at hx
  simp only [Bool.and_eq_true, decide_eq_true_eq] at hx
  obtain ⟨⟨_, hs1, hs2⟩, hs3, hs4⟩ := hx
  have HO : Hid (∀ o ∈ s1, 0 ≤ o.2 ∧ o.2 ≤ 5) := fun o ho => Kp.on_ev (Kp.onsF_mem _ _ hs2 o ho)
  have HF : Hid (∀ c ∈ s2, -1000000 ≤ c.2.2 ∧ c.2.2 ≤ 1000000) := fun c hc => by
    have := List.all_eq_true.1 hs4 c hc
    unfold Mp.condB at this
    simp only [Bool.and_eq_true, decide_eq_true_eq] at this
    exact ⟨this.1.2, this.2⟩
  obtain ⟨_, _, hcap1, ob, oo, oa, oc⟩ := orow_at r1
  obtain ⟨_, _, hcap2, cb, co, ca, cc⟩ := crow_at r2
  obtain ⟨_, hfl, _⟩ := frow_at hm.files
  obtain ⟨_, hil, _⟩ := irow_at hm.items
  have HM := hideT hm
  have HOA := hideT oa
  have HOC := hideT oc
  have HCA := hideT ca
  have HCC := hideT cc
  have HB := hideT hB
  have HI := hideT h
  have hHw : wB.heap.size ≤ w.heap.size := hB.size
  obtain ⟨Bs, hBs⟩ : ∃ Bs, wB.heap.size = Bs := ⟨_, rfl⟩
  obtain ⟨T2, ET2⟩ : ∃ T2, Hid (Kp.num s2.length ++ s2.flatMap (Kp.condW m) = T2) := ⟨_, rfl⟩
  obtain ⟨l1, E1⟩ : ∃ l1, Hid (l ++ Kp.num s1.length = l1) := ⟨_, rfl⟩
  have EL1 : Hid (l1 ++ (s1.flatMap (Kp.onW m) ++ T2) = L) := by
    show _ = _
    rw [← hL.out, ← E1.out, ← ET2.out, List.append_assoc]
    rfl
  have hll := le_of_app hL.out hl
  clear r1 r2 oa oc ca cc hB h hs2 hs4 hm
  go_enter Try.func75, Try.ntmps75
  go_wp2_with fail
  generalize hW : w.alloc _ = W
  obtain ⟨BW, LW, zW⟩ := of_alloc hW
  have HLW := hideT LW
  have HBW := hideT BW
  have WW := hideT (Wr.of_below (b := b) hHw BW)
  have hne : w.heap.size ≠ b := by have := HI.out.lies.lt; omega
  refine (numberD _ b _ _ ov l s1.length W (HI.out.below BW) (by have := BW.size; omega) (by omega) hll l1 E1).mono ?_
  rintro e w1 ⟨rfl, ov1, i1, q1⟩
  have I1 := hideT i1
  have Q1 := hideT (WW.out.trans q1)
  have L1 := hideT (q1.2 _ _ _ LW hne (by decide))
  have x0 : w1.cell? ⟨w.heap.size, 0, none⟩ = some (.slice a1 s1.length c1) := L1.out.cell 0
  clear i1 q1 LW BW hW
  go_wp2_with fail
  go_loopw [16] (fun i wr => ∃ (k : Nat) (ov' : Value) (l' : List UInt8), k ≤ s1.length ∧ i = .int .i64 k ∧ Hid (WIn wB.heap.size b wr (.slice af m.files.length cf) (.slice ai m.items.length ci) ov' l') ∧ Hid (l' ++ ((s1.drop k).flatMap (Kp.onW m) ++ T2) = L) ∧ Hid (Wr wB.heap.size b w wr) ∧ Hid (Lies wr w.heap.size 47 #[.slice a1 s1.length c1, .slice a2 s2.length c2])) (fun i _ => s1.length - (intOf i).toNat)
  case atStart => exact ⟨0, ov1, l1, Nat.zero_le _, rfl, I1, EL1, Q1, L1⟩
  case round =>
    clear x0
    obtain ⟨k, ov', l', hk, rfl, HI2, HE, HW2, HL2⟩ := hrel
    have BB := hideT (HB.out.trans HW2.out.1)
    have hHr : wB.heap.size ≤ wr.heap.size := BB.out.size
    by_cases hlt : k < s1.length
    · obtain ⟨⟨o1, o2⟩, ho⟩ := Mp.at_lt hlt
      obtain rfl := HOA.out (by omega)
      obtain ⟨hz, e0, e1⟩ := HOC.out k _ ho
      have hev := HO.out _ (List.mem_of_getElem? ho)
      dsimp only at hz e0 e1 hev
      have d0 := below_cell BB.out _ _ e0
      have d1 := below_cell BB.out _ _ e1
      obtain ⟨pz, EP⟩ : ∃ pz, Hid (Mp.placeZ m.items o1 = pz) := ⟨_, rfl⟩
      have hpz := placeZ_lt63 m.items o1 hil
      rw [EP.out] at hpz
      obtain ⟨l2, E2⟩ : ∃ l2, Hid (l' ++ Kp.num pz = l2) := ⟨_, rfl⟩
      obtain ⟨l3, E3⟩ : ∃ l3, Hid (l2 ++ Kp.num o2 = l3) := ⟨_, rfl⟩
      have EL3 : Hid (l3 ++ ((s1.drop (k + 1)).flatMap (Kp.onW m) ++ T2) = L) := by
        show _ = _
        rw [← HE.out, flatMap_at ho, ← E3.out, ← E2.out]
        unfold Kp.onW
        dsimp only
        rw [EP.out]
        simp only [List.append_assoc]
      have hl' := le_of_app HE.out hl
      have hl2 : l2.length ≤ 1000000 := le_of_app (b := Kp.num o2 ++ ((s1.drop (k + 1)).flatMap (Kp.onW m) ++ T2)) (by rw [← EL3.out, ← E3.out, List.append_assoc]) hl
      obtain ⟨V, hV⟩ : ∃ V, wr.alloc (.cells #[.string o1, .int .i64 o2] 87) = V := ⟨_, rfl⟩
      obtain ⟨BV, LV, zV⟩ := of_alloc hV
      have HBV := hideT BV
      have HLV := hideT LV
      have HVq := hideT hV
      have IV := hideT (HI2.out.below BV)
      have WV := hideT (HW2.out.trans (Wr.of_below (b := b) hHr BV))
      have LLV := hideT (HL2.out.below BV)
      have hbr := HI2.out.lies.lt
      have hne2 : wr.heap.size ≠ b := by omega
      have y0 : V.cell? ⟨b, 0, none⟩ = some (.slice af m.files.length cf) := IV.out.cells.1
      have y1 : V.cell? ⟨b, 1, none⟩ = some (.slice ai m.items.length ci) := IV.out.cells.2.1
      have y2 : V.cell? ⟨wr.heap.size, 0, none⟩ = some (.string o1) := LV.cell 0
      clear hV BV LV ho e0 e1
      go_wp2_with fail
      rw [HVq.out]
      go_region_held3 (fun w' => w'.cell? ⟨b, 0, none⟩ = some (.slice af m.files.length cf) ∧ w'.cell? ⟨b, 1, none⟩ = some (.slice ai m.items.length ci) ∧ w'.cell? ⟨wr.heap.size, 0, none⟩ = some (.string o1)) (go_keep) (first
        | (go_at_call 59; refine (placeD _ _ _ _ _ m.items o1 (irow_below HM.out.items (BB.out.trans ((HBV.out.mono hHr).trans (below_drewN (Below.refl _ V) 1))))).mono ?_; rintro e w2 ⟨rfl, b2⟩; rw [EP.out]; have bV2 : Below V.heap.size V w2 := (below_drewN (Below.refl _ V) 1).trans b2; have z0 := below_cell bV2 _ _ y0; have z1 := below_cell bV2 _ _ y1; have z2 := below_cell bV2 _ _ y2)
        | (go_at_call 39; refine (numberD _ b _ _ ov' l' pz _ (IV.out.below bV2) (by have := bV2.size; omega) (by omega) hl' l2 E2).mono ?_; rintro e w3 ⟨rfl, ov3, i3, q3⟩; have z0' := i3.cells.1; have z1' := i3.cells.2.1; have z2' : w3.cell? ⟨wr.heap.size, 0, none⟩ = some (.string o1) := (q3.2 _ _ _ (HLV.out.below bV2) hne2 (by decide)).cell 0))
      all_goals
        have LV3 := hideT (q3.2 _ _ _ (HLV.out.below bV2) hne2 (by decide))
        have LL3 := hideT (q3.2 _ _ _ (LLV.out.below bV2) hne (by decide))
        have W3 := hideT ((WV.out.trans (Wr.of_below (b := b) (by have := HBV.out.size; omega) bV2)).trans q3)
        have I3 := hideT i3
        have v1 : w3.cell? ⟨wr.heap.size, 1, none⟩ = some (.int .i64 o2) := LV3.out.cell 1
        clear i3 q3 z0 z1 z2 z0' z1' z2' y0 y1 y2 d0 d1 bV2 b2
        go_wp2_with fail
        refine (numberD _ b _ _ ov3 l2 o2 w3 I3.out (by have := W3.out.sz; omega) (by omega) hl2 l3 E3).mono ?_
        rintro e w4 ⟨rfl, ov4, i4, q4⟩
        have I4 := hideT i4
        have W4 := hideT (W3.out.trans q4)
        have LL4 := hideT (q4.2 _ _ _ LL3.out hne (by decide))
        clear i4 q4 v1
        go_wp2_with fail
        go_roundw
        case rel => exact ⟨k + 1, ov4, l3, by omega, by go_num, I4, EL3, W4, LL4⟩
        case measure => simp [intOf]; omega
    · have hkk : k = s1.length := by omega
      have EL2 : Hid (l' ++ T2 = L) := by
        show _ = _
        rw [← HE.out, hkk, List.drop_length]
        rfl
      have hl' := le_of_app HE.out hl
      obtain ⟨l4, E4⟩ : ∃ l4, Hid (l' ++ Kp.num s2.length = l4) := ⟨_, rfl⟩
      have EL4 : Hid (l4 ++ s2.flatMap (Kp.condW m) = L) := by
        show _ = _
        rw [← EL2.out, ← E4.out, ← ET2.out, List.append_assoc]
      have u1 : wr.cell? ⟨w.heap.size, 1, none⟩ = some (.slice a2 s2.length c2) := HL2.out.cell 1
      go_wp2_with fail
      refine (numberD _ b _ _ ov' l' s2.length wr HI2.out hHr (by omega) hl' l4 E4).mono ?_
      rintro e w5 ⟨rfl, ov5, i5, q5⟩
      have I5 := hideT i5
      have W5 := hideT (HW2.out.trans q5)
      have LL5 := hideT (q5.2 _ _ _ HL2.out hne (by decide))
      have u2 : w5.cell? ⟨w.heap.size, 1, none⟩ = some (.slice a2 s2.length c2) := LL5.out.cell 1
      clear i5 q5 u1 HI2 HW2 HL2 BB hHr hlt hk hkk hl' HE EL2 E4
      go_wp2_with fail
      go_loopw [42] (fun i wr => ∃ (k : Nat) (ov' : Value) (l' : List UInt8), k ≤ s2.length ∧ i = .int .i64 k ∧ Hid (WIn wB.heap.size b wr (.slice af m.files.length cf) (.slice ai m.items.length ci) ov' l') ∧ Hid (l' ++ (s2.drop k).flatMap (Kp.condW m) = L) ∧ Hid (Wr wB.heap.size b w wr)) (fun i _ => s2.length - (intOf i).toNat)
      case atStart => exact ⟨0, ov5, l4, Nat.zero_le _, rfl, I5, EL4, W5⟩
      case round =>
        clear u2
        obtain ⟨k, ov', l', hk, rfl, HI2, HE, HW2⟩ := hrel
        have BB := hideT (HB.out.trans HW2.out.1)
        have hHr : wB.heap.size ≤ wr.heap.size := BB.out.size
        have hl' := le_of_app HE.out hl
        by_cases hlt : k < s2.length
        · obtain ⟨⟨o1, o2, o3⟩, ho⟩ := Mp.at_lt hlt
          obtain rfl := HCA.out (by omega)
          obtain ⟨hz, e0, e1, e2⟩ := HCC.out k _ ho
          have hev := HF.out _ (List.mem_of_getElem? ho)
          dsimp only at hz e0 e1 e2 hev
          have d0 := below_cell BB.out _ _ e0
          have d1 := below_cell BB.out _ _ e1
          have d2 := below_cell BB.out _ _ e2
          obtain ⟨pz, EP⟩ : ∃ pz, Hid (idxZ m.files o1 = pz) := ⟨_, rfl⟩
          have hpz := idxZ_lt63 m.files o1 hfl
          rw [EP.out] at hpz
          obtain ⟨qz, EQ⟩ : ∃ qz, Hid (idxZ Kp.opsL o2 = qz) := ⟨_, rfl⟩
          have hqz := idxZ_lt63 Kp.opsL o2 (by decide)
          rw [EQ.out] at hqz
          obtain ⟨fz, EF⟩ : ∃ fz, Hid (Kp.fold o3 = fz) := ⟨_, rfl⟩
          have hfz : fz ≤ 2000000 := by
            rw [← EF.out]
            unfold Kp.fold
            split <;> omega
          obtain ⟨l2, E2⟩ : ∃ l2, Hid (l' ++ Kp.num pz = l2) := ⟨_, rfl⟩
          obtain ⟨l3, E3⟩ : ∃ l3, Hid (l2 ++ Kp.num qz = l3) := ⟨_, rfl⟩
          obtain ⟨l4', E4'⟩ : ∃ l4', Hid (l3 ++ Kp.num fz = l4') := ⟨_, rfl⟩
          have EL6 : Hid (l4' ++ (s2.drop (k + 1)).flatMap (Kp.condW m) = L) := by
            show _ = _
            rw [← HE.out, flatMap_at ho, ← E4'.out, ← E3.out, ← E2.out, ← EF.out, ← EQ.out, ← EP.out]
            unfold Kp.condW
            dsimp only
            simp only [List.append_assoc]
            rfl
          have hl4 := le_of_app EL6.out hl
          have hl3 := le_of_app E4'.out hl4
          have hl2 := le_of_app E3.out hl3
          obtain ⟨V, hV⟩ : ∃ V, wr.alloc (.cells #[.string o1, .string o2, .int .i64 o3] 43) = V := ⟨_, rfl⟩
          obtain ⟨BV, LV, zV⟩ := of_alloc hV
          have HBV := hideT BV
          have HLV := hideT LV
          have HVq := hideT hV
          have IV := hideT (HI2.out.below BV)
          have WV := hideT (HW2.out.trans (Wr.of_below (b := b) hHr BV))
          have hbr := HI2.out.lies.lt
          have hne2 : wr.heap.size ≠ b := by omega
          have y0 : V.cell? ⟨b, 0, none⟩ = some (.slice af m.files.length cf) := IV.out.cells.1
          have y2 : V.cell? ⟨wr.heap.size, 0, none⟩ = some (.string o1) := LV.cell 0
          clear hV BV LV ho e0 e1 e2
          go_wp2_with fail
          rw [HVq.out]
          go_region_held3 (fun w' => w'.cell? ⟨b, 0, none⟩ = some (.slice af m.files.length cf) ∧ w'.cell? ⟨wr.heap.size, 0, none⟩ = some (.string o1)) (go_keep) (first
            | (go_at_call 54; refine (indexS _ _ _ _ m.files o1 (frow_below HM.out.files (BB.out.trans ((HBV.out.mono hHr).trans (below_drewN (Below.refl _ V) 1))))).mono ?_; rintro e w2 ⟨rfl, rfl⟩; rw [EP.out]; have bV2 : Below V.heap.size V (V.drewN 1) := (below_drewN (Below.refl _ V) 1); have z0 := below_cell bV2 _ _ y0; have z2 := below_cell bV2 _ _ y2)
            | (go_at_call 39; refine (numberD _ b _ _ ov' l' pz _ (IV.out.below bV2) (by have := bV2.size; omega) (by omega) hl' l2 E2).mono ?_; rintro e w3 ⟨rfl, ov3, i3, q3⟩; have z0' := i3.cells.1; have z2' : w3.cell? ⟨wr.heap.size, 0, none⟩ = some (.string o1) := (q3.2 _ _ _ (HLV.out.below bV2) hne2 (by decide)).cell 0))
          all_goals
            have LV3 := hideT (q3.2 _ _ _ (HLV.out.below bV2) hne2 (by decide))
            have W3 := hideT ((WV.out.trans (Wr.of_below (b := b) (by have := HBV.out.size; omega) bV2)).trans q3)
            have I3 := hideT i3
            have v1 : w3.cell? ⟨wr.heap.size, 1, none⟩ = some (.string o2) := LV3.out.cell 1
            clear i3 q3 z0 z2 z0' z2' y0 y2 d0 d1 d2 bV2
            go_wp2_with fail
            go_region_held3 (fun w' => w'.cell? ⟨wr.heap.size, 1, none⟩ = some (.string o2)) (go_keep) (first
              | (go_at_call 89; refine (opsD _).mono ?_; rintro e w4 ⟨og, rfl, of4, b4⟩; have bV4 : Below w3.heap.size w3 w4 := (below_drewN (Below.refl _ w3) 1).trans b4; have OF4 := hideT of4; have z4 := below_cell bV4 _ _ v1)
              | (go_at_call 54; refine (indexS _ _ _ _ Kp.opsL o2 (by first | exact OF4.out | exact frow_below OF4.out (below_drewN (Below.refl _ w4) 1))).mono ?_; rintro e w5 ⟨rfl, rfl⟩; rw [EQ.out])
              | (go_at_call 39; refine (numberD _ b _ _ ov3 l2 qz _ (I3.out.below bV4) (by have := bV4.size; have := W3.out.sz; omega) (by omega) hl2 l3 E3).mono ?_; rintro e w6 ⟨rfl, ov6, i6, q6⟩; have z6 : w6.cell? ⟨wr.heap.size, 1, none⟩ = some (.string o2) := (q6.2 _ _ _ (LV3.out.below bV4) hne2 (by decide)).cell 1))
            all_goals
              have LV6 := hideT (q6.2 _ _ _ (LV3.out.below bV4) hne2 (by decide))
              have W6 := hideT ((W3.out.trans (Wr.of_below (b := b) (by have := W3.out.sz; omega) bV4)).trans q6)
              have I6 := hideT i6
              have v2 : w6.cell? ⟨wr.heap.size, 2, none⟩ = some (.int .i64 o3) := LV6.out.cell 2
              clear i6 q6 v1 bV4 b4 of4 OF4
              go_wp2_with fail
              refine (foldD o3 w6 hev fz EF).mono ?_
              rintro e w7 ⟨rfl, rfl⟩
              go_wp2_with fail
              refine (numberD _ b _ _ ov6 l3 fz _ I6.out (by have := W6.out.sz; omega) (by omega) hl3 l4' E4').mono ?_
              rintro e w8 ⟨rfl, ov8, i8, q8⟩
              have I8 := hideT i8
              have W8 := hideT (W6.out.trans q8)
              clear i8 q8 v2
              go_wp2_with fail
              go_roundw
              case rel => exact ⟨k + 1, ov8, l4', by omega, by go_num, I8, EL6, W8⟩
              case measure => simp [intOf]; omega
        · have EL9 : Hid (l' = L) := by
            show _ = _
            rw [← HE.out, show k = s2.length by omega, List.drop_length, List.flatMap_nil, List.append_nil]
          go_wp2_with fail
          first | go_end0 | refine bodyPost_ret (results_none rfl _ _ _) rfl ?_
          exact ⟨rfl, _, by rw [← EL9.out]; exact HI2.out, HW2.out⟩
end Go.Proofs.Ytcfalhgcdffjoaa
/-
  The writer: sentries, an item.
-/
set_option linter.unusedSimpArgs false
set_option linter.unusedVariables false
namespace Go.Proofs.Ytcfalhgcdffjoaa
open Go.RowKit
set_option maxRecDepth 100000
set_option maxHeartbeats 8000000 in
theorem sentriesWr (wB : World) (m : Mp.Model) (af ai : Option Addr) (cf ci : Nat) (hm : ModelAt wB af cf ai ci m) (b : Nat) (ov : Value) (l : List UInt8) (w : World) (hB : Below wB.heap.size wB w) (h : WIn wB.heap.size b w (.slice af m.files.length cf) (.slice ai m.items.length ci) ov l) (s : List Mp.Sent) (a1 : Option Addr) (c1 : Nat) (r1 : SRow wB (.slice a1 s.length c1) s) (hx : Mp.sentsB m s = true) (L : List UInt8) (hL : Hid (l ++ Kp.sentsW m s = L)) (hl : L.length ≤ 1000000) :
    Calls Try.prog 60 #[.pointer (some ⟨b, 0, none⟩), .slice a1 s.length c1] w (WPost wB.heap.size b (.slice af m.files.length cf) (.slice ai m.items.length ci) L w) := by
  unfold Mp.sentsB at hx
  simp only [Bool.and_eq_true, decide_eq_true_eq] at hx
  obtain ⟨hs1, hs2⟩ := hx
  have HS := hideT (List.all_eq_true.1 hs2)
  obtain ⟨_, _, hcap1, ob, oo, oa, oc⟩ := srow_at r1
  have HM := hideT hm
  have HOA := hideT oa
  have HOC := hideT oc
  have HB := hideT hB
  have HI := hideT h
  have hHw : wB.heap.size ≤ w.heap.size := hB.size
  obtain ⟨l1, E1⟩ : ∃ l1, Hid (l ++ Kp.num s.length = l1) := ⟨_, rfl⟩
  have EL1 : Hid (l1 ++ s.flatMap (Kp.sentW m) = L) := by
    show _ = _
    rw [← hL.out, ← E1.out, List.append_assoc]
    rfl
  have hll := le_of_app hL.out hl
  clear r1 oa oc hB h hs2 hm
  go_enter Try.func60, Try.ntmps60
  go_wp2_with fail
  refine (numberD _ b _ _ ov l s.length w HI.out hHw (by omega) hll l1 E1).mono ?_
  rintro e w1 ⟨rfl, ov1, i1, q1⟩
  have I1 := hideT i1
  have Q1 := hideT q1
  clear i1 q1
  go_wp2_with fail
  go_loopw [12] (fun i wr => ∃ (k : Nat) (ov' : Value) (l' : List UInt8), k ≤ s.length ∧ i = .int .i64 k ∧ Hid (WIn wB.heap.size b wr (.slice af m.files.length cf) (.slice ai m.items.length ci) ov' l') ∧ Hid (l' ++ (s.drop k).flatMap (Kp.sentW m) = L) ∧ Hid (Wr wB.heap.size b w wr)) (fun i _ => s.length - (intOf i).toNat)
  case atStart => exact ⟨0, ov1, l1, Nat.zero_le _, rfl, I1, EL1, Q1⟩
  case round =>
    obtain ⟨k, ov', l', hk, rfl, HI2, HE, HW2⟩ := hrel
    have BB := hideT (HB.out.trans HW2.out.1)
    have hHr : wB.heap.size ≤ wr.heap.size := BB.out.size
    by_cases hlt : k < s.length
    · obtain ⟨⟨s1, s2⟩, ho⟩ := Mp.at_lt hlt
      obtain rfl := HOA.out (by omega)
      obtain ⟨p1, d1, p2, d2, ro, rc, e0, e1⟩ := HOC.out k _ ho
      have HSB := hideT (HS.out _ (List.mem_of_getElem? ho))
      dsimp only at ro rc e0 e1
      have f0 := below_cell BB.out _ _ e0
      have f1 := below_cell BB.out _ _ e1
      have HRO := hideT ro
      have HRC := hideT rc
      obtain ⟨l2, E2⟩ : ∃ l2, Hid (l' ++ Kp.sentW m (s1, s2) = l2) := ⟨_, rfl⟩
      have EL3 : Hid (l2 ++ (s.drop (k + 1)).flatMap (Kp.sentW m) = L) := by
        show _ = _
        rw [← HE.out, flatMap_at ho, ← E2.out, List.append_assoc]
      have hl2 := le_of_app EL3.out hl
      obtain ⟨V, hV⟩ : ∃ V, wr.alloc (.cells #[.slice p1 s1.length d1, .slice p2 s2.length d2] 47) = V := ⟨_, rfl⟩
      obtain ⟨BV, LV, zV⟩ := of_alloc hV
      have HBV := hideT BV
      have HVq := hideT hV
      have IV := hideT (HI2.out.below BV)
      have WV := hideT (HW2.out.trans (Wr.of_below (b := b) hHr BV))
      have y0 : V.cell? ⟨wr.heap.size, 0, none⟩ = some (.slice p1 s1.length d1) := LV.cell 0
      have y1 : V.cell? ⟨wr.heap.size, 1, none⟩ = some (.slice p2 s2.length d2) := LV.cell 1
      clear hV BV LV ho e0 e1 ro rc
      go_wp2_with fail
      first | rw [HVq.out] | skip
      refine (sentryD wB m af ai cf ci HM.out b ov' l' V (BB.out.trans (HBV.out.mono hHr)) IV.out s1 s2 p1 p2 d1 d2 HRO.out HRC.out HSB.out l2 E2 hl2).mono ?_
      rintro e w4 ⟨rfl, ov4, i4, q4⟩
      have I4 := hideT i4
      have W4 := hideT (WV.out.trans q4)
      clear i4 q4 y0 y1
      go_wp2_with fail
      go_roundw
      case rel => exact ⟨k + 1, ov4, l2, by omega, by go_num, I4, EL3, W4⟩
      case measure => simp [intOf]; omega
    · have EL9 : Hid (l' = L) := by
        show _ = _
        rw [← HE.out, show k = s.length by omega, List.drop_length, List.flatMap_nil, List.append_nil]
      go_wp2_with fail
      first | go_end0 | refine bodyPost_ret (results_none rfl _ _ _) rfl ?_
      exact ⟨rfl, _, by rw [← EL9.out]; exact HI2.out, HW2.out⟩
theorem numberV (H b : Nat) (fv iv ov : Value) (l : List UInt8) (v n : Int) (w : World) (h : WIn H b w fv iv ov l) (hH : H ≤ w.heap.size) (hn : n < 9223372036854775808) (hl : l.length ≤ 1000000) (L : List UInt8) (hL : Hid (l ++ Kp.num n = L)) (hv : v = n) :
    Calls Try.prog 39 #[.pointer (some ⟨b, 0, none⟩), .int .i64 v] w (WPost H b fv iv L w) := by
  subst hv
  exact numberD H b fv iv ov l v w h hH hn hl L hL
set_option maxHeartbeats 8000000 in
theorem itemWr (wB : World) (m : Mp.Model) (af ai : Option Addr) (cf ci : Nat) (hm : ModelAt wB af cf ai ci m) (b : Nat) (ov : Value) (l : List UInt8) (w : World) (hB : Below wB.heap.size wB w) (h : WIn wB.heap.size b w (.slice af m.files.length cf) (.slice ai m.items.length ci) ov l) (x : Mp.Item) (a5 a6 : Option Addr) (c5 c6 : Nat) (r5 : SRow wB (.slice a5 x.entry.length c5) x.entry) (r6 : SRow wB (.slice a6 x.exit.length c6) x.exit) (hx : Kp.Fine m x) (L : List UInt8) (hL : Hid (l ++ Kp.itemW m x = L)) (hl : L.length ≤ 1000000) :
    Calls Try.prog 41 #[.pointer (some ⟨b, 0, none⟩), .agg #[.string x.id, .int .i64 x.kind, .string x.parent, .bool x.req, .int .i64 x.ticks, .slice a5 x.entry.length c5, .slice a6 x.exit.length c6]] w (WPost wB.heap.size b (.slice af m.files.length cf) (.slice ai m.items.length ci) L w) := by
  obtain ⟨_, hil, _⟩ := irow_at hm.items
  have hkind := hx.kind
  have hticks := hx.ticks
  have HSE := hideT hx.entry
  have HSX := hideT hx.exit
  obtain ⟨id, kind, par, req, ticks, en, ex⟩ := x
  dsimp only at *
  have HM := hideT hm
  have HR5 := hideT r5
  have HR6 := hideT r6
  have HB := hideT hB
  have HI := hideT h
  have hHw : wB.heap.size ≤ w.heap.size := hB.size
  obtain ⟨pz, EP⟩ : ∃ pz, Hid (Mp.placeZ m.items par = pz) := ⟨_, rfl⟩
  have hpz := placeZ_lt63 m.items par hil
  rw [EP.out] at hpz
  obtain ⟨hp1, hp2⟩ := hpz
  obtain ⟨l1, E1⟩ : ∃ l1, Hid (l ++ Kp.num kind = l1) := ⟨_, rfl⟩
  obtain ⟨l2, E2⟩ : ∃ l2, Hid (l1 ++ Kp.num (pz + 1) = l2) := ⟨_, rfl⟩
  obtain ⟨l3, E3⟩ : ∃ l3, Hid (l2 ++ Kp.num (if req = true then 1 else 0) = l3) := ⟨_, rfl⟩
  obtain ⟨l4, E4⟩ : ∃ l4, Hid (l3 ++ Kp.num ticks = l4) := ⟨_, rfl⟩
  obtain ⟨l5, E5⟩ : ∃ l5, Hid (l4 ++ Kp.sentsW m en = l5) := ⟨_, rfl⟩
  have E6 : Hid (l5 ++ Kp.sentsW m ex = L) := by
    show _ = _
    rw [← hL.out, ← E5.out, ← E4.out, ← E3.out, ← E2.out, ← E1.out, ← EP.out]
    unfold Kp.itemW
    simp only [List.append_assoc]
  have h5 := le_of_app E6.out hl
  have h4 := le_of_app E5.out h5
  have h3 := le_of_app E4.out h4
  have h2 := le_of_app E3.out h3
  have h1 := le_of_app E2.out h2
  have h0 := le_of_app E1.out h1
  obtain ⟨W, hW⟩ : ∃ W, w.alloc (.cells #[.string id, .int .i64 kind, .string par, .bool req, .int .i64 ticks, .slice a5 en.length c5, .slice a6 ex.length c6] 41) = W := ⟨_, rfl⟩
  obtain ⟨BW, LW, zW⟩ := of_alloc hW
  have HBW := hideT BW
  have HLW := hideT LW
  have HWq := hideT hW
  have WW := hideT (Wr.of_below (b := b) hHw BW)
  have IW := hideT (HI.out.below BW)
  have hne : w.heap.size ≠ b := by have := HI.out.lies.lt; omega
  have u1 : W.cell? ⟨w.heap.size, 1, none⟩ = some (.int .i64 kind) := LW.cell 1
  have hszW := BW.size
  clear hm r5 r6 hx hB h hW LW BW
  go_enter Try.func41, Try.ntmps41
  go_wp2_with fail
  rw [HWq.out]
  refine (numberD _ b _ _ ov l kind W IW.out (by omega) (by omega) h0 l1 E1).mono ?_
  rintro e w1 ⟨rfl, ov1, i1, q1⟩
  have I1 := hideT i1
  have Q1 := hideT (WW.out.trans q1)
  have L1 := hideT (q1.2 _ _ _ HLW.out hne (by decide))
  have B1 := hideT (HB.out.trans Q1.out.1)
  have y0 : w1.cell? ⟨b, 0, none⟩ = some (.slice af m.files.length cf) := i1.cells.1
  have y1 : w1.cell? ⟨b, 1, none⟩ = some (.slice ai m.items.length ci) := i1.cells.2.1
  have y2 : w1.cell? ⟨w.heap.size, 2, none⟩ = some (.string par) := L1.out.cell 2
  have hs1 := B1.out.size
  clear i1 q1 u1
  go_wp2_with fail
  go_region_held3 (fun w' => w'.cell? ⟨b, 0, none⟩ = some (.slice af m.files.length cf) ∧ w'.cell? ⟨b, 1, none⟩ = some (.slice ai m.items.length ci) ∧ w'.cell? ⟨w.heap.size, 2, none⟩ = some (.string par)) (go_keep) (first
    | (go_at_call 59; refine (placeD _ _ _ _ _ m.items par (irow_below HM.out.items (B1.out.trans (below_drewN (Below.refl _ w1) 1)))).mono ?_; rintro e w2 ⟨rfl, b2⟩; rw [EP.out]; have bV2 : Below w1.heap.size w1 w2 := (below_drewN (Below.refl _ w1) 1).trans b2; have z0 := below_cell bV2 _ _ y0; have z1 := below_cell bV2 _ _ y1; have z2 := below_cell bV2 _ _ y2)
    | (go_at_call 39; refine (numberV _ b _ _ ov1 l1 _ (pz + 1) _ (I1.out.below bV2) (by have := bV2.size; omega) (by omega) h1 l2 E2 (by first | omega | (unfold wrap64; omega) | (simp only [IntKind.wrap_i64]; omega))).mono ?_; rintro e w3 ⟨rfl, ov3, i3, q3⟩; have z0' := i3.cells.1; have z1' := i3.cells.2.1; have z2' : w3.cell? ⟨w.heap.size, 2, none⟩ = some (.string par) := (q3.2 _ _ _ (L1.out.below bV2) hne (by decide)).cell 2))
  all_goals
    have L3 := hideT (q3.2 _ _ _ (L1.out.below bV2) hne (by decide))
    have Q3 := hideT ((Q1.out.trans (Wr.of_below (b := b) hs1 bV2)).trans q3)
    have I3 := hideT i3
    have v3 : w3.cell? ⟨w.heap.size, 3, none⟩ = some (.bool req) := L3.out.cell 3
    have hs3 := (HB.out.trans Q3.out.1).size
    clear i3 q3 z0 z1 z2 z0' z1' z2' y0 y1 y2 bV2 b2
    obtain ⟨rq, ERQ⟩ : ∃ rq, Hid (req = rq) := ⟨_, rfl⟩
    rw [ERQ.out] at v3
    cases rq
    all_goals
      go_wp2_with fail
      refine (numberV _ b _ _ ov3 l2 _ (if req = true then 1 else 0) w3 I3.out hs3 (by split <;> decide) h2 l3 E3 (by rw [ERQ.out]; decide)).mono ?_
      rintro e w4 ⟨rfl, ov4, i4, q4⟩
      have I4 := hideT i4
      have Q4 := hideT (Q3.out.trans q4)
      have L4 := hideT (q4.2 _ _ _ L3.out hne (by decide))
      have hs4 := (HB.out.trans Q4.out.1).size
      have v4 : w4.cell? ⟨w.heap.size, 4, none⟩ = some (.int .i64 ticks) := L4.out.cell 4
      clear i4 q4 v3
      go_wp2_with fail
      refine (numberD _ b _ _ ov4 l3 ticks w4 I4.out hs4 (by omega) h3 l4 E4).mono ?_
      rintro e w5 ⟨rfl, ov5, i5, q5⟩
      have I5 := hideT i5
      have Q5 := hideT (Q4.out.trans q5)
      have L5 := hideT (q5.2 _ _ _ L4.out hne (by decide))
      have v5 : w5.cell? ⟨w.heap.size, 5, none⟩ = some (.slice a5 en.length c5) := L5.out.cell 5
      clear i5 q5 v4
      go_wp2_with fail
      refine (sentriesWr wB m af ai cf ci HM.out b ov5 l4 w5 (HB.out.trans Q5.out.1) I5.out en a5 c5 HR5.out HSE.out l5 E5 h5).mono ?_
      rintro e w6 ⟨rfl, ov6, i6, q6⟩
      have I6 := hideT i6
      have Q6 := hideT (Q5.out.trans q6)
      have L6 := hideT (q6.2 _ _ _ L5.out hne (by decide))
      have v6 : w6.cell? ⟨w.heap.size, 6, none⟩ = some (.slice a6 ex.length c6) := L6.out.cell 6
      clear i6 q6 v5
      go_wp2_with fail
      refine (sentriesWr wB m af ai cf ci HM.out b ov6 l5 w6 (HB.out.trans Q6.out.1) I6.out ex a6 c6 HR6.out HSX.out L E6 hl).mono ?_
      rintro e w7 ⟨rfl, ov7, i7, q7⟩
      have I7 := hideT i7
      have Q7 := hideT (Q6.out.trans q7)
      clear i7 q7 v6
      go_wp2_with fail
      first | go_end0 | refine bodyPost_ret (results_none rfl _ _ _) rfl ?_
      exact ⟨rfl, _, I7.out, Q7.out⟩
end Go.Proofs.Ytcfalhgcdffjoaa
/-
  The writer: a whole model; its head; Pack.
-/
set_option linter.unusedSimpArgs false
set_option linter.unusedVariables false
namespace Go.Proofs.Ytcfalhgcdffjoaa
open Go.RowKit
set_option maxRecDepth 100000
set_option maxHeartbeats 8000000 in
theorem allWr (wB : World) (m : Mp.Model) (af ai : Option Addr) (cf ci : Nat) (hm : ModelAt wB af cf ai ci m) (b : Nat) (ov : Value) (l : List UInt8) (w : World) (hB : Below wB.heap.size wB w) (h : WIn wB.heap.size b w (.slice af m.files.length cf) (.slice ai m.items.length ci) ov l) (hx : Kp.Good m) (L : List UInt8) (hL : Hid (l ++ Kp.body m = L)) (hl : L.length ≤ 1000000) :
    Calls Try.prog 21 #[.pointer (some ⟨b, 0, none⟩)] w (WPost wB.heap.size b (.slice af m.files.length cf) (.slice ai m.items.length ci) L w) := by
  obtain ⟨_, hfl, hfcap, fb, fo, fa, fc⟩ := frow_at hm.files
  obtain ⟨_, hil, hicap, ib, io, ia, ic⟩ := irow_at hm.items
  have HM := hideT hm
  have HG := hideT hx
  have HFA := hideT fa
  have HFC := hideT fc
  have HIA := hideT ia
  have HIC := hideT ic
  have HB := hideT hB
  have HI := hideT h
  have hHw : wB.heap.size ≤ w.heap.size := hB.size
  obtain ⟨T5, E5⟩ : ∃ T5, Hid (m.items.flatMap (Kp.itemW m) = T5) := ⟨_, rfl⟩
  obtain ⟨T4, E4⟩ : ∃ T4, Hid (Kp.num m.files.length ++ T5 = T4) := ⟨_, rfl⟩
  obtain ⟨T3, E3⟩ : ∃ T3, Hid (m.items.flatMap (fun x => Kp.text x.id) ++ T4 = T3) := ⟨_, rfl⟩
  obtain ⟨l1, E1⟩ : ∃ l1, Hid (l ++ Kp.num ((m.files.length : Int) + m.items.length) = l1) := ⟨_, rfl⟩
  have EL1 : Hid (l1 ++ (m.files.flatMap Kp.text ++ T3) = L) := by
    show _ = _
    rw [← hL.out, ← E1.out, ← E3.out, ← E4.out, ← E5.out, List.append_assoc]
    rfl
  have hll := le_of_app hL.out hl
  have y0 : w.cell? ⟨b, 0, none⟩ = some (.slice af m.files.length cf) := h.cells.1
  have y1 : w.cell? ⟨b, 1, none⟩ = some (.slice ai m.items.length ci) := h.cells.2.1
  clear hm hx fa fc ia ic hB h
  go_enter Try.func21, Try.ntmps21
  go_wp2_with fail
  go_region_held3 (fun w' => w'.cell? ⟨b, 0, none⟩ = some (.slice af m.files.length cf) ∧ w'.cell? ⟨b, 1, none⟩ = some (.slice ai m.items.length ci)) (go_keep) (first
    | (go_at_call 39; refine (numberV _ b _ _ ov l _ ((m.files.length : Int) + m.items.length) _ (HI.out.below (below_drewN (Below.refl _ w) 1)) (by first | exact hHw | (have := (below_drewN (Below.refl _ w) 1).size; omega)) (by omega) hll l1 E1 (by first | omega | (rw [IntKind.wrap_i64]; omega))).mono ?_; rintro e w1 ⟨rfl, ov1, i1, q1⟩; have z0 := i1.cells.1; have z1 := i1.cells.2.1))
  all_goals
    have Q1 := hideT ((Wr.of_below (b := b) hHw (below_drewN (Below.refl _ w) 1)).trans q1)
    have I1 := hideT i1
    clear i1 q1 z1 y0 y1
    go_wp2_with fail
    go_loopw [29] (fun i wr => ∃ (k : Nat) (ov' : Value) (l' : List UInt8), k ≤ m.files.length ∧ i = .int .i64 k ∧ Hid (WIn wB.heap.size b wr (.slice af m.files.length cf) (.slice ai m.items.length ci) ov' l') ∧ Hid (l' ++ ((m.files.drop k).flatMap Kp.text ++ T3) = L) ∧ Hid (Wr wB.heap.size b w wr)) (fun i _ => m.files.length - (intOf i).toNat)
    case atStart => exact ⟨0, ov1, l1, Nat.zero_le _, rfl, I1, EL1, Q1⟩
    case round =>
      clear z0
      obtain ⟨k, ov', l', hk, rfl, HI2, HE, HW2⟩ := hrel
      have BB := hideT (HB.out.trans HW2.out.1)
      have hHr : wB.heap.size ≤ wr.heap.size := BB.out.size
      by_cases hlt : k < m.files.length
      · obtain ⟨s, ho⟩ := Mp.at_lt hlt
        obtain rfl := HFA.out (by omega)
        obtain ⟨hz, e0⟩ := HFC.out k _ ho
        have hz12 := (HG.out.fz s (List.mem_of_getElem? ho)).2
        have d0 := below_cell BB.out _ _ e0
        obtain ⟨l2, E2⟩ : ∃ l2, Hid (l' ++ Kp.text s = l2) := ⟨_, rfl⟩
        have EL3 : Hid (l2 ++ ((m.files.drop (k + 1)).flatMap Kp.text ++ T3) = L) := by
          show _ = _
          rw [← HE.out, flatMap_at ho, ← E2.out]
          simp only [List.append_assoc]
        have hl2 := le_of_app EL3.out hl
        clear ho e0
        go_wp2_with fail
        refine (textD _ b _ _ ov' l' s wr HI2.out hHr (by omega) l2 E2 hl2).mono ?_
        rintro e w4 ⟨rfl, ov4, i4, q4⟩
        have I4 := hideT i4
        have W4 := hideT (HW2.out.trans q4)
        clear i4 q4
        go_wp2_with fail
        go_roundw
        case rel => exact ⟨k + 1, ov4, l2, by omega, by go_num, I4, EL3, W4⟩
        case measure => simp [intOf]; omega
      · have EL9 : Hid (l' ++ T3 = L) := by
          show _ = _
          rw [← HE.out, show k = m.files.length by omega, List.drop_length]
          rfl
        have EL10 : Hid (l' ++ (m.items.flatMap (fun x => Kp.text x.id) ++ T4) = L) := by
          show _ = _
          rw [E3.out]
          exact EL9.out
        have u1 : wr.cell? ⟨b, 1, none⟩ = some (.slice ai m.items.length ci) := HI2.out.cells.2.1
        go_wp2_with fail
        go_loopw [43] (fun i wr => ∃ (k : Nat) (ov' : Value) (l' : List UInt8), k ≤ m.items.length ∧ i = .int .i64 k ∧ Hid (WIn wB.heap.size b wr (.slice af m.files.length cf) (.slice ai m.items.length ci) ov' l') ∧ Hid (l' ++ ((m.items.drop k).flatMap (fun x => Kp.text x.id) ++ T4) = L) ∧ Hid (Wr wB.heap.size b w wr)) (fun i _ => m.items.length - (intOf i).toNat)
        case atStart => exact ⟨0, ov', l', Nat.zero_le _, rfl, HI2, EL10, HW2⟩
        case round =>
          clear u1 EL9 EL10 HI2 HW2 BB hHr HE hk hlt
          obtain ⟨k2, ov2, l2, hk2, rfl, HI2, HE, HW2⟩ := hrel
          have BB := hideT (HB.out.trans HW2.out.1)
          have hHr : wB.heap.size ≤ wr.heap.size := BB.out.size
          by_cases hlt : k2 < m.items.length
          · obtain ⟨x, ho⟩ := Mp.at_lt hlt
            obtain rfl := HIA.out (by omega)
            obtain ⟨a5, c5, a6, c6, T0⟩ := HIC.out k2 _ ho
            have T1 := T0.turn (below_cell BB.out)
            have hz12 := (HG.out.ids x (List.mem_of_getElem? ho)).2
            obtain ⟨l3, E3'⟩ : ∃ l3, Hid (l2 ++ Kp.text x.id = l3) := ⟨_, rfl⟩
            have EL3 : Hid (l3 ++ ((m.items.drop (k2 + 1)).flatMap (fun x => Kp.text x.id) ++ T4) = L) := by
              show _ = _
              rw [← HE.out, flatMap_at ho, ← E3'.out]
              simp only [List.append_assoc]
            have hl3 := le_of_app EL3.out hl
            obtain ⟨id, kind, par, req, ticks, en, ex⟩ := x
            have d0 := T1.c0
            have d1 := T1.c1
            have d2 := T1.c2
            have d3 := T1.c3
            have d4 := T1.c4
            have d5 := T1.c5
            have d6 := T1.c6
            dsimp only at d0 d1 d2 d3 d4 d5 d6 hz12 E3'
            obtain ⟨V, hV⟩ : ∃ V, wr.alloc (.cells #[.string id, .int .i64 kind, .string par, .bool req, .int .i64 ticks, .slice a5 en.length c5, .slice a6 ex.length c6] 41) = V := ⟨_, rfl⟩
            obtain ⟨BV, LV, zV⟩ := of_alloc hV
            have HBV := hideT BV
            have HVq := hideT hV
            have IV := hideT (HI2.out.below BV)
            have WV := hideT (HW2.out.trans (Wr.of_below (b := b) hHr BV))
            have y2 : V.cell? ⟨wr.heap.size, 0, none⟩ = some (.string id) := LV.cell 0
            have hsV := BV.size
            clear hV BV LV ho T0 T1
            go_wp2_with fail
            first | rw [HVq.out] | skip
            refine (textD _ b _ _ ov2 l2 id V IV.out (by omega) (by omega) l3 E3' hl3).mono ?_
            rintro e w4 ⟨rfl, ov4, i4, q4⟩
            have I4 := hideT i4
            have W4 := hideT (WV.out.trans q4)
            clear i4 q4 y2 d0 d1 d2 d3 d4 d5 d6
            go_wp2_with fail
            go_roundw
            case rel => exact ⟨k2 + 1, ov4, l3, by omega, by go_num, I4, EL3, W4⟩
            case measure => simp [intOf]; omega
          · have EL9 : Hid (l2 ++ T4 = L) := by
              show _ = _
              rw [← HE.out, show k2 = m.items.length by omega, List.drop_length]
              rfl
            obtain ⟨l5, E5'⟩ : ∃ l5, Hid (l2 ++ Kp.num m.files.length = l5) := ⟨_, rfl⟩
            have EL10 : Hid (l5 ++ m.items.flatMap (Kp.itemW m) = L) := by
              show _ = _
              rw [← EL9.out, ← E4.out, ← E5'.out, E5.out, List.append_assoc]
            have hl2 := le_of_app EL9.out hl
            have u0 : wr.cell? ⟨b, 0, none⟩ = some (.slice af m.files.length cf) := HI2.out.cells.1
            go_wp2_with fail
            refine (numberD _ b _ _ ov2 l2 m.files.length wr HI2.out hHr (by omega) hl2 l5 E5').mono ?_
            rintro e w5 ⟨rfl, ov5, i5, q5⟩
            have I5 := hideT i5
            have W5 := hideT (HW2.out.trans q5)
            have u1 : w5.cell? ⟨b, 1, none⟩ = some (.slice ai m.items.length ci) := i5.cells.2.1
            clear i5 q5 u0
            go_wp2_with fail
            go_loopw [66] (fun i wr => ∃ (k : Nat) (ov' : Value) (l' : List UInt8), k ≤ m.items.length ∧ i = .int .i64 k ∧ Hid (WIn wB.heap.size b wr (.slice af m.files.length cf) (.slice ai m.items.length ci) ov' l') ∧ Hid (l' ++ (m.items.drop k).flatMap (Kp.itemW m) = L) ∧ Hid (Wr wB.heap.size b w wr)) (fun i _ => m.items.length - (intOf i).toNat)
            case atStart => exact ⟨0, ov5, l5, Nat.zero_le _, rfl, I5, EL10, W5⟩
            case round =>
              clear u1 EL9 EL10 HI2 HW2 BB hHr HE hk2 hlt I5 W5
              obtain ⟨k3, ov3, l3, hk3, rfl, HI2, HE, HW2⟩ := hrel
              have BB := hideT (HB.out.trans HW2.out.1)
              have hHr : wB.heap.size ≤ wr.heap.size := BB.out.size
              by_cases hlt : k3 < m.items.length
              · obtain ⟨x, ho⟩ := Mp.at_lt hlt
                obtain rfl := HIA.out (by omega)
                obtain ⟨a5, c5, a6, c6, T0⟩ := HIC.out k3 _ ho
                have T1 := T0.turn (below_cell BB.out)
                have HFi := hideT (HG.out.fine x (List.mem_of_getElem? ho))
                obtain ⟨l4, E4'⟩ : ∃ l4, Hid (l3 ++ Kp.itemW m x = l4) := ⟨_, rfl⟩
                have EL3 : Hid (l4 ++ (m.items.drop (k3 + 1)).flatMap (Kp.itemW m) = L) := by
                  show _ = _
                  rw [← HE.out, flatMap_at ho, ← E4'.out]
                  simp only [List.append_assoc]
                have hl4 := le_of_app EL3.out hl
                obtain ⟨id, kind, par, req, ticks, en, ex⟩ := x
                have HR5 := hideT T0.entry
                have HR6 := hideT T0.exit
                have d0 := T1.c0
                have d1 := T1.c1
                have d2 := T1.c2
                have d3 := T1.c3
                have d4 := T1.c4
                have d5 := T1.c5
                have d6 := T1.c6
                dsimp only at d0 d1 d2 d3 d4 d5 d6 HR5 HR6
                obtain ⟨V, hV⟩ : ∃ V, wr.alloc (.cells #[.string id, .int .i64 kind, .string par, .bool req, .int .i64 ticks, .slice a5 en.length c5, .slice a6 ex.length c6] 41) = V := ⟨_, rfl⟩
                obtain ⟨BV, LV, zV⟩ := of_alloc hV
                have HBV := hideT BV
                have HVq := hideT hV
                have IV := hideT (HI2.out.below BV)
                have WV := hideT (HW2.out.trans (Wr.of_below (b := b) hHr BV))
                have y0 : V.cell? ⟨wr.heap.size, 0, none⟩ = some (.string id) := LV.cell 0
                have y1 : V.cell? ⟨wr.heap.size, 1, none⟩ = some (.int .i64 kind) := LV.cell 1
                have y2 : V.cell? ⟨wr.heap.size, 2, none⟩ = some (.string par) := LV.cell 2
                have y3 : V.cell? ⟨wr.heap.size, 3, none⟩ = some (.bool req) := LV.cell 3
                have y4 : V.cell? ⟨wr.heap.size, 4, none⟩ = some (.int .i64 ticks) := LV.cell 4
                have y5 : V.cell? ⟨wr.heap.size, 5, none⟩ = some (.slice a5 en.length c5) := LV.cell 5
                have y6 : V.cell? ⟨wr.heap.size, 6, none⟩ = some (.slice a6 ex.length c6) := LV.cell 6
                clear hV BV LV ho T0 T1
                go_wp2_with fail
                first | rw [HVq.out] | skip
                refine (itemWr wB m _ _ cf ci HM.out b ov3 l3 V (BB.out.trans (HBV.out.mono hHr)) IV.out ⟨id, kind, par, req, ticks, en, ex⟩ a5 a6 c5 c6 HR5.out HR6.out HFi.out l4 E4' hl4).mono ?_
                rintro e w6 ⟨rfl, ov6, i6, q6⟩
                have I6 := hideT i6
                have W6 := hideT (WV.out.trans q6)
                clear i6 q6 y0 y1 y2 y3 y4 y5 y6 d0 d1 d2 d3 d4 d5 d6
                go_wp2_with fail
                go_roundw
                case rel => exact ⟨k3 + 1, ov6, l4, by omega, by go_num, I6, EL3, W6⟩
                case measure => simp [intOf]; omega
              · have EL9 : Hid (l3 = L) := by
                  show _ = _
                  rw [← HE.out, show k3 = m.items.length by omega, List.drop_length, List.flatMap_nil, List.append_nil]
                go_wp2_with fail
                first | go_end0 | refine bodyPost_ret (results_none rfl _ _ _) rfl ?_
                exact ⟨rfl, _, by rw [← EL9.out]; exact HI2.out, HW2.out⟩
end Go.Proofs.Ytcfalhgcdffjoaa
/-
  A head; Pack.
-/
set_option linter.unusedSimpArgs false
set_option linter.unusedVariables false
namespace Go.Proofs.Ytcfalhgcdffjoaa
open Go.RowKit
set_option maxRecDepth 100000
theorem flatMap_len {α : Type} {f : α → List UInt8} {c : Nat} : ∀ {l : List α}, (∀ x ∈ l, (f x).length ≤ c) → (l.flatMap f).length ≤ l.length * c
  | [], _ => by simp
  | x :: l, h => by
    rw [List.flatMap_cons, List.length_append, List.length_cons, Nat.succ_mul]
    have h1 := h x List.mem_cons_self
    have h2 := flatMap_len (l := l) (fun y hy => h y (List.mem_cons_of_mem _ hy))
    omega
theorem sent_len (m : Mp.Model) (s : Mp.Sent) (h : Mp.sentB m s = true) : (Kp.sentW m s).length ≤ 154 := by
  unfold Mp.sentB Mp.onB Mp.ifB at h
  simp only [Bool.and_eq_true, decide_eq_true_eq] at h
  obtain ⟨⟨_, h1, _⟩, h2, _⟩ := h
  have e1 := flatMap_len (f := Kp.onW m) (c := 22) (l := s.1) (fun o _ => by
    unfold Kp.onW
    rw [List.length_append]
    have := num_len (Mp.placeZ m.items o.1)
    have := num_len o.2
    omega)
  have e2 := flatMap_len (f := Kp.condW m) (c := 33) (l := s.2) (fun c _ => by
    unfold Kp.condW
    rw [List.length_append, List.length_append]
    have := num_len (Kp.atZ m.files c.1)
    have := num_len (Kp.atZ Kp.opsL c.2.1)
    have := num_len (Kp.fold c.2.2)
    omega)
  have e3 := num_len s.1.length
  have e4 := num_len s.2.length
  unfold Kp.sentW
  rw [List.length_append, List.length_append, List.length_append]
  have e5 : s.1.length * 22 ≤ 3 * 22 := Nat.mul_le_mul_right _ h1
  have e6 : s.2.length * 33 ≤ 2 * 33 := Nat.mul_le_mul_right _ h2
  omega
theorem sents_len (m : Mp.Model) (l : List Mp.Sent) (h : Mp.sentsB m l = true) : (Kp.sentsW m l).length ≤ 500 := by
  unfold Mp.sentsB at h
  simp only [Bool.and_eq_true, decide_eq_true_eq] at h
  have e1 := flatMap_len (f := Kp.sentW m) (c := 154) (l := l) (fun s hs => sent_len m s (List.all_eq_true.1 h.2 s hs))
  have e2 := num_len l.length
  have e5 : l.length * 154 ≤ 3 * 154 := Nat.mul_le_mul_right _ h.1
  unfold Kp.sentsW
  rw [List.length_append]
  omega
theorem text_len (s : ByteArray) (h : s.size ≤ 12) : (Kp.text s).length ≤ 23 := by
  unfold Kp.text
  rw [List.length_append]
  have := num_len s.size
  have : s.data.toList.length = s.size := Array.length_toList
  omega
theorem body_len {m : Mp.Model} (G : Kp.Good m) : (Kp.body m).length ≤ 30000 := by
  have e1 := flatMap_len (f := Kp.text) (c := 23) (l := m.files) (fun s hs => text_len s (G.fz s hs).2)
  have e2 := flatMap_len (f := fun x : Mp.Item => Kp.text x.id) (c := 23) (l := m.items) (fun x hx => text_len x.id (G.ids x hx).2)
  have e3 := flatMap_len (f := Kp.itemW m) (c := 1100) (l := m.items) (fun x hx => by
    have F := G.fine x hx
    have := num_len x.kind
    have := num_len (Mp.placeZ m.items x.parent + 1)
    have := num_len (if x.req = true then 1 else 0)
    have := num_len x.ticks
    have := sents_len m _ F.entry
    have := sents_len m _ F.exit
    unfold Kp.itemW
    simp only [List.length_append]
    omega)
  have e4 := num_len ((m.files.length : Int) + m.items.length)
  have e5 := num_len m.files.length
  have e6 : m.files.length * 23 ≤ 6 * 23 := Nat.mul_le_mul_right _ G.files
  have e7 : m.items.length * 23 ≤ 16 * 23 := Nat.mul_le_mul_right _ G.items
  have e8 : m.items.length * 1100 ≤ 16 * 1100 := Nat.mul_le_mul_right _ G.items
  unfold Kp.body
  simp only [List.length_append]
  omega
theorem num_pos (n : Int) : 0 < (Kp.num n).length := by
  show 0 < (if 128 ≤ n then UInt8.ofNat ((n % 128).toNat + 128) :: Kp.numF 9 (n / 128) else [Kp.byte n]).length
  split <;> simp
theorem body_pos (m : Mp.Model) : 0 < (Kp.body m).length := by
  unfold Kp.body
  rw [List.length_append]
  have := num_pos ((m.files.length : Int) + m.items.length)
  omega
theorem sealed_len (l : List UInt8) : (Kp.sealed l).length = 8 + l.length := by
  unfold Kp.sealed
  rw [List.length_append, Kp.head_len]
theorem hd_cells (s : Nat) : Lib.byteCells (Kp.head s) = [.int .u8 83, .int .u8 78, .int .u8 84, .int .u8 49, .int .u8 ((s / 16777216 % 256 : Nat) : Int), .int .u8 ((s / 65536 % 256 : Nat) : Int), .int .u8 ((s / 256 % 256 : Nat) : Int), .int .u8 ((s % 256 : Nat) : Int)] := by
  unfold Kp.head Lib.byteCells
  simp only [List.map_cons, List.map_nil, UInt8.toNat_ofNat']
  rfl
theorem wpList_app {ops : Array Oper} {rest : List Oper} {o : Oper} {a : Act} {Q : Exit → Act → World → Prop} {w : World} (hgd : o.guard = none) (s x : Operand) (t : TypeId) (ho : o.op = .call { callee := .builtin .append, args := #[s, x], argTypes := #[t, t] }) (v xv : Value) (hs : a.eval s = v) (hx : a.eval x = xv) (v' : Value) (w' : World) (ty : TypeId) (hty : o.type = ty)
    (hr : (Builtin.append_ #[t, t] ty #[v, xv]).run Try.prog w = .ok v' w') (h : wpList Try.prog ops Q rest (a.put o.dst v') w') : wpList Try.prog ops Q (o :: rest) a w := by
  subst hty
  refine wpList_plain hgd fun K hK => ?_
  unfold Oper.wp execOp
  simp only [ho, resolve, invoke, builtin, Sem.run_bind, Sem.run_pure, Result.andThen_ok, List.map_toArray, List.map_cons, List.map_nil, hs, hx, hr]
  exact hK _ _ h
/-- Four bytes behind four, where there is no room. -/
theorem app_four (w : World) (a0 a1 : Addr) (xs ys : List Value) (hx : xs.length = 4) (hy : ys.length = 4) (h0 : ∀ j v, xs[j]? = some v → w.cell? (a0.add j) = some v) (h1 : ∀ j v, ys[j]? = some v → w.cell? (a1.add j) = some v) :
    ∃ (cap : Nat) (w' : World), (Builtin.append_ #[27, 27] 27 #[.slice (some a0) 4 4, .slice (some a1) 4 4]).run Try.prog w = .ok (.slice (some ⟨w.heap.size, 0, none⟩) 8 cap) w' ∧ w'.ownsRow w.heap.size 5 1 (.slice (some ⟨w.heap.size, 0, none⟩) 8 cap) 8 (xs ++ ys) ∧ Below w.heap.size w w' := by
  obtain ⟨i, hi, hz, hz1, hz2⟩ := info_parts infoB
  have hr := run_append_grow (P := Try.prog) w 27 27 5 i (.int .u8 0) Try.underlying27 hi hz a0 4 4 xs (by rw [hz1, hx]) h0 a1 4 4 ys (by rw [hz1, hy]) h1 (by decide) (by decide) (by rw [hz2]; decide)
  have hge := grownCap_ge w 8 4 5
  have hcm : grownCap w 8 4 5 ≤ maxLen := grownCap_le_maxLen w 8 4 5 (by unfold maxLen; decide)
  have hlen : (xs ++ ys).length = 8 * 1 := by rw [List.length_append, hx, hy]
  refine ⟨_, _, hr, ⟨hlen, .inr ⟨w.heap.size, _, _, rfl, Nat.le_refl _, heap_alloc_new w.drew _, hge, hcm, ?_, ?_⟩⟩, ⟨rfl, rfl, rfl, by simp, fun k hk => heap_alloc_old w.drew _ hk⟩⟩
  · simp only [Array.size_append, List.size_toArray, size_zeroCells, hx, hy]
    simp [Value.cells]
    omega
  · simp only [Array.toList_append, List.append_assoc]
    rw [← List.append_assoc, ← hlen]
    exact List.take_left
set_option maxHeartbeats 2000000 in
theorem withHeadD (w : World) (v : Value) (l : List UInt8) (h : BRow w v l) (h0 : 0 < l.length) (hl : l.length ≤ 1000000) :
    Calls Try.prog 22 #[v] w fun e w' => ∃ v', e = .returned v' ∧ w'.ownsRow w.heap.size 5 1 v' (Kp.sealed l).length (Lib.byteCells (Kp.sealed l)) ∧ Below w.heap.size w w' := by
  have HV := hideT h
  obtain ⟨b, o, ao, cap, rfl, h2, h3, h4, h5⟩ := h
  obtain rfl := h3 h0
  have HC := hideT h5
  obtain ⟨s, ES⟩ : ∃ s, Hid (Kp.sum l = s) := ⟨_, rfl⟩
  have hs : s < 4294967296 := by rw [← ES.out]; exact Kp.sum_lt l
  obtain ⟨i0, hi0, hz0, hz1, hz2⟩ := info_parts infoB
  clear h3 h5
  go_enter Try.func22, Try.ntmps22
  go_wp2_with fail
  refine (sumD w _ l HV.out s ES).mono ?_
  rintro e w1 ⟨rfl, rfl⟩
  have hcv := Lib.run_convert_bytes_const (P := Try.prog) w1 27 5 #[.int .u8 83, .int .u8 78, .int .u8 84, .int .u8 49] 4 4 Try.underlying27 Try.underlying5
  obtain ⟨X1, hX1⟩ : ∃ X1, w1.alloc (.cells #[.int .u8 83, .int .u8 78, .int .u8 84, .int .u8 49] 5 (4, 5)) = X1 := ⟨_, rfl⟩
  obtain ⟨X2, hX2⟩ : ∃ X2, X1.alloc (.cells #[.int .u8 ((s : Int) / 16777216), .int .u8 ((s : Int) / 65536 % 256), .int .u8 ((s : Int) / 256 % 256), .int .u8 ((s : Int) % 256)] 5) = X2 := ⟨_, rfl⟩
  have B1 : Below w1.heap.size w1 X1 := by rw [← hX1]; exact (Below.refl _ w1).alloc (Nat.le_refl _) _
  have z1 : X1.heap.size = w1.heap.size + 1 := by rw [← hX1]; simp
  have B2 : Below X1.heap.size X1 X2 := by rw [← hX2]; exact (Below.refl _ X1).alloc (Nat.le_refl _) _
  have z2 : X2.heap.size = w1.heap.size + 2 := by rw [← hX2]; simp [z1]
  have N0 : ∀ (j : Nat) v, [Value.int .u8 83, .int .u8 78, .int .u8 84, .int .u8 49][j]? = some v → X2.cell? ((⟨w1.heap.size, 0, none⟩ : Addr).add j) = some v := by
    intro j v hj
    refine below_cell B2 _ _ ?_
    rw [← hX1]
    exact World.news_of_block (fr := (4, 5)) (heap_alloc_new w1 _) j v hj
  have N1 : ∀ (j : Nat) v, [Value.int .u8 ((s : Int) / 16777216), .int .u8 ((s : Int) / 65536 % 256), .int .u8 ((s : Int) / 256 % 256), .int .u8 ((s : Int) % 256)][j]? = some v → X2.cell? ((⟨w1.heap.size + 1, 0, none⟩ : Addr).add j) = some v := by
    intro j v hj
    rw [← hX2, ← z1]
    exact World.news_of_block (fr := (0, 0)) (heap_alloc_new X1 _) j v hj
  obtain ⟨cap1, X3, hr3, O3, B3⟩ := app_four X2 ⟨w1.heap.size, 0, none⟩ ⟨w1.heap.size + 1, 0, none⟩ _ _ rfl rfl N0 N1
  have B123 : Below w1.heap.size w1 X3 := (B1.trans (B2.mono B1.size)).trans (B3.mono (by omega))
  have HCX : Hid (∀ (j : Nat) v, (Lib.byteCells l)[j]? = some v → X3.cell? ((⟨b, o, none⟩ : Addr).add j) = some v) := by
    intro j v hj
    unfold Lib.byteCells at hj
    rw [List.getElem?_map] at hj
    cases hlj : l[j]? with
    | none => rw [hlj] at hj; cases hj
    | some x =>
      rw [hlj] at hj
      obtain rfl := Option.some.inj hj
      rw [show (⟨b, o, none⟩ : Addr).add j = ⟨b, o + j, none⟩ by unfold Addr.add; split <;> simp_all]
      exact below_cell B123 _ _ (HC.out j x hlj)
  rw [z2] at hr3 O3
  have HO3 := hideT O3
  have HB3 := hideT B123
  have HR3 := hideT hr3
  have HX1 := hideT hX1
  have HX2 := hideT hX2
  clear N0 N1 O3 B1 B2 B3 hr3 B123 hX1 hX2
  have hs2 : w1.heap.size ≤ X3.heap.size := HB3.out.size
  have hbl : (Lib.byteCells l).length = l.length * 1 := by rw [Lib.byteCells_length, Nat.mul_one]
  go_wp2_with (first | (at_builtin; rw [HX1.out, HX2.out]; refine wpList_app (by rfl) _ _ _ (by rfl) _ _ (by rfl) (by rfl) _ _ _ (by rfl) HR3.out ?_) | (at_builtin; refine wpList_append_lies _ (by rfl) _ _ _ (by rfl) (w1.heap.size + 2) 5 i0 _ 1 1 Try.underlying27 hi0 hz0 hz1 hz2 rfl (by omega) (.slice (some ⟨w1.heap.size + 2, 0, none⟩) 8 cap1) 8 _ (by rfl) HO3.out ⟨b, o, none⟩ l.length cap (Lib.byteCells l) (by rfl) hbl HCX.out (Lib.byteCells_one l) (by omega) (by unfold maxLen; omega) (by omega) (by have := HO3.out; rcases this.2 with ⟨h, _⟩ | ⟨g, _, cur, h, _, hg, _⟩; (cases h); (have := (Array.getElem?_eq_some_iff.1 hg).1; simp only [Value.slice.injEq, Option.some.injEq, Addr.mk.injEq] at h; omega)) X3.heap.size rfl ?_; intro gb cap2 w3 hown hgrow hat hlt3) | fail)
  go_ret
  have e1 : ((s / 16777216 % 256 : Nat) : Int) = (s : Int) / 16777216 := by omega
  have e2 : ((s / 65536 % 256 : Nat) : Int) = (s : Int) / 65536 % 256 := by omega
  have e3 : ((s / 256 % 256 : Nat) : Int) = (s : Int) / 256 % 256 := by omega
  have e4 : ((s % 256 : Nat) : Int) = (s : Int) % 256 := by omega
  have hc := hd_cells s
  rw [e1, e2, e3, e4] at hc
  refine ⟨_, rfl, ?_, ?_⟩
  · rw [sealed_len]
    unfold Kp.sealed
    rw [ES.out, Lib.byteCells_append, hc]
    exact ⟨hown.1, hown.2.elim Or.inl (fun ⟨g, cap, cur, hv, hg, r⟩ => Or.inr ⟨g, cap, cur, hv, by omega, r⟩)⟩
  · exact ⟨hgrow.os.trans HB3.out.os, hgrow.tape.trans HB3.out.tape, hgrow.output.trans HB3.out.output, Nat.le_trans hs2 hgrow.size, fun k hk => (hgrow.block k (by omega) (fun e => by have : w1.heap.size + 2 = k := Option.some.inj e.symm; omega)).trans (HB3.out.block k hk)⟩
set_option maxHeartbeats 2000000 in
theorem packD (w : World) (m : Mp.Model) (af ai : Option Addr) (cf ci : Nat) (hm : ModelAt w af cf ai ci m) (hb : Mp.isB m = true) :
    Calls Try.prog 11 #[.agg #[.slice af m.files.length cf, .slice ai m.items.length ci]] w fun e w' => ∃ v, e = .returned (.tuple #[v, .int .i64 0]) ∧ w'.ownsRow w.heap.size 5 1 v (Kp.pack m).length (Lib.byteCells (Kp.pack m)) ∧ Below w.heap.size w w' := by
  have HM := hideT hm
  have HB := hideT hb
  have G := Kp.good_of hb
  have HG := hideT G
  have hbl := body_len G
  have hbp := body_pos m
  clear hm hb G
  go_enter Try.func11, Try.ntmps11
  go_wp2_with fail
  generalize hW1 : w.alloc _ = W1
  obtain ⟨B1, L1, z1⟩ := of_alloc hW1
  have HB1 := hideT B1
  have HL1 := hideT L1
  refine (isProgV W1 m af ai cf ci (HM.out.below B1) true HB).mono ?_
  rintro e w2 ⟨rfl, b2⟩
  have B2 := hideT (B1.trans (b2.mono B1.size))
  have L2 := hideT (L1.below b2)
  have x0 : w2.cell? ⟨w.heap.size, 0, none⟩ = some (.slice af m.files.length cf) := L2.out.cell 0
  have x1 : w2.cell? ⟨w.heap.size, 1, none⟩ = some (.slice ai m.items.length ci) := L2.out.cell 1
  clear b2 B1 L1 hW1
  obtain ⟨W3, hW3⟩ : ∃ W3, w2.alloc (.cells #[.slice af m.files.length cf, .slice ai m.items.length ci, .slice none 0 0] 54) = W3 := ⟨_, rfl⟩
  obtain ⟨B3, L3, z3⟩ := of_alloc hW3
  have HB3 := hideT B3
  have I3 : Hid (WIn w2.heap.size w2.heap.size W3 (.slice af m.files.length cf) (.slice ai m.items.length ci) (.slice none 0 0) []) := ⟨L3, Nat.le_refl _, World.ownsRow_nil _ _ _ _⟩
  have HW3 := hideT hW3
  clear hW3 B3 L3
  go_wp2_with fail
  rw [HW3.out]
  refine (allWr w2 m af ai cf ci (HM.out.below B2.out) w2.heap.size _ [] W3 HB3.out I3.out HG.out (Kp.body m) (by show [] ++ _ = _; rfl) (by omega)).mono ?_
  rintro e w4 ⟨rfl, ov4, i4, q4⟩
  have I4 := hideT i4
  obtain ⟨oa, oc, hov⟩ := slice_form i4.out
  subst hov
  have y2 : w4.cell? ⟨w2.heap.size, 2, none⟩ = some (.slice oa (Kp.body m).length oc) := i4.cells.2.2.1
  have B4 := hideT (B2.out.trans (((HB3.out.trans q4.1)).mono B2.out.size))
  clear i4 q4 x0 x1
  go_wp2_with fail
  refine (withHeadD w4 _ (Kp.body m) (brow_own I4.out.out (by omega)) hbp (by omega)).mono ?_
  rintro e w5 ⟨v, rfl, o5, b5⟩
  have O5 := hideT o5
  have B5 := hideT (B4.out.trans (b5.mono B4.out.size))
  clear o5 b5 y2
  go_wp2_with fail
  refine bodyPost_ret (v := .tuple #[v, .int .i64 0]) (by simp [results, Try.results11, go_sem]) rfl ⟨v, rfl, ?_, B5.out⟩
  have := B4.out.size
  exact ⟨O5.out.1, O5.out.2.elim Or.inl (fun ⟨g, cap, cur, hv, hg, r⟩ => Or.inr ⟨g, cap, cur, hv, by omega, r⟩)⟩
set_option maxHeartbeats 2000000 in
theorem packNo (w : World) (m : Mp.Model) (af ai : Option Addr) (cf ci : Nat) (hm : ModelAt w af cf ai ci m) (hb : Mp.isB m = false) :
    Calls Try.prog 11 #[.agg #[.slice af m.files.length cf, .slice ai m.items.length ci]] w fun e w' => e = .returned (.tuple #[.slice none 0 0, .int .i64 1]) ∧ Below w.heap.size w w' := by
  have HM := hideT hm
  have HB := hideT hb
  clear hm hb
  go_enter Try.func11, Try.ntmps11
  go_wp2_with fail
  generalize hW1 : w.alloc _ = W1
  obtain ⟨B1, L1, z1⟩ := of_alloc hW1
  refine (isProgV W1 m af ai cf ci (HM.out.below B1) false HB).mono ?_
  rintro e w2 ⟨rfl, b2⟩
  have B2 := hideT (B1.trans (b2.mono B1.size))
  clear b2 B1 L1 hW1
  go_wp2_with fail
  refine bodyPost_ret (v := .tuple #[.slice none 0 0, .int .i64 1]) (by simp [results, Try.results11, go_sem]) rfl ⟨rfl, B2.out⟩
theorem own_form {w : World} {H : Nat} {e : TypeId} {z : Nat} {v : Value} {n : Nat} {xs : List Value} (h : w.ownsRow H e z v n xs) (hn : 0 < n) : ∃ g cap, v = .slice (some ⟨g, 0, none⟩) n cap := by
  rcases h.2 with ⟨_, h0⟩ | ⟨g, cap, _, hv, _⟩
  · omega
  · exact ⟨g, cap, hv⟩
theorem own_capS {w : World} {H : Nat} {e : TypeId} {z : Nat} {a : Option Addr} {n c k : Nat} {xs : List Value} (h : w.ownsRow H e z (.slice a k c) n xs) : n ≤ c ∧ c ≤ maxLen := by
  rcases h.2 with ⟨h1, h0⟩ | ⟨g, cap, _, hv, _, _, h2, h3, _⟩
  · simp only [Value.slice.injEq] at h1
    exact ⟨by omega, by rw [h1.2.2]; exact Nat.zero_le _⟩
  · simp only [Value.slice.injEq] at hv
    rw [hv.2.2]
    exact ⟨h2, h3⟩
def mP : Mp.Model := ⟨[], [⟨⟨#[112]⟩, 1, Mp.e0, false, 0, [], []⟩]⟩
theorem is_mP : Mp.isB mP = true := by kernel_rfl
theorem len_mP : (Kp.pack mP).length = 18 := by kernel_rfl
theorem head_mP : (Kp.pack mP).take 4 = [83, 78, 84, 49] := by kernel_rfl
theorem sum_abc : Kp.sum [97, 98, 99] = 38600999 := by kernel_rfl
set_option maxHeartbeats 2000000 in
theorem known6 (w : World) : Calls Try.prog 14 #[] w fun e w' => e = .returned (.bool true) ∧ Below w.heap.size w w' := by
  go_enter Try.func14, Try.ntmps14
  go_wp2_with fail
  generalize hW1 : World.alloc _ _ = W1
  obtain ⟨B1, L1, z1⟩ := of_alloc hW1
  have HM : ModelAt W1 none 0 (some ⟨w.heap.size, 0, none⟩) 1 mP := ⟨rowR_nil _, irow_bare (H := 0) (own_of_lies (z := 7) (n := 1) L1 (Nat.zero_le _) rfl (by decide)) rfl (by decide) (fun x hx => by rw [List.mem_singleton.1 hx]; exact ⟨by decide, by decide, rfl, rfl⟩)⟩
  refine (packD W1 mP _ _ _ _ HM is_mP).mono ?_
  rintro e w2 ⟨v, rfl, o2, b2⟩
  have B2 := hideT (B1.trans (b2.mono B1.size))
  rw [len_mP] at o2
  obtain ⟨g, cap, hv⟩ := own_form o2 (by decide)
  subst hv
  have hcap := own_capS o2
  have O2 := hideT o2
  clear HM L1 B1 b2 o2 hW1
  have hcv := Lib.run_convert_bytes_const (P := Try.prog) w2 27 5 #[.int .u8 97, .int .u8 98, .int .u8 99] 3 3 Try.underlying27 Try.underlying5
  obtain ⟨X1, hX1⟩ : ∃ X1, w2.alloc (.cells #[.int .u8 97, .int .u8 98, .int .u8 99] 5 (3, 4)) = X1 := ⟨_, rfl⟩
  have BX : Hid (Below w2.heap.size w2 X1) := by rw [← hX1]; exact (Below.refl _ w2).alloc (Nat.le_refl _) _
  have HR : Hid (BRow X1 (.slice (some ⟨w2.heap.size, 0, none⟩) 3 3) [97, 98, 99]) := by
    refine ⟨w2.heap.size, 0, _, 3, rfl, Nat.le_refl _, fun _ => rfl, by decide, fun i x hx => ?_⟩
    have hlt := (List.getElem?_eq_some_iff.1 hx).1
    rw [← hX1]
    have := World.news_of_block (fr := (3, 4)) (heap_alloc_new w2 (.cells #[.int .u8 97, .int .u8 98, .int .u8 99] 5 (3, 4))) i (.int .u8 x.toNat) (by
      match i, hlt with
      | 0, _ => simp at hx; subst hx; rfl
      | 1, _ => simp at hx; subst hx; rfl
      | 2, _ => simp at hx; subst hx; rfl)
    rw [show (⟨w2.heap.size, 0, none⟩ : Addr).add i = ⟨w2.heap.size, 0 + i, none⟩ by unfold Addr.add; split <;> simp_all] at this
    exact this
  have hcs : (convert 27 9 (.slice (some ⟨g, 0, none⟩) 4 cap)).run Try.prog X1 = .ok (.string ⟨#[83, 78, 84, 49]⟩) X1 := by
    refine run_convert_bytes_back (P := Try.prog) X1 27 9 5 ⟨g, 0, none⟩ cap [83, 78, 84, 49] Try.underlying27 Try.underlying5 Try.underlying9 ?_
    intro j hj
    have hj4 : j < 4 := hj
    rw [show (⟨g, 0, none⟩ : Addr).add j = ⟨g, j, none⟩ by unfold Addr.add; split <;> simp_all]
    refine below_cell BX.out _ _ (own_cell O2.out ?_)
    unfold Lib.byteCells
    have h1 : (Kp.pack mP)[j]? = ([83, 78, 84, 49] : List UInt8)[j]? := by rw [← head_mP, List.getElem?_take, if_pos hj4]
    rw [List.getElem?_map, h1, List.getElem?_eq_getElem hj]
    rfl
  have HX1 := hideT hX1
  clear hX1
  go_wp2_with fail
  rw [HX1.out]
  refine (sumD X1 _ _ HR.out 38600999 (by show _ = _; exact sum_abc)).mono ?_
  rintro e w3 ⟨rfl, rfl⟩
  obtain ⟨hc1, hc2⟩ := hcap
  go_wp2_with fail
  go_ret
  exact ⟨rfl, B2.out.trans (BX.out.mono B2.out.size)⟩
end Go.Proofs.Ytcfalhgcdffjoaa
