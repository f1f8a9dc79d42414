/-
  The writer in memory: a number more, a text more.
-/
import Derived.Test.YtcfalhgcdffjoaaKMem
import Derived.Deep.Upon
import Derived.Lib.AppendStr
import Derived.Maps.AppendAt
set_option linter.unusedSimpArgs false
set_option linter.unusedVariables false
namespace Go.Proofs.Ytcfalhgcdffjoaa
open Go.RowKit
set_option maxRecDepth 100000
theorem infoB : (Try.prog.info? 5).map (fun i => (i.zero, i.size, i.bytes)) = some (some (.int .u8 0), 1, 1) := by kernel_rfl
/-- The writer at b: its model's two rows, what is written. -/
structure WIn (H b : Nat) (w : World) (fv iv ov : Value) (l : List UInt8) : Prop where
  lies : Lies w b 54 #[fv, iv, ov]
  bH : H ≤ b
  out : w.ownsRow H 5 1 ov l.length (Lib.byteCells l)
/-- What a writing keeps: all below H, and all blocks but bytes and the writer's own. -/
def Wr (H b : Nat) (w w' : World) : Prop := Below H w w' ∧ ∀ k t C, Lies w k t C → k ≠ b → t ≠ 5 → Lies w' k t C
theorem Wr.refl (H b : Nat) (w : World) : Wr H b w w := ⟨Below.refl _ _, fun _ _ _ h _ _ => h⟩
theorem Wr.trans {H b : Nat} {a c d : World} (h : Wr H b a c) (k : Wr H b c d) : Wr H b a d := ⟨h.1.trans k.1, fun i t C hi h1 h2 => k.2 i t C (h.2 i t C hi h1 h2) h1 h2⟩
theorem Wr.of_below {H b : Nat} {w w' : World} (hH : H ≤ w.heap.size) (h : Below w.heap.size w w') : Wr H b w w' := ⟨h.mono hH, fun k t C hk _ _ => hk.below h⟩
theorem WIn.below {H b : Nat} {w w' : World} {fv iv ov : Value} {l : List UInt8} (h : WIn H b w fv iv ov l) (hb : Below w.heap.size w w') : WIn H b w' fv iv ov l := ⟨h.lies.below hb, h.bH, own_below h.out hb⟩
theorem WIn.cells {H b : Nat} {w : World} {fv iv ov : Value} {l : List UInt8} (h : WIn H b w fv iv ov l) : w.cell? ⟨b, 0, none⟩ = some fv ∧ w.cell? ⟨b, 1, none⟩ = some iv ∧ w.cell? ⟨b, 2, none⟩ = some ov ∧ w.frozen? ⟨b, 2, none⟩ = false :=
  ⟨h.lies.cell 0, h.lies.cell 1, h.lies.cell 2, h.lies.free 2⟩
theorem WIn.push {H b : Nat} {w W w3 : World} {fv iv ov ov' : Value} {l l' : List UInt8} {n : Nat} {xs : List Value} (h : WIn H b w fv iv ov l) (hH : H ≤ w.heap.size) (hB : Below w.heap.size w W) (hg : W.grownBy w3 ov.ownBlock) (ho : w3.ownsRow H 5 1 ov' n xs) (hn : n = l'.length) (hx : xs = Lib.byteCells l') :
    (w3.cell? ⟨b, 2, none⟩ = some ov ∧ w3.frozen? ⟨b, 2, none⟩ = false) ∧ WIn H b (w3.setCell ⟨b, 2, none⟩ ov') fv iv ov' l' ∧ Wr H b w (w3.setCell ⟨b, 2, none⟩ ov') := by
  subst hn
  subst hx
  have h1 := h.below hB
  have hl3 : Lies w3 b 54 #[fv, iv, ov] := h1.lies.keep (Keep.grown hg) (own_ne h1.out h1.lies (by decide))
  refine ⟨⟨hl3.cell 2, hl3.free 2⟩, ⟨hl3.set 2 ov', h.bH, own_off ho hl3 (by decide) 2 ov'⟩, ?_, fun k t C hk hkb ht => ?_⟩
  · have hb3 : Below H w w3 := ⟨hg.os.trans hB.os, hg.tape.trans hB.tape, hg.output.trans hB.output, Nat.le_trans hB.size hg.size, fun k hk => (hg.block k (by have := hB.size; omega) (fun e => by have := (own_lt h.out e.symm).2; omega)).trans (hB.block k (by omega))⟩
    exact hb3.setCell h.bH _
  · have hk1 := hk.below hB
    have hk3 : Lies w3 k t C := hk1.keep (Keep.grown hg) (own_ne h1.out hk1 ht)
    exact hk3.off _ _ hkb
/-- What a writing comes to. -/
def WPost (H b : Nat) (fv iv : Value) (L : List UInt8) (w : World) (e : Ending) (w' : World) : Prop := e = .returned (.tuple #[]) ∧ ∃ ov', WIn H b w' fv iv ov' L ∧ Wr H b w w'
theorem numF_len : ∀ (k : Nat) (n : Int), (Kp.numF k n).length ≤ k + 1
  | 0, n => Nat.le_refl _
  | k + 1, n => by
    show (if 128 ≤ n then UInt8.ofNat ((n % 128).toNat + 128) :: Kp.numF k (n / 128) else [Kp.byte n]).length ≤ k + 2
    split
    · have := numF_len k (n / 128)
      rw [List.length_cons]
      omega
    · rw [List.length_singleton]
      omega
theorem num_len (n : Int) : (Kp.num n).length ≤ 11 := numF_len 10 n
theorem or8A : (List.range 256).all (fun x => bits .or .u8 (x : Int) 128 == ((x % 128 + 128 : Nat) : Int)) = true := by kernel_rfl
theorem byte_or (m : Int) (h : 0 ≤ m) : bits .or .u8 (m % 256) 128 = ((UInt8.ofNat ((m % 128).toNat + 128)).toNat : Int) := by
  obtain ⟨k, hk⟩ : ∃ k : Nat, m % 256 = k := ⟨(m % 256).toNat, by omega⟩
  have h1 := beq_iff_eq.1 (List.all_eq_true.1 or8A k (List.mem_range.2 (by omega)))
  rw [hk, h1, UInt8.toNat_ofNat']
  omega
theorem byte_of (m : Int) : m % 256 = ((Kp.byte m).toNat : Int) := by
  unfold Kp.byte
  rw [UInt8.toNat_ofNat']
  omega
set_option maxHeartbeats 1000000 in
theorem numberD (H b : Nat) (fv iv ov : Value) (l : List UInt8) (n : Int) (w : World) (h : WIn H b w fv iv ov l) (hH : H ≤ w.heap.size) (hn : n < 9223372036854775808) (hl : l.length ≤ 1000000) (L : List UInt8) (hL : Hid (l ++ Kp.num n = L)) :
    Calls Try.prog 39 #[.pointer (some ⟨b, 0, none⟩), .int .i64 n] w (WPost H b fv iv L w) := by
  have H1 := hideT h
  have hLl : L.length ≤ 1000011 := by
    rw [← hL.out, List.length_append]
    have := num_len n
    omega
  obtain ⟨i0, hi0, hz0, hz1, hz2⟩ := info_parts infoB
  clear h
  go_enter Try.func39, Try.ntmps39
  go_wp2_with fail
  go_loopw [1] (fun q wr => ∃ (m : Int) (ov' : Value) (l' : List UInt8), q = .int .i64 m ∧ m < 9223372036854775808 ∧ Hid (WIn H b wr fv iv ov' l') ∧ Hid (l' ++ Kp.num m = L) ∧ Hid (Wr H b w wr)) (fun q _ => (intOf q).toNat)
  case atStart => exact ⟨n, ov, l, rfl, hn, H1, hL, Wr.refl _ _ _⟩
  case round =>
    obtain ⟨m, ov', l', rfl, hm, HI, HL, HW⟩ := hrel
    obtain ⟨x0, x1, x2, x3⟩ := HI.out.cells
    have hl' : l'.length ≤ 1000011 := by
      have := congrArg List.length HL.out
      rw [List.length_append] at this
      omega
    have hlt := HI.out.lies.lt
    obtain ⟨ia, ic, rfl⟩ := slice_form HI.out.out
    have hHr : H ≤ wr.heap.size := by have := HW.out.1.size; omega
    by_cases h128 : 128 ≤ m
    · have HC := hideT (byte_or m (by omega))
      have HN : Hid ((l' ++ [UInt8.ofNat ((m % 128).toNat + 128)]) ++ Kp.num (m / 128) = L) := by
        show _ = _
        rw [← HL.out, Kp.num_step h128 hm, List.append_assoc]
        rfl
      go_wp2_with (first | (at_builtin; refine wpList_append_lies _ (by rfl) _ _ _ (by rfl) H 5 i0 _ 1 1 Try.underlying27 hi0 hz0 hz1 hz2 rfl (by omega) (.slice ia l'.length ic) l'.length (Lib.byteCells l') (by rfl) (HI.out.out.alloc _) ⟨wr.heap.size, 0, none⟩ 1 1 [.int .u8 (bits .or .u8 (m % 256) 128)] (by rfl) (by rfl) (news1 wr #[.int .u8 (bits .or .u8 (m % 256) 128)] 5) (by simp [Value.oneCell']) (by omega) (by unfold maxLen; omega) (by omega) (by simp; omega) (wr.heap.size + 1) (by simp) ?_; intro gb cap2 w3 hown hgrow hat hlt3; obtain ⟨⟨y1, y2⟩, P1, P2⟩ := HI.out.push (l' := l' ++ [UInt8.ofNat ((m % 128).toNat + 128)]) hHr ((Below.refl wr.heap.size wr).alloc (Nat.le_refl _) _) hgrow hown (by simp) (by rw [HC.out, Lib.byteCells_append]; rfl)) | fail)
      exact ⟨⟨_, _, _, rfl, by omega, P1, HN, HW.out.trans P2⟩, by simp [intOf]; omega⟩
    · have HC := hideT (byte_of m)
      have HN : Hid (l' ++ [Kp.byte m] = L) := by
        show _ = _
        rw [← HL.out, Kp.num_last h128]
      go_wp2_with (first | (at_builtin; refine wpList_append_lies _ (by rfl) _ _ _ (by rfl) H 5 i0 _ 1 1 Try.underlying27 hi0 hz0 hz1 hz2 rfl (by omega) (.slice ia l'.length ic) l'.length (Lib.byteCells l') (by rfl) (HI.out.out.alloc _) ⟨wr.heap.size, 0, none⟩ 1 1 [.int .u8 (m % 256)] (by rfl) (by rfl) (news1 wr #[.int .u8 (m % 256)] 5) (by simp [Value.oneCell']) (by omega) (by unfold maxLen; omega) (by omega) (by simp; omega) (wr.heap.size + 1) (by simp) ?_; intro gb cap2 w3 hown hgrow hat hlt3; obtain ⟨⟨y1, y2⟩, P1, P2⟩ := HI.out.push (l' := l' ++ [Kp.byte m]) hHr ((Below.refl wr.heap.size wr).alloc (Nat.le_refl _) _) hgrow hown (by simp) (by rw [HC.out, Lib.byteCells_append]; rfl)) | fail)
      rw [HN.out] at P1
      first | go_end0 | refine bodyPost_ret (results_none rfl _ _ _) rfl ?_
      exact ⟨rfl, _, P1, HW.out.trans P2⟩
set_option maxHeartbeats 1000000 in
theorem textD (H b : Nat) (fv iv ov : Value) (l : List UInt8) (s : ByteArray) (w : World) (h : WIn H b w fv iv ov l) (hH : H ≤ w.heap.size) (hs : s.size ≤ 1000) (L : List UInt8) (hL : Hid (l ++ Kp.text s = L)) (hl : L.length ≤ 1000000) :
    Calls Try.prog 40 #[.pointer (some ⟨b, 0, none⟩), .string s] w (WPost H b fv iv L w) := by
  have H1 := hideT h
  have hll : l.length ≤ 1000000 := by
    rw [← hL.out, List.length_append] at hl
    omega
  obtain ⟨i0, hi0, hz0, hz1, hz2⟩ := info_parts infoB
  clear h
  obtain ⟨l1, E1⟩ : ∃ l1, Hid (l ++ Kp.num s.size = l1) := ⟨_, rfl⟩
  go_enter Try.func40, Try.ntmps40
  go_wp2_with fail
  refine (numberD H b fv iv ov l s.size w H1.out hH (by omega) hll l1 E1).mono ?_
  rintro e w1 ⟨rfl, ov1, I1, R1⟩
  have HI := hideT I1
  have HR := hideT R1
  obtain ⟨x0, x1, x2, x3⟩ := I1.cells
  have hlt := I1.lies.lt
  have hH1 : H ≤ w1.heap.size := Nat.le_trans hH R1.1.size
  obtain ⟨ia, ic, rfl⟩ := slice_form I1.out
  have HN : Hid (l1 ++ s.data.toList = L) := by
    show _ = _
    rw [← hL.out, ← E1.out, List.append_assoc]
    rfl
  have hnl := num_len s.size
  have hsl : s.data.toList.length = s.size := Array.length_toList
  have hlen : l1.length ≤ 1000011 := by rw [← E1.out, List.length_append]; omega
  clear I1 R1
  go_wp2_with (first | (at_builtin; refine Lib.wpList_append_own_string _ (by rfl) _ _ _ _ (by rfl) H 5 i0 Try.underlying27 Try.underlying9 hi0 hz0 hz1 hz2 (.slice ia l1.length ic) l1.length (Lib.byteCells l1) (by rfl) HI.out.out s (by rfl) (by unfold maxLen; omega) (by omega) hH1 ?_; intro v' w3 hown hgrow hnil; obtain ⟨⟨y1, y2⟩, P1, P2⟩ := HI.out.push (l' := L) hH1 (Below.refl _ _) hgrow hown (by rw [← HN.out, List.length_append, hsl]) (by rw [← HN.out, Lib.byteCells_append l1, Lib.strCells_eq]); obtain ⟨ja, jc, rfl⟩ := slice_form hown) | fail)
  first | go_end0 | refine bodyPost_ret (results_none rfl _ _ _) rfl ?_
  exact ⟨rfl, _, P1, HR.out.trans P2⟩
end Go.Proofs.Ytcfalhgcdffjoaa
