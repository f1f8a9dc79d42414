/-
  The program's values: attributes by names.
-/
import Derived.Test.YtjfonpbnohbpfaaGreatDoorBAttr
import Derived.OwnWalk
set_option linter.unusedSimpArgs false
set_option linter.unusedVariables false
namespace Go.Proofs.YtjfonpbnohbpfaaGreatDoor
open Go.RowKit
set_option maxRecDepth 100000
/-- What values answers. -/
def VPost (l : List Att) (names : List ByteArray) (w : World) (e : Ending) (w' : World) : Prop := ∃ ra rc, e = .returned (.tuple #[.slice ra names.length rc, .bool (Bp.valOk l names)]) ∧ FRow w' (.slice ra names.length rc) (Bp.vals l names).1 ∧ Below w.heap.size w w'
theorem vals_len (l : List Att) : ∀ names : List ByteArray, (Bp.vals l names).1.length = names.length
  | [] => rfl
  | nm :: r => by
    simp only [Bp.vals]
    split
    · simp
    · simp [vals_len l r]
theorem atZ_find {l : List Att} {nm : ByteArray} : (Bp.atZ l nm < 0 ∧ l.find? (fun a => decide (a.1 = nm)) = none) ∨ ∃ (k : Nat) (a : Att), Bp.atZ l nm = k ∧ l[k]? = some a ∧ l.find? (fun a => decide (a.1 = nm)) = some a := by
  unfold Bp.atZ
  cases e : l.findIdx? (fun a => decide (a.1 = nm)) with
  | none =>
    refine .inl ⟨by show (-1 : Int) < 0; omega, ?_⟩
    rw [List.findIdx?_eq_none_iff] at e
    rw [List.find?_eq_none]
    intro x hx
    rw [e x hx]
    simp
  | some k =>
    rw [List.findIdx?_eq_some_iff_getElem] at e
    obtain ⟨hlt, hp, hb⟩ := e
    refine .inr ⟨k, l[k], rfl, List.getElem?_eq_getElem hlt, ?_⟩
    rw [List.find?_eq_some_iff_getElem]
    refine ⟨hp, k, hlt, rfl, fun j hj => ?_⟩
    have := hb j hj
    simpa using this
theorem vals_none {l : List Att} {nm : ByteArray} (r : List ByteArray) (h : l.find? (fun a => decide (a.1 = nm)) = none) : Bp.vals l (nm :: r) = (List.replicate (r.length + 1) e0, false) := by
  simp only [Bp.vals, h, List.replicate_succ]
  rw [show r.map (fun _ => e0) = List.replicate r.length e0 by rw [List.map_const']]
theorem vals_some {l : List Att} {nm : ByteArray} (r : List ByteArray) {a : Att} (h : l.find? (fun a => decide (a.1 = nm)) = some a) : Bp.vals l (nm :: r) = (a.2 :: (Bp.vals l r).1, (Bp.vals l r).2) := by
  simp only [Bp.vals, h]
theorem infoTx : (Tryz.prog.info? 9).map (fun i => (i.zero, i.size, i.bytes)) = some (some (.string ⟨#[]⟩), 1, 16) := by kernel_rfl
theorem set_take {α : Type} {vs : List α} {k n : Nat} {v : α} (hk : k < n) (hl : vs.length = n) : (vs.set k v).take (k + 1) = vs.take k ++ [v] := by
  rw [List.take_add_one, List.take_set_of_le (Nat.le_refl _), List.getElem?_set_self (by omega)]
  rfl
theorem made_str (n : Nat) : (madeCells (Value.string ⟨#[]⟩).cells (n * 1)).toList = (List.replicate n e0).map Value.string := by
  rw [show (Value.string ⟨#[]⟩).cells = #[Value.string ⟨#[]⟩] from rfl, Nat.mul_one, toList_madeCells_one, List.map_replicate]
theorem nat_beq (a b : Nat) : ((a : Int) == (b : Int)) = decide (a = b) := by
  by_cases h : a = b
  · rw [decide_eq_true h, h]
    exact beq_iff_eq.2 rfl
  · rw [decide_eq_false h]
    exact beq_eq_false_iff_ne.2 (fun e => h (Int.ofNat.inj e))
/-- What the row holds, k names behind. -/
structure VInv (l : List Att) (names : List ByteArray) (n k : Nat) (vs : List ByteArray) : Prop where
  len : vs.length = n
  rest : vs.drop k = List.replicate (n - k) e0
  eq : Bp.vals l names = (vs.take k ++ (Bp.vals l (names.drop k)).1, (Bp.vals l (names.drop k)).2)
  size : ∀ s ∈ vs, s.size ≤ 140737488355328
set_option maxHeartbeats 2000000 in
theorem valuesD (w : World) (sp lo : Value) (v : Value) (a3 : Option Addr) (n3 m3 : Nat) (p : Int) (l : List Att) (h : ARow w v l) (a : Option Addr) (n c : Nat) (names : List ByteArray) (hf : FRow w (.slice a n c) names) (hn : n ≤ 100) :
    Calls Tryz.prog 40 #[.agg #[sp, lo, v, .slice a3 n3 m3, .int .i64 p], .slice a n c] w (VPost l names w) := by
  obtain ⟨hnl, _, _, fb, fo, hfa, hfc⟩ := frow_at hf
  obtain ⟨la, lcap, lb, lo', rfl, hla, hll, hlc⟩ := arow_at h
  have HR := hideT h
  have HN := hideT hnl
  have HFA := hideT hfa
  have HFC := hideT hfc
  have HLA := hideT hla
  have HLC := hideT hlc
  obtain ⟨W1, hW1, B1, L1⟩ : ∃ W1, w.alloc (.cells #[sp, lo, .slice la l.length lcap, .slice a3 n3 m3, .int .i64 p] 45) = W1 ∧ Below w.heap.size w W1 ∧ Lies W1 w.heap.size 45 #[sp, lo, .slice la l.length lcap, .slice a3 n3 m3, .int .i64 p] := ⟨_, rfl, (Below.refl _ w).alloc (Nat.le_refl _) _, Lies.new w _ _⟩
  obtain ⟨i0, hi0, hz0, hz1, hz2⟩ := info_parts infoTx
  obtain ⟨W, hrun, r1, r2⟩ := run_make_full (P := Tryz.prog) W1 W1.heap.size 22 9 i0 _ 1 Tryz.underlying22 hi0 hz0 hz1 .i64 .i64 n (by rw [hz2]; omega) (by unfold maxLen; omega) (Nat.le_refl _)
  have BG : Below W1.heap.size W1 W := (Below.refl _ W1).grown r2 (Nat.le_refl _) (fun k hk => by cases hk)
  have BW := hideT (B1.trans (BG.mono B1.size))
  have LW := hideT (L1.below BG)
  have z1 : W1.heap.size = w.heap.size + 1 := by rw [← hW1]; simp
  rw [z1, made_str] at r1
  rw [z1] at hrun
  have R1 := hideT r1
  rw [← hW1] at hrun
  clear hnl hfa hfc hla hlc h hf r1 r2 hi0 hz0 hz1 hz2 BG B1 L1 hW1 z1
  go_enter Tryz.func40, Tryz.ntmps40
  go_wp2_with fail
  clear hrun
  go_loopw [15] (fun i wr => ∃ (k : Nat) (vs : List ByteArray), k ≤ n ∧ i = .int .i64 k ∧ Hid (wr.ownsRow (w.heap.size + 1) 9 1 (.slice (some ⟨w.heap.size + 1, 0, none⟩) n n) n (vs.map Value.string)) ∧ Hid (VInv l names n k vs) ∧ Hid (Below w.heap.size w wr) ∧ Hid (Lies wr w.heap.size 45 #[sp, lo, .slice la l.length lcap, .slice a3 n3 m3, .int .i64 p])) (fun i _ => n - (intOf i).toNat)
  case atStart => exact ⟨0, List.replicate n e0, Nat.zero_le _, rfl, R1, ⟨by simp, by simp, by simp, fun s hs => by rw [List.eq_of_mem_replicate hs]; decide⟩, BW, LW⟩
  case round =>
    obtain ⟨k, vs, hk, rfl, HO, HV, HB, HL⟩ := hrel
    have x0 : wr.cell? ⟨w.heap.size, 0, none⟩ = some sp := HL.out.cell 0
    have x1 : wr.cell? ⟨w.heap.size, 1, none⟩ = some lo := HL.out.cell 1
    have x2 : wr.cell? ⟨w.heap.size, 2, none⟩ = some (.slice la l.length lcap) := HL.out.cell 2
    have x3 : wr.cell? ⟨w.heap.size, 3, none⟩ = some (.slice a3 n3 m3) := HL.out.cell 3
    have x4 : wr.cell? ⟨w.heap.size, 4, none⟩ = some (.int .i64 p) := HL.out.cell 4
    by_cases hlt : k < n
    · obtain ⟨nm, hnm⟩ := Mp.at_lt (l := names) (k := k) (by have := HN.out; omega)
      obtain ⟨_, c0⟩ := HFC.out k nm hnm
      have c0 := below_cell HB.out _ _ c0
      obtain rfl := HFA.out (by omega)
      have HD := hideT (drop_at hnm)
      have HR1 := hideT (HR.out.below' HB.out)
      clear hnm
      go_wp2_with fail
      refine (attrPlaceD wr sp lo _ _ _ l nm HR1.out).mono ?_
      rintro e w1 ⟨rfl, b1⟩
      have B2 := hideT (HB.out.trans (b1.mono HB.out.size))
      have L2 := hideT (HL.out.below b1)
      have O2 := hideT (own_below HO.out b1)
      clear x0 x1 x2 x3 x4 c0 b1
      have y2 : w1.cell? ⟨w.heap.size, 2, none⟩ = some (.slice la l.length lcap) := L2.out.cell 2
      rcases atZ_find (l := l) (nm := nm) with ⟨hneg, hfn⟩ | ⟨j, at', hz, hj, hfs⟩
      · have HE : Hid (Bp.vals l names = (vs, false)) := by
          show _ = _
          rw [HV.out.eq, HD.out, vals_none _ hfn]
          have h1 : (names.drop (k + 1)).length + 1 = n - k := by rw [List.length_drop]; have := HN.out; omega
          rw [h1]
          show (vs.take k ++ List.replicate (n - k) e0, false) = _
          rw [← HV.out.rest, List.take_append_drop]
        have HK : Hid (Bp.valOk l names = false) := by
          show _ = _
          unfold Bp.valOk
          rw [HE.out]
          rfl
        obtain ⟨z, hz⟩ : ∃ z, Bp.atZ l nm = z := ⟨_, rfl⟩
        rw [hz] at hneg ⊢
        clear hz hfn
        go_wp2_with fail
        go_ret2
        refine ⟨some ⟨w.heap.size + 1, 0, none⟩, n, ?_, ?_, B2.out⟩
        · rw [HK.out, ← HN.out]
          rfl
        · rw [HE.out, ← HN.out]
          exact frow_of_own O2.out HV.out.len.symm (by omega) HV.out.size
      · rw [hz]
        obtain ⟨⟨_, z2⟩, _, d1⟩ := HLC.out j at' hj
        have d1 := below_cell B2.out _ _ d1
        have hjl := (List.getElem?_eq_some_iff.1 hj).1
        obtain rfl := HLA.out (by omega)
        have HV2 : Hid (VInv l names n (k + 1) (vs.set k at'.2)) := by
          have hl := HV.out.len
          refine ⟨by simp [hl], ?_, ?_, fun s hs => ?_⟩
          · rw [List.drop_set_of_lt (by omega), ← List.drop_drop, show vs.drop k = List.replicate (n - k) e0 from HV.out.rest, List.drop_replicate]
            congr 1
          · rw [HV.out.eq, HD.out, vals_some _ hfs, set_take hlt hl]
            simp
          · rcases List.mem_or_eq_of_mem_set hs with h | h
            · exact HV.out.size s h
            · rw [h]; exact z2
        have hvk : (vs.map Value.string)[k]? = some (.string (vs[k]'(by have := HV.out.len; omega))) := by rw [List.getElem?_map, List.getElem?_eq_getElem (by have := HV.out.len; omega)]; rfl
        have e1 := own_cell O2.out hvk
        have e2 := own_free O2.out k
        have O3 : Hid ((w1.setCell ⟨w.heap.size + 1, k, none⟩ (.string at'.2)).ownsRow (w.heap.size + 1) 9 1 (.slice (some ⟨w.heap.size + 1, 0, none⟩) n n) n ((vs.set k at'.2).map Value.string)) := by
          have := own_set O2.out k (.string at'.2)
          rw [← List.map_set] at this
          exact this
        have B3 := hideT (B2.out.setCell (p := ⟨w.heap.size + 1, k, none⟩) (Nat.le_succ _) (.string at'.2))
        have L3 := hideT (L2.out.off ⟨w.heap.size + 1, k, none⟩ (.string at'.2) (by show w.heap.size ≠ w.heap.size + 1; omega))
        have t1 : (0 : Int) ≤ (j : Int) := by omega
        have t2 : (j : Int) < (l.length : Int) := by omega
        have t3 : ¬ (j : Int) < 0 := by omega
        have t4 : (0 : Int) ≤ (k : Int) := by omega
        have t5 : (k : Int) < (n : Int) := by omega
        clear hz hj hfs hvk hjl
        go_wp2_with fail
        refine ⟨⟨k + 1, _, by omega, by go_num, O3, HV2, B3, L3⟩, ?_⟩
        first | omega | (simp [intOf]; omega)
    · have hkn : k = n := by omega
      have HE : Hid (Bp.vals l names = (vs, true)) := by
        show _ = _
        rw [HV.out.eq, hkn, List.take_of_length_le (by have := HV.out.len; omega), List.drop_eq_nil_of_le (by have := HN.out; omega)]
        simp [Bp.vals]
      have HK : Hid (Bp.valOk l names = decide (l.length = n)) := by
        show _ = _
        unfold Bp.valOk
        rw [HE.out, ← HN.out]
        simp
      obtain ⟨ln, hln⟩ : ∃ ln, ln = l.length := ⟨_, rfl⟩
      have HLN := hideT hln
      rw [← hln] at x2
      clear hln
      go_wp2_with fail
      go_quiet (fail)
      go_wp2_with fail
      go_ret2
      refine ⟨some ⟨w.heap.size + 1, 0, none⟩, n, ?_, ?_, below_drewN HB.out _⟩
      · rw [HK.out, ← HN.out, ← HLN.out]
        exact congrArg (fun q => Ending.returned (.tuple #[.slice (some ⟨w.heap.size + 1, 0, none⟩) n n, .bool q])) (by first | rfl | exact nat_beq _ _ | exact (nat_beq _ _).symm)
      · rw [HE.out, ← HN.out]
        exact frow_of_own (own_below HO.out (below_drewN (Below.refl _ _) _)) HV.out.len.symm (by omega) HV.out.size
end Go.Proofs.YtjfonpbnohbpfaaGreatDoor
