/-
  The program's write: an element's text behind what the builder has.
-/
import Derived.Test.YtimecocegnnjjaaDoorPartC
import Derived.Test.YtimecocegnnjjaaDoorPartA
import Derived.Lib.OthersKept
import Derived.Lib.BufferKept
set_option linter.unusedSimpArgs false
set_option linter.unusedVariables false
namespace Go.Proofs.YtimecocegnnjjaaDoor
open Go.RowKit
theorem hideB {p : Prop} (h : p) : Hid p := h
abbrev BdF (B bb : Nat) (l : List UInt8) (w : World) : Prop := Lib.IsBuilderF 41 5 B bb (Lib.byteCells l) w
/-- What a write keeps: all that lay below B, and all blocks but bytes and the builder's own. -/
def Wrote (B bb : Nat) (w w' : World) : Prop := Below B w w' ∧ Lib.OthersKept 5 (some bb) w w' ∧ w.heap.size ≤ w'.heap.size
theorem Wrote.refl (B bb : Nat) (w : World) : Wrote B bb w w := ⟨Below.refl _ _, Lib.OthersKept.refl _ _ _, Nat.le_refl _⟩
theorem Wrote.trans {B bb : Nat} {a b c : World} (h : Wrote B bb a b) (k : Wrote B bb b c) : Wrote B bb a c := ⟨h.1.trans k.1, h.2.1.trans k.2.1, Nat.le_trans h.2.2 k.2.2⟩
theorem Wrote.of_below {B bb : Nat} {w w' : World} (hB : B ≤ w.heap.size) (h : Below w.heap.size w w') : Wrote B bb w w' := ⟨h.mono hB, (Lib.OthersKept.refl _ _ w).below h, h.size⟩
theorem Lies.wrote {B bb : Nat} {w w' : World} {k : Nat} {t : TypeId} {C : Array Value} (h : Lies w k t C) (hw : Wrote B bb w w') (hk : k ≠ bb) (ht : t ≠ 5) : Lies w' k t C :=
  hw.2.1 k _ h (fun e => hk (Option.some.inj e)) (fun c fz e => by injection e with h1 h2; exact ht h2)
theorem builder_lt {B bb : Nat} {l : List UInt8} {w : World} (h : BdF B bb l w) : bb < w.heap.size := by
  rcases h with ⟨_, v, h, _⟩ | ⟨_, v, h, _⟩ <;> exact (Array.getElem?_eq_some_iff.1 h).1
theorem wsD (B bb : Nat) (l : List UInt8) (s : ByteArray) (w : World) (h : BdF B bb l w) (hl : l.length + s.size ≤ 100000000) (hB : B ≤ w.heap.size) (t : List UInt8) (ht : Hid (l ++ s.data.toList = t)) :
    Calls Tryd.prog 23 #[.pointer (some ⟨bb, 0, none⟩), .string s] w fun e w' => e = .returned (.tuple #[.int .i64 s.size, .nilIface]) ∧ BdF B bb t w' ∧ Wrote B bb w w' := by
  refine (Tryd.Builder_WriteString_k B bb _ s w h (by rw [Lib.byteCells_length]; omega) hB).mono ?_
  rintro e w2 ⟨rfl, h2, b2, k2⟩
  refine ⟨rfl, ?_, b2, k2, b2.size⟩
  show Lib.IsBuilderF _ _ _ _ _ _
  rw [← ht.out, Lib.byteCells_append, ← Lib.strCells_eq]
  exact Or.inr h2
theorem escD (s : ByteArray) (w : World) (hs : s.size ≤ 1000000) (t : ByteArray) (h : Hid (t = ⟨(Sp.esc true s.data.toList).toArray⟩)) :
    Calls Tryd.prog 24 #[.string s, .bool true] w fun e w' => e = .returned (.string t) ∧ Below w.heap.size w w' := by
  rw [h.out]
  exact escape_any s true w hs
set_option maxHeartbeats 8000000 in
set_option maxRecDepth 100000 in
theorem writeD : ∀ (n : Nat) (wB w : World) (B bb : Nat) (l : List UInt8) (c0 c1 c2 c3 : Value) (T : Tr), wB.heap.size = B → Below B wB w → BdF B bb l w → EIn wB n c0 c1 c2 c3 T → l.length + (Xp.printT n T).length ≤ 1000000 →
    Calls Tryd.prog 12 #[.pointer (some ⟨bb, 0, none⟩), .agg #[c0, c1, c2, c3]] w fun e w' => e = .returned (.tuple #[]) ∧ BdF B bb (l ++ Xp.printT n T) w' ∧ Wrote B bb w w' := by
  intro n
  induction n with
  | zero => intro wB w B bb l c0 c1 c2 c3 T _ _ _ h; exact h.elim
  | succ n ih =>
    rintro wB w B bb l c0 c1 c2 c3 T hB hBe hI ⟨nm, p, al, ks, rfl, rfl, rfl, hs1, ⟨ab, ao, ⟨aao, acap, rfl, haao⟩, ⟨hal, hz⟩, hac⟩, kb, ko, ⟨kao, kcap, rfl, hkao⟩, hkl, hk1⟩ hlen
    have IH := hideB ih
    have HAC := hideB hac
    have HK1 := hideB hk1
    have HAO := hideB haao
    have HKO := hideB hkao
    have HBe := hideB hBe
    have HI := hideB hI
    have HBQ := hideB hB
    have hbb := builder_lt hI
    have hBw : B ≤ w.heap.size := by have := hBe.size; omega
    obtain ⟨pk, hpk⟩ : ∃ pk, pk = (if ks = [] then ([47, 62] : List UInt8) else 62 :: (ks.flatMap (Xp.printT n) ++ (60 :: 47 :: (nm.data.toList ++ [62])))) := ⟨_, rfl⟩
    have HPR : Hid (Xp.printT (n + 1) (Xp.mkT nm al ks p) = 60 :: (nm.data.toList ++ (Xp.attrsP (al.map Xp.pairD) ++ pk))) := by
      show _ = _
      rw [Xp.printT_mk, hpk]
    have HPK := hideB hpk
    have hnl : nm.data.toList.length = nm.size := Array.length_toList
    have hlen2 : l.length + 1 + nm.size + (Xp.attrsP (al.map Xp.pairD)).length + pk.length ≤ 1000000 := by
      rw [HPR.out] at hlen
      simp only [List.length_cons, List.length_append] at hlen
      omega
    clear ih hac hk1 haao hkao hBe hI hB hpk hlen
    obtain ⟨W, hW⟩ : ∃ W, w.alloc (.cells #[.string nm, .slice aao al.length acap, .slice kao ks.length kcap, .int .i64 p] 25) = W := ⟨_, rfl⟩
    have BW : Hid (Below w.heap.size w W) := by rw [← hW]; exact (Below.refl _ w).alloc (Nat.le_refl _) _
    have LW : Hid (Lies W w.heap.size 25 #[.string nm, .slice aao al.length acap, .slice kao ks.length kcap, .int .i64 p]) := by
      show Lies W _ _ _
      rw [← hW]
      exact Lies.new w _ _
    have IW := hideB (isBuilderF_below HI.out BW.out)
    have WW := hideB (Wrote.of_below (bb := bb) hBw BW.out)
    have hzW := BW.out.size
    have HWq := hideB hW
    clear hW
    go_enter Tryd.func12, Tryd.ntmps12
    go_wp2_with fail
    rw [HWq.out]
    refine (wsD B bb l ⟨#[60]⟩ W IW.out (by show _ + 1 ≤ _; omega) (by omega) (l ++ [60]) rfl).mono ?_
    rintro e w1 ⟨rfl, i1, r1⟩
    have I1 := hideB i1
    have R1 := hideB (WW.out.trans r1)
    have L1 := hideB (LW.out.wrote r1 (by omega) (by decide))
    have x0 : w1.cell? ⟨w.heap.size, 0, none⟩ = some (.string nm) := L1.out.cell 0
    clear i1 r1
    go_wp2_with fail
    refine (wsD B bb (l ++ [60]) nm w1 I1.out (by simp only [List.length_append, List.length_cons, List.length_nil]; omega) (by have := R1.out.2.2; omega) (l ++ (60 :: nm.data.toList)) (by show _ = _; simp)).mono ?_
    rintro e w2 ⟨rfl, i2, r2⟩
    have I2 := hideB i2
    have R2 := hideB (R1.out.trans r2)
    have L2 := hideB (L1.out.wrote r2 (by omega) (by decide))
    have x1 : w2.cell? ⟨w.heap.size, 1, none⟩ = some (.slice aao al.length acap) := L2.out.cell 1
    clear i2 r2 x0
    go_wp2_with fail
    go_loopw [17] (fun i wr => ∃ k : Nat, k ≤ al.length ∧ i = .int .i64 k ∧ Hid (BdF B bb (l ++ (60 :: nm.data.toList) ++ Xp.attrsP ((al.take k).map Xp.pairD)) wr) ∧ Hid (Wrote B bb w wr) ∧ Hid (Lies wr w.heap.size 25 #[.string nm, .slice aao al.length acap, .slice kao ks.length kcap, .int .i64 p])) (fun i _ => al.length - (intOf i).toNat)
    case atStart => exact ⟨0, Nat.zero_le _, rfl, (by show BdF _ _ _ _; rw [List.take_zero]; simpa [Xp.attrsP] using I2.out), R2, L2⟩
    case round =>
      clear x1
      obtain ⟨k, hk, rfl, HI2, HW2, HL2⟩ := hrel
      have hle2 := Xp.attrsP_le (l := al) k
      by_cases hlt : k < al.length
      · obtain rfl := HAO.out (by omega)
        obtain ⟨⟨pa, pb⟩, hp⟩ : ∃ p, al[k]? = some p := ⟨al[k]'hlt, List.getElem?_eq_getElem _⟩
        obtain ⟨q1, q2⟩ := HAC.out k _ hp
        have BBr : Hid (Below wB.heap.size wB wr) := by
          have := HBe.out.trans HW2.out.1
          rw [← HBQ.out] at this
          exact this
        have p1 : wr.cell? ⟨ab, ao + k * 2, none⟩ = some (.string pa) := by rw [BBr.out.cell (by have := cell_lt q1; exact this), Nat.mul_comm]; exact q1
        have p2 : wr.cell? ⟨ab, ao + k * 2 + 1, none⟩ = some (.string pb) := by rw [BBr.out.cell (by have := cell_lt q2; exact this), Nat.mul_comm]; exact q2
        have HAK : Hid (Xp.attrsP ((al.take (k + 1)).map Xp.pairD) = Xp.attrsP ((al.take k).map Xp.pairD) ++ (32 :: (pa.data.toList ++ (61 :: 34 :: (Sp.esc true pb.data.toList ++ [34]))))) := by
          show _ = _
          rw [Xp.attrsP_take hp, Xp.attrP_mk]
        have hle3 := Xp.attrsP_le (l := al) (k + 1)
        rw [HAK.out] at hle3
        simp only [List.length_append, List.length_cons, List.length_nil] at hle3
        have hpal : pa.data.toList.length = pa.size := Array.length_toList
        have hpbl : pb.data.toList.length = pb.size := Array.length_toList
        have hesc := Sp.esc_ge true pb.data.toList
        obtain ⟨t, HT⟩ : ∃ t : ByteArray, Hid (t = ⟨(Sp.esc true pb.data.toList).toArray⟩) := ⟨(⟨(Sp.esc true pb.data.toList).toArray⟩ : ByteArray), rfl⟩
        have htl : Hid (t.data.toList = Sp.esc true pb.data.toList) := by rw [HT.out]; exact rfl
        have hts : t.size = (Sp.esc true pb.data.toList).length := by
          rw [← htl.out]
          exact Array.length_toList.symm
        have hBr : B ≤ wr.heap.size := by have := HW2.out.2.2; omega
        obtain ⟨V, hV⟩ : ∃ V, wr.alloc (.cells #[.string pa, .string pb] 36) = V := ⟨_, rfl⟩
        have BV : Hid (Below wr.heap.size wr V) := by rw [← hV]; exact (Below.refl _ wr).alloc (Nat.le_refl _) _
        have LV : Hid (Lies V wr.heap.size 36 #[.string pa, .string pb]) := by
          show Lies V _ _ _
          rw [← hV]
          exact Lies.new wr _ _
        have IV := hideB (isBuilderF_below HI2.out BV.out)
        have WV := hideB (HW2.out.trans (Wrote.of_below hBr BV.out))
        have LLV := hideB (HL2.out.below BV.out)
        have hbw : bb < wr.heap.size := builder_lt HI2.out
        have HVq := hideB hV
        clear hV hp q1 q2
        go_wp2_with fail
        rw [HVq.out]
        refine (wsD B bb _ ⟨#[32]⟩ V IV.out (by show _ + 1 ≤ _; simp only [List.length_append, List.length_cons]; omega) (by have := BV.out.size; omega) ((l ++ (60 :: nm.data.toList) ++ Xp.attrsP ((al.take k).map Xp.pairD)) ++ [32]) rfl).mono ?_
        rintro e v1 ⟨rfl, i1, r1⟩
        have J1 := hideB i1
        have S1 := hideB (WV.out.trans r1)
        have M1 := hideB (LLV.out.wrote r1 (by omega) (by decide))
        have N1 := hideB (LV.out.wrote r1 (by omega) (by decide))
        have u0 : v1.cell? ⟨wr.heap.size, 0, none⟩ = some (.string pa) := N1.out.cell 0
        clear i1 r1 p1 p2
        go_wp2_with fail
        refine (wsD B bb _ pa v1 J1.out (by simp only [List.length_append, List.length_cons, List.length_nil]; omega) (by have := S1.out.2.2; omega) ((l ++ (60 :: nm.data.toList) ++ Xp.attrsP ((al.take k).map Xp.pairD)) ++ (32 :: pa.data.toList)) (by show _ = _; simp)).mono ?_
        rintro e v2 ⟨rfl, i2, r2⟩
        have J2 := hideB i2
        have S2 := hideB (S1.out.trans r2)
        have M2 := hideB (M1.out.wrote r2 (by omega) (by decide))
        have N2 := hideB (N1.out.wrote r2 (by omega) (by decide))
        clear i2 r2 u0
        go_wp2_with fail
        refine (wsD B bb _ ⟨#[61, 34]⟩ v2 J2.out (by show _ + 2 ≤ _; simp only [List.length_append, List.length_cons]; omega) (by have := S2.out.2.2; omega) ((l ++ (60 :: nm.data.toList) ++ Xp.attrsP ((al.take k).map Xp.pairD)) ++ (32 :: (pa.data.toList ++ [61, 34]))) (by show _ = _; simp)).mono ?_
        rintro e v3 ⟨rfl, i3, r3⟩
        have J3 := hideB i3
        have S3 := hideB (S2.out.trans r3)
        have M3 := hideB (M2.out.wrote r3 (by omega) (by decide))
        have N3 := hideB (N2.out.wrote r3 (by omega) (by decide))
        have u1 : v3.cell? ⟨wr.heap.size, 1, none⟩ = some (.string pb) := N3.out.cell 1
        clear i3 r3
        go_wp2_with fail
        refine (escD pb v3 (by omega) t HT).mono ?_
        rintro e v4 ⟨rfl, b4⟩
        have J4 := hideB (isBuilderF_below J3.out b4)
        have S4 := hideB (S3.out.trans (Wrote.of_below (by have := S3.out.2.2; omega) b4))
        have M4 := hideB (M3.out.below b4)
        clear b4 u1
        go_wp2_with fail
        refine (wsD B bb _ t v4 J4.out (by simp only [List.length_append, List.length_cons, List.length_nil]; omega) (by have := S4.out.2.2; omega) ((l ++ (60 :: nm.data.toList) ++ Xp.attrsP ((al.take k).map Xp.pairD)) ++ (32 :: (pa.data.toList ++ (61 :: 34 :: Sp.esc true pb.data.toList)))) (by show _ = _; rw [htl.out]; simp)).mono ?_
        rintro e v5 ⟨rfl, i5, r5⟩
        have J5 := hideB i5
        have S5 := hideB (S4.out.trans r5)
        have M5 := hideB (M4.out.wrote r5 (by omega) (by decide))
        clear i5 r5
        go_wp2_with fail
        refine (wsD B bb _ ⟨#[34]⟩ v5 J5.out (by show _ + 1 ≤ _; simp only [List.length_append, List.length_cons]; omega) (by have := S5.out.2.2; omega) (l ++ (60 :: nm.data.toList) ++ Xp.attrsP ((al.take (k + 1)).map Xp.pairD)) (by show _ = _; rw [HAK.out]; simp)).mono ?_
        rintro e v6 ⟨rfl, i6, r6⟩
        have J6 := hideB i6
        have S6 := hideB (S5.out.trans r6)
        have M6 := hideB (M5.out.wrote r6 (by omega) (by decide))
        clear i6 r6
        go_wp2_with fail
        go_roundw
        case rel => exact ⟨k + 1, by omega, by go_num, J6, S6, M6⟩
        case measure => simp [intOf]; omega
      · have HAL : Hid (Xp.attrsP ((al.take k).map Xp.pairD) = Xp.attrsP (al.map Xp.pairD)) := by
          show _ = _
          rw [List.take_of_length_le (by omega)]
        have y2 : wr.cell? ⟨w.heap.size, 2, none⟩ = some (.slice kao ks.length kcap) := HL2.out.cell 2
        by_cases hks : ks = []
        · have hk0 : ks.length = 0 := by rw [hks]; rfl
          have tk : ((ks.length : Int) == 0) = true := by rw [hk0]; rfl
          have HPK2 : Hid (pk = [47, 62]) := by
            show _ = _
            rw [HPK.out, if_pos hks]
          have hpl : pk.length = 2 := by rw [HPK2.out]; rfl
          clear hks hk0
          go_wp2_with fail
          refine (wsD B bb _ ⟨#[47, 62]⟩ wr HI2.out (by show _ + 2 ≤ _; simp only [List.length_append, List.length_cons]; omega) (by have := HW2.out.2.2; omega) (l ++ Xp.printT (n + 1) (Xp.mkT nm al ks p)) (by show _ = _; rw [HPR.out, HPK2.out, HAL.out]; simp)).mono ?_
          rintro e w3 ⟨rfl, i3, r3⟩
          go_wp2_with fail
          first | go_end0 | refine bodyPost_ret (results_none rfl _ _ _) rfl ?_
          exact ⟨rfl, i3, HW2.out.trans r3⟩
        · have tk : ((ks.length : Int) == 0) = false := beq_eq_false_iff_ne.2 (by
            have : 0 < ks.length := List.length_pos_iff.2 hks
            omega)
          have hkp : 0 < ks.length := List.length_pos_iff.2 hks
          have HPK2 : Hid (pk = 62 :: (ks.flatMap (Xp.printT n) ++ (60 :: 47 :: (nm.data.toList ++ [62])))) := by
            show _ = _
            rw [HPK.out, if_neg hks]
          have hpl : pk.length = 1 + (ks.flatMap (Xp.printT n)).length + 2 + nm.size + 1 := by
            rw [HPK2.out]
            simp only [List.length_cons, List.length_append, List.length_nil]
            omega
          clear hks
          go_wp2_with fail
          refine (wsD B bb _ ⟨#[62]⟩ wr HI2.out (by show _ + 1 ≤ _; simp only [List.length_append, List.length_cons]; omega) (by have := HW2.out.2.2; omega) ((l ++ (60 :: nm.data.toList) ++ Xp.attrsP ((al.take k).map Xp.pairD)) ++ [62]) rfl).mono ?_
          rintro e w3 ⟨rfl, i3, r3⟩
          have I3 := hideB i3
          have R3 := hideB (HW2.out.trans r3)
          have L3 := hideB (HL2.out.wrote r3 (by omega) (by decide))
          clear i3 r3 y2
          have y2 : w3.cell? ⟨w.heap.size, 2, none⟩ = some (.slice kao ks.length kcap) := L3.out.cell 2
          obtain ⟨P1, hP1⟩ : ∃ P1, P1 = (l ++ (60 :: nm.data.toList) ++ Xp.attrsP ((al.take k).map Xp.pairD)) ++ [62] := ⟨_, rfl⟩
          have hP1l : P1.length = l.length + 1 + nm.size + (Xp.attrsP (al.map Xp.pairD)).length + 1 := by
            rw [hP1, HAL.out]
            simp only [List.length_cons, List.length_append, List.length_nil]
            omega
          have HP1 := hideB hP1
          rw [← hP1] at I3
          clear hP1
          go_wp2_with fail
          go_loopw [48] (fun i wq => ∃ j : Nat, j ≤ ks.length ∧ i = .int .i64 j ∧ Hid (BdF B bb (P1 ++ (ks.take j).flatMap (Xp.printT n)) wq) ∧ Hid (Wrote B bb w wq) ∧ Hid (Lies wq w.heap.size 25 #[.string nm, .slice aao al.length acap, .slice kao ks.length kcap, .int .i64 p])) (fun i _ => ks.length - (intOf i).toNat)
          case atStart => exact ⟨0, Nat.zero_le _, rfl, (by show BdF _ _ _ _; rw [List.take_zero]; simpa using I3.out), R3, L3⟩
          case round =>
            obtain ⟨j, hj, rfl, HI4, HW4, HL4⟩ := hrel
            have hle4 := Xp.kidsP_le (ks := ks) n j
            by_cases hjl : j < ks.length
            · obtain rfl := HKO.out hkp
              obtain ⟨K, hK⟩ : ∃ K, ks[j]? = some K := ⟨ks[j]'hjl, List.getElem?_eq_getElem _⟩
              obtain ⟨d0, d1, d2, d3, hf, he⟩ := HK1.out j K hK
              have BBr : Hid (Below wB.heap.size wB wr) := by
                have := HBe.out.trans HW4.out.1
                rw [← HBQ.out] at this
                exact this
              obtain ⟨q0, q1, q2, q3⟩ := hf.below BBr.out
              rw [Nat.mul_comm] at q0 q1 q2 q3
              have HE := hideB he
              have HKK : Hid ((ks.take (j + 1)).flatMap (Xp.printT n) = (ks.take j).flatMap (Xp.printT n) ++ Xp.printT n K) := Xp.kidsP_take hK
              have hle5 := Xp.kidsP_le (ks := ks) n (j + 1)
              rw [HKK.out, List.length_append] at hle5
              have hBr : B ≤ wr.heap.size := by have := HW4.out.2.2; omega
              obtain ⟨nm', p', al', ks', hd0, hd3, _, _, ⟨_, _, ⟨a1', c1', hd1, _⟩, _⟩, _, _, ⟨a2', c2', hd2, _⟩, _⟩ : ∃ (nm' : ByteArray) (p' : Int) (al' : List (ByteArray × ByteArray)) (ks' : List Tr), d0 = .string nm' ∧ d3 = .int .i64 p' ∧ True ∧ True ∧ (∃ b o, Row d1 al'.length b o ∧ True) ∧ ∃ b o, Row d2 ks'.length b o ∧ True := by
                cases n with
                | zero => exact he.elim
                | succ n =>
                  obtain ⟨nm', p', al', ks', h0, h3, _, _, ⟨b1, o1, h1, _⟩, b2, o2, h2, _⟩ := he
                  exact ⟨nm', p', al', ks', h0, h3, trivial, trivial, ⟨b1, o1, h1, trivial⟩, b2, o2, h2, trivial⟩
              subst hd0 hd1 hd2 hd3
              obtain ⟨V, hV⟩ : ∃ V, wr.alloc (.cells #[.string nm', .slice a1' al'.length c1', .slice a2' ks'.length c2', .int .i64 p'] 25) = V := ⟨_, rfl⟩
              have BV : Hid (Below wr.heap.size wr V) := by rw [← hV]; exact (Below.refl _ wr).alloc (Nat.le_refl _) _
              have LV : Hid (Lies V wr.heap.size 25 #[.string nm', .slice a1' al'.length c1', .slice a2' ks'.length c2', .int .i64 p']) := by
                show Lies V _ _ _
                rw [← hV]
                exact Lies.new wr _ _
              have IV := hideB (isBuilderF_below HI4.out BV.out)
              have WV := hideB (HW4.out.trans (Wrote.of_below hBr BV.out))
              have LLV := hideB (HL4.out.below BV.out)
              have BeV : Hid (Below B wB V) := HBe.out.trans WV.out.1
              have HVq := hideB hV
              clear hV hK hf he
              go_wp2_with fail
              rw [HVq.out]
              refine (IH.out wB V B bb _ (.string nm') (.slice a1' al'.length c1') (.slice a2' ks'.length c2') (.int .i64 p') K HBQ.out BeV.out IV.out HE.out (by simp only [List.length_append]; omega)).mono ?_
              rintro e w5 ⟨rfl, i5, r5⟩
              have I5 := hideB i5
              have R5 := hideB (WV.out.trans r5)
              have L5 := hideB (LLV.out.wrote r5 (by omega) (by decide))
              clear i5 r5 q0 q1 q2 q3
              go_wp2_with fail
              go_roundw
              case rel =>
                refine ⟨j + 1, by omega, by go_num, ?_, R5, L5⟩
                show BdF _ _ _ _
                rw [HKK.out, ← List.append_assoc]
                exact I5.out
              case measure => simp [intOf]; omega
            · have HTK : Hid (ks.take j = ks) := List.take_of_length_le (by omega)
              go_wp2_with fail
              refine (wsD B bb _ ⟨#[60, 47]⟩ wr HI4.out (by show _ + 2 ≤ _; simp only [List.length_append]; omega) (by have := HW4.out.2.2; omega) ((P1 ++ (ks.take j).flatMap (Xp.printT n)) ++ [60, 47]) rfl).mono ?_
              rintro e w6 ⟨rfl, i6, r6⟩
              have I6 := hideB i6
              have R6 := hideB (HW4.out.trans r6)
              have L6 := hideB (HL4.out.wrote r6 (by omega) (by decide))
              have v0 : w6.cell? ⟨w.heap.size, 0, none⟩ = some (.string nm) := L6.out.cell 0
              clear i6 r6
              go_wp2_with fail
              refine (wsD B bb _ nm w6 I6.out (by simp only [List.length_append, List.length_cons, List.length_nil]; omega) (by have := R6.out.2.2; omega) ((P1 ++ (ks.take j).flatMap (Xp.printT n)) ++ [60, 47] ++ nm.data.toList) rfl).mono ?_
              rintro e w7 ⟨rfl, i7, r7⟩
              have I7 := hideB i7
              have R7 := hideB (R6.out.trans r7)
              clear i7 r7 v0
              go_wp2_with fail
              refine (wsD B bb _ ⟨#[62]⟩ w7 I7.out (by show _ + 1 ≤ _; simp only [List.length_append, List.length_cons, List.length_nil]; omega) (by have := R7.out.2.2; omega) (l ++ Xp.printT (n + 1) (Xp.mkT nm al ks p)) (by show _ = _; rw [HPR.out, HPK2.out, HTK.out, HP1.out, HAL.out]; simp)).mono ?_
              rintro e w8 ⟨rfl, i8, r8⟩
              go_wp2_with fail
              first | go_end0 | refine bodyPost_ret (results_none rfl _ _ _) rfl ?_
              exact ⟨rfl, i8, R7.out.trans r8⟩
end Go.Proofs.YtimecocegnnjjaaDoor
