/-
  The program's itemAlone, of kinds other than Timer.
-/
import Derived.Test.YtjfonpbnohbpfaaGreatDoorBVals
set_option linter.unusedSimpArgs false
set_option linter.unusedVariables false
namespace Go.Proofs.YtjfonpbnohbpfaaGreatDoor
open Go.RowKit
set_option maxRecDepth 100000
theorem readRequiredD (s : ByteArray) (w : World) :
    Calls Tryz.prog 179 #[.string s] w fun e w' => e = .returned (.tuple #[.bool (decide (s = Bp.trueW)), .bool (decide (s = Bp.trueW) || decide (s = Bp.falseW))]) ∧ Below w.heap.size w w' := by
  by_cases h1 : s = Bp.trueW
  · subst h1
    go_enter Tryz.func179, Tryz.ntmps179
    go_wp2_with fail
    go_ret2
    exact ⟨rfl, Below.refl _ _⟩
  · have t1 : ¬ s.toList = [116, 114, 117, 101] := tl_ne Bp.trueW _ h1 rfl
    have t2 : (s.toList == [116, 114, 117, 101]) = false := tl_beq Bp.trueW _ h1 rfl
    have F1 : Hid (decide (s = Bp.trueW) = false) := decide_eq_false h1
    by_cases h2 : s = Bp.falseW
    · subst h2
      go_enter Tryz.func179, Tryz.ntmps179
      go_wp2_with fail
      go_ret2
      exact ⟨rfl, Below.refl _ _⟩
    · have t3 : ¬ s.toList = [102, 97, 108, 115, 101] := tl_ne Bp.falseW _ h2 rfl
      have t4 : (s.toList == [102, 97, 108, 115, 101]) = false := tl_beq Bp.falseW _ h2 rfl
      have F2 : Hid (decide (s = Bp.falseW) = false) := decide_eq_false h2
      clear h1 h2
      go_enter Tryz.func179, Tryz.ntmps179
      go_wp2_with fail
      go_ret2
      rw [F1.out, F2.out]
      exact ⟨rfl, Below.refl _ _⟩
/-- What itemAlone answers. -/
def HPost (l : List Att) (kind : Int) (w : World) (e : Ending) (w' : World) : Prop := e = .returned (.tuple #[.agg #[.string (Bp.headI l kind), .int .i64 kind, .string ⟨#[]⟩, .bool (Bp.headS l kind).2.1, .int .i64 (Bp.headS l kind).1, .slice none 0 0, .slice none 0 0], .bool (Bp.headS l kind).2.2]) ∧ (Bp.headI l kind).size ≤ 140737488355328 ∧ Below w.heap.size w w'
def headK (l : List Att) (names : List ByteArray) (k : Nat) : Int × Bool × Bool := ((names.zip (Bp.vals l names).1).take k).foldl Bp.headStep (0, false, Bp.valOk l names)
theorem headK_succ {l : List Att} {names : List ByteArray} {k : Nat} {nm v : ByteArray} (h1 : names[k]? = some nm) (h2 : (Bp.vals l names).1[k]? = some v) : headK l names (k + 1) = Bp.headStep (headK l names k) (nm, v) := by
  unfold headK
  rw [List.take_add_one, (List.getElem?_zip_eq_some (z := (nm, v))).2 ⟨h1, h2⟩, List.foldl_append]
  rfl
theorem headK_all (l : List Att) (kind : Int) {n : Nat} (h : (Bp.headNames l kind).length ≤ n) : headK l (Bp.headNames l kind) n = Bp.headS l kind := by
  unfold headK Bp.headS Bp.headZ
  rw [List.take_of_length_le (by rw [List.length_zip]; omega)]
set_option maxHeartbeats 400000 in
theorem itemAloneA (w : World) (sp lo v : Value) (a3 : Option Addr) (n3 m3 : Nat) (p : Int) (l : List Att) (h : ARow w v l) (kind : Int) (hk : kind ≠ 5) (hreq : ¬ 0 ≤ Bp.atZ l Bp.reqW) :
    Calls Tryz.prog 155 #[.agg #[sp, lo, v, .slice a3 n3 m3, .int .i64 p], .int .i64 kind] w (HPost l kind w) := by
  obtain ⟨names, hnames⟩ : ∃ names, names = Bp.headNames l kind := ⟨_, rfl⟩
  have hnl : names = [Bp.idW] := by rw [hnames]; simp [Bp.headNames, hk, hreq]
  have HNA := hideT hnames
  have HNL := hideT hnl
  have hnn : Hid (names.length = 1) := by show _ = _; rw [hnl]; rfl
  clear hnl
  obtain ⟨la, lcap, _, _, rfl, _⟩ := arow_at h
  have HAR := hideT h
  obtain ⟨W0, hW0, B0, L0, RL⟩ : ∃ W0, (w.alloc (.cells #[sp, lo, .slice la l.length lcap, .slice a3 n3 m3, .int .i64 p] 45)).alloc (.cells #[.string ⟨#[]⟩, .int .i64 0, .string ⟨#[]⟩, .bool false, .int .i64 0, .slice none 0 0, .slice none 0 0] 31) = W0 ∧ Below w.heap.size w W0 ∧ Lies W0 w.heap.size 45 #[sp, lo, .slice la l.length lcap, .slice a3 n3 m3, .int .i64 p] ∧ Lies W0 (w.heap.size + 1) 31 #[.string ⟨#[]⟩, .int .i64 0, .string ⟨#[]⟩, .bool false, .int .i64 0, .slice none 0 0, .slice none 0 0] := by
    refine ⟨_, rfl, ((Below.refl _ w).alloc (Nat.le_refl _) _).alloc (by simp) _, (Lies.new w _ _).below ((Below.refl _ _).alloc (Nat.le_refl _) _), ?_⟩
    have := Lies.new (w.alloc (.cells #[sp, lo, .slice la l.length lcap, .slice a3 n3 m3, .int .i64 p] 45)) 31 #[.string ⟨#[]⟩, .int .i64 0, .string ⟨#[]⟩, .bool false, .int .i64 0, .slice none 0 0, .slice none 0 0]
    rw [World.size_alloc] at this
    exact this
  obtain ⟨W1, hW1, B1, O1⟩ : ∃ W1, W0.alloc (.cells #[.string Bp.idW] 9) = W1 ∧ Below W0.heap.size W0 W1 ∧ W1.ownsRow W0.heap.size 9 1 (.slice (some ⟨W0.heap.size, 0, none⟩) 1 1) 1 [.string Bp.idW] :=
    ⟨_, rfl, (Below.refl _ W0).alloc (Nat.le_refl _) _, own_of_lies (n := 1) (z := 1) (Lies.new W0 _ _) (Nat.le_refl _) rfl (by decide)⟩
  have HQ0 : Hid (W0.heap.size = w.heap.size + 2) := by show _ = _; rw [← hW0]; simp
  have q1 := B1.size
  have B01 := hideT (B0.trans (B1.mono B0.size))
  have L1 := hideT (L0.below B1)
  have RL1 := hideT (RL.below B1)
  have HO1 := hideT O1
  have x0 : W1.cell? ⟨w.heap.size, 0, none⟩ = some sp := L1.out.cell 0
  have x1 : W1.cell? ⟨w.heap.size, 1, none⟩ = some lo := L1.out.cell 1
  have x2 : W1.cell? ⟨w.heap.size, 2, none⟩ = some (.slice la l.length lcap) := L1.out.cell 2
  have x3 : W1.cell? ⟨w.heap.size, 3, none⟩ = some (.slice a3 n3 m3) := L1.out.cell 3
  have x4 : W1.cell? ⟨w.heap.size, 4, none⟩ = some (.int .i64 p) := L1.out.cell 4
  have t5 : (kind == 5) = false := beq_eq_false_iff_ne.2 hk
  obtain ⟨i0, hi0, hz0, hz1, hz2⟩ := info_parts infoTx
  clear h hnames B0 L0 RL B1 O1
  go_enter Tryz.func155, Tryz.ntmps155
  go_wp2_with fail
  try rw [hW0]
  try rw [hW1]
  refine (attrPlaceD W1 sp lo _ _ _ l Bp.reqW (HAR.out.below' B01.out)).mono ?_
  rintro e w2 ⟨rfl, b2⟩
  have B2 := hideT (B01.out.trans (b2.mono B01.out.size))
  have L2 := hideT (L1.out.below b2)
  have RL2 := hideT (RL1.out.below b2)
  have HO2 := hideT (own_below HO1.out b2)
  have q2 := b2.size
  have y0 : w2.cell? ⟨w.heap.size, 0, none⟩ = some sp := L2.out.cell 0
  have y1 : w2.cell? ⟨w.heap.size, 1, none⟩ = some lo := L2.out.cell 1
  have y2 : w2.cell? ⟨w.heap.size, 2, none⟩ = some (.slice la l.length lcap) := L2.out.cell 2
  have y3 : w2.cell? ⟨w.heap.size, 3, none⟩ = some (.slice a3 n3 m3) := L2.out.cell 3
  have y4 : w2.cell? ⟨w.heap.size, 4, none⟩ = some (.int .i64 p) := L2.out.cell 4
  obtain ⟨z, hz⟩ : ∃ z, Bp.atZ l Bp.reqW = z := ⟨_, rfl⟩
  rw [hz] at hreq ⊢
  clear hz b2 x0 x1 x2 x3 x4 hW0 hW1
  have FN := hideT (show FRow w2 (.slice (some ⟨W0.heap.size, 0, none⟩) 1 1) names from by rw [HNL.out]; exact frow_of_own (n := 1) (L := [Bp.idW]) HO2.out rfl (by decide) (by decide))
  go_wp2_with fail
  refine (valuesD w2 sp lo _ a3 n3 m3 p l (HAR.out.below' B2.out) (some ⟨W0.heap.size, 0, none⟩) 1 1 names FN.out (by decide)).mono ?_
  rintro e w4 ⟨ra, rc, rfl, FV, b4⟩
  rw [hnn.out] at FV ⊢
  have B4 := hideT (B2.out.trans (b4.mono B2.out.size))
  have RL4 := hideT (RL2.out.below b4)
  have FN4 := hideT (frow_below FN.out b4)
  obtain ⟨vs, hvs⟩ : ∃ vs, (Bp.vals l names).1 = vs := ⟨_, rfl⟩
  rw [hvs] at FV
  obtain ⟨hvl, _, _, vb, vo, hva, hvc⟩ := frow_at FV
  obtain rfl := hva (by decide)
  obtain ⟨id0, hid⟩ := Mp.at_lt (l := vs) (k := 0) (by omega)
  obtain ⟨hidz, c0⟩ := hvc 0 _ hid
  have HID : Hid (Bp.headI l kind = id0) := by
    show _ = _
    unfold Bp.headI
    rw [← HNA.out, hvs]
    cases vs with
    | nil => cases hid
    | cons a r => simp at hid; subst hid; rfl
  have HVC := hideT hvc
  have HVS := hideT hvs
  obtain ⟨ok, hok⟩ : ∃ ok, Bp.valOk l names = ok := ⟨_, rfl⟩
  have HOK := hideT hok
  rw [hok]
  rw [Nat.add_zero] at c0
  obtain ⟨hq1, hq2, hq3, nb, no, hna, hnc⟩ := frow_at FN4.out
  clear hq1 hq2 hq3
  have HNC := hideT hnc
  cases hna (by decide)
  clear FV hva hvc b4 hok hna hnc y0 y1 y2 y3 y4 hi0 hz0 hz1 hz2
  have HVL := hideT hvl
  clear hvl hvs hid
  go_wp2_with fail
  generalize hI : w4.alloc _ = WI
  obtain ⟨BI, LI, zI⟩ := of_alloc hI
  obtain ⟨ib, hib⟩ : ∃ ib, ib = w4.heap.size := ⟨_, rfl⟩
  have q4 := B4.out.size
  have RLI := hideT (RL4.out.below BI)
  have BWI := hideT (B4.out.trans (BI.mono B4.out.size))
  have hrl := RL4.out.lt
  rw [← hib] at LI ⊢
  have LIh := hideT LI
  have HIB := hideT hib
  clear LI hI hib
  go_loopw [38, 8] (fun i o wr => ∃ (k : Nat), k ≤ 1 ∧ i = .int .i64 k ∧ o = .bool (headK l names k).2.2 ∧ Hid (Below w.heap.size w wr) ∧ Hid (Below w4.heap.size w4 wr) ∧ Hid (Lies wr ib 31 #[.string id0, .int .i64 kind, .string ⟨#[]⟩, .bool (headK l names k).2.1, .int .i64 (headK l names k).1, .slice none 0 0, .slice none 0 0])) (fun i _ _ => 1 - (intOf i).toNat)
  case atStart => exact ⟨0, by decide, rfl, by show _ = Value.bool (Bp.valOk l names); rw [HOK.out], BWI, BI, LIh⟩
  case round =>
    obtain ⟨k, hk2, rfl, rfl, HB, HB4, HL⟩ := hrel
    have HRL := hideT (RL4.out.below HB4.out)
    have u0 := HL.out.cell 0
    have u1 := HL.out.cell 1
    have u2 := HL.out.cell 2
    have u3 := HL.out.cell 3
    have u4 := HL.out.cell 4
    have u5 := HL.out.cell 5
    have u6 := HL.out.cell 6
    have f3 := HL.out.free 3
    simp only [List.getElem?_toArray, List.getElem?_cons_zero, List.getElem?_cons_succ] at u0 u1 u2 u3 u4 u5 u6
    by_cases hlt : k < 1
    rotate_left
    · have HS : Hid (headK l names k = Bp.headS l kind) := by
        show _ = _
        rw [HNA.out]
        exact headK_all l kind (by rw [← HNA.out, hnn.out]; omega)
      obtain ⟨⟨tk, rk, okk⟩, hS⟩ : ∃ x, headK l names k = x := ⟨_, rfl⟩
      rw [hS] at HS u3 u4 ⊢
      dsimp only at u3 u4 ⊢
      have e0 : wr.cell? ⟨w.heap.size + 1, 0, none⟩ = _ := HRL.out.cell 0
      have g0 : wr.frozen? ⟨w.heap.size + 1, 0, none⟩ = false := HRL.out.free 0
      have e1 : wr.cell? ⟨w.heap.size + 1, 1, none⟩ = _ := HRL.out.cell 1
      have g1 : wr.frozen? ⟨w.heap.size + 1, 1, none⟩ = false := HRL.out.free 1
      have e2 : wr.cell? ⟨w.heap.size + 1, 2, none⟩ = _ := HRL.out.cell 2
      have g2 : wr.frozen? ⟨w.heap.size + 1, 2, none⟩ = false := HRL.out.free 2
      have e3 : wr.cell? ⟨w.heap.size + 1, 3, none⟩ = _ := HRL.out.cell 3
      have g3 : wr.frozen? ⟨w.heap.size + 1, 3, none⟩ = false := HRL.out.free 3
      have e4 : wr.cell? ⟨w.heap.size + 1, 4, none⟩ = _ := HRL.out.cell 4
      have g4 : wr.frozen? ⟨w.heap.size + 1, 4, none⟩ = false := HRL.out.free 4
      have e5 : wr.cell? ⟨w.heap.size + 1, 5, none⟩ = _ := HRL.out.cell 5
      have g5 : wr.frozen? ⟨w.heap.size + 1, 5, none⟩ = false := HRL.out.free 5
      have e6 : wr.cell? ⟨w.heap.size + 1, 6, none⟩ = _ := HRL.out.cell 6
      have g6 : wr.frozen? ⟨w.heap.size + 1, 6, none⟩ = false := HRL.out.free 6
      simp only [List.getElem?_toArray, List.getElem?_cons_zero, List.getElem?_cons_succ] at e0 e1 e2 e3 e4 e5 e6
      clear hS
      go_wp2_with fail
      obtain ⟨X, hX, bX, lX⟩ : ∃ X, (((((((wr.setCell ⟨w.heap.size + 1, 0, none⟩ (.string id0)).setCell ⟨w.heap.size + 1, 1, none⟩ (.int .i64 kind)).setCell ⟨w.heap.size + 1, 2, none⟩ (.string ⟨#[]⟩)).setCell ⟨w.heap.size + 1, 3, none⟩ (.bool rk)).setCell ⟨w.heap.size + 1, 4, none⟩ (.int .i64 tk)).setCell ⟨w.heap.size + 1, 5, none⟩ (.slice none 0 0)).setCell ⟨w.heap.size + 1, 6, none⟩ (.slice none 0 0)) = X ∧ Below w.heap.size w X ∧ Lies X (w.heap.size + 1) 31 #[.string id0, .int .i64 kind, .string ⟨#[]⟩, .bool rk, .int .i64 tk, .slice none 0 0, .slice none 0 0] := ⟨_, rfl, (((((((HB.out.setCell (Nat.le_succ _) _).setCell (Nat.le_succ _) _).setCell (Nat.le_succ _) _).setCell (Nat.le_succ _) _).setCell (Nat.le_succ _) _).setCell (Nat.le_succ _) _).setCell (Nat.le_succ _) _), (((((((HRL.out.set 0 _).set 1 _).set 2 _).set 3 _).set 4 _).set 5 _).set 6 _)⟩
      rw [hX]
      go_wp2_with fail
      have r0 : X.cell? ⟨w.heap.size + 1, 0, none⟩ = some (.string id0) := lX.cell 0
      have r1 : X.cell? ⟨w.heap.size + 1, 1, none⟩ = some (.int .i64 kind) := lX.cell 1
      have r2 : X.cell? ⟨w.heap.size + 1, 2, none⟩ = some (.string ⟨#[]⟩) := lX.cell 2
      have r3 : X.cell? ⟨w.heap.size + 1, 3, none⟩ = some (.bool rk) := lX.cell 3
      have r4 : X.cell? ⟨w.heap.size + 1, 4, none⟩ = some (.int .i64 tk) := lX.cell 4
      have r5 : X.cell? ⟨w.heap.size + 1, 5, none⟩ = some (.slice none 0 0) := lX.cell 5
      have r6 : X.cell? ⟨w.heap.size + 1, 6, none⟩ = some (.slice none 0 0) := lX.cell 6
      refine bodyPost_ret (v := .tuple #[.agg #[.string id0, .int .i64 kind, .string ⟨#[]⟩, .bool rk, .int .i64 tk, .slice none 0 0, .slice none 0 0], .bool okk]) (by simp [results, Tryz.results155, go_sem, r0, r1, r2, r3, r4, r5, r6]) rfl ⟨?_, by rw [HID.out]; exact hidz, bX⟩
      rw [HID.out, ← HS.out]
    obtain rfl : k = 0 := by omega
    · have HK1 : Hid (headK l names 1 = headK l names 0) := by
        show _ = _
        obtain ⟨v0, hv0⟩ := Mp.at_lt (l := vs) (k := 0) (by have := HVL.out; omega)
        rw [headK_succ (k := 0) (nm := Bp.idW) (by rw [HNL.out]; rfl) (by rw [HVS.out]; exact hv0)]
        unfold Bp.headStep
        rw [if_neg (show ¬ (Bp.idW = Bp.ticksW) by decide), if_neg (show ¬ (Bp.idW = Bp.reqW) by decide)]
      obtain ⟨⟨tk, rk, okk⟩, hS⟩ : ∃ x, headK l names 0 = x := ⟨_, rfl⟩
      have c1 := below_cell HB4.out _ _ (HNC.out 0 Bp.idW (by rw [HNL.out]; rfl)).2
      rw [Nat.add_zero] at c1
      have HS := hideT hS
      rw [hS] at HL ⊢
      dsimp only at HL ⊢
      clear hS u0 u1 u2 u3 u4 u5 u6 f3 c0
      cases okk with
      | true =>
        go_wp2_with fail
        refine ⟨⟨1, by decide, rfl, by rw [HK1.out, HS.out], HB, HB4, by rw [HK1.out, HS.out]; exact HL⟩, ?_⟩
        first | decide | omega | (simp [intOf]; done) | (simp [intOf]; omega)
      | false =>
        go_wp2_with fail
        refine ⟨⟨1, by decide, rfl, by rw [HK1.out, HS.out], HB, HB4, by rw [HK1.out, HS.out]; exact HL⟩, ?_⟩
        first | decide | omega | (simp [intOf]; done) | (simp [intOf]; omega)
set_option maxHeartbeats 400000 in
theorem itemAloneB (w : World) (sp lo v : Value) (a3 : Option Addr) (n3 m3 : Nat) (p : Int) (l : List Att) (h : ARow w v l) (kind : Int) (hk : kind ≠ 5) (hreq : 0 ≤ Bp.atZ l Bp.reqW) :
    Calls Tryz.prog 155 #[.agg #[sp, lo, v, .slice a3 n3 m3, .int .i64 p], .int .i64 kind] w (HPost l kind w) := by
  obtain ⟨names, hnames⟩ : ∃ names, names = Bp.headNames l kind := ⟨_, rfl⟩
  have hnl : names = [Bp.idW, Bp.reqW] := by rw [hnames]; simp [Bp.headNames, hk, hreq]
  have HNA := hideT hnames
  have HNL := hideT hnl
  have hnn : Hid (names.length = 2) := by show _ = _; rw [hnl]; rfl
  clear hnl
  obtain ⟨la, lcap, _, _, rfl, _⟩ := arow_at h
  have HAR := hideT h
  obtain ⟨W0, hW0, B0, L0, RL⟩ : ∃ W0, (w.alloc (.cells #[sp, lo, .slice la l.length lcap, .slice a3 n3 m3, .int .i64 p] 45)).alloc (.cells #[.string ⟨#[]⟩, .int .i64 0, .string ⟨#[]⟩, .bool false, .int .i64 0, .slice none 0 0, .slice none 0 0] 31) = W0 ∧ Below w.heap.size w W0 ∧ Lies W0 w.heap.size 45 #[sp, lo, .slice la l.length lcap, .slice a3 n3 m3, .int .i64 p] ∧ Lies W0 (w.heap.size + 1) 31 #[.string ⟨#[]⟩, .int .i64 0, .string ⟨#[]⟩, .bool false, .int .i64 0, .slice none 0 0, .slice none 0 0] := by
    refine ⟨_, rfl, ((Below.refl _ w).alloc (Nat.le_refl _) _).alloc (by simp) _, (Lies.new w _ _).below ((Below.refl _ _).alloc (Nat.le_refl _) _), ?_⟩
    have := Lies.new (w.alloc (.cells #[sp, lo, .slice la l.length lcap, .slice a3 n3 m3, .int .i64 p] 45)) 31 #[.string ⟨#[]⟩, .int .i64 0, .string ⟨#[]⟩, .bool false, .int .i64 0, .slice none 0 0, .slice none 0 0]
    rw [World.size_alloc] at this
    exact this
  obtain ⟨W1, hW1, B1, O1⟩ : ∃ W1, W0.alloc (.cells #[.string Bp.idW] 9) = W1 ∧ Below W0.heap.size W0 W1 ∧ W1.ownsRow W0.heap.size 9 1 (.slice (some ⟨W0.heap.size, 0, none⟩) 1 1) 1 [.string Bp.idW] :=
    ⟨_, rfl, (Below.refl _ W0).alloc (Nat.le_refl _) _, own_of_lies (n := 1) (z := 1) (Lies.new W0 _ _) (Nat.le_refl _) rfl (by decide)⟩
  have HQ0 : Hid (W0.heap.size = w.heap.size + 2) := by show _ = _; rw [← hW0]; simp
  have q1 := B1.size
  have B01 := hideT (B0.trans (B1.mono B0.size))
  have L1 := hideT (L0.below B1)
  have RL1 := hideT (RL.below B1)
  have HO1 := hideT O1
  have x0 : W1.cell? ⟨w.heap.size, 0, none⟩ = some sp := L1.out.cell 0
  have x1 : W1.cell? ⟨w.heap.size, 1, none⟩ = some lo := L1.out.cell 1
  have x2 : W1.cell? ⟨w.heap.size, 2, none⟩ = some (.slice la l.length lcap) := L1.out.cell 2
  have x3 : W1.cell? ⟨w.heap.size, 3, none⟩ = some (.slice a3 n3 m3) := L1.out.cell 3
  have x4 : W1.cell? ⟨w.heap.size, 4, none⟩ = some (.int .i64 p) := L1.out.cell 4
  have t5 : (kind == 5) = false := beq_eq_false_iff_ne.2 hk
  obtain ⟨i0, hi0, hz0, hz1, hz2⟩ := info_parts infoTx
  clear h hnames B0 L0 RL B1 O1
  go_enter Tryz.func155, Tryz.ntmps155
  go_wp2_with fail
  try rw [hW0]
  try rw [hW1]
  refine (attrPlaceD W1 sp lo _ _ _ l Bp.reqW (HAR.out.below' B01.out)).mono ?_
  rintro e w2 ⟨rfl, b2⟩
  have B2 := hideT (B01.out.trans (b2.mono B01.out.size))
  have L2 := hideT (L1.out.below b2)
  have RL2 := hideT (RL1.out.below b2)
  have HO2 := hideT (own_below HO1.out b2)
  have q2 := b2.size
  have y0 : w2.cell? ⟨w.heap.size, 0, none⟩ = some sp := L2.out.cell 0
  have y1 : w2.cell? ⟨w.heap.size, 1, none⟩ = some lo := L2.out.cell 1
  have y2 : w2.cell? ⟨w.heap.size, 2, none⟩ = some (.slice la l.length lcap) := L2.out.cell 2
  have y3 : w2.cell? ⟨w.heap.size, 3, none⟩ = some (.slice a3 n3 m3) := L2.out.cell 3
  have y4 : w2.cell? ⟨w.heap.size, 4, none⟩ = some (.int .i64 p) := L2.out.cell 4
  obtain ⟨z, hz⟩ : ∃ z, Bp.atZ l Bp.reqW = z := ⟨_, rfl⟩
  rw [hz] at hreq ⊢
  clear hz b2 x0 x1 x2 x3 x4 hW0 hW1
  go_wp2_with (first | (at_builtin; refine wpList_append_lies _ (by rfl) _ _ _ (by rfl) W0.heap.size 9 i0 _ 1 16 Tryz.underlying22 hi0 hz0 hz1 hz2 rfl (by omega) (.slice (some ⟨W0.heap.size, 0, none⟩) 1 1) 1 [.string Bp.idW] (by rfl) (HO2.out.alloc _) ⟨w2.heap.size, 0, none⟩ 1 1 [.string Bp.reqW] (by rfl) (by rfl) (World.news_of_block (cs := #[.string Bp.reqW]) (t := 9) (fr := (0, 0)) (heap_alloc_new w2 _)) (by simp [Value.oneCell']) (by omega) (by unfold maxLen; omega) (by omega) (by first | (simp; done) | (simp; omega)) (w2.heap.size + 1) (by simp) ?_; intro gb cap2 w3 hown hgrow hat hlt3; have bA := (Below.refl w2.heap.size w2).alloc (Nat.le_refl _) (.cells #[.string Bp.reqW] 9); have kA : Keep (fun k => W0.heap.size = k) w2 w3 := (Keep.of_below bA).on (Keep.grown hgrow) (fun i _ e => Option.some.inj e); have L3 := hideT (L2.out.keep kA (by show ¬ (_ = _); have := HQ0.out; omega)); have y0 : w3.cell? ⟨w.heap.size, 0, none⟩ = some sp := L3.out.cell 0; have y1 : w3.cell? ⟨w.heap.size, 1, none⟩ = some lo := L3.out.cell 1; have y2 : w3.cell? ⟨w.heap.size, 2, none⟩ = some (.slice la l.length lcap) := L3.out.cell 2; have y3 : w3.cell? ⟨w.heap.size, 3, none⟩ = some (.slice a3 n3 m3) := L3.out.cell 3; have y4 : w3.cell? ⟨w.heap.size, 4, none⟩ = some (.int .i64 p) := L3.out.cell 4) | fail)
  have B3 := hideT (Keep.below B2.out kA (fun i hi e => by have := HQ0.out; omega))
  have RL3 := hideT (RL2.out.keep kA (by show ¬ (_ = _); have := HQ0.out; omega))
  have FN := hideT (show FRow w3 (.slice (some ⟨gb, 0, none⟩) 2 cap2) names from by rw [HNL.out]; exact frow_of_own (n := 2) (L := [Bp.idW, Bp.reqW]) hown rfl (by decide) (by decide))
  clear hown hgrow hat hlt3 bA kA
  refine (valuesD w3 sp lo _ a3 n3 m3 p l (HAR.out.below' B3.out) (some ⟨gb, 0, none⟩) 2 cap2 names FN.out (by decide)).mono ?_
  rintro e w4 ⟨ra, rc, rfl, FV, b4⟩
  rw [hnn.out] at FV ⊢
  have B4 := hideT (B3.out.trans (b4.mono B3.out.size))
  have RL4 := hideT (RL3.out.below b4)
  have FN4 := hideT (frow_below FN.out b4)
  obtain ⟨vs, hvs⟩ : ∃ vs, (Bp.vals l names).1 = vs := ⟨_, rfl⟩
  rw [hvs] at FV
  obtain ⟨hvl, _, _, vb, vo, hva, hvc⟩ := frow_at FV
  obtain rfl := hva (by decide)
  obtain ⟨id0, hid⟩ := Mp.at_lt (l := vs) (k := 0) (by omega)
  obtain ⟨hidz, c0⟩ := hvc 0 _ hid
  have HID : Hid (Bp.headI l kind = id0) := by
    show _ = _
    unfold Bp.headI
    rw [← HNA.out, hvs]
    cases vs with
    | nil => cases hid
    | cons a r => simp at hid; subst hid; rfl
  have HVC := hideT hvc
  have HVS := hideT hvs
  obtain ⟨ok, hok⟩ : ∃ ok, Bp.valOk l names = ok := ⟨_, rfl⟩
  have HOK := hideT hok
  rw [hok]
  rw [Nat.add_zero] at c0
  obtain ⟨hq1, hq2, hq3, nb, no, hna, hnc⟩ := frow_at FN4.out
  clear hq1 hq2 hq3
  have HNC := hideT hnc
  cases hna (by decide)
  clear FV hva hvc b4 hok hna hnc y0 y1 y2 y3 y4 hi0 hz0 hz1 hz2
  have HVL := hideT hvl
  clear hvl hvs hid
  go_wp2_with fail
  generalize hI : w4.alloc _ = WI
  obtain ⟨BI, LI, zI⟩ := of_alloc hI
  obtain ⟨ib, hib⟩ : ∃ ib, ib = w4.heap.size := ⟨_, rfl⟩
  have q4 := B4.out.size
  have RLI := hideT (RL4.out.below BI)
  have BWI := hideT (B4.out.trans (BI.mono B4.out.size))
  have hrl := RL4.out.lt
  rw [← hib] at LI ⊢
  have LIh := hideT LI
  have HIB := hideT hib
  clear LI hI hib
  go_loopw [38, 8] (fun i o wr => ∃ (k : Nat), k ≤ 2 ∧ i = .int .i64 k ∧ o = .bool (headK l names k).2.2 ∧ Hid (Below w.heap.size w wr) ∧ Hid (Below w4.heap.size w4 wr) ∧ Hid (Lies wr ib 31 #[.string id0, .int .i64 kind, .string ⟨#[]⟩, .bool (headK l names k).2.1, .int .i64 (headK l names k).1, .slice none 0 0, .slice none 0 0])) (fun i _ _ => 2 - (intOf i).toNat)
  case atStart => exact ⟨0, by decide, rfl, by show _ = Value.bool (Bp.valOk l names); rw [HOK.out], BWI, BI, LIh⟩
  case round =>
    obtain ⟨k, hk2, rfl, rfl, HB, HB4, HL⟩ := hrel
    have HRL := hideT (RL4.out.below HB4.out)
    have u0 := HL.out.cell 0
    have u1 := HL.out.cell 1
    have u2 := HL.out.cell 2
    have u3 := HL.out.cell 3
    have u4 := HL.out.cell 4
    have u5 := HL.out.cell 5
    have u6 := HL.out.cell 6
    have f3 := HL.out.free 3
    simp only [List.getElem?_toArray, List.getElem?_cons_zero, List.getElem?_cons_succ] at u0 u1 u2 u3 u4 u5 u6
    by_cases hlt : k < 2
    rotate_left
    · have HS : Hid (headK l names k = Bp.headS l kind) := by
        show _ = _
        rw [HNA.out]
        exact headK_all l kind (by rw [← HNA.out, hnn.out]; omega)
      obtain ⟨⟨tk, rk, okk⟩, hS⟩ : ∃ x, headK l names k = x := ⟨_, rfl⟩
      rw [hS] at HS u3 u4 ⊢
      dsimp only at u3 u4 ⊢
      have e0 : wr.cell? ⟨w.heap.size + 1, 0, none⟩ = _ := HRL.out.cell 0
      have g0 : wr.frozen? ⟨w.heap.size + 1, 0, none⟩ = false := HRL.out.free 0
      have e1 : wr.cell? ⟨w.heap.size + 1, 1, none⟩ = _ := HRL.out.cell 1
      have g1 : wr.frozen? ⟨w.heap.size + 1, 1, none⟩ = false := HRL.out.free 1
      have e2 : wr.cell? ⟨w.heap.size + 1, 2, none⟩ = _ := HRL.out.cell 2
      have g2 : wr.frozen? ⟨w.heap.size + 1, 2, none⟩ = false := HRL.out.free 2
      have e3 : wr.cell? ⟨w.heap.size + 1, 3, none⟩ = _ := HRL.out.cell 3
      have g3 : wr.frozen? ⟨w.heap.size + 1, 3, none⟩ = false := HRL.out.free 3
      have e4 : wr.cell? ⟨w.heap.size + 1, 4, none⟩ = _ := HRL.out.cell 4
      have g4 : wr.frozen? ⟨w.heap.size + 1, 4, none⟩ = false := HRL.out.free 4
      have e5 : wr.cell? ⟨w.heap.size + 1, 5, none⟩ = _ := HRL.out.cell 5
      have g5 : wr.frozen? ⟨w.heap.size + 1, 5, none⟩ = false := HRL.out.free 5
      have e6 : wr.cell? ⟨w.heap.size + 1, 6, none⟩ = _ := HRL.out.cell 6
      have g6 : wr.frozen? ⟨w.heap.size + 1, 6, none⟩ = false := HRL.out.free 6
      simp only [List.getElem?_toArray, List.getElem?_cons_zero, List.getElem?_cons_succ] at e0 e1 e2 e3 e4 e5 e6
      clear hS
      go_wp2_with fail
      obtain ⟨X, hX, bX, lX⟩ : ∃ X, (((((((wr.setCell ⟨w.heap.size + 1, 0, none⟩ (.string id0)).setCell ⟨w.heap.size + 1, 1, none⟩ (.int .i64 kind)).setCell ⟨w.heap.size + 1, 2, none⟩ (.string ⟨#[]⟩)).setCell ⟨w.heap.size + 1, 3, none⟩ (.bool rk)).setCell ⟨w.heap.size + 1, 4, none⟩ (.int .i64 tk)).setCell ⟨w.heap.size + 1, 5, none⟩ (.slice none 0 0)).setCell ⟨w.heap.size + 1, 6, none⟩ (.slice none 0 0)) = X ∧ Below w.heap.size w X ∧ Lies X (w.heap.size + 1) 31 #[.string id0, .int .i64 kind, .string ⟨#[]⟩, .bool rk, .int .i64 tk, .slice none 0 0, .slice none 0 0] := ⟨_, rfl, (((((((HB.out.setCell (Nat.le_succ _) _).setCell (Nat.le_succ _) _).setCell (Nat.le_succ _) _).setCell (Nat.le_succ _) _).setCell (Nat.le_succ _) _).setCell (Nat.le_succ _) _).setCell (Nat.le_succ _) _), (((((((HRL.out.set 0 _).set 1 _).set 2 _).set 3 _).set 4 _).set 5 _).set 6 _)⟩
      rw [hX]
      go_wp2_with fail
      have r0 : X.cell? ⟨w.heap.size + 1, 0, none⟩ = some (.string id0) := lX.cell 0
      have r1 : X.cell? ⟨w.heap.size + 1, 1, none⟩ = some (.int .i64 kind) := lX.cell 1
      have r2 : X.cell? ⟨w.heap.size + 1, 2, none⟩ = some (.string ⟨#[]⟩) := lX.cell 2
      have r3 : X.cell? ⟨w.heap.size + 1, 3, none⟩ = some (.bool rk) := lX.cell 3
      have r4 : X.cell? ⟨w.heap.size + 1, 4, none⟩ = some (.int .i64 tk) := lX.cell 4
      have r5 : X.cell? ⟨w.heap.size + 1, 5, none⟩ = some (.slice none 0 0) := lX.cell 5
      have r6 : X.cell? ⟨w.heap.size + 1, 6, none⟩ = some (.slice none 0 0) := lX.cell 6
      refine bodyPost_ret (v := .tuple #[.agg #[.string id0, .int .i64 kind, .string ⟨#[]⟩, .bool rk, .int .i64 tk, .slice none 0 0, .slice none 0 0], .bool okk]) (by simp [results, Tryz.results155, go_sem, r0, r1, r2, r3, r4, r5, r6]) rfl ⟨?_, by rw [HID.out]; exact hidz, bX⟩
      rw [HID.out, ← HS.out]
    rcases (show k = 0 ∨ k = 1 by omega) with rfl | rfl
    · have HK1 : Hid (headK l names 1 = headK l names 0) := by
        show _ = _
        obtain ⟨v0, hv0⟩ := Mp.at_lt (l := vs) (k := 0) (by have := HVL.out; omega)
        rw [headK_succ (k := 0) (nm := Bp.idW) (by rw [HNL.out]; rfl) (by rw [HVS.out]; exact hv0)]
        unfold Bp.headStep
        rw [if_neg (show ¬ (Bp.idW = Bp.ticksW) by decide), if_neg (show ¬ (Bp.idW = Bp.reqW) by decide)]
      obtain ⟨⟨tk, rk, okk⟩, hS⟩ : ∃ x, headK l names 0 = x := ⟨_, rfl⟩
      have c1 := below_cell HB4.out _ _ (HNC.out 0 Bp.idW (by rw [HNL.out]; rfl)).2
      rw [Nat.add_zero] at c1
      have HS := hideT hS
      rw [hS] at HL ⊢
      dsimp only at HL ⊢
      clear hS u0 u1 u2 u3 u4 u5 u6 f3 c0
      cases okk with
      | true =>
        go_wp2_with fail
        refine ⟨⟨1, by decide, rfl, by rw [HK1.out, HS.out], HB, HB4, by rw [HK1.out, HS.out]; exact HL⟩, ?_⟩
        first | decide | omega | (simp [intOf]; done) | (simp [intOf]; omega)
      | false =>
        go_wp2_with fail
        refine ⟨⟨1, by decide, rfl, by rw [HK1.out, HS.out], HB, HB4, by rw [HK1.out, HS.out]; exact HL⟩, ?_⟩
        first | decide | omega | (simp [intOf]; done) | (simp [intOf]; omega)
    · obtain ⟨v1, hv1⟩ := Mp.at_lt (l := vs) (k := 1) (by have := HVL.out; omega)
      obtain ⟨_, c2⟩ := HVC.out 1 _ hv1
      have c2 := below_cell HB4.out _ _ c2
      obtain ⟨⟨tk, rk, okk⟩, hS⟩ : ∃ x, headK l names 1 = x := ⟨_, rfl⟩
      have HK1 : Hid (headK l names 2 = (tk, decide (v1 = Bp.trueW), okk && (decide (v1 = Bp.trueW) || decide (v1 = Bp.falseW)))) := by
        show _ = _
        rw [headK_succ (k := 1) (nm := Bp.reqW) (by rw [HNL.out]; rfl) (by rw [HVS.out]; exact hv1), hS]
        unfold Bp.headStep
        rw [if_neg (show ¬ (Bp.reqW = Bp.ticksW) by decide), if_pos rfl]
      have c1 := below_cell HB4.out _ _ (HNC.out 1 Bp.reqW (by rw [HNL.out]; rfl)).2
      rw [hS] at HL u3 u4 ⊢
      dsimp only at HL u3 u4 ⊢
      clear hS hv1 c0 u0 u1 u2 u4 u5 u6
      go_wp2_with fail
      refine (readRequiredD v1 _).mono ?_
      rintro e w5 ⟨rfl, b5⟩
      have LB := HL.out.below b5
      have u3 := LB.cell 3
      simp only [List.getElem?_toArray, List.getElem?_cons_zero, List.getElem?_cons_succ] at u3
      have f3 := LB.free 3
      obtain ⟨bt, hbt⟩ : ∃ bt, decide (v1 = Bp.trueW) = bt := ⟨_, rfl⟩
      obtain ⟨bk, hbk⟩ : ∃ bk, (bt || decide (v1 = Bp.falseW)) = bk := ⟨_, rfl⟩
      have HK1 : Hid (headK l names 2 = (tk, bt, okk && bk)) := by show _ = _; rw [HK1.out, hbt, hbk]
      rw [hbt, hbk]
      have B5 := hideT (HB.out.trans (b5.mono HB.out.size))
      have B54 := hideT (HB4.out.trans (b5.mono HB4.out.size))
      have q5 := B54.out.size
      have HL5 := hideT (LB.set 3 (.bool bt))
      have B6 := hideT (B5.out.setCell (p := ⟨ib, 3, none⟩) (by show _ ≤ ib; have := HIB.out; omega) (.bool bt))
      have B64 := hideT (B54.out.setCell (p := ⟨ib, 3, none⟩) (by show _ ≤ ib; have := HIB.out; omega) (.bool bt))
      clear hbt hbk LB b5
      cases okk with
      | true =>
        go_wp2_with fail
        refine ⟨⟨2, by decide, rfl, by rw [HK1.out]; rfl, B6, B64, by rw [HK1.out]; exact HL5⟩, ?_⟩
        first | decide | omega | (simp [intOf]; done) | (simp [intOf]; omega)
      | false =>
        go_wp2_with fail
        refine ⟨⟨2, by decide, rfl, by rw [HK1.out]; rfl, B6, B64, by rw [HK1.out]; exact HL5⟩, ?_⟩
        first | decide | omega | (simp [intOf]; done) | (simp [intOf]; omega)
end Go.Proofs.YtjfonpbnohbpfaaGreatDoor
