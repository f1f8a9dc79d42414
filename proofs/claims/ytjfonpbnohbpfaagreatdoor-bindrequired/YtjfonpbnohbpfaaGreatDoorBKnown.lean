/-
  The program's Plain and Save of the law's own plan; the law's own question.
-/
import Derived.Test.YtjfonpbnohbpfaaGreatDoorBPl
import Derived.Test.YtjfonpbnohbpfaaGreatDoorBTexts
set_option linter.unusedSimpArgs false
set_option linter.unusedVariables false
namespace Go.Proofs.YtjfonpbnohbpfaaGreatDoor
open Go.RowKit
set_option maxRecDepth 100000
theorem plainInD : ∀ d, PlIn d
  | 0 => fun _ _ _ _ _ _ _ _ h _ => h.elim
  | d + 1 => plain_step d (plainInD d)
set_option maxHeartbeats 1000000 in
theorem plainD (w : World) (d : Nat) (n0 n1 n2 n3 n4 : Value) (T : Tr) (hT : NInR w (· < w.heap.size) d n0 n1 n2 n3 n4 T) (hF : fineN d T) :
    Calls Tryz.prog 33 #[.agg #[n0, n1, n2, n3, n4]] w fun e w' => (∃ c0 c1 c2 c3, e = .returned (.agg #[c0, c1, c2, c3]) ∧ EIn w' d c0 c1 c2 c3 (Bp.plP d e0 T)) ∧ Below w.heap.size w w' := by
  obtain ⟨sp, lo, a2, l2, m2, a3, l3, m3, p, rfl, rfl, rfl, rfl, rfl, _, _, _⟩ := hT.five
  have HT := hideT hT
  have HF := hideT hF
  obtain ⟨W, hW, BW, zW, LN, LR⟩ : ∃ W, (w.alloc (.cells #[.string sp, .string lo, .slice a2 l2 m2, .slice a3 l3 m3, .int .i64 p] 45)).alloc (.cells #[.string ⟨#[]⟩, .slice none 0 0, .slice none 0 0, .int .i64 0] 50) = W ∧ Below w.heap.size w W ∧ W.heap.size = w.heap.size + 2 ∧ Lies W w.heap.size 45 #[.string sp, .string lo, .slice a2 l2 m2, .slice a3 l3 m3, .int .i64 p] ∧ Lies W (w.heap.size + 1) 50 #[.string ⟨#[]⟩, .slice none 0 0, .slice none 0 0, .int .i64 0] := by
    obtain ⟨W1, e1⟩ : ∃ W1, w.alloc (.cells #[.string sp, .string lo, .slice a2 l2 m2, .slice a3 l3 m3, .int .i64 p] 45) = W1 := ⟨_, rfl⟩
    obtain ⟨b1, k1, z1⟩ := of_alloc e1
    obtain ⟨W2, e2⟩ : ∃ W2, W1.alloc (.cells #[.string ⟨#[]⟩, .slice none 0 0, .slice none 0 0, .int .i64 0] 50) = W2 := ⟨_, rfl⟩
    obtain ⟨b2, k2, z2⟩ := of_alloc e2
    rw [e1, e2]
    rw [z1] at k2 z2
    exact ⟨W2, rfl, b1.trans (b2.mono (by omega)), z2, k1.below b2, k2⟩
  have HW := hideT hW
  have HBW := hideT BW
  have HZW := hideT zW
  have HLR := hideT LR
  have x0 : W.cell? ⟨w.heap.size, 0, none⟩ = some (.string sp) := LN.cell 0
  have x1 : W.cell? ⟨w.heap.size, 1, none⟩ = some (.string lo) := LN.cell 1
  have x2 : W.cell? ⟨w.heap.size, 2, none⟩ = some (.slice a2 l2 m2) := LN.cell 2
  have x3 : W.cell? ⟨w.heap.size, 3, none⟩ = some (.slice a3 l3 m3) := LN.cell 3
  have x4 : W.cell? ⟨w.heap.size, 4, none⟩ = some (.int .i64 p) := LN.cell 4
  clear hT hF hW BW zW LN LR
  go_enter Tryz.func33, Tryz.ntmps33
  go_wp2_with fail
  try rw [HW.out]
  refine (plainInD d W e0 _ _ _ _ _ T (HT.out.below HBW.out) HF.out).mono ?_
  rintro e w1 ⟨⟨c0, c1, c2, c3, rfl, t1⟩, b1⟩
  obtain ⟨enm, ea1, en1, ek1, ea2, en2, ek2, ep, rfl, rfl, rfl, rfl⟩ := t1.toEIn.form
  have HT1 := hideT t1
  have BB := hideT (HBW.out.trans (b1.mono HBW.out.size))
  have LR1 := hideT (HLR.out.below b1)
  have r0 : w1.cell? ⟨w.heap.size + 1, 0, none⟩ = some (.string ⟨#[]⟩) := LR1.out.cell 0
  have r1 : w1.cell? ⟨w.heap.size + 1, 1, none⟩ = some (.slice none 0 0) := LR1.out.cell 1
  have r2 : w1.cell? ⟨w.heap.size + 1, 2, none⟩ = some (.slice none 0 0) := LR1.out.cell 2
  have r3 : w1.cell? ⟨w.heap.size + 1, 3, none⟩ = some (.int .i64 0) := LR1.out.cell 3
  have g0 : w1.frozen? ⟨w.heap.size + 1, 0, none⟩ = false := LR1.out.free 0
  have g1 : w1.frozen? ⟨w.heap.size + 1, 1, none⟩ = false := LR1.out.free 1
  have g2 : w1.frozen? ⟨w.heap.size + 1, 2, none⟩ = false := LR1.out.free 2
  have g3 : w1.frozen? ⟨w.heap.size + 1, 3, none⟩ = false := LR1.out.free 3
  clear x0 x1 x2 x3 x4 t1 b1
  go_wp2_with fail
  obtain ⟨X, hX, bX, lX, kX⟩ : ∃ X, (((w1.setCell ⟨w.heap.size + 1, 0, none⟩ (.string enm)).setCell ⟨w.heap.size + 1, 1, none⟩ (.slice ea1 en1 ek1)).setCell ⟨w.heap.size + 1, 2, none⟩ (.slice ea2 en2 ek2)).setCell ⟨w.heap.size + 1, 3, none⟩ (.int .i64 ep) = X ∧ Below w.heap.size w X ∧ Lies X (w.heap.size + 1) 50 #[.string enm, .slice ea1 en1 ek1, .slice ea2 en2 ek2, .int .i64 ep] ∧ Keep (· = w.heap.size + 1) w1 X :=
    ⟨_, rfl, (((BB.out.setCell (Nat.le_succ _) _).setCell (Nat.le_succ _) _).setCell (Nat.le_succ _) _).setCell (Nat.le_succ _) _, ((((LR1.out.set 0 _).set 1 _).set 2 _).set 3 _), (((Keep.set (S := (· = w.heap.size + 1)) w1 ⟨w.heap.size + 1, 0, none⟩ _ rfl).trans (Keep.set _ ⟨w.heap.size + 1, 1, none⟩ _ rfl)).trans (Keep.set _ ⟨w.heap.size + 1, 2, none⟩ _ rfl)).trans (Keep.set _ ⟨w.heap.size + 1, 3, none⟩ _ rfl)⟩
  rw [hX]
  have r0 : X.cell? ⟨w.heap.size + 1, 0, none⟩ = some (.string enm) := lX.cell 0
  have r1 : X.cell? ⟨w.heap.size + 1, 1, none⟩ = some (.slice ea1 en1 ek1) := lX.cell 1
  have r2 : X.cell? ⟨w.heap.size + 1, 2, none⟩ = some (.slice ea2 en2 ek2) := lX.cell 2
  have r3 : X.cell? ⟨w.heap.size + 1, 3, none⟩ = some (.int .i64 ep) := lX.cell 3
  refine bodyPost_ret (v := .agg #[.string enm, .slice ea1 en1 ek1, .slice ea2 en2 ek2, .int .i64 ep]) (by simp [results, Tryz.results33, go_sem, r0, r1, r2, r3]) rfl ⟨⟨_, _, _, _, rfl, ?_⟩, bX⟩
  exact (HT1.out.turn (R' := fun _ => True) (fun k hk => kX.block k hk.2 (by have := HZW.out; have := hk.1; show ¬ k = _; omega)) (fun _ _ => trivial)).toEIn
def tK : Tr := Bp.el Bp.caseW [bareEl i5] []
theorem fineK : fineN 2 tK := by
  refine ⟨by decide, by decide, by decide, (fun p hp => by cases hp), by decide, fun K hK => ?_⟩
  rw [List.mem_singleton.1 hK]
  refine ⟨by decide, by decide, by decide, (fun p hp => ?_), by decide, (fun K hK => by cases hK)⟩
  rw [show p = (Bp.idW, ⟨#[97]⟩) from List.mem_singleton.1 hp]
  exact ⟨by decide, by decide⟩
theorem printK : Xp.printT 2 (Bp.plP 2 e0 tK) = s5.data.toList := by kernel_rfl
theorem kidsK : Mp.kidsN [i5] i5.id 1 = [] := by kernel_rfl
set_option maxHeartbeats 1000000 in
theorem saveK (w : World) (af ai : Option Addr) (cf ci : Nat) (hm : ModelAt w af cf ai ci ⟨[], [i5]⟩) (hok : KindOk w) :
    Calls Tryz.prog 13 #[.agg #[.slice af 0 cf, .slice ai 1 ci]] w fun e w' => e = .returned (.string s5) ∧ Below w.heap.size w w' := by
  have HM := hideT hm
  have HOK := hideT hok
  have HB := hideT ((Below.refl w.heap.size w).alloc (Nat.le_refl _) (.cells #[.slice af 0 cf, .slice ai 1 ci] 25))
  clear hm hok
  go_enter Tryz.func13, Tryz.ntmps13
  go_wp2_with fail
  generalize hW : w.alloc _ = W at HB ⊢
  refine (toBare W af ai cf ci 0 1 i5 (HM.out.below HB.out) rfl rfl is5 (by decide) (by decide) rfl rfl rfl kidsK (by decide) (HOK.out.below HB.out) 0).mono ?_
  rintro e w1 ⟨⟨c0, c1, c2, c3, c4, rfl, t1⟩, b1⟩
  have B1 := hideT (HB.out.trans (b1.mono HB.out.size))
  have HT1 := hideT t1
  clear t1 b1 hW
  go_wp2_with fail
  refine (plainD w1 2 _ _ _ _ _ tK HT1.out fineK).mono ?_
  rintro e w2 ⟨⟨d0, d1, d2, d3, rfl, t2⟩, b2⟩
  have B2 := hideT (B1.out.trans (b2.mono B1.out.size))
  have HT2 := hideT t2
  clear t2 b2
  go_wp2_with fail
  refine (printD 2 w2 _ _ _ _ _ HT2.out (by rw [printK]; decide) s5 (by show _ = _; rw [printK])).mono ?_
  rintro e w3 ⟨rfl, b3⟩
  go_wp2_with fail
  go_ret
  exact ⟨rfl, B2.out.trans (b3.mono B2.out.size)⟩
set_option maxHeartbeats 4000000 in
theorem known5 (w : World) (hw : Ok w) (hk : KindOk w) : Calls Tryz.prog 6 #[] w fun e w' => e = .returned (.bool true) ∧ Below w.heap.size w w' := by
  have HW := hideT hw
  have HK := hideT hk
  clear hw hk
  go_enter Tryz.func6, Tryz.ntmps6
  go_wp2_with fail
  refine (loadOk s5 w (by decide) HW.out t5 n5 ⟨[], [i5]⟩ tab5 parse5 fine5 att5 res5 cnt5 alike5 parts5 from5).mono ?_
  rintro e w1 ⟨af, cf, ai, ci, rfl, ma, b1⟩
  dsimp only [List.length_nil, List.length_singleton]
  obtain ⟨_, _, _, b, o, ha, hc⟩ := irow_at ma.items
  obtain ⟨a5, c5, a6, c6, I0⟩ := hc 0 i5 rfl
  obtain rfl := ha (by decide)
  rw [Nat.zero_mul, Nat.add_zero] at I0
  have BU := (Below.refl w1.heap.size w1).alloc (Nat.le_refl _) (.cells #[.slice af 0 cf, .slice (some ⟨b, o, none⟩) 1 ci] 25)
  have k0 : (w1.alloc (.cells #[.slice af 0 cf, .slice (some ⟨b, o, none⟩) 1 ci] 25)).cell? ⟨b, o, none⟩ = some (.string ⟨#[97]⟩) := below_cell BU _ _ I0.c0
  have HMA := hideT (ma.below BU)
  have B1 := hideT (b1.trans (BU.mono b1.size))
  clear I0 hc ma b1 BU
  go_wp2_with fail
  refine (saveK _ af (some ⟨b, o, none⟩) cf ci HMA.out (HK.out.below B1.out)).mono ?_
  rintro e w2 ⟨rfl, b2⟩
  have B2 := hideT (B1.out.trans (b2.mono B1.out.size))
  clear k0 b2
  unfold s5
  go_wp2_with fail
  go_ret
  exact ⟨rfl, B2.out⟩
end Go.Proofs.YtjfonpbnohbpfaaGreatDoor
