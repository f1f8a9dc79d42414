/-
  BindRequired.
-/
import Derived.Test.YtjfonpbnohbpfaaGreatDoorBKnown
set_option linter.unusedSimpArgs false
set_option linter.unusedVariables false
namespace Go.Proofs.YtjfonpbnohbpfaaGreatDoor
open Go.RowKit
set_option maxRecDepth 100000
set_option maxHeartbeats 4000000 in
theorem required0 (w : World) (hw : Ok w) (hk : KindOk w) :
    Calls Tryz.prog 3 #[.int .i64 0] w fun e w' => e = .returned (.bool true) ∧ Below w.heap.size w w' := by
  have HW := hideT hw
  have HK := hideT hk
  clear hw hk
  go_enter Tryz.func3, Tryz.ntmps3
  go_wp2_with fail
  generalize hW : w.alloc _ = W
  obtain ⟨BW, _, _⟩ := of_alloc hW
  have HBW := hideT BW
  clear BW hW
  refine (loadOk sR0 W (by decide) (HW.out.below HBW.out) tR0 nR0 ⟨[], mR0⟩ tab5 parseR0 fineR0 attR0 resR0 cntR0 alike5 partsR0 fromR0).mono ?_
  rintro e w1 ⟨af, cf, ai, ci, rfl, ma, b1⟩
  rw [show (Mp.Model.mk [] mR0).files.length = 0 from rfl, show (Mp.Model.mk [] mR0).items.length = 2 from rfl]
  obtain ⟨hq1, hq2, hq3, b, o, ha, hc⟩ := irow_at ma.items
  obtain ⟨a5, c5, a6, c6, I0⟩ := hc 1 _ rfl
  obtain rfl := ha (by decide)
  clear hq1 hq2 hq3
  have BU := (Below.refl w1.heap.size w1).alloc (Nat.le_refl _) (.cells #[.slice af 0 cf, .slice (some ⟨b, o, none⟩) 2 ci] 25)
  have k0 : (w1.alloc (.cells #[.slice af 0 cf, .slice (some ⟨b, o, none⟩) 2 ci] 25)).cell? ⟨b, o + 7 + 3, none⟩ = some (.bool false) := below_cell BU _ _ (by have := I0.c3; rw [Nat.one_mul] at this; exact this)
  have k0' : (w1.alloc (.cells #[.slice af 0 cf, .slice (some ⟨b, o, none⟩) 2 ci] 25)).cell? ⟨b, o + 10, none⟩ = some (.bool false) := k0
  have B0 := HBW.out.trans (b1.mono HBW.out.size)
  have B1 := hideT (B0.trans (BU.mono B0.size))
  clear I0 hc ma b1 BU B0
  go_wp2_with fail
  refine (known5 _ (HW.out.below B1.out) (HK.out.below B1.out)).mono ?_
  rintro e w2 ⟨rfl, b2⟩
  have B2 := hideT (B1.out.trans (b2.mono B1.out.size))
  clear k0 k0' b2
  go_wp2_with fail
  go_ret
  exact ⟨rfl, B2.out⟩
set_option maxHeartbeats 4000000 in
theorem required1 (w : World) (hw : Ok w) (hk : KindOk w) :
    Calls Tryz.prog 3 #[.int .i64 1] w fun e w' => e = .returned (.bool true) ∧ Below w.heap.size w w' := by
  have HW := hideT hw
  have HK := hideT hk
  clear hw hk
  go_enter Tryz.func3, Tryz.ntmps3
  go_wp2_with fail
  generalize hW : w.alloc _ = W
  obtain ⟨BW, _, _⟩ := of_alloc hW
  have HBW := hideT BW
  clear BW hW
  refine (loadOk sR1 W (by decide) (HW.out.below HBW.out) tR1 nR1 ⟨[], mR1⟩ tab5 parseR1 fineR1 attR1 resR1 cntR1 alike5 partsR1 fromR1).mono ?_
  rintro e w1 ⟨af, cf, ai, ci, rfl, ma, b1⟩
  rw [show (Mp.Model.mk [] mR1).files.length = 0 from rfl, show (Mp.Model.mk [] mR1).items.length = 2 from rfl]
  obtain ⟨hq1, hq2, hq3, b, o, ha, hc⟩ := irow_at ma.items
  obtain ⟨a5, c5, a6, c6, I0⟩ := hc 1 _ rfl
  obtain rfl := ha (by decide)
  clear hq1 hq2 hq3
  have BU := (Below.refl w1.heap.size w1).alloc (Nat.le_refl _) (.cells #[.slice af 0 cf, .slice (some ⟨b, o, none⟩) 2 ci] 25)
  have k0 : (w1.alloc (.cells #[.slice af 0 cf, .slice (some ⟨b, o, none⟩) 2 ci] 25)).cell? ⟨b, o + 7 + 3, none⟩ = some (.bool false) := below_cell BU _ _ (by have := I0.c3; rw [Nat.one_mul] at this; exact this)
  have k0' : (w1.alloc (.cells #[.slice af 0 cf, .slice (some ⟨b, o, none⟩) 2 ci] 25)).cell? ⟨b, o + 10, none⟩ = some (.bool false) := k0
  have B0 := HBW.out.trans (b1.mono HBW.out.size)
  have B1 := hideT (B0.trans (BU.mono B0.size))
  clear I0 hc ma b1 BU B0
  go_wp2_with fail
  refine (known5 _ (HW.out.below B1.out) (HK.out.below B1.out)).mono ?_
  rintro e w2 ⟨rfl, b2⟩
  have B2 := hideT (B1.out.trans (b2.mono B1.out.size))
  clear k0 k0' b2
  go_wp2_with fail
  go_ret
  exact ⟨rfl, B2.out⟩
set_option maxHeartbeats 4000000 in
theorem required2 (w : World) (hw : Ok w) (hk : KindOk w) :
    Calls Tryz.prog 3 #[.int .i64 2] w fun e w' => e = .returned (.bool true) ∧ Below w.heap.size w w' := by
  have HW := hideT hw
  have HK := hideT hk
  clear hw hk
  go_enter Tryz.func3, Tryz.ntmps3
  go_wp2_with fail
  generalize hW : w.alloc _ = W
  obtain ⟨BW, _, _⟩ := of_alloc hW
  have HBW := hideT BW
  clear BW hW
  refine (loadOk sR2 W (by decide) (HW.out.below HBW.out) tR2 nR2 ⟨[], mR2⟩ tab5 parseR2 fineR2 attR2 resR2 cntR2 alike5 partsR2 fromR2).mono ?_
  rintro e w1 ⟨af, cf, ai, ci, rfl, ma, b1⟩
  rw [show (Mp.Model.mk [] mR2).files.length = 0 from rfl, show (Mp.Model.mk [] mR2).items.length = 2 from rfl]
  obtain ⟨hq1, hq2, hq3, b, o, ha, hc⟩ := irow_at ma.items
  obtain ⟨a5, c5, a6, c6, I0⟩ := hc 1 _ rfl
  obtain rfl := ha (by decide)
  clear hq1 hq2 hq3
  have BU := (Below.refl w1.heap.size w1).alloc (Nat.le_refl _) (.cells #[.slice af 0 cf, .slice (some ⟨b, o, none⟩) 2 ci] 25)
  have k0 : (w1.alloc (.cells #[.slice af 0 cf, .slice (some ⟨b, o, none⟩) 2 ci] 25)).cell? ⟨b, o + 7 + 3, none⟩ = some (.bool true) := below_cell BU _ _ (by have := I0.c3; rw [Nat.one_mul] at this; exact this)
  have k0' : (w1.alloc (.cells #[.slice af 0 cf, .slice (some ⟨b, o, none⟩) 2 ci] 25)).cell? ⟨b, o + 10, none⟩ = some (.bool true) := k0
  have B0 := HBW.out.trans (b1.mono HBW.out.size)
  have B1 := hideT (B0.trans (BU.mono B0.size))
  clear I0 hc ma b1 BU B0
  go_wp2_with fail
  refine (known5 _ (HW.out.below B1.out) (HK.out.below B1.out)).mono ?_
  rintro e w2 ⟨rfl, b2⟩
  have B2 := hideT (B1.out.trans (b2.mono B1.out.size))
  clear k0 k0' b2
  go_wp2_with fail
  go_ret
  exact ⟨rfl, B2.out⟩
theorem bindRequired_walk (k : Int) (_ : (Lit.int .i64 k).wf = true) (w : World) (hok : Ok w ∧ KindOk w) :
    Calls Tryz.prog 3 #[.int .i64 k] w fun e w' => e = .returned (.bool true) ∧ Below w.heap.size w w' := by
  by_cases h0 : k < 0
  · clear hok
    go_enter Tryz.func3, Tryz.ntmps3
    go_wp2_with fail
    go_ret
    exact ⟨rfl, Below.refl _ _⟩
  by_cases h2 : 2 < k
  · clear hok
    go_enter Tryz.func3, Tryz.ntmps3
    go_wp2_with fail
    go_ret
    exact ⟨rfl, Below.refl _ _⟩
  rcases (show k = 0 ∨ k = 1 ∨ k = 2 by omega) with rfl | rfl | rfl
  · exact required0 w hok.1 hok.2
  · exact required1 w hok.1 hok.2
  · exact required2 w hok.1 hok.2
end Go.Proofs.YtjfonpbnohbpfaaGreatDoor
