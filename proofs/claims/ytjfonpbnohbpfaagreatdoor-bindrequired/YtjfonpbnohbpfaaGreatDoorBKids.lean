/-
  The program's kids: an element's Kids by a table.
-/
import Derived.Test.YtjfonpbnohbpfaaGreatDoorBAttr
import Derived.Shelf.Abstract
set_option linter.unusedSimpArgs false
set_option linter.unusedVariables false
namespace Go.Proofs.YtjfonpbnohbpfaaGreatDoor
open Go.RowKit
set_option maxRecDepth 100000
abbrev Ent := ByteArray × Int × Nat
def tabR (w : World) (cs : List Value) (x : Ent) : Prop := cs = [.string x.1, .int .i64 x.2.1, .func (.func x.2.2) #[] #[]]
theorem tab_at {w : World} {Q : Nat → Prop} {v : Value} {tab : List Ent} (h : RowQ 3 tabR w Q v tab) : ∃ ao cap b o, v = .slice ao tab.length cap ∧ (0 < tab.length → ao = some ⟨b, o, none⟩) ∧ (0 < tab.length → Q b) ∧ ∀ (i : Nat) x, tab[i]? = some x → w.cell? ⟨b, o + i * 3, none⟩ = some (.string x.1) ∧ w.cell? ⟨b, o + i * 3 + 1, none⟩ = some (.int .i64 x.2.1) ∧ w.cell? ⟨b, o + i * 3 + 2, none⟩ = some (.func (.func x.2.2) #[] #[]) := by
  obtain ⟨b, o, ⟨ao, cap, e, hcp, ha⟩, hq, h2, h3⟩ := h
  refine ⟨ao, cap, b, o, e, ha, hq, fun i x hx => ?_⟩
  obtain ⟨cs, _, rfl, hc⟩ := h3 i x hx
  exact ⟨hc 0 _ rfl, hc 1 _ rfl, hc 2 _ rfl⟩
theorem RowQ.tq {α : Type} {z : Nat} {R : World → List Value → α → Prop} {w w' : World} {Q Q' : Nat → Prop} {v : Value} {l : List α} (h : RowQ z R w Q v l) (hR : ∀ cs x, R w cs x → R w' cs x) (t : TQ w Q w' Q') : RowQ z R w' Q' v l := h.turn (fun cs x _ => hR cs x) t.keep
def idxT (tab : List Ent) (sp lo : ByteArray) : Int := match tab.findIdx? (fun x => decide (sp = Bp.spaceB) && decide (lo = x.1)) with
  | some k => k
  | none => -1
theorem kidFnD (x : ByteArray) (t : Int) (fv : Value) (q : Nat) (sp lo : ByteArray) (a2 a3 : Option Addr) (n2 m2 n3 m3 : Nat) (p : Int) (w : World) (hq : Lies w q 45 #[.string sp, .string lo, .slice a2 n2 m2, .slice a3 n3 m3, .int .i64 p]) :
    Calls Tryz.prog 79 #[.agg #[.string x, .int .i64 t, fv], .pointer (some ⟨q, 0, none⟩)] w fun e w' => e = .returned (.bool (decide (sp = Bp.spaceB) && decide (lo = x))) ∧ Below w.heap.size w w' := by
  obtain ⟨V, hV, BV⟩ : ∃ V, w.alloc (.cells #[.string x, .int .i64 t, fv] 136) = V ∧ Below w.heap.size w V := ⟨_, rfl, (Below.refl _ w).alloc (Nat.le_refl _) _⟩
  have LV := hq.below BV
  have c0 : V.cell? ⟨q, 0, none⟩ = some (.string sp) := LV.cell 0
  have c1 : V.cell? ⟨q, 1, none⟩ = some (.string lo) := LV.cell 1
  have c2 : V.cell? ⟨q, 2, none⟩ = some (.slice a2 n2 m2) := LV.cell 2
  have c3 : V.cell? ⟨q, 3, none⟩ = some (.slice a3 n3 m3) := LV.cell 3
  have c4 : V.cell? ⟨q, 4, none⟩ = some (.int .i64 p) := LV.cell 4
  have x0 : V.cell? ⟨w.heap.size, 0, none⟩ = some (.string x) := by rw [← hV]; exact (Lies.new w _ _).cell 0
  have HB := hideT BV
  clear BV LV hq
  go_enter Tryz.func79, Tryz.ntmps79
  go_wp2_with fail
  refine (isOfD sp lo x _ _ _ _).mono ?_
  rintro e w1 ⟨rfl, b1⟩
  go_wp2_with fail
  go_ret
  exact ⟨rfl, HB.out.trans (b1.mono HB.out.size)⟩
set_option maxHeartbeats 1000000 in
theorem indexKidD (w : World) (Q : Nat → Prop) (v : Value) (tab : List Ent) (q : Nat) (sp lo : ByteArray) (a2 a3 : Option Addr) (n2 m2 n3 m3 : Nat) (p : Int) (hq : Lies w q 45 #[.string sp, .string lo, .slice a2 n2 m2, .slice a3 n3 m3, .int .i64 p]) (h : RowQ 3 tabR w Q v tab) (hl : tab.length ≤ 100) :
    Calls Tryz.prog 78 #[v, .func (.func 79) #[] #[.pointer (some ⟨q, 0, none⟩)]] w fun e w' => e = .returned (.int .i64 (idxT tab sp lo)) ∧ Below w.heap.size w w' := by
  obtain ⟨ao, cap, b, o, rfl, ha, _, hc⟩ := tab_at h
  obtain ⟨n, hn⟩ : ∃ n, n = tab.length := ⟨_, rfl⟩
  have HN := hideT hn
  rw [← hn] at ha hl ⊢
  have HC := hideT hc
  have HA := hideT ha
  have HQ := hideT hq
  clear hn hc ha h hq
  go_enter Tryz.func78, Tryz.ntmps78
  go_wp2_with fail
  go_loopw [8] (fun i wr => ∃ k : Nat, k ≤ n ∧ i = .int .i64 k ∧ Hid (∀ (j : Nat) y, j < k → tab[j]? = some y → (decide (sp = Bp.spaceB) && decide (lo = y.1)) = false) ∧ Hid (Below w.heap.size w wr)) (fun i _ => n - (intOf i).toNat)
  case atStart => exact ⟨0, by omega, rfl, fun j y hj => absurd hj (by omega), Below.refl _ _⟩
  case round =>
    obtain ⟨k, hk, rfl, HB, HW⟩ := hrel
    by_cases hlt : k < n
    · obtain ⟨⟨x, t, f⟩, hx⟩ := Mp.at_lt (l := tab) (k := k) (by have := HN.out; omega)
      obtain ⟨d0, d1, d2⟩ := HC.out k _ hx
      have d0 := below_cell HW.out _ _ d0
      have d1 := below_cell HW.out _ _ d1
      have d2 := below_cell HW.out _ _ d2
      dsimp only at d0 d1 d2
      obtain rfl := HA.out (by omega)
      have HX := hideT hx
      clear hx
      go_wp2_with fail
      refine (kidFnD x t _ q sp lo a2 a3 n2 m2 n3 m3 p wr (HQ.out.below HW.out)).mono ?_
      rintro e w1 ⟨rfl, b1⟩
      have HW1 := hideT (HW.out.trans (b1.mono HW.out.size))
      clear b1 d0 d1 d2
      cases e : (decide (sp = Bp.spaceB) && decide (lo = x)) with
      | true =>
        have HF : Hid (idxT tab sp lo = k) := by
          show idxT tab sp lo = k
          unfold idxT
          rw [Mp.find_some HX.out e HB.out]
        clear e
        go_wp2_with fail
        go_ret
        exact ⟨ret_i HF.out.symm, HW1.out⟩
      | false =>
        have HR : Hid (∀ (j : Nat) y, j < k + 1 → tab[j]? = some y → (decide (sp = Bp.spaceB) && decide (lo = y.1)) = false) := by
          intro j y hj hy
          by_cases hj' : j < k
          · exact HB.out j y hj' hy
          · obtain rfl : j = k := by omega
            rw [HX.out] at hy
            cases hy
            exact e
        clear e
        go_wp2_with fail
        go_roundw
        case rel => exact ⟨k + 1, by omega, by go_num, HR, HW1⟩
        case measure => simp [intOf]; omega
    · have HF : Hid (idxT tab sp lo = -1) := by
        show idxT tab sp lo = -1
        unfold idxT
        rw [Mp.find_none (fun j y hy => HB.out j y (by have := HN.out; have := (List.getElem?_eq_some_iff.1 hy).1; omega) hy)]
      go_wp2_with fail
      go_ret
      exact ⟨ret_i HF.out.symm, HW.out⟩
end Go.Proofs.YtjfonpbnohbpfaaGreatDoor
