/-
  Whether a name stands in a row of attributes already.
-/
import Derived.Test.YtimecocegnnjjaaDoorDElName
set_option linter.unusedSimpArgs false
set_option linter.unusedVariables false
namespace Go.Proofs.YtimecocegnnjjaaDoor
open Go.RowKit
theorem attr1D (w : World) (B : Nat) (nm p q : ByteArray) (h : w.cell? ⟨B, 0, none⟩ = some (.string nm)) (v : Bool) (hv : Hid ((p.data.toList == nm.data.toList) = v)) :
    Calls Tryd.prog 71 #[.agg #[.string p, .string q], .pointer (some ⟨B, 0, none⟩)] w fun e w' => e = .returned (.bool v) ∧ Below w.heap.size w w' := by
  have hB := cell_lt h
  have h1 : (w.alloc (.cells #[.string p, .string q] 36)).cell? ⟨B, 0, none⟩ = some (.string nm) := by
    rw [cell_old _ _ _ hB]
    exact h
  clear h
  go_enter Tryd.func71, Tryd.ntmps71
  go_wp2_with fail
  go_ret
  refine ⟨ret_b ?_, (Below.refl _ w).alloc (Nat.le_refl _) _⟩
  rw [← hv.out, Lib.toList_data, Lib.toList_data]
set_option maxHeartbeats 1000000 in
theorem indexAttrD (w : World) (B H : Nat) (nm : ByteArray) (av : Value) (l : List (ByteArray × ByteArray)) (h : w.cell? ⟨B, 0, none⟩ = some (.string nm)) (ha : AOwn w H av l) :
    Calls Tryd.prog 78 #[av, .func (.func 71) #[] #[.pointer (some ⟨B, 0, none⟩)]] w fun e w' => (∃ i : Int, e = .returned (.int .i64 i) ∧ (0 ≤ i ↔ l.any (fun a => a.1.data.toList == nm.data.toList) = true)) ∧ Below w.heap.size w w' := by
  have eg : ∀ args w, (callFunc 71 args).run Tryd.prog w = .ok (.enter 71 args) w := enters_of Tryd.func71 (by kernel_rfl) rfl
  obtain ⟨b, o, ⟨ao, cap, rfl, hao⟩, _, _, hc⟩ := AOwn.row (R := fun _ => True) ha (fun _ _ => trivial)
  have HC := hideT hc
  have HB := hideT h
  have hl : l.length ≤ 8 := ha.2.1
  have HAO := hideT hao
  clear hc h ha hao
  go_enter Tryd.func78, Tryd.ntmps78
  go_wp2_with fail
  go_loopw [8] (fun i wr => ∃ k : Nat, k ≤ l.length ∧ i = .int .i64 k ∧ Hid (Below w.heap.size w wr) ∧ Hid ((l.take k).any (fun a => a.1.data.toList == nm.data.toList) = false)) (fun i _ => l.length - (intOf i).toNat)
  case atStart => exact ⟨0, Nat.zero_le _, rfl, Below.refl _ _, rfl⟩
  case round =>
    obtain ⟨k, hk, rfl, HW, HF⟩ := hrel
    by_cases hlt : k < l.length
    · obtain rfl := HAO.out (by omega)
      obtain ⟨⟨pa, pb⟩, hp⟩ : ∃ p, l[k]? = some p := ⟨l[k]'hlt, List.getElem?_eq_getElem _⟩
      obtain ⟨q1, q2⟩ := HC.out k _ hp
      have p1 : wr.cell? ⟨b, o + k * 2, none⟩ = some (.string pa) := by rw [HW.out.cell (by have := cell_lt q1; exact this), Nat.mul_comm]; exact q1
      have p2 : wr.cell? ⟨b, o + k * 2 + 1, none⟩ = some (.string pb) := by rw [HW.out.cell (by have := cell_lt q2; exact this), Nat.mul_comm]; exact q2
      have cB : wr.cell? ⟨B, 0, none⟩ = some (.string nm) := by rw [HW.out.cell (cell_lt HB.out)]; exact HB.out
      have CB := hideT cB
      obtain ⟨v, V⟩ : ∃ v, Hid ((pa.data.toList == nm.data.toList) = v) := ⟨pa.data.toList == nm.data.toList, rfl⟩
      have HT : Hid (l.take (k + 1) = l.take k ++ [(pa, pb)]) := by
        show _ = _
        rw [List.take_add_one, hp]
        rfl
      have HP := hideT hp
      clear hp q1 q2 cB
      go_wp2_with fail
      refine (attr1D wr B nm pa pb CB.out v V).mono ?_
      rintro e w2 ⟨rfl, b2⟩
      have B2 : Hid (Below w.heap.size w w2) := HW.out.trans (b2.mono HW.out.size)
      clear b2 p1 p2
      cases v
      case true =>
        go_wp2_with fail
        go_ret
        refine ⟨⟨_, rfl, ?_⟩, B2.out⟩
        constructor
        · intro _
          exact List.any_eq_true.2 ⟨(pa, pb), List.mem_of_getElem? HP.out, V.out⟩
        · intro _
          show (0 : Int) ≤ (k : Int)
          omega
      case false =>
        go_wp2_with fail
        go_roundw
        case rel =>
          refine ⟨k + 1, by omega, by go_num, B2, ?_⟩
          show _ = _
          rw [HT.out, List.any_append, HF.out]
          simp only [List.any_cons, List.any_nil, Bool.or_false, Bool.false_or]
          exact V.out
        case measure => simp [intOf]; omega
    · go_wp2_with fail
      go_ret
      refine ⟨⟨_, rfl, ?_⟩, HW.out⟩
      have := HF.out
      rw [List.take_of_length_le (by omega)] at this
      rw [this]
      simp
theorem twiceD (w : World) (B H : Nat) (nm : ByteArray) (av : Value) (l : List (ByteArray × ByteArray)) (h : w.cell? ⟨B, 0, none⟩ = some (.string nm)) (ha : AOwn w H av l) (v : Bool) (hv : Hid (l.any (fun a => a.1.data.toList == nm.data.toList) = v)) :
    Calls Tryd.prog 70 #[av, .func (.func 71) #[] #[.pointer (some ⟨B, 0, none⟩)]] w fun e w' => e = .returned (.bool v) ∧ Below w.heap.size w w' := by
  have H1 := hideT (indexAttrD w B H nm av l h ha)
  clear h ha
  go_enter Tryd.func70, Tryd.ntmps70
  go_wp2_with fail
  refine H1.out.mono ?_
  rintro e w1 ⟨⟨i, rfl, hi⟩, b1⟩
  have HI := hideT hi
  clear hi
  go_wp2_with fail
  go_ret
  refine ⟨ret_b ?_, b1⟩
  rw [← hv.out, Bool.eq_iff_iff, decide_eq_true_eq]
  exact HI.out
end Go.Proofs.YtimecocegnnjjaaDoor
