/-
  The law XmlWrong, walked.
-/
import Derived.Test.YtkcpaigogekimabDoorPartG
import Derived.OpenShut
set_option linter.unusedSimpArgs false
set_option linter.unusedVariables false
namespace Go.Proofs.YtkcpaigogekimabDoor
open Go.RowKit
def wrongL : List (List UInt8) := [[], [97], [60], [60, 97], [60, 97, 62], [60, 97, 47], [60, 97, 47, 62, 120], [60, 97, 47, 62, 60, 98, 47, 62], [60, 97, 62, 60, 47, 98, 62], [60, 97, 32, 120, 61, 49, 47, 62], [60, 97, 32, 120, 61, 39, 49, 47, 62], [60, 97, 32, 120, 61, 39, 60, 39, 47, 62], [60, 97, 32, 120, 61, 39, 38, 39, 47, 62], [60, 97, 32, 120, 61, 39, 49, 39, 120, 61, 39, 50, 39, 47, 62], [60, 97, 32, 120, 61, 39, 49, 39, 32, 120, 61, 39, 50, 39, 47, 62], [60, 97, 32, 120, 32, 61, 32, 39, 49, 39, 47, 62], [60, 49, 47, 62], [60, 97, 58, 47, 62], [60, 33, 45, 45, 32, 45, 45, 32, 45, 45, 62, 60, 97, 47, 62], [60, 33, 68, 79, 67, 84, 89, 80, 69, 32, 97, 62, 60, 97, 47, 62], [60, 97, 62, 60, 33, 45, 45, 60, 47, 97, 62], [60, 97, 62, 120, 60, 47, 97, 62], [60, 32, 97, 47, 62], [60, 97, 62, 60, 47, 32, 97, 62], [60, 97, 62, 60, 47, 97, 32, 120, 62]]
def wrongA : List Nat := [0, 0, 1, 2, 3, 2, 4, 4, 3, 5, 5, 5, 5, 8, 9, 4, 1, 1, 0, 1, 3, 3, 1, 5, 7]
def wrongB (s : List UInt8) (a : Nat) : Bool := match Xp.parse s with
  | .error (q, e) => q == a && e == 2
  | .ok _ => false
theorem wrong_all : (List.range 25).all (fun k => wrongB (wrongL.getD k []) (wrongA.getD k 0)) = true := by rfl
theorem wrong_at (k : Nat) (h : k < 25) : Xp.parse (wrongL.getD k []) = .error (wrongA.getD k 0, 2) := by
  have := List.all_eq_true.1 wrong_all k (List.mem_range.2 h)
  unfold wrongB at this
  split at this
  · rename_i q e hq
    rw [hq]
    simp only [Bool.and_eq_true, beq_iff_eq] at this
    rw [this.1, this.2]
  · cases this
theorem wrong_len (k : Nat) : (wrongL.getD k []).length ≤ 20 := by
  have h : wrongL.all (fun x => decide (x.length ≤ 20)) = true := by rfl
  rw [List.getD_eq_getElem?_getD]
  cases hk : wrongL[k]? with
  | none => decide
  | some x => exact of_decide_eq_true (List.all_eq_true.1 h x (List.mem_of_getElem? hk))
theorem wrong_a (k : Nat) : wrongA.getD k 0 ≤ 20 := by
  have h : wrongA.all (fun x => decide (x ≤ 20)) = true := by rfl
  rw [List.getD_eq_getElem?_getD]
  cases hk : wrongA[k]? with
  | none => decide
  | some x => exact of_decide_eq_true (List.all_eq_true.1 h x (List.mem_of_getElem? hk))
def wrongV : List Value := wrongL.map fun x => Value.string ⟨x.toArray⟩
def wrongI : List Value := wrongA.map fun a : Nat => Value.int .i64 a
theorem wrong_val (k : Nat) (h : k < wrongV.length) : wrongV[k] = .string ⟨(wrongL.getD k []).toArray⟩ := by
  unfold wrongV at h ⊢
  rw [List.length_map] at h
  rw [List.getElem_map, List.getD_eq_getElem?_getD, List.getElem?_eq_getElem h]
  rfl
theorem wrong_int (k : Nat) (h : k < 25) : wrongI.toArray[k]? = some (.int .i64 ((wrongA.getD k 0 : Nat) : Int)) := by
  have hl : k < wrongA.length := h
  unfold wrongI
  rw [List.getElem?_toArray, List.getElem?_map, List.getElem?_eq_getElem hl, List.getD_eq_getElem?_getD, List.getElem?_eq_getElem hl]
  rfl
/-- The two lists of the law, in memory. -/
theorem wrong_start (w : World) : ∃ W, (w.alloc (.cells wrongV.toArray 9)).alloc (.cells wrongI.toArray 3) = W ∧ Below w.heap.size w W ∧ Lies W (w.heap.size + 1) 3 wrongI.toArray := by
  refine ⟨_, rfl, ((Below.refl _ w).alloc (Nat.le_refl _) _).alloc (by simp) _, ?_⟩
  have := Lies.new (w.alloc (.cells wrongV.toArray 9)) 3 wrongI.toArray
  rw [World.size_alloc] at this
  exact this
set_option maxHeartbeats 4000000 in
set_option maxRecDepth 100000 in
theorem xmlWrong_in (k : Nat) (hk : k < 25) (w : World) (hw : Ok w) :
    Calls Tryd.prog 3 #[.int .i64 k] w fun e w' => e = .returned (.bool true) ∧ Below w.heap.size w w' := by
  have HW := hideB hw
  clear hw
  have t0 : ¬ (k : Int) < 0 := by omega
  have t1 : ¬ (25 : Int) ≤ (k : Int) := by omega
  obtain ⟨W, hWe, bW, lW⟩ := wrong_start w
  have HWe := hideB hWe
  have BW := hideB bW
  have LW := hideB lW
  have HPE := hideB (wrong_at k hk)
  have hln := wrong_len k
  obtain ⟨a, ha⟩ : ∃ a, a = wrongA.getD k 0 := ⟨_, rfl⟩
  obtain ⟨x, hx⟩ : ∃ x : ByteArray, x = ⟨(wrongL.getD k []).toArray⟩ := ⟨_, rfl⟩
  have hxs : x.size ≤ 20 := by rw [hx]; show (wrongL.getD k []).toArray.size ≤ 20; rw [List.size_toArray]; exact hln
  have HPX : Hid (Xp.parse x.data.toList = .error (a, 2)) := by
    show _ = _
    rw [hx, ha]
    exact HPE.out
  have ha20 : a ≤ 20 := by rw [ha]; exact wrong_a k
  have HI : Hid (wrongI.toArray[k]? = some (.int .i64 (a : Int))) := by
    show _ = _
    rw [ha]
    exact wrong_int k hk
  have HXX := hideB hx
  have hkv : k < wrongV.length := hk
  have HVV : Hid (wrongV[k] = .string x) := by
    show _ = _
    rw [hx]
    exact wrong_val k hkv
  clear hWe bW lW hln ha hx
  go_enter Tryd.func3, Tryd.ntmps3
  go_wp2_with fail
  refine Eq.mpr (congrArg (fun v => Calls Tryd.prog 6 #[v] _ _) HVV.out) ?_
  refine Eq.mpr (congrArg (fun v => Calls Tryd.prog 6 #[.string x] v _) HWe.out) ?_
  refine (parse_err_v x W (by omega) (HW.out.below BW.out) a 2 HPX).mono ?_
  rintro e w1 ⟨rfl, b1⟩
  have B1 := hideB (BW.out.trans (b1.mono BW.out.size))
  have c1 : w1.cell? ⟨w.heap.size + 1, k, none⟩ = some (.int .i64 (a : Int)) := by
    have := (LW.out.below b1).cell k
    rw [HI.out] at this
    exact this
  obtain ⟨V, hV⟩ : ∃ V, w1.alloc (.cells #[.string ⟨#[]⟩, .slice none 0 0, .slice none 0 0, .int .i64 0] 27) = V := ⟨_, rfl⟩
  have BV : Hid (Below w1.heap.size w1 V) := by rw [← hV]; exact (Below.refl _ w1).alloc (Nat.le_refl _) _
  have HVq := hideB hV
  have c2 : (w1.alloc (.cells #[.string ⟨#[]⟩, .slice none 0 0, .slice none 0 0, .int .i64 0] 27)).cell? ⟨w.heap.size + 1, k, none⟩ = some (.int .i64 (a : Int)) := by
    rw [HVq.out, BV.out.cell (cell_lt c1)]
    exact c1
  have B2 := hideB (B1.out.trans (BV.out.mono B1.out.size))
  clear b1 c1 hV
  go_wp2_with fail
  rw [HVq.out]
  refine (knownD V (HW.out.below B2.out)).mono ?_
  rintro e w2 ⟨rfl, b2⟩
  clear c2
  go_wp2_with fail
  go_ret
  exact ⟨rfl, B2.out.trans (b2.mono B2.out.size)⟩
set_option maxHeartbeats 4000000 in
set_option maxRecDepth 100000 in
theorem xmlWrong_walk (way : Int) (_hn : (Lit.int .i64 way).wf = true) (w : World) (hw : Ok w) :
    Calls Tryd.prog 3 #[.int .i64 way] w fun e w' => e = .returned (.bool true) ∧ Below w.heap.size w w' := by
  by_cases h0 : way < 0
  · clear hw
    go_enter Tryd.func3, Tryd.ntmps3
    go_wp2_with fail
    go_ret
    exact ⟨rfl, ((Below.refl _ w).alloc (Nat.le_refl _) _).alloc (by simp) _⟩
  · by_cases h1 : 25 ≤ way
    · clear hw
      go_enter Tryd.func3, Tryd.ntmps3
      go_wp2_with fail
      go_ret
      exact ⟨rfl, ((Below.refl _ w).alloc (Nat.le_refl _) _).alloc (by simp) _⟩
    · obtain ⟨k, rfl⟩ := Int.eq_ofNat_of_zero_le (show 0 ≤ way by omega)
      exact xmlWrong_in k (by omega) w hw
end Go.Proofs.YtkcpaigogekimabDoor
