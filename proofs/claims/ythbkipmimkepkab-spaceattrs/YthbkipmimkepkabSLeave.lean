/-
  The program's leave: what was declared is taken back, the last first.
-/
import Derived.Test.YthbkipmimkepkabSEnter
set_option linter.unusedSimpArgs false
set_option linter.unusedVariables false
namespace Go.Proofs.Ythbkipmimkepkab
open Go.RowKit
theorem flatH_last (L : List Hide) (x : Hide) : (flatH (L ++ [x]))[L.length * 3]? = some (.string x.1) ∧ (flatH (L ++ [x]))[L.length * 3 + 1]? = some (.string x.2.1) ∧ (flatH (L ++ [x]))[L.length * 3 + 2]? = some (.bool x.2.2) := by
  rw [flatH_app, ← flatH_len L]
  refine ⟨?_, ?_, ?_⟩
  · rw [List.getElem?_append_right (by omega), Nat.sub_self]; rfl
  · rw [List.getElem?_append_right (by omega), Nat.add_sub_cancel_left]; rfl
  · rw [List.getElem?_append_right (by omega), Nat.add_sub_cancel_left]; rfl
theorem own_shrinkH {w : World} {H g cap : Nat} {L : List Hide} {x : Hide} (h : w.ownsRow H 60 3 (.slice (some ⟨g, 0, none⟩) (L.length + 1) cap) (L.length + 1) (flatH (L ++ [x]))) : w.ownsRow H 60 3 (.slice (some ⟨g, 0, none⟩) L.length cap) L.length (flatH L) := by
  obtain ⟨cap', cur, hv, h1, h2, h3, h5, h6, h4⟩ := own_heap h rfl
  simp only [Value.slice.injEq, true_and] at hv
  subst hv
  refine ⟨by rw [flatH_len], .inr ⟨g, cap, cur, rfl, h1, h2, by omega, h5, h6, ?_⟩⟩
  have h7 : List.take (L.length * 3) (cur.toList.take ((L.length + 1) * 3)) = List.take (L.length * 3) (flatH (L ++ [x])) := by rw [h4]
  rw [List.take_take, Nat.min_eq_left (by omega)] at h7
  rw [h7, flatH_app, ← flatH_len L, List.take_left]
theorem snoc_cases {α : Type} (Q : List α) : Q = [] ∨ ∃ Q' x, Q = Q' ++ [x] := by
  rcases List.eq_nil_or_concat Q with h | ⟨Q', x, h⟩
  · exact .inl h
  · exact .inr ⟨Q', x, by rw [h, List.concat_eq_append]⟩
def lenAt (w : World) (sb : Nat) : Nat := match w.cell? ⟨sb, 1, none⟩ with
  | some (.slice _ n _) => n
  | _ => 0
theorem lenAt_of {w : World} {B sb mb n : Nat} {ad : Option Addr} {m cap : Nat} {L : List Hide} {G : Env} (h : SIn w B sb mb n (.slice ad m cap) L G) : lenAt w sb = m := by
  unfold lenAt
  rw [h.lies.cell 1]
  rfl
set_option maxHeartbeats 4000000 in
theorem leaveD (w : World) (B sb mb n : Nat) (hv : Value) (L P : List Hide) (G : Env) (h : SIn w B sb mb n hv (L ++ P) G) (hn : n + P.length ≤ 1000000000) (hL : L.length + P.length ≤ 1000000000) :
    Calls Try.prog 15 #[.pointer (some ⟨sb, 0, none⟩), .int .i64 L.length] w fun e w' => e = .returned (.tuple #[]) ∧ Keep (SS sb mb hv) w w' ∧
      ∃ hv', SIn w' B sb mb (n + P.length) hv' L (undo P G) ∧ Grew w hv hv' := by
  obtain ⟨ad, cap, hf⟩ := slice_form h.row
  subst hf
  have HS := hideT h
  clear h
  go_enter Try.func15, Try.ntmps15
  go_wp2_with fail
  go_loopw [] (fun wr => ∃ (Q : List Hide) (G' : Env) (m c : Nat), Hid (SIn wr B sb mb m (.slice ad (L ++ Q).length c) (L ++ Q) G') ∧ Hid (undo Q G' = undo P G) ∧ m + Q.length = n + P.length ∧ Q.length ≤ P.length ∧ Hid (Keep (SS sb mb (.slice ad (L ++ P).length cap)) w wr)) (fun wr => lenAt wr sb)
  case atStart => exact ⟨P, G, n, cap, HS, rfl, rfl, Nat.le_refl _, Keep.refl _ _⟩
  case round =>
    obtain ⟨Q, G', m, c, S1, U1, hm, hq, K1⟩ := hrel
    have x0 : wr.cell? ⟨sb, 0, none⟩ = some (.map (some mb)) := S1.out.lies.cell 0
    have x1 : wr.cell? ⟨sb, 1, none⟩ = some (.slice ad (L ++ Q).length c) := S1.out.lies.cell 1
    have f1 : wr.frozen? ⟨sb, 1, none⟩ = false := S1.out.lies.free 1
    rcases snoc_cases Q with rfl | ⟨Q', x, rfl⟩
    · have hll : (L ++ ([] : List Hide)).length = L.length := by rw [List.append_nil]
      rw [hll] at x1
      go_wp2_with fail
      first | go_end0 | refine bodyPost_ret (results_none rfl _ _ _) rfl ?_
      have S2 := S1.out
      rw [List.append_nil, show m = n + P.length from hm, show G' = undo P G from U1.out] at S2
      exact ⟨rfl, K1.out, _, S2, .inl (by cases ad <;> rfl)⟩
    · obtain ⟨g, hg⟩ : ∃ g, ad = some ⟨g, 0, none⟩ := by
        rcases S1.out.row.2 with ⟨h1, h2⟩ | ⟨g, cap', cur, h1, _⟩
        · simp at h2
        · simp only [Value.slice.injEq] at h1
          exact ⟨g, h1.1⟩
      subst hg
      obtain ⟨xk, xs, xb⟩ := x
      have hll : (L ++ (Q' ++ [(xk, xs, xb)])).length = (L ++ Q').length + 1 := by simp; omega
      have R1 := S1.out.row
      rw [← List.append_assoc] at R1
      rw [hll] at x1
      obtain ⟨N, hN⟩ : ∃ N, N = (L ++ Q').length := ⟨_, rfl⟩
      have hN2 : N = L.length + Q'.length := by rw [hN, List.length_append]
      obtain ⟨c0, c1, c2⟩ := flatH_last (L ++ Q') (xk, xs, xb)
      have R2 : Hid (wr.ownsRow B 60 3 (.slice (some ⟨g, 0, none⟩) (N + 1) c) (N + 1) (flatH ((L ++ Q') ++ [(xk, xs, xb)]))) := by
        have e : (L ++ Q' ++ [(xk, xs, xb)]).length = N + 1 := by rw [hN, List.length_append]; rfl
        rw [e] at R1
        exact R1
      have y0 := own_cell R2.out c0
      have y1 := own_cell R2.out c1
      have y2 := own_cell R2.out c2
      rw [← hN] at x1 y0 y1 y2
      obtain ⟨M, hM⟩ : ∃ M, M = N + 1 := ⟨_, rfl⟩
      rw [← hM] at x1
      have HMm := hideT hM
      have HN := hideT hN
      have HN2 := hideT hN2
      have hNb : N ≤ 1000000000 := by simp at hq; omega
      have hMb : M ≤ 1000000001 := by omega
      have hgt : (L.length : Int) < (M : Int) := by omega
      have t1 : IntKind.i64.wrap ((M : Int) - 1) = (N : Int) := by rw [IntKind.wrap_i64]; omega
      have t2 : (0 : Int) ≤ (N : Int) := by omega
      have t3 : (N : Int) < (M : Int) := by omega
      have t4 : (N : Int) ≤ (c : Int) := by
        rcases R2.out.2 with ⟨h1, _⟩ | ⟨g', cap', cur, h1, _, _, h3, _⟩
        · cases h1
        · simp only [Value.slice.injEq] at h1
          omega
      have e0' := World.new_ne wr ⟨sb, 1, none⟩ x1
      have e1' := World.new_ne wr _ y0
      have e2' := World.new_ne wr _ y1
      have e3' := World.new_ne wr _ y2
      clear R1 c0 c1 c2 hN hN2 hll hM
      obtain ⟨W, hW, BW, LW⟩ : ∃ W, (wr.alloc (.cells #[.string xk, .string xs, .bool xb] 60)).drew = W ∧ Below wr.heap.size wr W ∧ Lies W wr.heap.size 60 #[.string xk, .string xs, .bool xb] :=
        ⟨_, rfl, ((Below.refl _ wr).alloc (Nat.le_refl _) _).drew, Lies.new wr _ _⟩
      have HWq := hideT hW
      have BW := hideT BW
      have LW := hideT LW
      have SW := hideT (S1.out.below BW.out)
      clear hW
      go_wp2_with fail
      go_region_held3 (fun w' => w'.cell? ⟨sb, 1, none⟩ = some (.slice (some ⟨g, 0, none⟩) M c) ∧ w'.cell? ⟨g, N * 3, none⟩ = some (.string xk) ∧ w'.cell? ⟨g, N * 3 + 1, none⟩ = some (.string xs) ∧ w'.cell? ⟨g, N * 3 + 2, none⟩ = some (.bool xb)) (go_keep) (fail)
      rw [HWq.out]
      clear x0 x1 f1 y0 y1 y2 e0' e1' e2' e3'
      have x1 : W.cell? ⟨sb, 1, none⟩ = some (.slice (some ⟨g, 0, none⟩) M c) := by
        have := SW.out.lies.cell 1
        rw [show (L ++ (Q' ++ [(xk, xs, xb)])).length = M from (by rw [HMm.out, HN.out]; simp; omega)] at this
        exact this
      have f1 : W.frozen? ⟨sb, 1, none⟩ = false := SW.out.lies.free 1
      obtain ⟨X, hX, KX, SX, LX⟩ : ∃ X, (W.setCell ⟨sb, 1, none⟩ (.slice (some ⟨g, 0, none⟩) N c)).drew = X ∧ Keep (SS sb mb (.slice (some ⟨g, 0, none⟩) (L ++ P).length cap)) w X ∧ SIn X B sb mb m (.slice (some ⟨g, 0, none⟩) N c) (L ++ Q') G' ∧ Lies X wr.heap.size 60 #[.string xk, .string xs, .bool xb] := by
        have hsw : sb < wr.heap.size := S1.out.lies.lt
        have hgs : g ≠ sb := fun e => own_ne R2.out S1.out.lies (by decide) (by rw [e]; rfl)
        have r1 : W.ownsRow B 60 3 (.slice (some ⟨g, 0, none⟩) N c) N (flatH (L ++ Q')) := by
          have r0 := R2.out
          rw [HN.out] at r0 ⊢
          exact own_keep (w' := W) (own_shrinkH r0) (fun g' hg' => BW.out.block g' (own_lt (own_shrinkH r0) hg').1)
        refine ⟨_, rfl, ((K1.out.trans (Keep.of_below BW.out)).trans (Keep.set _ ⟨sb, 1, none⟩ _ (.inl rfl))).trans (Keep.of_below (Below.refl _ _).drew), ⟨SW.out.lies.set 1 _, ?_, ?_, SW.out.sB, SW.out.mB, fun h hh => SW.out.small h (by rcases List.mem_append.1 hh with hh | hh; exact List.mem_append_left _ hh; exact List.mem_append_right _ (List.mem_append_left _ hh))⟩, LW.out.off _ _ (by show wr.heap.size ≠ sb; omega)⟩
        · rw [← HN.out]
          exact own_keep r1 (fun g' hg' => Below.heap_setCell _ _ _ _ (fun e => hgs ((Option.some.inj hg').trans e)))
        · exact SW.out.map.keep (Below.heap_setCell _ _ _ _ (fun e => SW.out.map.ne SW.out.lies e.symm))
      have HXq := hideT hX
      have KX := hideT KX
      have SX := hideT SX
      have LX := hideT LX
      clear hX
      go_wp2_with fail
      go_region
      rw [HXq.out]
      clear x1 f1
      have x0 : X.cell? ⟨sb, 0, none⟩ = some (.map (some mb)) := SX.out.lies.cell 0
      have l0 : X.cell? ⟨wr.heap.size, 0, none⟩ = some (.string xk) := LX.out.cell 0
      have l1 : X.cell? ⟨wr.heap.size, 1, none⟩ = some (.string xs) := LX.out.cell 1
      have l2 : X.cell? ⟨wr.heap.size, 2, none⟩ = some (.bool xb) := LX.out.cell 2
      have hxk : xk.size ≤ 1000000 := S1.out.small (xk, xs, xb) (by simp)
      have hmm : m ≤ 1000000000 := by omega
      obtain ⟨w9, hup, M9, gr9⟩ := (SX.out.below (Below.refl _ X).drew).map.store hmm xk hxk (xs, xb)
      obtain ⟨S9, K9⟩ := store_named (SX.out.below (Below.refl _ X).drew) M9 gr9
      have S9 := hideT S9
      have K9 : Hid (Keep (SS sb mb (.slice (some ⟨g, 0, none⟩) (L ++ P).length cap)) w w9) := (KX.out.trans (Keep.of_below (Below.refl _ X).drew)).on K9 (fun i _ e => .inr (.inl e))
      clear M9 gr9
      go_wp2_with fail
      go_region
      go_wp2_with fail
      go_roundw
      case rel =>
        have S10 := S9.out
        rw [HN.out] at S10
        refine ⟨Q', _, m + 1, c, S10, (by show _ = _; rw [← U1.out, undo_snoc]), (by simp at hm; omega), (by simp at hq; omega), K9⟩
      case measure =>
        have S10 := S9.out
        rw [lenAt_of S10, lenAt_of S1.out, HN.out]
        simp
end Go.Proofs.Ythbkipmimkepkab
