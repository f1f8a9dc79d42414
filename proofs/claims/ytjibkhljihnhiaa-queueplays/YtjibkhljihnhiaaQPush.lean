/-
  The row's own Push: one more behind the others.
-/
import Derived.Test.YtjibkhljihnhiaaQSwap
import Derived.Deep.AppendLies
import Derived.Deep.RegionLaw
set_option linter.unusedSimpArgs false
set_option linter.unusedVariables false
namespace Go.Proofs.Ytjibkhljihnhiaa
open Go.RowKit
open Qp
theorem infoQ : (Try.prog.info? 48).map (fun i => (i.zero, i.size, i.bytes)) = some (some (.agg #[.int .i64 0, .int .i64 0]), 2, 16) := by kernel_rfl
theorem QAt.pushed {w W w3 : World} {H b g cap2 : Nat} {v : Value} {L : List Thing} (h : QAt w H b v L) (hb : Below w.heap.size w W) (hg : W.grownBy w3 v.ownBlock) (hat : v.ownBlock = some g ∨ w.heap.size ≤ g) (x : Thing)
    (hown : w3.ownsRow H 48 2 (.slice (some ⟨g, 0, none⟩) (L.length + 1) cap2) (L.length + 1) (flatQ L ++ [.int .i64 x.1, .int .i64 x.2])) (hl : L.length < 1000) :
    (w3.cell? ⟨b, 0, none⟩ = some v ∧ w3.frozen? ⟨b, 0, none⟩ = false) ∧ QAt (w3.setCell ⟨b, 0, none⟩ (.slice (some ⟨g, 0, none⟩) (L.length + 1) cap2)) H b (.slice (some ⟨g, 0, none⟩) (L.length + 1) cap2) (L ++ [x]) ∧
      Keep (QS b v) w (w3.setCell ⟨b, 0, none⟩ (.slice (some ⟨g, 0, none⟩) (L.length + 1) cap2)) ∧ Grew w v (.slice (some ⟨g, 0, none⟩) (L.length + 1) cap2) := by
  have K1 : Keep (QS b v) w w3 := (Keep.of_below hb).on (Keep.grown hg) (fun i _ e => .inr e)
  have B3 : Lies w3 b 44 #[v] := by
    have hbW := h.box.below hb
    exact hbW.keep (Keep.grown hg) (own_ne h.row h.box (by decide))
  have hgb : g ≠ b := fun e => by
    subst e
    exact own_ne hown B3 (by decide) rfl
  refine ⟨⟨B3.cell 0, B3.free 0⟩, ⟨B3.set 0 _, ?_, by rw [List.length_append, List.length_singleton]; omega, h.low⟩, K1.trans (Keep.set _ _ _ (.inl rfl)), ?_⟩
  · rw [List.length_append, List.length_singleton, flatQ_app]
    exact own_keep hown (fun k hk => Below.heap_setCell _ _ _ _ (fun e => hgb (by
      have : g = k := Option.some.inj hk
      rw [this]; exact e)))
  · rcases hat with e | e
    · exact .inl e.symm
    · exact .inr ⟨g, rfl, e⟩
theorem assertQ (x1 x2 : Int) (w : World) : (Instr.typeAssert (.iface 48 (.agg #[.int .i64 x1, .int .i64 x2])) 20 48 false).run Try.prog w = .ok (.agg #[.int .i64 x1, .int .i64 x2]) w := by kernel_rfl
set_option maxHeartbeats 4000000 in
theorem tpushQ (w : World) (H b : Nat) (ad : Option Addr) (cap : Nat) (L : List Thing) (x : Thing) (h : QAt w H b (.slice ad L.length cap) L) (hH : H ≤ w.heap.size) (hl : L.length < 1000) :
    Calls Try.prog 47 #[.pointer (some ⟨b, 0, none⟩), .iface 48 (.agg #[.int .i64 x.1, .int .i64 x.2])] w fun e w' => e = .returned (.tuple #[]) ∧ ∃ v', QAt w' H b v' (L ++ [x]) ∧ Keep (QS b (.slice ad L.length cap)) w w' ∧ Grew w (.slice ad L.length cap) v' := by
  obtain ⟨i0, hi0, hz0, hz1, hz2⟩ := info_parts infoQ
  have HQ := hideT h
  have q0 : w.cell? ⟨b, 0, none⟩ = some (.slice ad L.length cap) := h.box.cell 0
  have hbl := h.box.lt
  clear h
  obtain ⟨x1, x2⟩ := x
  have hT := assertQ x1 x2
  go_enter Try.func47, Try.ntmps47
  go_wp2_with fail
  go_region_law ((refine step_append_lies _ (by rfl) _ _ _ (by rfl) H 48 i0 _ 2 16 Try.underlying42 hi0 hz0 hz1 hz2 rfl (by omega) (.slice ad L.length cap) L.length (flatQ L) (by rfl) ((HQ.out.row.alloc _).drew) ⟨w.heap.size, 0, none⟩ 1 1 [.int .i64 x1, .int .i64 x2] (by rfl) (by rfl) (World.news_of_block (cs := #[.int .i64 x1, .int .i64 x2]) (t := 48) (fr := (0, 0)) (heap_alloc_new w _)) (by simp [Value.oneCell']) (by omega) (by unfold maxLen; omega) (by omega) (by first | (simp; done) | (simp; omega)) (w.heap.size + 1) (by simp) ?_; intro g cap2 w3 hown hgrow hat hlt; obtain ⟨⟨g1, g2⟩, PM⟩ := HQ.out.pushed (((Below.refl _ w).alloc (Nat.le_refl _) _).drew) hgrow (hat.imp id (fun e => (by omega))) (x1, x2) hown hl))
  all_goals (try go_wp2)
  all_goals go_end0
  all_goals exact ⟨rfl, _, PM⟩
end Go.Proofs.Ytjibkhljihnhiaa
