/-
  The program's tables.
-/
import Derived.Test.YtjfonpbnohbpfaaGreatDoorBKids2
set_option linter.unusedSimpArgs false
set_option linter.unusedVariables false
namespace Go.Proofs.YtjfonpbnohbpfaaGreatDoor
open Go.RowKit
set_option maxRecDepth 100000
def tabL (x : Ent) : List Value := [.string x.1, .int .i64 x.2.1, .func (.func x.2.2) #[] #[]]
def tabC (tab : List Ent) : List Value := (tab.map tabL).flatten
theorem tab_of_own {w : World} {Q : Nat → Prop} {H : Nat} {v : Value} {tab : List Ent} (h : w.ownsRow H 136 3 v tab.length (tabC tab)) (hl : tab.length ≤ 1000) (hQ : ∀ g, v.ownBlock = some g → Q g) : RowQ 3 tabR w Q v tab := by
  rcases h.2 with ⟨rfl, h0⟩ | ⟨g, cap, cur, rfl, h1, h2, h3, _⟩
  · have : tab = [] := List.eq_nil_of_length_eq_zero h0
    subst this
    exact RowQ.nil w Q
  · refine ⟨g, 0, ⟨_, cap, rfl, h3, fun _ => rfl⟩, fun _ => hQ g rfl, by omega, fun i x hx => ⟨tabL x, rfl, rfl, fun j c hj => ?_⟩⟩
    rw [Nat.zero_add]
    refine own_cell h (flat_at _ ?_ (i := i) (cs := tabL x) ?_ hj)
    · intro cs hcs
      obtain ⟨y, _, rfl⟩ := List.mem_map.1 hcs
      rfl
    · rw [List.getElem?_map, hx]
      rfl
def newQ (w w' : World) (k : Nat) : Prop := w.heap.size ≤ k ∧ k < w'.heap.size
/-- What a table's function answers. -/
def TPost (tab : List Ent) (w : World) (e : Ending) (w' : World) : Prop := ∃ v, e = .returned v ∧ Below w.heap.size w w' ∧ w'.ownsRow w.heap.size 136 3 v tab.length (tabC tab)
def caseE : List Ent := [(Bp.fileW, 1, 80), (Bp.stageW, 2, 81)]
def itemE : List Ent := [(Bp.entryW, 1, 180), (Bp.exitW, 2, 181)]
def sentE : List Ent := [(Bp.onW, 1, 199), (Bp.ifW, 2, 200)]
def moreE : List Ent := [(Bp.stageW, 3, 113), (Bp.taskW, 3, 157), (Bp.mileW, 3, 158), (Bp.listW, 3, 159), (Bp.timeW, 3, 160)]
theorem tab_new {w W : World} {C : Array Value} {n : Nat} (h : w.alloc (.cells C 136) = W) (hs : C.size = n * 3) (hn : n ≤ 1000) : W.ownsRow w.heap.size 136 3 (.slice (some ⟨w.heap.size, 0, none⟩) n n) n C.toList :=
  own_of_lies (of_alloc h).2.1 (Nat.le_refl _) hs (by omega)
theorem caseKidsD (w : World) : Calls Tryz.prog 46 #[] w (TPost caseE w) := by
  go_enter Tryz.func46, Tryz.ntmps46
  go_wp2_with fail
  generalize hW : w.alloc _ = W
  obtain ⟨B1, L1, z1⟩ := of_alloc hW
  go_ret
  exact ⟨_, rfl, B1, tab_new (n := 2) hW rfl (by decide)⟩
theorem itemKidsD (w : World) : Calls Tryz.prog 156 #[] w (TPost itemE w) := by
  go_enter Tryz.func156, Tryz.ntmps156
  go_wp2_with fail
  generalize hW : w.alloc _ = W
  obtain ⟨B1, L1, z1⟩ := of_alloc hW
  go_ret
  exact ⟨_, rfl, B1, tab_new (n := 2) hW rfl (by decide)⟩
theorem sentryKidsD (w : World) : Calls Tryz.prog 195 #[] w (TPost sentE w) := by
  go_enter Tryz.func195, Tryz.ntmps195
  go_wp2_with fail
  generalize hW : w.alloc _ = W
  obtain ⟨B1, L1, z1⟩ := of_alloc hW
  go_ret
  exact ⟨_, rfl, B1, tab_new (n := 2) hW rfl (by decide)⟩
theorem infoK : (Tryz.prog.info? 136).map (fun i => (i.zero, i.size, i.bytes)) = some (some (.agg #[.string ⟨#[]⟩, .int .i64 0, .nilFunc]), 3, 32) := by kernel_rfl
set_option maxHeartbeats 1000000 in
theorem stageKidsD (w : World) : Calls Tryz.prog 136 #[] w (TPost (itemE ++ moreE) w) := by
  obtain ⟨i0, hi0, hz0, hz1, hz2⟩ := info_parts infoK
  go_enter Tryz.func136, Tryz.ntmps136
  go_wp2_with fail
  refine (itemKidsD w).mono ?_
  rintro e w1 ⟨v, rfl, b1, o1⟩
  obtain ⟨ad, cap, rfl⟩ := slice_form o1
  rw [show itemE.length = 2 from rfl] at o1 ⊢
  have hzz := b1.size
  go_wp2_with (first | (at_builtin; refine wpList_append_lies _ (by rfl) _ _ _ (by rfl) w.heap.size 136 i0 _ 3 32 Tryz.underlying90 hi0 hz0 hz1 hz2 rfl (by omega) (.slice ad 2 cap) 2 (tabC itemE) (by rfl) (o1.alloc _) ⟨w1.heap.size, 0, none⟩ 5 5 (tabC moreE) (by rfl) (by rfl) (World.news_of_block (cs := (tabC moreE).toArray) (t := 136) (fr := (0, 0)) (heap_alloc_new w1 _)) (by simp [Value.oneCell', tabC, tabL, moreE]) (by omega) (by unfold maxLen; omega) (by omega) (by first | (simp; done) | (simp; omega)) (w1.heap.size + 1) (by simp) ?_; intro gb cap2 w3 hown hgrow hat hlt3) | fail)
  have bA := (Below.refl w1.heap.size w1).alloc (Nat.le_refl _) (.cells (tabC moreE).toArray 136)
  go_ret
  refine ⟨_, rfl, ?_, hown⟩
  exact (b1.trans (bA.mono b1.size)).grown hgrow (Nat.le_trans b1.size bA.size) (fun k hk => (own_lt o1 hk).2)
end Go.Proofs.YtjfonpbnohbpfaaGreatDoor
