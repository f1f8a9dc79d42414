/-
  The document's Push: what its three appends are told by.
-/
import Derived.Test.YtjibkhljihnhiaaQRef
import Derived.Deep.RegionLaw
set_option linter.unusedSimpArgs false
set_option linter.unusedVariables false
namespace Go.Proofs.Ytjibkhljihnhiaa
open Go.RowKit
open Qp
abbrev thE (x : Thing) : List Value := [.int .i64 x.1, .int .i64 x.2]
theorem flatQ_is (L : List Thing) : flatQ L = (L.map thE).flatten := rfl
theorem infoX : (Try.prog.info? 49).map (fun i => (i.zero, i.size, i.bytes)) = some (some (.agg #[.int .i64 0, .int .i64 0]), 2, 16) := by kernel_rfl
theorem flatQ_drop (L : List Thing) (k j : Nat) : (flatQ (L.drop k))[j]? = (flatQ L)[k * 2 + j]? := by
  induction k generalizing L with
  | zero => rw [List.drop_zero, Nat.zero_mul, Nat.zero_add]
  | succ k ih =>
    cases L with
    | nil => simp [flatQ]
    | cons a M =>
      rw [List.drop_succ_cons, ih M, flatQ_cons, show (k + 1) * 2 + j = (k * 2 + j) + 1 + 1 by omega]
      rfl
/-- What was put in: all that is not greater ahead of it. -/
structure Ins (L : List Thing) (x : Thing) (k : Nat) : Prop where
  le : k ≤ L.length
  low : ∀ i, i < k → lt x (at_ L i) = false
  up : k < L.length → lt x (at_ L k) = true
/-- Two cells of a block of one's own. -/
def TwoAt (W : World) (B : Nat) (d x : Int) : Prop := W.cell? ⟨B, 0, none⟩ = some (.int .i64 d) ∧ W.cell? ⟨B, 1, none⟩ = some (.int .i64 x)
theorem TwoAt.mono {W W' : World} {B : Nat} {d x : Int} (h : TwoAt W B d x) (hc : ∀ a c, W.cell? a = some c → W'.cell? a = some c) : TwoAt W' B d x := ⟨hc _ _ h.1, hc _ _ h.2⟩
theorem new_two (W : World) (d x : Int) (B : Nat) (hB : W.heap.size = B) : TwoAt (W.alloc (.cells #[.int .i64 d, .int .i64 x] 49)) B d x := by
  subst hB
  exact ⟨(Lies.new W _ _).cell 0, (Lies.new W _ _).cell 1⟩
theorem two_src {W : World} {B : Nat} {d x : Int} (h : TwoAt W B d x) : 0 < 1 → ∃ ad, (some ⟨B, 0, none⟩ : Option Addr) = some ad ∧ ∀ (j : Nat) u, ([(d, x)].map thE).flatten[j]? = some u → W.cell? (ad.add j) = some u := fun _ => ⟨_, rfl, fun j u hj => by
  rw [qadd_plain, Nat.zero_add]
  match j, hj with
  | 0, hj => cases hj; exact h.1
  | 1, hj => cases hj; exact h.2
  | j + 2, hj => simp [thE] at hj⟩
/-- What an append leaves of blocks that are not its row's. -/
def GoneBy (v : Value) (W W' : World) : Prop := ∀ (b i : Nat) (u : Value), v.ownBlock ≠ some b → W.cell? ⟨b, i, none⟩ = some u → W'.cell? ⟨b, i, none⟩ = some u
theorem GoneBy.two {v : Value} {W W' : World} (h : GoneBy v W W') (B : Nat) {d x : Int} (hB : v.ownBlock ≠ some B) (k : TwoAt W B d x) : TwoAt W' B d x := ⟨h _ _ _ hB k.1, h _ _ _ hB k.2⟩
theorem step_appX {ops : Array Oper} {o : Oper} {a : Act} {K : Act → World → Prop} {Q : Exit → Act → World → Prop} {F : Prop} (hgd : o.guard = none) (s x : Operand) (ho : o.op = .call { callee := .builtin .append, args := #[s, x], argTypes := #[26, 26] })
    {W0 W : World} {v : Value} (hs : a.eval s = v) {ao : Option Addr} {m c : Nat} (hx : a.eval x = .slice ao m c) {L : List Thing} (hT : TEQ 49 2 thE W0 W v L) (news : List Thing) (hm : news.length = m) (hsrc : 0 < m → ∃ ad, ao = some ad ∧ ∀ (j : Nat) u, (news.map thE).flatten[j]? = some u → W.cell? (ad.add j) = some u) (hl : L.length + m ≤ 1000000)
    (h : ∀ v' w', TEQ 49 2 thE W0 w' v' (L ++ news) → GoneBy v W w' → K (a.put o.dst v') w') :
    if Region.wanted o (yielded ops a.tmps) = true then Oper.wp Try.prog o a W K Q else F :=
  step_appQ (bytes := 16) Try.underlying26 infoX rfl (by omega) (by omega) (fun _ => rfl) (fun y u hu => by
    simp only [thE, List.mem_cons, List.not_mem_nil, or_false] at hu
    rcases hu with rfl | rfl <;> rfl) hgd s x ho hs hx hT news hm hsrc hl h
theorem TEQ.frozen {α : Type} {e : TypeId} {z : Nat} {E : α → List Value} {W0 W : World} {v : Value} {L : List α} (h : TEQ e z E W0 W v L) {a : Addr} {t : Bool} (hc : W0.frozen? a = t) (hl : a.block < W0.heap.size) : W.frozen? a = t := by
  rw [h.below.frozen hl]
  exact hc
theorem TEQ.shape {α : Type} {e : TypeId} {z : Nat} {E : α → List Value} {W0 W : World} {v : Value} {L : List α} (h : TEQ e z E W0 W v L) : ∃ oa oc n, v = .slice oa n oc ∧ n = L.length := by
  obtain ⟨ob, oc, h1, _⟩ := teq_form h
  exact ⟨ob, oc, _, h1, rfl⟩
theorem ins_len {L : List Thing} {x : Thing} {k N : Nat} (hN : L.length = N) (h : N < 100) : (L.take k ++ [x] ++ L.drop k).length ≤ 1000 := by
  rw [List.length_append, List.length_append, List.length_take, List.length_drop, List.length_singleton]
  omega
theorem XAt.inserted {w W : World} {H xb g o cap : Nat} {ao oa : Option Addr} {oc m : Nat} {L M : List Thing} (h : XAt w H xb g o ao cap L) (hH : H ≤ w.heap.size) (hT : TEQ 49 2 thE w W (.slice oa m oc) M) (hm : M.length ≤ 1000) (hmm : m = M.length) :
    (∃ g' o' ao' cap', XAt (W.setCell ⟨xb, 0, none⟩ (.slice oa m oc)) H xb g' o' ao' cap' M) ∧ Keep (fun k => k = xb) w (W.setCell ⟨xb, 0, none⟩ (.slice oa m oc)) := by
  subst hmm
  have hb := h.box.below hT.below
  have hk : Keep (fun k => k = xb) W (W.setCell ⟨xb, 0, none⟩ (.slice oa M.length oc)) := Keep.set W ⟨xb, 0, none⟩ _ rfl
  refine ⟨?_, (Keep.of_below hT.below).trans hk⟩
  rcases hT.own.2 with ⟨hv, h0⟩ | ⟨g', cap', cur, hv, hbg, hg, hnc, hcm, hcs, htake⟩
  · obtain rfl := List.eq_nil_of_length_eq_zero h0
    cases hv
    exact ⟨0, 0, none, 0, ⟨hb.set 0 _, h.low, fun h0 => absurd h0 (by simp), fun h0 => absurd h0 (by simp), fun j u hj => by simp [flatQ] at hj, by simp, by simp, .inl rfl⟩⟩
  · cases hv
    have hne : g' ≠ xb := fun e => by
      have := h.box.lt
      omega
    have hg2 : (W.setCell ⟨xb, 0, none⟩ (.slice (some ⟨g', 0, none⟩) M.length oc)).heap[g']? = some (.cells cur 49 (0, 0)) := by
      rw [Below.heap_setCell _ _ _ _ hne]
      exact hg
    refine ⟨g', 0, _, oc, ⟨hb.set 0 _, h.low, fun _ => rfl, fun _ => ⟨cur, hg2, by omega⟩, fun j u hj => ?_, hnc, hm, .inr ⟨_, _, rfl⟩⟩⟩
    have hc := hT.own.cells (g := g') rfl j u hj
    rw [show ((⟨g', 0, none⟩ : Addr).add j) = ⟨g', 0 + j, none⟩ from qadd_plain _ _ _] at hc
    rw [hk.cell (cell_lt hc) hne]
    exact hc
theorem ins_ex (x : Thing) : ∀ (n : Nat) (L : List Thing), L.length = n → ∃ k, Ins L x k := by
  intro n L hn
  have : ∀ m, m ≤ L.length → (∀ i, i < m → lt x (at_ L i) = false) ∨ ∃ k, Ins L x k := by
    intro m
    induction m with
    | zero => intro _; exact .inl fun i hi => absurd hi (by omega)
    | succ m ih =>
      intro hm
      rcases ih (by omega) with h | h
      · cases hv : lt x (at_ L m) with
        | true => exact .inr ⟨m, by omega, h, fun _ => hv⟩
        | false =>
          refine .inl fun i hi => ?_
          by_cases e : i = m
          · subst e; exact hv
          · exact h i (by omega)
      · exact .inr h
  rcases this L.length (Nat.le_refl _) with h | h
  · exact ⟨L.length, Nat.le_refl _, h, fun h => absurd h (by omega)⟩
  · exact h
end Go.Proofs.Ytjibkhljihnhiaa
