/-
  The program's Print; the example that each law asks.
-/
import Derived.Test.YtimecocegnnjjaaDoorDWrite
import Derived.Test.YtimecocegnnjjaaDoorDParse
set_option linter.unusedSimpArgs false
set_option linter.unusedVariables false
namespace Go.Proofs.YtimecocegnnjjaaDoor
open Go.RowKit
theorem Xp.mkT_inj {nm nm' : ByteArray} {l l' : List (ByteArray × ByteArray)} {ks ks' : List Tr} {p p' : Int} (h : Xp.mkT nm l ks p = Xp.mkT nm' l' ks' p') : nm = nm' ∧ l = l' ∧ ks = ks' ∧ p = p' := by
  have h1 := congrArg Xp.nmT h
  have h2 := congrArg Xp.asT h
  have h3 := congrArg Xp.ksT h
  have h4 := congrArg Xp.atT h
  rw [Xp.nm_mk, Xp.nm_mk] at h1
  rw [Xp.as_mk, Xp.as_mk] at h2
  rw [Xp.ks_mk, Xp.ks_mk] at h3
  rw [Xp.at_mk, Xp.at_mk] at h4
  exact ⟨Xp.ba_inj h1, Xp.pairs_inj h2, h3, h4⟩
set_option maxHeartbeats 1000000 in
theorem printD (n : Nat) (w : World) (c0 c1 c2 c3 : Value) (T : Tr) (h : EIn w n c0 c1 c2 c3 T) (hl : (Xp.printT n T).length ≤ 1000000) (t : ByteArray) (ht : Hid (t = ⟨(Xp.printT n T).toArray⟩)) :
    Calls Tryd.prog 6 #[.agg #[c0, c1, c2, c3]] w fun e w' => e = .returned (.string t) ∧ Below w.heap.size w w' := by
  have H := hideB h
  obtain ⟨nm, p, al, ks, hc0, hc3, ⟨ab, ao, ⟨aao, acap, hc1, _⟩, _⟩, kb, ko, ⟨kao, kcap, hc2, _⟩, _⟩ : ∃ (nm : ByteArray) (p : Int) (al : List (ByteArray × ByteArray)) (ks : List Tr), c0 = .string nm ∧ c3 = .int .i64 p ∧ (∃ b o, Row c1 al.length b o ∧ True) ∧ ∃ b o, Row c2 ks.length b o ∧ True := by
    cases n with
    | zero => exact h.elim
    | succ n =>
      obtain ⟨nm', p', al', ks', h0, h3, _, _, ⟨b1, o1, h1, _⟩, b2, o2, h2, _⟩ := h
      exact ⟨nm', p', al', ks', h0, h3, ⟨b1, o1, h1, trivial⟩, b2, o2, h2, trivial⟩
  subst hc0 hc1 hc2 hc3
  clear h
  obtain ⟨W, hW⟩ : ∃ W, w.alloc (.cells #[.string nm, .slice aao al.length acap, .slice kao ks.length kcap, .int .i64 p] 25) = W := ⟨_, rfl⟩
  have BW : Hid (Below w.heap.size w W) := by rw [← hW]; exact (Below.refl _ w).alloc (Nat.le_refl _) _
  have zW : w.heap.size + 1 = W.heap.size := by rw [← hW]; simp
  have LW : Hid (Lies W w.heap.size 25 #[.string nm, .slice aao al.length acap, .slice kao ks.length kcap, .int .i64 p]) := by
    show Lies W _ _ _
    rw [← hW]
    exact Lies.new w _ _
  obtain ⟨V, hV⟩ : ∃ V, W.alloc (.cells #[.pointer none, .slice none 0 0] 41) = V := ⟨_, rfl⟩
  have BV : Hid (Below W.heap.size W V) := by rw [← hV]; exact (Below.refl _ W).alloc (Nat.le_refl _) _
  have IV : Hid (BdF W.heap.size W.heap.size [] V) := by
    show BdF _ _ _ V
    rw [← hV]
    exact Lib.IsBuilderF.of (Lib.fresh_isBuilder 41 5 W)
  have LV := hideB (LW.out.below BV.out)
  have HWq := hideB hW
  have HVq := hideB hV
  have zV : W.heap.size ≤ V.heap.size := BV.out.size
  have HTL : Hid (([] : List UInt8) ++ Xp.printT n T = Xp.printT n T) := List.nil_append _
  have y0 : (W.alloc (.cells #[.pointer none, .slice none 0 0] 41)).cell? ⟨w.heap.size, 0, none⟩ = some (.string nm) := by rw [HVq.out]; exact LV.out.cell 0
  have y1 : (W.alloc (.cells #[.pointer none, .slice none 0 0] 41)).cell? ⟨w.heap.size, 1, none⟩ = some (.slice aao al.length acap) := by rw [HVq.out]; exact LV.out.cell 1
  have y2 : (W.alloc (.cells #[.pointer none, .slice none 0 0] 41)).cell? ⟨w.heap.size, 2, none⟩ = some (.slice kao ks.length kcap) := by rw [HVq.out]; exact LV.out.cell 2
  have y3 : (W.alloc (.cells #[.pointer none, .slice none 0 0] 41)).cell? ⟨w.heap.size, 3, none⟩ = some (.int .i64 p) := by rw [HVq.out]; exact LV.out.cell 3
  clear hW hV
  go_enter Tryd.func6, Tryd.ntmps6
  go_wp2_with fail
  rw [HWq.out, HVq.out]
  refine (writeD n W V W.heap.size W.heap.size [] (.string nm) (.slice aao al.length acap) (.slice kao ks.length kcap) (.int .i64 p) T rfl BV.out IV.out (H.out.below BW.out) (by rw [List.length_nil, Nat.zero_add]; exact hl)).mono ?_
  rw [HTL.out]
  rintro e w1 ⟨rfl, i1, r1⟩
  have I1 := hideB i1
  have R1 := hideB r1
  clear i1 r1 y0 y1 y2 y3
  go_wp2_with fail
  refine (Tryd.Builder_String_any_k W.heap.size W.heap.size _ _ I1.out (by have := R1.out.2.2; omega)).mono ?_
  rw [← ht.out]
  rintro e w2 ⟨rfl, _, b2, _⟩
  go_wp2_with fail
  go_ret
  exact ⟨rfl, BW.out.trans ((BV.out.trans ((R1.out.1.trans b2).mono (Nat.le_refl _))).mono (by omega))⟩
theorem Xp.known_parse : Xp.parse [60, 97, 32, 120, 61, 39, 49, 39, 62, 60, 98, 47, 62, 60, 47, 97, 62] = .ok (Xp.mkT ⟨#[97]⟩ [(⟨#[120]⟩, ⟨#[49]⟩)] [Xp.mkT ⟨#[98]⟩ [] [] 9] 0) := by rfl
end Go.Proofs.YtimecocegnnjjaaDoor
