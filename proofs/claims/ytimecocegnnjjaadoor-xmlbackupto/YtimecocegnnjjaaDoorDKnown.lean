/-
  The example that each law of this layer asks: it comes out.
-/
import Derived.Test.YtimecocegnnjjaaDoorDPrint
set_option linter.unusedSimpArgs false
set_option linter.unusedVariables false
namespace Go.Proofs.YtimecocegnnjjaaDoor
open Go.RowKit
def knownS : ByteArray := ⟨#[60, 97, 32, 120, 61, 39, 49, 39, 62, 60, 98, 47, 62, 60, 47, 97, 62]⟩
theorem parse_ok_v (s : ByteArray) (w : World) (hs : s.size ≤ 1000000) (hw : Ok w) (T : Tr) (h : Hid (Xp.parse s.data.toList = .ok T)) :
    Calls Tryd.prog 7 #[.string s] w fun e w' => (∃ c0 c1 c2 c3, e = .returned (.tuple #[.agg #[c0, c1, c2, c3], .int .i64 s.size, .int .i64 0]) ∧ EIn w' 12 c0 c1 c2 c3 T) ∧ Below w.heap.size w w' :=
  (parseD s w hs hw).mono fun _ _ ⟨h1, h2⟩ => ⟨h1.2 T h.out, h2⟩
theorem parse_err_v (s : ByteArray) (w : World) (hs : s.size ≤ 1000000) (hw : Ok w) (q er : Nat) (h : Hid (Xp.parse s.data.toList = .error (q, er))) :
    Calls Tryd.prog 7 #[.string s] w fun e w' => e = .returned (.tuple #[.agg #[.string ⟨#[]⟩, nilS, nilS, .int .i64 0], .int .i64 q, .int .i64 er]) ∧ Below w.heap.size w w' :=
  (parseD s w hs hw).mono fun _ _ ⟨h1, h2⟩ => ⟨h1.1 q er h.out, h2⟩
/-- What an element's four values look like. -/
theorem elem_form {w : World} {n : Nat} {c0 c1 c2 c3 : Value} {T : Tr} (h : EIn w n c0 c1 c2 c3 T) : ∃ (nm : ByteArray) (a1 : Option Addr) (n1 k1 : Nat) (a2 : Option Addr) (n2 k2 : Nat) (p : Int), c0 = .string nm ∧ c1 = .slice a1 n1 k1 ∧ c2 = .slice a2 n2 k2 ∧ c3 = .int .i64 p := by
  cases n with
  | zero => exact h.elim
  | succ n =>
    obtain ⟨nm, p, al, ks, h0, h3, _, _, ⟨_, _, ⟨a1, k1, h1, _⟩, _⟩, _, _, ⟨a2, k2, h2, _⟩, _⟩ := h
    exact ⟨nm, a1, _, k1, a2, _, k2, p, h0, h1, h2, h3⟩
/-- An element of one kid, whose values are named. -/
theorem one_kid {w : World} {n : Nat} {c0 c1 c2 c3 : Value} {nm : ByteArray} {l : List (ByteArray × ByteArray)} {nm2 : ByteArray} {l2 : List (ByteArray × ByteArray)} {ks2 : List Tr} {p p2 : Int} (h : EIn w (n + 2) c0 c1 c2 c3 (Xp.mkT nm l [Xp.mkT nm2 l2 ks2 p2] p)) :
    ∃ (a1 : Option Addr) (k1 b o k2 : Nat), c0 = .string nm ∧ c1 = .slice a1 l.length k1 ∧ c2 = .slice (some ⟨b, o, none⟩) 1 k2 ∧ c3 = .int .i64 p ∧ w.cell? ⟨b, o, none⟩ = some (.string nm2) ∧ w.cell? ⟨b, o + 3, none⟩ = some (.int .i64 p2) := by
  obtain ⟨nm', p', al, ks, rfl, rfl, hT, _, ⟨ab, ao, ⟨aao, acap, rfl, _⟩, _⟩, kb, ko, ⟨kao, kcap, rfl, hkao⟩, _, hk⟩ := h
  obtain ⟨rfl, rfl, rfl, rfl⟩ := Xp.mkT_inj hT
  obtain ⟨d0, d1, d2, d3, ⟨f0, f1, f2, f3⟩, he⟩ := hk 0 _ rfl
  obtain ⟨nm3, p3, al3, ks3, rfl, rfl, hT3, _⟩ := he
  obtain ⟨rfl, rfl, rfl, rfl⟩ := Xp.mkT_inj hT3
  exact ⟨aao, acap, kb, ko, kcap, rfl, rfl, by rw [hkao (Nat.zero_lt_succ _)]; rfl, rfl, f0, f3⟩
set_option maxHeartbeats 2000000 in
set_option maxRecDepth 100000 in
theorem knownD (w : World) (hw : Ok w) :
    Calls Tryd.prog 8 #[] w fun e w' => e = .returned (.bool true) ∧ Below w.heap.size w w' := by
  have HW := hideB hw
  clear hw
  go_enter Tryd.func8, Tryd.ntmps8
  go_wp2_with fail
  refine (parse_ok_v knownS w (by decide) HW.out _ Xp.known_parse).mono ?_
  rintro e w1 ⟨⟨c0, c1, c2, c3, rfl, h1⟩, b1⟩
  have H1 := hideB h1
  have B1 := hideB b1
  obtain ⟨a1, k1, b, o, k2, rfl, rfl, rfl, rfl, f0, f3⟩ := one_kid h1
  obtain ⟨W, hW⟩ : ∃ W, w1.alloc (.cells #[.string ⟨#[97]⟩, .slice a1 1 k1, .slice (some ⟨b, o, none⟩) 1 k2, .int .i64 0] 25) = W := ⟨_, rfl⟩
  have BW : Hid (Below w1.heap.size w1 W) := by rw [← hW]; exact (Below.refl _ w1).alloc (Nat.le_refl _) _
  have HWq := hideB hW
  have F0 : Hid (W.cell? ⟨b, o, none⟩ = some (.string ⟨#[98]⟩)) := by show _ = _; rw [BW.out.cell (cell_lt f0)]; exact f0
  have F3 : Hid (W.cell? ⟨b, o + 3, none⟩ = some (.int .i64 9)) := by show _ = _; rw [BW.out.cell (cell_lt f3)]; exact f3
  have g0 : (w1.alloc (.cells #[.string ⟨#[97]⟩, .slice a1 1 k1, .slice (some ⟨b, o, none⟩) 1 k2, .int .i64 0] 25)).cell? ⟨b, o, none⟩ = some (.string ⟨#[98]⟩) := by rw [HWq.out]; exact F0.out
  have g3 : (w1.alloc (.cells #[.string ⟨#[97]⟩, .slice a1 1 k1, .slice (some ⟨b, o, none⟩) 1 k2, .int .i64 0] 25)).cell? ⟨b, o + 3, none⟩ = some (.int .i64 9) := by rw [HWq.out]; exact F3.out
  clear h1 b1 hW f0 f3
  go_wp2_with fail
  rw [HWq.out]
  refine (printD 12 W (.string ⟨#[97]⟩) (.slice a1 1 k1) (.slice (some ⟨b, o, none⟩) 1 k2) (.int .i64 0) _ (H1.out.below BW.out) (by decide) ⟨#[60, 97, 32, 120, 61, 34, 49, 34, 62, 60, 98, 47, 62, 60, 47, 97, 62]⟩ (show _ = _ from rfl)).mono ?_
  rintro e w2 ⟨rfl, b2⟩
  clear g0 g3
  go_wp2_with fail
  go_ret
  exact ⟨rfl, B1.out.trans ((BW.out.trans (b2.mono BW.out.size)).mono B1.out.size)⟩
end Go.Proofs.YtimecocegnnjjaaDoor
