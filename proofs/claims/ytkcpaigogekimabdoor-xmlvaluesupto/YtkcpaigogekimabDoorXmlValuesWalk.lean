/-
  The law XmlValues, walked.
-/
import Derived.Test.YtkcpaigogekimabDoorPartG
import Derived.Test.YtkcpaigogekimabDoorPartI
import Derived.Test.YtkcpaigogekimabDoorPartB
import Derived.OpenShut
set_option linter.unusedSimpArgs false
set_option linter.unusedVariables false
namespace Go.Proofs.YtkcpaigogekimabDoor
open Go.RowKit
theorem signsU_v (s : ByteArray) (w : World) (hs : s.size ≤ 2000000) (hw : Ok w) (b : Bool) (h : Hid (Sp.signsB s.data.toList = b)) :
    Calls Tryd.prog 8 #[.string s] w fun e w' => e = .returned (.bool b) ∧ Below w.heap.size w w' := by
  have := signsT_any s w hs hw.1
  rw [h.out] at this
  exact this
def valT (v : ByteArray) : Tr := Xp.mkT ⟨#[97]⟩ [(⟨#[120]⟩, v)] [] 0
theorem val_fair (v : ByteArray) (hv : Sp.signsB v.data.toList = true) (h60 : v.size ≤ 60) : Xp.fairT 12 (valT v) := by
  refine ⟨⟨#[97]⟩, [(⟨#[120]⟩, v)], [], 0, rfl, by decide, by simp, ?_, by simp, fun K hK => by simp at hK⟩
  intro a ha
  rw [List.mem_singleton.1 ha]
  refine ⟨show Sp.qualB [120] = true by decide, hv, ?_⟩
  have : v.data.toList.length = v.size := Array.length_toList
  show v.data.toList.length ≤ 60
  omega
theorem val_len (v : ByteArray) (h60 : v.size ≤ 60) : (Xp.printT 12 (valT v)).length ≤ 400 := by
  unfold valT
  rw [Xp.printT_mk, if_pos rfl]
  have h1 := Sp.esc_le true v.data.toList
  have h2 : v.data.toList.length = v.size := Array.length_toList
  have h3 : (Xp.attrsP ([((⟨#[120]⟩ : ByteArray), v)].map Xp.pairD)).length = 5 + (Sp.esc true v.data.toList).length := by
    unfold Xp.attrsP
    rw [List.map_cons, List.map_nil, List.flatMap_cons, List.flatMap_nil, Xp.attrP_mk]
    simp only [List.length_cons, List.length_append, List.length_nil]
    show _ + 1 = _
    have : (#[120] : Array UInt8).toList.length = 1 := rfl
    omega
  simp only [List.length_cons, List.length_append, List.length_nil, h3]
  have : (#[97] : Array UInt8).toList.length = 1 := rfl
  omega
/-- The value of the one attribute that was read. -/
theorem val_read {w : World} {c0 c1 c2 c3 : Value} {v : ByteArray} {T' : Tr} (h : EIn w 12 c0 c1 c2 c3 T') (hs : Xp.sameT 12 (valT v) T') : ∃ (nm : ByteArray) (b o k1 : Nat) (a2 : Option Addr) (n2 k2 : Nat) (p : Int), c0 = .string nm ∧ c1 = .slice (some ⟨b, o, none⟩) 1 k1 ∧ c2 = .slice a2 n2 k2 ∧ c3 = .int .i64 p ∧ w.cell? ⟨b, o + 1, none⟩ = some (.string v) := by
  obtain ⟨nm, p, al, ks, rfl, rfl, rfl, _, ⟨ab, ao, ⟨aao, acap, rfl, haao⟩, _, hac⟩, kb, ko, ⟨kao, kcap, rfl, _⟩, _⟩ := h
  rw [Xp.sameT_succ] at hs
  have h2 := hs.2.1
  unfold valT at h2
  rw [Xp.as_mk, Xp.as_mk] at h2
  have h3 := Xp.pairs_inj h2
  subst h3
  have h4 := (hac 0 _ rfl).2
  exact ⟨nm, ab, ao, acap, kao, _, kcap, p, rfl, by rw [haao (Nat.zero_lt_succ _)]; rfl, rfl, rfl, h4⟩
/-- The element of the law, in memory. -/
theorem val_start (w : World) (v : ByteArray) (hv : v.size ≤ 60) : ∃ W, (w.alloc (.cells #[.string ⟨#[120]⟩, .string v] 35)).alloc (.cells #[.string ⟨#[97]⟩, .slice (some ⟨w.heap.size, 0, none⟩) 1 1, .slice none 0 0, .int .i64 0] 27) = W ∧ Below w.heap.size w W ∧ EIn W 12 (.string ⟨#[97]⟩) (.slice (some ⟨w.heap.size, 0, none⟩) 1 1) nilS (.int .i64 0) (valT v) := by
  refine ⟨_, rfl, ((Below.refl _ w).alloc (Nat.le_refl _) _).alloc (by simp) _, ?_⟩
  have l1 := Lies.new w 35 #[.string ⟨#[120]⟩, .string v]
  have l2 := l1.below ((Below.refl _ _).alloc (Nat.le_refl _) (.cells #[.string ⟨#[97]⟩, .slice (some ⟨w.heap.size, 0, none⟩) 1 1, .slice none 0 0, .int .i64 0] 27))
  refine ⟨⟨#[97]⟩, 0, [(⟨#[120]⟩, v)], [], rfl, rfl, rfl, by decide, ⟨w.heap.size, 0, ⟨_, _, rfl, fun _ => rfl⟩, ⟨by simp, ?_⟩, ?_⟩, 0, 0, ⟨none, 0, rfl, fun h => absurd h (by decide)⟩, by simp, fun i K hK => by simp at hK⟩
  · intro p hp
    rw [List.mem_singleton.1 hp]
    exact ⟨by show 1 ≤ _; decide, by show v.size ≤ _; omega⟩
  · intro i p hp
    have hi : i = 0 := by
      have := (List.getElem?_eq_some_iff.1 hp).1
      simp at this
      exact this
    subst hi
    simp only [List.getElem?_cons_zero, Option.some.injEq] at hp
    subst hp
    exact ⟨l2.cell 0, l2.cell 1⟩
set_option maxHeartbeats 2000000 in
set_option maxRecDepth 100000 in
theorem xmlValues_walk (v : ByteArray) (hv : v.size ≤ 1048576) (w : World) (hw : Ok w) :
    Calls Tryd.prog 4 #[.string v] w fun e w' => e = .returned (.bool true) ∧ Below w.heap.size w w' := by
  have HW := hideB hw
  clear hw
  obtain ⟨s, hs⟩ : ∃ s, Sp.signsB v.data.toList = s := ⟨_, rfl⟩
  have HS := hideB hs
  clear hs
  cases s
  case false =>
    go_enter Tryd.func4, Tryd.ntmps4
    go_wp2_with fail
    refine (signsU_v v w (by omega) HW.out false HS).mono ?_
    rintro e w1 ⟨rfl, b1⟩
    go_wp2_with fail
    go_ret
    exact ⟨rfl, b1⟩
  by_cases h60 : 60 < v.size
  · have t6 : (60 : Int) < (v.size : Int) := by omega
    go_enter Tryd.func4, Tryd.ntmps4
    go_wp2_with fail
    refine (signsU_v v w (by omega) HW.out true HS).mono ?_
    rintro e w1 ⟨rfl, b1⟩
    go_wp2_with fail
    go_ret
    exact ⟨rfl, b1⟩
  · have t6 : ¬ (60 : Int) < (v.size : Int) := by omega
    have hfair := val_fair v HS.out (by omega)
    have hlen := val_len v (by omega)
    obtain ⟨T', hT', hsm⟩ := Xp.parse_print (valT v) hfair (show 1 ≤ 400 by decide) (by omega)
    obtain ⟨t, ht⟩ : ∃ t : ByteArray, t = ⟨(Xp.printT 12 (valT v)).toArray⟩ := ⟨_, rfl⟩
    have HTT := hideB ht
    have hts : t.size ≤ 400 := by rw [ht]; show (Xp.printT 12 (valT v)).toArray.size ≤ 400; rw [List.size_toArray]; exact hlen
    have HP : Hid (Xp.parse t.data.toList = .ok T') := by
      show _ = _
      rw [ht]
      exact hT'
    have HSM := hideB hsm
    clear hfair hT' hsm ht
    go_enter Tryd.func4, Tryd.ntmps4
    go_wp2_with fail
    refine (signsU_v v w (by omega) HW.out true HS).mono ?_
    rintro e w1 ⟨rfl, b1⟩
    have B1 := hideB b1
    clear b1
    obtain ⟨W, hW, bW, eW⟩ := val_start w1 v (by omega)
    have HWq := hideB hW
    have BW := hideB bW
    have EW := hideB eW
    have B2 := hideB (B1.out.trans (bW.mono B1.out.size))
    clear hW bW eW
    go_wp2_with fail
    rw [HWq.out]
    refine (printD 12 W (.string ⟨#[97]⟩) (.slice (some ⟨w1.heap.size, 0, none⟩) 1 1) nilS (.int .i64 0) (valT v) EW.out (by omega) t HTT).mono ?_
    rintro e w2 ⟨rfl, b2⟩
    have B3 := hideB (B2.out.trans (b2.mono B2.out.size))
    clear b2
    go_wp2_with fail
    refine (parse_ok_v t w2 (by omega) (HW.out.below B3.out) T' HP).mono ?_
    rintro e w3 ⟨⟨c0, c1, c2, c3, rfl, h3⟩, b3⟩
    have B4 := hideB (B3.out.trans (b3.mono B3.out.size))
    obtain ⟨nm, b, o, k1, a2, n2, k2, p, rfl, rfl, rfl, rfl, hc⟩ := val_read h3 HSM.out
    obtain ⟨V, hV⟩ : ∃ V, w3.alloc (.cells #[.string nm, .slice (some ⟨b, o, none⟩) 1 k1, .slice a2 n2 k2, .int .i64 p] 27) = V := ⟨_, rfl⟩
    have BV : Hid (Below w3.heap.size w3 V) := by rw [← hV]; exact (Below.refl _ w3).alloc (Nat.le_refl _) _
    have HVq := hideB hV
    have g1 : (w3.alloc (.cells #[.string nm, .slice (some ⟨b, o, none⟩) 1 k1, .slice a2 n2 k2, .int .i64 p] 27)).cell? ⟨b, o + 1, none⟩ = some (.string v) := by
      rw [HVq.out, BV.out.cell (cell_lt hc)]
      exact hc
    have B5 := hideB (B4.out.trans (BV.out.mono B4.out.size))
    have tv : (v.toList == v.toList) = true := by simp
    clear b3 h3 hV hc
    go_wp2_with fail
    rw [HVq.out]
    refine (knownD V (HW.out.below B5.out)).mono ?_
    rintro e w4 ⟨rfl, b4⟩
    clear g1
    go_wp2_with fail
    go_ret
    exact ⟨rfl, B5.out.trans (b4.mono B5.out.size)⟩
end Go.Proofs.YtkcpaigogekimabDoor
