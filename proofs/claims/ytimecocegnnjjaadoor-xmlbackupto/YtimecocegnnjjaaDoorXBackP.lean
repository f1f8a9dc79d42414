/-
  XmlBack's plain side: lengths, storeys, sameness both ways.
-/
import Derived.Test.YtimecocegnnjjaaDoorXFairP
import Derived.Test.YtimecocegnnjjaaDoorRefSame
import Derived.Test.YtimecocegnnjjaaDoorDPrint
set_option linter.unusedVariables false
namespace Go.Proofs.YtimecocegnnjjaaDoor
open Go.RowKit
theorem Sp.qual_len {l : List UInt8} (h : Sp.qualB l = true) : l.length ≤ 25 := by
  unfold Sp.qualB at h
  split at h
  · rw [Bool.and_eq_true] at h
    have h1 := h.1
    have h2 := h.2
    unfold Sp.isB at h1 h2
    simp only [Bool.and_eq_true, decide_eq_true_eq] at h1 h2
    have e1 := h1.1.1.2
    have e2 := h2.1.1.2
    rw [List.length_take] at e1
    rw [List.length_drop] at e2
    omega
  · unfold Sp.isB at h
    simp only [Bool.and_eq_true, decide_eq_true_eq] at h
    have := h.1.1.2
    omega
namespace Xp
theorem attrs_len : ∀ (l : List Att), (∀ a ∈ l, Sp.qualB a.1.data.toList = true ∧ Sp.signsB a.2.data.toList = true ∧ a.2.data.toList.length ≤ 60) → (attrsP (l.map pairD)).length ≤ 389 * l.length
  | [], _ => by simp [attrsP]
  | a :: l, h => by
    have ih := attrs_len l (fun b hb => h b (List.mem_cons_of_mem _ hb))
    obtain ⟨h1, _, h3⟩ := h a List.mem_cons_self
    have h4 := Sp.qual_len h1
    have h5 := Sp.esc_le true a.2.data.toList
    have e : attrsP ((a :: l).map pairD) = attrP (pairD a) ++ attrsP (l.map pairD) := rfl
    rw [e, attrP_mk]
    simp only [List.length_append, List.length_cons, List.length_nil] at *
    omega
theorem kids_len {f : Tr → List UInt8} {g : Tr → Nat} : ∀ (ks : List Tr), (∀ K ∈ ks, (f K).length ≤ 3300 * g K) → (ks.flatMap f).length ≤ 3300 * (ks.map g).sum
  | [], _ => by simp
  | K :: ks, h => by
    have ih := kids_len ks (fun b hb => h b (List.mem_cons_of_mem _ hb))
    have h1 := h K List.mem_cons_self
    rw [List.flatMap_cons, List.length_append, List.map_cons, List.sum_cons]
    omega
theorem print_len : ∀ (m : Nat) (T : Tr), fairT m T → (printT m T).length ≤ 3300 * cntT m T
  | 0, T, h => h.elim
  | m + 1, T, h => by
    obtain ⟨nm, l, ks, p, rfl, h1, h2, h3, h4, h5⟩ := h
    have e1 := Sp.qual_len h1
    have e2 := attrs_len l h3
    have e3 := kids_len (f := printT m) (g := cntT m) ks (fun K hK => print_len m K (h5 K hK))
    rw [printT_mk, cnt_mk]
    by_cases hk : ks = []
    · rw [if_pos hk]
      simp only [List.length_append, List.length_cons, List.length_nil]
      omega
    · rw [if_neg hk]
      simp only [List.length_append, List.length_cons, List.length_nil]
      omega
theorem same_flip : ∀ (n : Nat) (a b : Tr), sameT n a b → sameT n b a
  | 0, _, _, _ => trivial
  | n + 1, a, b, h => by
    rw [sameT_succ] at h ⊢
    exact ⟨h.1.symm, h.2.1.symm, h.2.2.1.symm, fun i x y hx hy => same_flip n y x (h.2.2.2 i y x hy hx)⟩
theorem parse_over {s : List UInt8} (h : 8000 < s.length) : parse s = .error (0, 3) := by unfold parse; rw [if_pos h]
end Xp
/-- No more storeys than what may be written has. -/
theorem EIn.fair {w : World} : ∀ (m n : Nat) {c0 c1 c2 c3 : Value} {T : Tr}, EIn w n c0 c1 c2 c3 T → Xp.fairT m T → EIn w m c0 c1 c2 c3 T
  | 0, _, _, _, _, _, _, _, hf => hf.elim
  | m + 1, 0, _, _, _, _, _, h, _ => h.elim
  | m + 1, n + 1, c0, c1, c2, c3, T, h, hf => by
    obtain ⟨nm, p, l, ks, h0, h3, hT, hs, ha, b, o, hr, hkl, hk⟩ := h
    obtain ⟨nm', l', ks', p', hT', _, _, _, _, hks⟩ := hf
    obtain ⟨_, _, e, _⟩ := Xp.mkT_inj (hT.symm.trans hT')
    subst e
    refine ⟨nm, p, l, ks, h0, h3, hT, hs, ha, b, o, hr, hkl, fun i K hK => ?_⟩
    obtain ⟨d0, d1, d2, d3, hF, hE⟩ := hk i K hK
    exact ⟨d0, d1, d2, d3, hF, EIn.fair m n hE (hks K (List.mem_of_getElem? hK))⟩
theorem EIn.more {w : World} {n : Nat} (m : Nat) {c0 c1 c2 c3 : Value} {T : Tr} (h : EIn w n c0 c1 c2 c3 T) : EIn w (n + m) c0 c1 c2 c3 T := by
  induction m with
  | zero => exact h
  | succ m ih => exact EIn.succ ih
theorem same_true (n : Nat) (w : World) (c0 c1 c2 c3 d0 d1 d2 d3 : Value) (T U : Tr) (h : EIn w n c0 c1 c2 c3 T) (h' : EIn w n d0 d1 d2 d3 U) (hs : Xp.sameT n T U) :
    Calls Tryd.prog 9 #[.agg #[c0, c1, c2, c3], .agg #[d0, d1, d2, d3]] w fun e w' => e = .returned (.bool true) ∧ Below w.heap.size w w' :=
  (same_ref n w c0 c1 c2 c3 d0 d1 d2 d3 T U h h').mono fun e w' ⟨⟨b, h1, h2⟩, h3⟩ => ⟨by rw [h1, h2.2 hs], h3⟩
theorem heavy_v (n : Nat) (w : World) (c0 c1 c2 c3 : Value) (T : Tr) (X : Int) (h : EIn w n c0 c1 c2 c3 T) (hX : Hid (Xp.heavyT n T 200 = X)) :
    Calls Tryd.prog 4 #[.agg #[c0, c1, c2, c3], .int .i64 200] w fun e w' => e = .returned (.int .i64 X) ∧ Below w.heap.size w w' :=
  (heavy_law n w c0 c1 c2 c3 T 200 h (by omega) (by omega)).mono fun e w' ⟨⟨y, h1, h2, _⟩, h3⟩ => ⟨by rw [h1, h2, hX.out], h3⟩
end Go.Proofs.YtimecocegnnjjaaDoor
