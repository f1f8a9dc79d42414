/-
  The program's Parse.
-/
import Derived.Test.YtimecocegnnjjaaDoorDElem2
set_option linter.unusedSimpArgs false
set_option linter.unusedVariables false
namespace Go.Proofs.YtimecocegnnjjaaDoor
open Go.RowKit
/-- The outermost element. -/
theorem elementTop (w : World) (b H : Nat) (s : ByteArray) (p : Nat) (hs : s.size ≤ 1000000) (hp : p ≤ s.size) (hw : Ok w) (hoff : Off b) (hO : ∀ k, H ≤ k → Off k) (hH : H ≤ w.heap.size) (o0 o1 o2 o3 : Value)
    (h : PIn w b s p 0 ⟨nilS, 0, o0, o1, o2, o3⟩) :
    Calls Tryd.prog 16 #[ptr b] w (Told
      (fun w' => ∃ (T : Tr) (k n' : Nat) (vo' c0 c1 c2 c3 : Value), Xp.elem 12 s.data.toList p 0 = .ok (T, k, n') ∧ Keep (· = b) w w' ∧ PIn w' b s k 0 ⟨vo', n', c0, c1, c2, c3⟩ ∧ EInR w' (fun i => w.heap.size ≤ i ∧ i < w'.heap.size) 12 c0 c1 c2 c3 T)
      (fun w' => ∃ q e : Nat, Xp.elem 12 s.data.toList p 0 = .error (q, e) ∧ Keep (· = b) w w' ∧ ∃ R', PIn w' b s q e R')) := by
  have hbl : b < w.heap.size := Lies.lt h
  refine elementD_of w b _ _ ?_
  have bW : Below w.heap.size w (w.alloc (.cells (parts4 b) 60)) := (Below.refl _ w).alloc (Nat.le_refl _) _
  have lW := Lies.new w 60 (parts4 b)
  obtain ⟨W, hW⟩ : ∃ W, w.alloc (.cells (parts4 b) 60) = W := ⟨_, rfl⟩
  rw [hW] at bW lW ⊢
  clear hW
  have hzW := bW.size
  have pW := h.below bW
  have hS : ∀ i, SA b nilS nilS i → i = b := by
    rintro i (e | e | e)
    · exact e
    · cases e
    · cases e
  refine (parts_elem 11 (elemIn_all 11) w W b H w.heap.size s p 0 nilS o0 o1 o2 o3 []
    (fun w'' T k n' => ∃ (vo' c0 c1 c2 c3 : Value), Keep (· = b) w w'' ∧ PIn w'' b s k 0 ⟨vo', n', c0, c1, c2, c3⟩ ∧ EInR w'' (fun i => w.heap.size ≤ i ∧ i < w''.heap.size) 12 c0 c1 c2 c3 T)
    hs hp rfl (by decide) (hw.below bW) hoff hO (by omega) pW (World.ownsRow_nil _ _ _ _) lW (by omega) (fun e => by cases e) ?_).mono ?_
  · intro w3 vo3 av nm l k3 g3 hav hnm w' k n' ks vo' kv' k' p' o' a' r' gv' gk' ap' hks hn' hkn
    obtain ⟨iqs, io, iq, ie⟩ := r'
    have z3 := k3.size
    have z' := k'.size
    obtain ⟨a1, c1, hav1⟩ := own_form a'.1
    obtain ⟨a2, c2, hkv2⟩ := own_form io
    have o'' : w'.ownsRow H 25 4 vo' 1 (flatE [(.string nm, av, kv', .int .i64 p)]) := o'
    rw [hav1, hkv2] at o''
    refine (shut_last w' b H s nm k vo' n' p o0 o1 o2 o3 a1 a2 _ c1 _ c2 p' o'').mono ?_
    rintro d w'' ⟨rfl, k4, vo'', p4, _, _⟩
    have z4 := k4.size
    refine ⟨rfl, vo'', .string nm, av, kv', .int .i64 p, ?_, by rw [hav1, hkv2]; exact p4, ?_⟩
    · have e1 : Keep (· = b) w w3 := (Keep.of_below bW).on k3 (fun i hi e => hS i e)
      have e2 : Keep (· = b) w w' := e1.on k' (fun i hi e => hS i (SA_grew ((Grew.refl w nilS).trans hzW g3) (Grew.refl w nilS) i hi e))
      exact e2.trans k4
    · have kvf : ∀ g, kv'.ownBlock = some g → w3.heap.size ≤ g := by
        intro g hg
        rcases gk' with e | ⟨g', e, hg'⟩
        · rw [e] at hg; cases hg
        · rw [e] at hg; have := Option.some.inj hg; omega
      have a4 : AOwn w'' H av l := a'.keep (fun g hg => k4.block g (own_lt a'.1 hg).1 (fun e => by have := hav g hg; omega))
      have r4 : KRow w'' H (fun i => w.heap.size ≤ i ∧ i < w''.heap.size) 11 kv' ks := KRow.turn ⟨iqs, io, iq, ie⟩ (fun g hg => k4.block g (own_lt io hg).1 (fun e => by have := kvf g hg; omega)) (fun i hi => k4.block i hi.2.1 (fun e => by have := hi.1; omega)) (fun i hi => ⟨by have := hi.1; omega, by have := hi.2.1; omega⟩)
      refine tree_of hnm a4 r4 ?_ ?_ (by omega)
      · intro g hg
        exact ⟨by have := hav g hg; omega, (own_lt a4.1 hg).1⟩
      · intro g hg
        have h1 := kvf g hg
        have h2 := (own_lt io hg).1
        exact ⟨by omega, by omega⟩
  · rintro d w' (⟨rfl, T, k, n', e, vo', c0, c1, c2, c3, h1, h2, h3⟩ | ⟨rfl, q, e, e1, k1, R', p1⟩)
    · exact .inl ⟨rfl, T, k, n', vo', c0, c1, c2, c3, e, h1, h2, h3⟩
    · exact .inr ⟨rfl, q, e, e1, (Keep.of_below bW).on k1 (fun i hi e => hS i e), R', p1⟩
theorem enterAr : Enters Tryd.prog 15 := enters_of Tryd.func15 (by kernel_rfl) rfl
theorem enterEn : Enters Tryd.prog 17 := enters_of Tryd.func17 (by kernel_rfl) rfl
def partsP (b : Nat) : Array Value := #[meth 15 (ptr b), meth 16 (ptr b), meth 15 (ptr b), meth 17 (ptr b)]
/-- The four parts of a text. -/
theorem parts_text (w : World) (b H gs : Nat) (s : ByteArray) (hs : s.size ≤ 8000) (hw : Ok w) (hoff : Off b) (hO : ∀ k, H ≤ k → Off k) (hH : H ≤ w.heap.size) (o0 o1 o2 o3 : Value)
    (h : PIn w b s 0 0 ⟨nilS, 0, o0, o1, o2, o3⟩) (hgs : Lies w gs 60 (partsP b)) (hgb : gs ≠ b) :
    Calls Tryd.prog 14 #[ptr b, .slice (some ⟨gs, 0, none⟩) 4 4] w (Told
      (fun w' => ∃ (T : Tr) (vo' c0 c1 c2 c3 : Value) (n' : Nat), Xp.parse s.data.toList = .ok T ∧ Keep (· = b) w w' ∧ PIn w' b s s.size 0 ⟨vo', n', c0, c1, c2, c3⟩ ∧ EInR w' (fun i => w.heap.size ≤ i ∧ i < w'.heap.size) 12 c0 c1 c2 c3 T)
      (fun w' => ∃ q e : Nat, Xp.parse s.data.toList = .error (q, e) ∧ Keep (· = b) w w' ∧ ∃ R', PIn w' b s q e R')) := by
  have hL' : s.data.toList.length = s.size := Array.length_toList
  have hbl : b < w.heap.size := Lies.lt h
  have hpar : Xp.parse s.data.toList = (match Xp.misc s.data.toList 0 with
    | .error q => .error (q, 2)
    | .ok p => match Xp.elem 12 s.data.toList p 0 with
      | .error e => .error e
      | .ok (T, k, n) => match Xp.misc s.data.toList k with
        | .error q => .error (q, 2)
        | .ok j => if j < s.data.toList.length then .error (j, 2) else .ok T) := by
    unfold Xp.parse
    rw [if_neg (by rw [hL']; omega)]
    try rfl
  have hoks : ∀ w' : World, Keep (· = b) w w' → Ok w' := fun w' k => hw.keep k (fun i hi => by rw [hi]; exact hoff)
  refine inTurn4 (ptr b) (ptr b) gs 4 _ _ _ _ (partsP b) 60 rfl (fun w' => w' = w)
    (fun w' => ∃ p : Nat, Xp.misc s.data.toList 0 = .ok p ∧ p ≤ s.size ∧ Keep (· = b) w w' ∧ PIn w' b s p 0 ⟨nilS, 0, o0, o1, o2, o3⟩)
    (fun w' => ∃ (p k n' : Nat) (T : Tr) (vo' c0 c1 c2 c3 : Value), Xp.misc s.data.toList 0 = .ok p ∧ Xp.elem 12 s.data.toList p 0 = .ok (T, k, n') ∧ k ≤ s.size ∧ Keep (· = b) w w' ∧ PIn w' b s k 0 ⟨vo', n', c0, c1, c2, c3⟩ ∧ EInR w' (fun i => w.heap.size ≤ i ∧ i < w'.heap.size) 12 c0 c1 c2 c3 T)
    (fun w' => ∃ (p k n' j : Nat) (T : Tr) (vo' c0 c1 c2 c3 : Value), Xp.misc s.data.toList 0 = .ok p ∧ Xp.elem 12 s.data.toList p 0 = .ok (T, k, n') ∧ Xp.misc s.data.toList k = .ok j ∧ j ≤ s.size ∧ Keep (· = b) w w' ∧ PIn w' b s j 0 ⟨vo', n', c0, c1, c2, c3⟩ ∧ EInR w' (fun i => w.heap.size ≤ i ∧ i < w'.heap.size) 12 c0 c1 c2 c3 T)
    _ _ enterAr enterE enterAr enterEn ?_ ?_ ?_ ?_ w hgs rfl
  · rintro w' hl rfl
    refine (aroundD w' b s 0 _ (by omega) (Nat.zero_le _) hw hoff h).mono ?_
    rintro d w1 (⟨rfl, k1, p, _, hp, p1, e1⟩ | ⟨rfl, k1, q, p1, e1⟩)
    · exact .inl ⟨rfl, hl.keep k1 hgb, p, e1, hp, k1, p1⟩
    · refine .inr ⟨rfl, q, 2, ?_, k1, _, p1⟩
      rw [hpar, e1]
  · rintro w1 hl ⟨p, e1, hp, k1, p1⟩
    refine (elementTop w1 b H s p (by omega) hp (hoks w1 k1) hoff hO (by have := k1.size; omega) o0 o1 o2 o3 p1).mono ?_
    rintro d w2 (⟨rfl, T, k, n', vo', c0, c1, c2, c3, e2, k2, p2, t2⟩ | ⟨rfl, q, e, e2, k2, R', p2⟩)
    · have hg := Xp.elem_goes s.data.toList 12 p 0 T k n' (by rw [hL']; exact hp) e2
      refine .inl ⟨rfl, hl.keep k2 hgb, p, k, n', T, vo', c0, c1, c2, c3, e1, e2, by rw [hL'] at hg; exact hg.2.1, k1.trans k2, p2, EInR.turn (fun _ _ => rfl) (fun i hi => ⟨by have := hi.1; have := k1.size; omega, hi.2⟩) t2⟩
    · refine .inr ⟨rfl, q, e, ?_, k1.trans k2, R', p2⟩
      rw [hpar, e1]
      dsimp only
      rw [e2]
  · rintro w1 hl ⟨p, k, n', T, vo', c0, c1, c2, c3, e1, e2, hk, k1, p1, t1⟩
    refine (aroundD w1 b s k _ (by omega) hk (hoks w1 k1) hoff p1).mono ?_
    rintro d w2 (⟨rfl, k2, j, _, hj, p2, e3⟩ | ⟨rfl, k2, q, p2, e3⟩)
    · exact .inl ⟨rfl, hl.keep k2 hgb, p, k, n', j, T, vo', c0, c1, c2, c3, e1, e2, e3, hj, k1.trans k2, p2, EInR.turn (fun i hi => k2.block i hi.2 (fun e => by have := hi.1; omega)) (fun i hi => ⟨hi.1, by have := hi.2; have := k2.size; omega⟩) t1⟩
    · refine .inr ⟨rfl, q, 2, ?_, k1.trans k2, _, p2⟩
      rw [hpar, e1]
      dsimp only
      rw [e2]
      dsimp only
      rw [e3]
  · rintro w1 hl ⟨p, k, n', j, T, vo', c0, c1, c2, c3, e1, e2, e3, hj, k1, p1, t1⟩
    refine (endD w1 b s j 0 _ (by omega) hj p1).mono ?_
    rintro d w2 ⟨rfl, p2, k2⟩
    by_cases hjs : j = s.size
    · subst hjs
      refine .inl ⟨by simp, T, vo', c0, c1, c2, c3, n', ?_, k1.trans k2, by simpa using p2, EInR.turn (fun i hi => k2.block i hi.2 (fun e => by have := hi.1; omega)) (fun i hi => ⟨hi.1, by have := hi.2; have := k2.size; omega⟩) t1⟩
      rw [hpar, e1]
      dsimp only
      rw [e2]
      dsimp only
      rw [e3]
      dsimp only
      rw [if_neg (by omega)]
    · refine .inr ⟨by simp [hjs], j, 2, ?_, k1.trans k2, _, by simpa [hjs] using p2⟩
      rw [hpar, e1]
      dsimp only
      rw [e2]
      dsimp only
      rw [e3]
      dsimp only
      rw [if_pos (by omega)]
theorem Ok.off {w : World} (h : Ok w) : ∀ k, w.heap.size ≤ k → Off k := by
  obtain ⟨⟨h1, h2⟩, m, h3⟩ := h
  have a1 := cell_lt (h1 0 (by decide))
  have a2 := cell_lt (h2 0 (by decide)).1
  have a3 := cell_lt h3
  intro k hk
  exact ⟨fun e => by rw [e] at hk; exact absurd a1 (Nat.not_lt.2 hk), fun e => by rw [e] at hk; exact absurd a2 (Nat.not_lt.2 hk), fun e => by rw [e] at hk; exact absurd a3 (Nat.not_lt.2 hk)⟩
/-- What Parse answers, as the document reads the text. -/
def ParseTold (s : ByteArray) (e : Ending) (w' : World) : Prop :=
  (∀ q er : Nat, Xp.parse s.data.toList = .error (q, er) → e = .returned (.tuple #[.agg #[.string ⟨#[]⟩, nilS, nilS, .int .i64 0], .int .i64 q, .int .i64 er])) ∧
  (∀ T : Tr, Xp.parse s.data.toList = .ok T → ∃ c0 c1 c2 c3, e = .returned (.tuple #[.agg #[c0, c1, c2, c3], .int .i64 s.size, .int .i64 0]) ∧ EIn w' 12 c0 c1 c2 c3 T)
abbrev zeroE : Array Value := #[.string ⟨#[]⟩, nilS, nilS, .int .i64 0]
/-- The world in which the parser begins. -/
theorem parse_start (w : World) (s : ByteArray) : ∃ W, ((w.alloc (.cells #[.string ⟨#[]⟩, .slice none 0 0, .slice none 0 0, .int .i64 0] 25)).alloc (.cells #[.string s, .int .i64 0, .int .i64 0, .slice none 0 0, .int .i64 0, .string ⟨#[]⟩, .slice none 0 0, .slice none 0 0, .int .i64 0] 46)).alloc (.cells (partsP (w.heap.size + 1)) 60) = W ∧
    Below w.heap.size w W ∧ W.heap.size = w.heap.size + 3 ∧ Lies W w.heap.size 25 zeroE ∧ PIn W (w.heap.size + 1) s 0 0 ⟨nilS, 0, .string ⟨#[]⟩, nilS, nilS, .int .i64 0⟩ ∧ Lies W (w.heap.size + 1 + 1) 60 (partsP (w.heap.size + 1)) := by
  have b1 : Below w.heap.size w (w.alloc (.cells zeroE 25)) := (Below.refl _ w).alloc (Nat.le_refl _) _
  have l1 := Lies.new w 25 zeroE
  have z1 : (w.alloc (.cells zeroE 25)).heap.size = w.heap.size + 1 := by simp
  obtain ⟨w1, h1⟩ : ∃ w1, w.alloc (.cells zeroE 25) = w1 := ⟨_, rfl⟩
  rw [h1] at b1 l1 z1
  have b2 : Below w1.heap.size w1 (w1.alloc (.cells #[.string s, .int .i64 0, .int .i64 0, .slice none 0 0, .int .i64 0, .string ⟨#[]⟩, .slice none 0 0, .slice none 0 0, .int .i64 0] 46)) := (Below.refl _ w1).alloc (Nat.le_refl _) _
  have l2 := Lies.new w1 46 #[.string s, .int .i64 0, .int .i64 0, .slice none 0 0, .int .i64 0, .string ⟨#[]⟩, .slice none 0 0, .slice none 0 0, .int .i64 0]
  have z2 : (w1.alloc (.cells #[.string s, .int .i64 0, .int .i64 0, .slice none 0 0, .int .i64 0, .string ⟨#[]⟩, .slice none 0 0, .slice none 0 0, .int .i64 0] 46)).heap.size = w1.heap.size + 1 := by simp
  obtain ⟨w2, h2⟩ : ∃ w2, w1.alloc (.cells #[.string s, .int .i64 0, .int .i64 0, .slice none 0 0, .int .i64 0, .string ⟨#[]⟩, .slice none 0 0, .slice none 0 0, .int .i64 0] 46) = w2 := ⟨_, rfl⟩
  rw [h2] at b2 l2 z2
  have b3 : Below w2.heap.size w2 (w2.alloc (.cells (partsP (w.heap.size + 1)) 60)) := (Below.refl _ w2).alloc (Nat.le_refl _) _
  have l3 := Lies.new w2 60 (partsP (w.heap.size + 1))
  have z3 : (w2.alloc (.cells (partsP (w.heap.size + 1)) 60)).heap.size = w2.heap.size + 1 := by simp
  have hh : w1 = w.alloc (.cells #[.string ⟨#[]⟩, .slice none 0 0, .slice none 0 0, .int .i64 0] 25) := h1.symm
  rw [← hh, h2]
  refine ⟨_, rfl, ?_, by omega, ?_, ?_, ?_⟩
  · exact b1.trans ((b2.trans (b3.mono (by omega))).mono (by omega))
  · exact (l1.below b2).below b3
  · rw [z1] at l2
    exact l2.below b3
  · rw [z2, z1] at l3
    exact l3
set_option maxHeartbeats 2000000 in
theorem parseD (s : ByteArray) (w : World) (hs : s.size ≤ 1000000) (hw : Ok w) :
    Calls Tryd.prog 7 #[.string s] w fun e w' => ParseTold s e w' ∧ Below w.heap.size w w' := by
  have HWW := hideT hw
  have HL := hideT (show s.data.toList.length = s.size from Array.length_toList)
  clear hw
  by_cases hl : 8000 < s.size
  · have HE : Hid (Xp.parse s.data.toList = .error (0, 3)) := by
      show _ = _
      unfold Xp.parse
      rw [if_pos (by rw [HL.out]; exact hl)]
    go_enter Tryd.func7, Tryd.ntmps7
    go_wp2_with fail
    refine bodyPost_ret (v := .tuple #[.agg #[.string ⟨#[]⟩, .slice none 0 0, .slice none 0 0, .int .i64 0], .int .i64 0, .int .i64 3]) (by simp [results, Tryd.results7, go_sem]) rfl ⟨⟨fun q er h => ?_, fun T h => ?_⟩, (Below.refl _ w).alloc (Nat.le_refl _) _⟩
    · have := HE.out.symm.trans h
      simp only [Except.error.injEq, Prod.mk.injEq] at this
      obtain ⟨rfl, rfl⟩ := this
      rfl
    · have := HE.out.symm.trans h
      cases this
  · have hmf : ∀ (fn : Fn) (first cap : Array Value) (w : World), (Instr.makeFunc fn first cap).run Tryd.prog w = .ok (.func fn first cap) w := fun _ _ _ _ => rfl
    obtain ⟨W, hW, bW, zW, lr, lp, lg⟩ := parse_start w s
    have HOf := hideT HWW.out.off
    have C := hideT (parts_text W (w.heap.size + 1) w.heap.size (w.heap.size + 1 + 1) s (by omega) (HWW.out.below bW) (HOf.out _ (by omega)) HOf.out (by omega) _ _ _ _ lp lg (by omega))
    have HWq := hideT hW
    have LR := hideT lr
    have BW := hideT bW
    clear hW bW lr lp lg
    go_enter Tryd.func7, Tryd.ntmps7
    go_wp2_with fail
    rw [show (((w.alloc (.cells #[.string ⟨#[]⟩, .slice none 0 0, .slice none 0 0, .int .i64 0] 25)).alloc (.cells #[.string s, .int .i64 0, .int .i64 0, .slice none 0 0, .int .i64 0, .string ⟨#[]⟩, .slice none 0 0, .slice none 0 0, .int .i64 0] 46)).alloc (.cells #[.func (.func 15) #[.pointer (some ⟨w.heap.size + 1, 0, none⟩)] #[], .func (.func 16) #[.pointer (some ⟨w.heap.size + 1, 0, none⟩)] #[], .func (.func 15) #[.pointer (some ⟨w.heap.size + 1, 0, none⟩)] #[], .func (.func 17) #[.pointer (some ⟨w.heap.size + 1, 0, none⟩)] #[]] 60)) = W from HWq.out]
    refine C.out.mono ?_
    rintro d w5 (⟨rfl, T, vo', c0, c1, c2, c3, n', hT, k5, p5, t5⟩ | ⟨rfl, q, e, hE, k5, R', p5⟩)
    · have T5 := hideT t5
      obtain ⟨nm, pp, al, ks, rfl, rfl, hTT, hnm, ⟨ab, ao, ⟨aao, acap, rfl, _⟩, _⟩, kb, ko, ⟨kao, kcap, rfl, _⟩, _⟩ := t5
      have HT := hideT hT
      have K5 := hideT k5
      have P5 := hideT p5
      have L5 := hideT (LR.out.keep k5 (by omega))
      have B5 : Hid (Below w.heap.size w w5) := k5.below BW.out (fun i hi e => by omega)
      have x5 : w5.cell? ⟨w.heap.size + 1, 5, none⟩ = some (.string nm) := p5.cell 5
      have x6 : w5.cell? ⟨w.heap.size + 1, 6, none⟩ = some (.slice aao al.length acap) := p5.cell 6
      have x7 : w5.cell? ⟨w.heap.size + 1, 7, none⟩ = some (.slice kao ks.length kcap) := p5.cell 7
      have x8 : w5.cell? ⟨w.heap.size + 1, 8, none⟩ = some (.int .i64 pp) := p5.cell 8
      have r0 : w5.cell? ⟨w.heap.size, 0, none⟩ = some (.string ⟨#[]⟩) := L5.out.cell 0
      have r1 : w5.cell? ⟨w.heap.size, 1, none⟩ = some nilS := L5.out.cell 1
      have r2 : w5.cell? ⟨w.heap.size, 2, none⟩ = some nilS := L5.out.cell 2
      have r3 : w5.cell? ⟨w.heap.size, 3, none⟩ = some (.int .i64 0) := L5.out.cell 3
      have f0 : w5.frozen? ⟨w.heap.size, 0, none⟩ = false := L5.out.free 0
      have f1 : w5.frozen? ⟨w.heap.size, 1, none⟩ = false := L5.out.free 1
      have f2 : w5.frozen? ⟨w.heap.size, 2, none⟩ = false := L5.out.free 2
      have f3 : w5.frozen? ⟨w.heap.size, 3, none⟩ = false := L5.out.free 3
      clear hT k5 p5 hTT hnm
      go_wp2_with fail
      refine bodyPost_ret (v := .tuple #[.agg #[.string nm, .slice aao al.length acap, .slice kao ks.length kcap, .int .i64 pp], .int .i64 s.size, .int .i64 0]) (by simp [results, Tryd.results7, go_sem, r0, r1, r2, r3]) rfl ⟨⟨fun q' er h => ?_, fun T' h => ?_⟩, (((B5.out.setCell (Nat.le_refl _) _).setCell (Nat.le_refl _) _).setCell (Nat.le_refl _) _).setCell (Nat.le_refl _) _⟩
      · have := HT.out.symm.trans h
        cases this
      · have := HT.out.symm.trans h
        obtain rfl : T = T' := by injection this
        refine ⟨_, _, _, _, rfl, EInR.toEIn (R := fun i => W.heap.size ≤ i ∧ i < w5.heap.size) (EInR.turn (fun i hi => (put4_keep w5 w.heap.size 0 (.string nm) (.slice aao al.length acap) (.slice kao ks.length kcap) (.int .i64 pp)).block i hi.2 (fun e => by have := hi.1; omega)) (fun i hi => hi) T5.out)⟩
    · have HE := hideT hE
      have K5 := hideT k5
      have P5 := hideT p5
      have L5 := hideT (LR.out.keep k5 (by omega))
      have B5 : Hid (Below w.heap.size w w5) := k5.below BW.out (fun i hi e => by omega)
      have x1 : w5.cell? ⟨w.heap.size + 1, 1, none⟩ = some (.int .i64 q) := p5.cell 1
      have x2 : w5.cell? ⟨w.heap.size + 1, 2, none⟩ = some (.int .i64 e) := p5.cell 2
      have r0 : w5.cell? ⟨w.heap.size, 0, none⟩ = some (.string ⟨#[]⟩) := L5.out.cell 0
      have r1 : w5.cell? ⟨w.heap.size, 1, none⟩ = some nilS := L5.out.cell 1
      have r2 : w5.cell? ⟨w.heap.size, 2, none⟩ = some nilS := L5.out.cell 2
      have r3 : w5.cell? ⟨w.heap.size, 3, none⟩ = some (.int .i64 0) := L5.out.cell 3
      have f0 : w5.frozen? ⟨w.heap.size, 0, none⟩ = false := L5.out.free 0
      have f1 : w5.frozen? ⟨w.heap.size, 1, none⟩ = false := L5.out.free 1
      have f2 : w5.frozen? ⟨w.heap.size, 2, none⟩ = false := L5.out.free 2
      have f3 : w5.frozen? ⟨w.heap.size, 3, none⟩ = false := L5.out.free 3
      clear hE k5 p5
      go_wp2_with fail
      go_region
      all_goals go_wp2_with fail
      all_goals refine bodyPost_ret (v := .tuple #[.agg #[.string ⟨#[]⟩, .slice none 0 0, .slice none 0 0, .int .i64 0], .int .i64 q, .int .i64 e]) (by simp [results, Tryd.results7, go_sem, r0, r1, r2, r3]) rfl ⟨⟨fun q' er h => ?_, fun T h => ?_⟩, ?_⟩
      all_goals first
        | (have := HE.out.symm.trans h
           simp only [Except.error.injEq, Prod.mk.injEq] at this
           obtain ⟨rfl, rfl⟩ := this
           rfl)
        | (have := HE.out.symm.trans h
           cases this)
        | exact ((((B5.out.setCell (Nat.le_refl _) _).setCell (Nat.le_refl _) _).setCell (Nat.le_refl _) _).setCell (Nat.le_refl _) _).drew
end Go.Proofs.YtimecocegnnjjaaDoor
