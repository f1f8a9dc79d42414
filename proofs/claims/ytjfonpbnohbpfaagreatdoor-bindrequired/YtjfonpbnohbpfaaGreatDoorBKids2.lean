/-
  The program's kids, over whatever parts the table names.
-/
import Derived.Test.YtjfonpbnohbpfaaGreatDoorBKids
set_option linter.unusedSimpArgs false
set_option linter.unusedVariables false
namespace Go.Proofs.YtjfonpbnohbpfaaGreatDoor
open Go.RowKit
set_option maxRecDepth 100000
theorem tab_tq {w w' : World} {Q Q' : Nat → Prop} {v : Value} {tab : List Ent} (h : RowQ 3 tabR w Q v tab) (t : TQ w Q w' Q') : RowQ 3 tabR w' Q' v tab := h.turn (fun _ _ _ hh => hh) t.keep
theorem NInR.five {w : World} {R : Nat → Prop} {n : Nat} {c0 c1 c2 c3 c4 : Value} {T : Tr} (h : NInR w R n c0 c1 c2 c3 c4 T) : ∃ sp lo a2 n2 m2 a3 n3 m3 p, c0 = .string sp ∧ c1 = .string lo ∧ c2 = .slice a2 n2 m2 ∧ c3 = .slice a3 n3 m3 ∧ c4 = .int .i64 p ∧ Bp.spT T = sp ∧ Bp.loT T = lo ∧ Bp.apT T = p := by
  cases n with
  | zero => exact h.elim
  | succ n =>
    obtain ⟨sp, lo, p, l, ks, h0, h1, h4, hT, ⟨_, _, ⟨a2, m2, h2, _⟩, _⟩, _, _, ⟨a3, m3, h3, _⟩, _⟩ := h
    subst hT
    exact ⟨sp, lo, a2, _, m2, a3, _, m3, p, h0, h1, h2, h3, h4, Bp.spT_mk _ _ _ _ _, Bp.loT_mk _ _ _ _ _, rfl⟩
theorem NInR.kid {w : World} {R : Nat → Prop} {n : Nat} {c0 c1 c2 c3 c4 : Value} {T : Tr} (h : NInR w R (n + 1) c0 c1 c2 c3 c4 T) : ∃ a cap b o, c3 = .slice a (Bp.klT T).length cap ∧ (0 < (Bp.klT T).length → a = some ⟨b, o, none⟩) ∧ (Bp.klT T).length ≤ 1000000000000 ∧ ∀ (i : Nat) K, (Bp.klT T)[i]? = some K → ∃ d0 d1 d2 d3 d4, NInR w R n d0 d1 d2 d3 d4 K ∧ w.cell? ⟨b, o + i * 5, none⟩ = some d0 ∧ w.cell? ⟨b, o + i * 5 + 1, none⟩ = some d1 ∧ w.cell? ⟨b, o + i * 5 + 2, none⟩ = some d2 ∧ w.cell? ⟨b, o + i * 5 + 3, none⟩ = some d3 ∧ w.cell? ⟨b, o + i * 5 + 4, none⟩ = some d4 := by
  obtain ⟨sp, lo, p, l, ks, h0, h1, h4, rfl, _, b, o, ⟨a, cap, h3, ha⟩, _, hl, hk⟩ := h
  refine ⟨a, cap, b, o, h3, ha, hl, fun i K hK => ?_⟩
  obtain ⟨d0, d1, d2, d3, d4, ⟨f0, f1, f2, f3, f4⟩, he⟩ := hk i K hK
  rw [Nat.mul_comm 5 i] at f0 f1 f2 f3 f4
  exact ⟨d0, d1, d2, d3, d4, he, f0, f1, f2, f3, f4⟩
theorem NInR.attrs {w : World} {R : Nat → Prop} {n : Nat} {c0 c1 c2 c3 c4 : Value} {T : Tr} (h : NInR w R (n + 1) c0 c1 c2 c3 c4 T) : ARow w c2 (Bp.alT T) := by
  obtain ⟨sp, lo, p, l, ks, h0, h1, h4, rfl, ha, _⟩ := h
  rw [Bp.alT_mk]
  exact ha.toARow
theorem idxT_none {tab : List Ent} {sp lo : ByteArray} (h : idxT tab sp lo < 0) : tab.findIdx? (fun x => decide (sp = Bp.spaceB) && decide (lo = x.1)) = none := by
  unfold idxT at h
  cases e : tab.findIdx? (fun x => decide (sp = Bp.spaceB) && decide (lo = x.1)) with
  | none => rfl
  | some k => rw [e] at h; exact absurd h (by show ¬ (k : Int) < 0; omega)
theorem idxT_some {tab : List Ent} {sp lo : ByteArray} (h : ¬ idxT tab sp lo < 0) : ∃ k : Nat, idxT tab sp lo = k ∧ tab.findIdx? (fun x => decide (sp = Bp.spaceB) && decide (lo = x.1)) = some k := by
  unfold idxT at *
  cases e : tab.findIdx? (fun x => decide (sp = Bp.spaceB) && decide (lo = x.1)) with
  | none => rw [e] at h; exact absurd (show (-1 : Int) < 0 by omega) h
  | some k => exact ⟨k, rfl, rfl⟩
/-- The table's plain side: as many, of the same words and turns. -/
def Alike {σ : Type} (tab : List Ent) (tbl : Bp.Tab σ) : Prop := tab.map (fun x => (x.1, x.2.1)) = tbl.map (fun x => (x.1, x.2.1))
theorem Alike.len {σ : Type} {tab : List Ent} {tbl : Bp.Tab σ} (h : Alike tab tbl) : tab.length = tbl.length := by
  have := congrArg List.length h
  simpa using this
theorem Alike.get {σ : Type} {tab : List Ent} {tbl : Bp.Tab σ} (h : Alike tab tbl) {i : Nat} {x : Ent} (hx : tab[i]? = some x) : ∃ y, tbl[i]? = some y ∧ x.1 = y.1 ∧ x.2.1 = y.2.1 := by
  have h1 : (tab.map (fun x => (x.1, x.2.1)))[i]? = some (x.1, x.2.1) := by rw [List.getElem?_map, hx]; rfl
  rw [h, List.getElem?_map] at h1
  cases hy : tbl[i]? with
  | none => rw [hy] at h1; cases h1
  | some y =>
    rw [hy] at h1
    have := Option.some.inj h1
    exact ⟨y, rfl, (congrArg Prod.fst this).symm, (congrArg Prod.snd this).symm⟩
theorem find_tbl {σ : Type} {tab : List Ent} {tbl : Bp.Tab σ} (h : Alike tab tbl) {K : Tr} {sp lo : ByteArray} (hs : Bp.spT K = sp) (hl : Bp.loT K = lo) :
    (tab.findIdx? (fun x => decide (sp = Bp.spaceB) && decide (lo = x.1)) = none → tbl.find? (fun x => Bp.isOf K x.1) = none) ∧
    (∀ k, tab.findIdx? (fun x => decide (sp = Bp.spaceB) && decide (lo = x.1)) = some k → ∃ x y, tab[k]? = some x ∧ tbl[k]? = some y ∧ x.1 = y.1 ∧ x.2.1 = y.2.1 ∧ tbl.find? (fun x => Bp.isOf K x.1) = some y ∧ Bp.isOf K x.1 = true) := by
  subst hs
  subst hl
  have hi : ∀ w, Bp.isOf K w = (decide (Bp.spT K = Bp.spaceB) && decide (Bp.loT K = w)) := fun w => rfl
  constructor
  · intro hn
    rw [List.findIdx?_eq_none_iff] at hn
    rw [List.find?_eq_none]
    intro y hy
    obtain ⟨i, hi'⟩ := List.getElem?_of_mem hy
    have hlt := (List.getElem?_eq_some_iff.1 hi').1
    have hx : tab[i]? = some (tab[i]'(by rw [h.len]; exact hlt)) := List.getElem?_eq_getElem _
    obtain ⟨y', hy', e1, _⟩ := h.get hx
    rw [hi'] at hy'
    cases hy'
    have := hn _ (List.mem_of_getElem? hx)
    rw [hi, ← e1, this]
    simp
  · intro k hk
    rw [List.findIdx?_eq_some_iff_getElem] at hk
    obtain ⟨hlt, hp, hb⟩ := hk
    have hx : tab[k]? = some tab[k] := List.getElem?_eq_getElem hlt
    obtain ⟨y, hy, e1, e2⟩ := h.get hx
    refine ⟨_, y, hx, hy, e1, e2, ?_, hp⟩
    rw [List.find?_eq_some_iff_getElem]
    have hlt' : k < tbl.length := by rw [← h.len]; exact hlt
    have hyk : tbl[k] = y := (List.getElem?_eq_some_iff.1 hy).2
    refine ⟨by rw [hi, ← e1]; exact hp, k, hlt', hyk, fun j hj => ?_⟩
    have hxj : tab[j]? = some (tab[j]'(by omega)) := List.getElem?_eq_getElem _
    obtain ⟨z, hz, z1, _⟩ := h.get hxj
    have hzj : tbl[j] = z := (List.getElem?_eq_some_iff.1 hz).2
    rw [hzj, hi, ← z1]
    have := hb j hj
    rw [Bool.not_eq_true] at this
    rw [this]
    rfl
theorem bkids_nil {σ : Type} (tbl : Bp.Tab σ) (t : Int) (s : σ) : Bp.kids tbl t s [] = .ok s := rfl
theorem bkids_none {σ : Type} {tbl : Bp.Tab σ} {K : Tr} (t : Int) (s : σ) (r : List Tr) (h : tbl.find? (fun x => Bp.isOf K x.1) = none) : Bp.kids tbl t s (K :: r) = .error (Bp.apT K) := by
  simp only [Bp.kids, h]
theorem bkids_early {σ : Type} {tbl : Bp.Tab σ} {K : Tr} {t : Int} (s : σ) (r : List Tr) {y : ByteArray × Int × (σ → Tr → Except Int σ)} (h : tbl.find? (fun x => Bp.isOf K x.1) = some y) (hy : y.2.1 < t) : Bp.kids tbl t s (K :: r) = .error (Bp.apT K) := by
  simp only [Bp.kids, h, if_pos hy]
theorem bkids_err {σ : Type} {tbl : Bp.Tab σ} {K : Tr} {t : Int} (s : σ) (r : List Tr) {y : ByteArray × Int × (σ → Tr → Except Int σ)} (h : tbl.find? (fun x => Bp.isOf K x.1) = some y) (hy : ¬ y.2.1 < t) {q : Int} (hq : y.2.2 s K = .error q) : Bp.kids tbl t s (K :: r) = .error q := by
  simp only [Bp.kids, h, if_neg hy, hq]
theorem bkids_ok {σ : Type} {tbl : Bp.Tab σ} {K : Tr} {t : Int} (s : σ) (r : List Tr) {y : ByteArray × Int × (σ → Tr → Except Int σ)} (h : tbl.find? (fun x => Bp.isOf K x.1) = some y) (hy : ¬ y.2.1 < t) {s' : σ} (hq : y.2.2 s K = .ok s') : Bp.kids tbl t s (K :: r) = Bp.kids tbl y.2.1 s' r := by
  simp only [Bp.kids, h, if_neg hy, hq]
theorem freshQ_drew (w : World) (Q : Nat → Prop) : freshQ w w.drew Q = Q := funext fun k => propext ⟨fun h => h.elim id fun ⟨h1, h2⟩ => absurd (show k < w.heap.size from h2) (by omega), .inl⟩
def tot (d : Nat) (ks : List Tr) : Nat := (ks.map (Bp.cnt d)).sum
theorem tot_cons (d : Nat) (K : Tr) (r : List Tr) : tot d (K :: r) = Bp.cnt d K + tot d r := by unfold tot; simp
/-- What every part of the binder keeps to. -/
structure Sound {σ : Type} (b : Nat) (I : Nat → World → (Nat → Prop) → σ → Prop) : Prop where
  fresh : ∀ M w w' Q s, I M w Q s → Below w.heap.size w w' → I M w' (freshQ w w' Q) s
  six : ∀ M w Q s, I M w Q s → Six b w Q
  mono : ∀ M M' w Q s, M ≤ M' → I M w Q s → I M' w Q s
theorem BPost.err {σ : Type} {b : Nat} {w w' : World} {Q Q' : Nat → Prop} {I : World → (Nat → Prop) → σ → Prop} {r : Except Int σ} {q : Int} (t : TQ w Q w' Q') (f : Fault b w' q) (h : r = .error q) : BPost b w Q I r (.returned (.bool false)) w' :=
  ⟨Q', t, (fun s' e => by rw [h] at e; cases e), fun q' e => by rw [h] at e; cases e; exact ⟨rfl, f⟩⟩
theorem BPost.ok {σ : Type} {b : Nat} {w w' : World} {Q Q' : Nat → Prop} {I : World → (Nat → Prop) → σ → Prop} {r : Except Int σ} {s : σ} (t : TQ w Q w' Q') (i : I w' Q' s) (h : r = .ok s) : BPost b w Q I r (.returned (.bool true)) w' :=
  ⟨Q', t, (fun s' e => by rw [h] at e; cases e; exact ⟨rfl, i⟩), fun q' e => by rw [h] at e; cases e⟩
set_option maxHeartbeats 4000000 in
theorem kidsD {σ : Type} (b d lim : Nat) (I : Nat → World → (Nat → Prop) → σ → Prop) (tbl : Bp.Tab σ) (tab : List Ent) (T : Tr) (S : Sound b I) (ha : Alike tab tbl) (hl : tab.length ≤ 100)
    (hen : ∀ x ∈ tab, Enters Tryz.prog x.2.2)
    (hstep : ∀ (i : Nat) x y K M w Q s c0 c1 c2 c3 c4, tab[i]? = some x → tbl[i]? = some y → K ∈ Bp.klT T → Bp.isOf K x.1 = true → I M w Q s → M + Bp.cnt d K ≤ lim → NInR w Q d c0 c1 c2 c3 c4 K → Calls Tryz.prog x.2.2 #[.pointer (some ⟨b, 0, none⟩), .agg #[c0, c1, c2, c3, c4]] w (BPost b w Q (I (M + Bp.cnt d K)) (y.2.2 s K)))
    (w : World) (Q : Nat → Prop) (M : Nat) (s0 : σ) (h0 : I M w Q s0) (n0 n1 n2 n3 n4 : Value) (hT : NInR w Q (d + 1) n0 n1 n2 n3 n4 T) (hM : M + tot d (Bp.klT T) ≤ lim) (tv : Value) (htab : RowQ 3 tabR w Q tv tab) :
    Calls Tryz.prog 45 #[.pointer (some ⟨b, 0, none⟩), .agg #[n0, n1, n2, n3, n4], tv] w (BPost b w Q (I (M + tot d (Bp.klT T))) (Bp.kids tbl 0 s0 (Bp.klT T))) := by
  obtain ⟨nsp, nlo, na2, nn2, nm2, na3, nn3, nm3, np, rfl, rfl, rfl, rfl, rfl, _, _, _⟩ := hT.five
  obtain ⟨ka, kcap, kb, ko, hk3, hka, hkl, hkc⟩ := hT.kid
  obtain ⟨tao, tcap, tb, tz, rfl, hta, htq, htc⟩ := tab_at htab
  cases hk3
  obtain ⟨m, hm⟩ : ∃ m, m = (Bp.klT T).length := ⟨_, rfl⟩
  obtain ⟨tn, htn⟩ : ∃ n, n = tab.length := ⟨_, rfl⟩
  rw [← hm] at hka hkl
  rw [← htn] at hl hta htq
  have HKA := hideT hka
  have HM := hideT hm
  have HTN := hideT htn
  have HTA := hideT hta
  have HAL := hideT ha
  have HEN := hideT hen
  have HST := hideT hstep
  have HTREE := hideT hT
  have HTAB := hideT htab
  have HLIM := hideT hM
  have HSO := hideT S
  have BV : Below w.heap.size w (w.alloc (.cells #[.string nsp, .string nlo, .slice na2 nn2 nm2, .slice na3 m nm3, .int .i64 np] 45)) := (Below.refl _ w).alloc (Nat.le_refl _) _
  have TV := hideT (TQ.fresh BV (fun k hk => ((S.six _ _ _ _ h0).2 k hk).1))
  have IV := hideT (S.fresh _ _ _ _ _ h0 BV)
  rw [← hm] at HTREE ⊢
  rw [← htn] at HTAB ⊢
  clear hka hm htn hta htq htc ha hen hstep hT htab hM S h0 hkc BV
  go_enter Tryz.func45, Tryz.ntmps45
  go_wp2_with fail
  go_loopw [14, 7] (fun i tt wr => ∃ (k : Nat) (t : Int) (s : σ) (M' : Nat) (Q' : Nat → Prop), k ≤ m ∧ i = .int .i64 k ∧ tt = .int .i64 t ∧ Hid (Bp.kids tbl 0 s0 (Bp.klT T) = Bp.kids tbl t s ((Bp.klT T).drop k)) ∧ Hid (TQ w Q wr Q') ∧ Hid (I M' wr Q' s) ∧ Hid (M' + tot d ((Bp.klT T).drop k) ≤ M + tot d (Bp.klT T))) (fun i _ _ => m - (intOf i).toNat)
  case atStart => exact ⟨0, 0, s0, M, _, Nat.zero_le _, rfl, rfl, rfl, TV, IV, Nat.le_refl _⟩
  case round =>
    obtain ⟨k, t, s, M', Q', hk, rfl, rfl, HE, HT, HI, HM'⟩ := hrel
    by_cases hlt : k < m
    rotate_left
    · have HF : Hid (Bp.kids tbl 0 s0 (Bp.klT T) = .ok s) := by
        show _ = _
        rw [HE.out, List.drop_eq_nil_of_le (by have := HM.out; omega)]
        rfl
      have HI2 := hideT (HSO.out.mono _ _ _ _ _ (Nat.le_trans (Nat.le_add_right _ _) HM'.out) HI.out)
      go_wp2_with fail
      go_ret
      exact BPost.ok HT.out HI2.out HF.out
    obtain ⟨K, hK⟩ := Mp.at_lt (l := Bp.klT T) (k := k) (by have := HM.out; omega)
    have HD := hideT (drop_at hK)
    have HMEM := hideT (List.mem_of_getElem? hK)
    obtain ⟨ka', kcap', kb', ko', e3, hka', _, hkc'⟩ := (HT.out.tree HTREE.out).kid
    rw [← HM.out] at e3 hka'
    cases e3
    obtain rfl := hka' (by omega)
    obtain ⟨d0, d1, d2, d3, d4, nK, f0, f1, f2, f3, f4⟩ := hkc' k K hK
    obtain ⟨sp, lo, a2, n2, m2, a3, n3, m3, p, rfl, rfl, rfl, rfl, rfl, hsp, hlo, hap⟩ := nK.five
    have HNK := hideT nK
    have HFT := hideT (find_tbl HAL.out hsp hlo)
    have HAP := hideT hap
    clear hK hkc' hka' nK hsp hlo hap
    go_wp2_with fail
    generalize hU : wr.alloc _ = U
    obtain ⟨BU, LU, zU⟩ := of_alloc hU
    have SX := hideT (HSO.out.six _ _ _ _ HI.out)
    have TU := hideT (TQ.fresh BU (fun k hk => (SX.out.2 k hk).1))
    have TBU := hideT (tab_tq (tab_tq HTAB.out HT.out) TU.out)
    refine (indexKidD U _ _ tab wr.heap.size sp lo a2 a3 n2 m2 n3 m3 p LU TBU.out (by have := HTN.out; omega)).mono ?_
    rintro e w1 ⟨rfl, b1⟩
    have B1 := hideT (BU.trans (b1.mono BU.size))
    have T1 := hideT (TQ.fresh B1.out (fun k hk => (SX.out.2 k hk).1))
    have I1 := hideT (HSO.out.fresh _ _ _ _ _ HI.out B1.out)
    have TT1 := hideT (HT.out.trans T1.out)
    have L1 := hideT (LU.below b1)
    have N1 := hideT (T1.out.tree HNK.out)
    have S1 := hideT (HSO.out.six _ _ _ _ I1.out)
    have y0 : w1.cell? ⟨wr.heap.size, 0, none⟩ = some (.string sp) := L1.out.cell 0
    have y1 : w1.cell? ⟨wr.heap.size, 1, none⟩ = some (.string lo) := L1.out.cell 1
    have y2 : w1.cell? ⟨wr.heap.size, 2, none⟩ = some (.slice a2 n2 m2) := L1.out.cell 2
    have y3 : w1.cell? ⟨wr.heap.size, 3, none⟩ = some (.slice a3 n3 m3) := L1.out.cell 3
    have y4 : w1.cell? ⟨wr.heap.size, 4, none⟩ = some (.int .i64 p) := L1.out.cell 4
    have QB : Hid (freshQ wr w1 Q' wr.heap.size) := .inr ⟨Nat.le_refl _, by have := b1.size; omega⟩
    obtain ⟨tva, tvc, tb', tz', et, hta', htq', htc'⟩ := tab_at (tab_tq (tab_tq HTAB.out HT.out) T1.out)
    rw [← HTN.out] at et hta' htq'
    cases et
    have HTC := hideT htc'
    have HTA' := hideT hta'
    have HTQ' := hideT htq'
    clear f0 f1 f2 f3 f4 BU LU b1 htc' hta' htq'
    by_cases hi : idxT tab sp lo < 0
    · have HF : Hid (Bp.kids tbl 0 s0 (Bp.klT T) = .error p) := by
        show _ = _
        rw [HE.out, HD.out, bkids_none _ _ _ (HFT.out.1 (idxT_none hi)), HAP.out]
      obtain ⟨z, hz⟩ : ∃ z, idxT tab sp lo = z := ⟨_, rfl⟩
      rw [hz] at hi ⊢
      clear hz
      go_wp2_with fail
      refine (faultD w1 _ b _ _ _ _ p S1.out).mono ?_
      rintro e w2 ⟨rfl, t2, f2⟩
      go_wp2_with fail
      go_ret
      exact BPost.err (TT1.out.trans t2) f2 HF.out
    obtain ⟨i, hiz, hfi⟩ := idxT_some hi
    obtain ⟨⟨x, t', f⟩, y, hx, hy, e1, e2, hfind, hof⟩ := HFT.out.2 i hfi
    have hin : i < tn := by have := (List.getElem?_eq_some_iff.1 hx).1; have := HTN.out; omega
    obtain rfl := HTA'.out (by omega)
    obtain ⟨g0, g1, g2⟩ := HTC.out i _ hx
    have QT := hideT (HTQ'.out (by omega))
    dsimp only at g0 g1 g2 e1 e2 hof
    have HX := hideT hx
    have HY := hideT hy
    have HFD := hideT hfind
    have HOF := hideT hof
    have HE2 := hideT e2
    have en := HEN.out _ (List.mem_of_getElem? hx)
    unfold Enters at en
    dsimp only at en
    rw [hiz]
    have t1 : (0 : Int) ≤ (i : Int) := by omega
    have t2 : (i : Int) < (tn : Int) := by omega
    have t3 : ¬ (i : Int) < 0 := by omega
    clear hi hiz hfi hx hy e1 e2 hfind hof
    by_cases he : t' < t
    · have HF : Hid (Bp.kids tbl 0 s0 (Bp.klT T) = .error p) := by
        show _ = _
        rw [HE.out, HD.out, bkids_early _ _ HFD.out (by rw [← HE2.out]; exact he), HAP.out]
      clear en
      go_wp2_with fail
      refine (faultD w1 _ b _ _ _ _ p S1.out).mono ?_
      rintro e w2 ⟨rfl, t2, f2⟩
      go_wp2_with fail
      go_ret
      exact BPost.err (TT1.out.trans t2) f2 HF.out
    have TD := hideT (TQ.of_below (Q' := freshQ wr w1 Q') ((Below.refl w1.heap.size w1).drew) (fun k hk => (S1.out.2 k hk).1) (fun k hk => hk))
    have ID : Hid (I M' w1.drew (freshQ wr w1 Q') s) := by
      have := HSO.out.fresh _ _ _ _ _ I1.out ((Below.refl w1.heap.size w1).drew)
      rw [freshQ_drew] at this
      exact this
    have ND := hideT (TD.out.tree N1.out)
    have HCN : Hid (M' + Bp.cnt d K ≤ lim) := by
      show _ ≤ _
      have h1 := HM'.out
      rw [HD.out, tot_cons] at h1
      have h2 := HLIM.out
      omega
    have HCM : Hid (M' + Bp.cnt d K + tot d ((Bp.klT T).drop (k + 1)) ≤ M + tot d (Bp.klT T)) := by
      show _ ≤ _
      have h1 := HM'.out
      rw [HD.out, tot_cons] at h1
      omega
    cases hr : y.2.2 s K with
    | error q =>
      have HF : Hid (Bp.kids tbl 0 s0 (Bp.klT T) = .error q) := by
        show _ = _
        rw [HE.out, HD.out, bkids_err _ _ HFD.out (by rw [← HE2.out]; exact he) hr]
      have HR := hideT hr
      clear hr
      go_wp2_with fail
      go_region_held3 (fun w' => w'.cell? ⟨wr.heap.size, 0, none⟩ = some (.string sp) ∧ w'.cell? ⟨wr.heap.size, 1, none⟩ = some (.string lo) ∧ w'.cell? ⟨wr.heap.size, 2, none⟩ = some (.slice a2 n2 m2) ∧ w'.cell? ⟨wr.heap.size, 3, none⟩ = some (.slice a3 n3 m3) ∧ w'.cell? ⟨wr.heap.size, 4, none⟩ = some (.int .i64 p) ∧ w'.cell? ⟨tb', tz' + i * 3 + 2, none⟩ = some (.func (.func f) #[] #[])) (go_keep) (first
        | (refine (HST.out i _ y K M' _ _ s _ _ _ _ _ HX.out HY.out HMEM.out HOF.out ID.out HCN.out ND.out).mono ?_; rintro e w2 ⟨Q3, t3, ok3, er3⟩; have k0 : w2.cell? ⟨wr.heap.size, 0, none⟩ = some (.string sp) := (t3.cell QB.out).trans y0; have k1 : w2.cell? ⟨wr.heap.size, 1, none⟩ = some (.string lo) := (t3.cell QB.out).trans y1; have k2 : w2.cell? ⟨wr.heap.size, 2, none⟩ = some (.slice a2 n2 m2) := (t3.cell QB.out).trans y2; have k3 : w2.cell? ⟨wr.heap.size, 3, none⟩ = some (.slice a3 n3 m3) := (t3.cell QB.out).trans y3; have k4 : w2.cell? ⟨wr.heap.size, 4, none⟩ = some (.int .i64 p) := (t3.cell QB.out).trans y4; have k5 : w2.cell? ⟨tb', tz' + i * 3 + 2, none⟩ = some (.func (.func f) #[] #[]) := (t3.cell QT.out).trans g2; obtain ⟨rfl, fe⟩ := er3 q HR.out))
      all_goals go_wp2_with fail
      all_goals go_ret
      all_goals exact BPost.err (TT1.out.trans (TD.out.trans t3)) fe HF.out
    | ok s' =>
      have HF : Hid (Bp.kids tbl 0 s0 (Bp.klT T) = Bp.kids tbl t' s' ((Bp.klT T).drop (k + 1))) := by
        show _ = _
        rw [HE.out, HD.out, bkids_ok _ _ HFD.out (by rw [← HE2.out]; exact he) hr, HE2.out]
      have HR := hideT hr
      clear hr
      go_wp2_with fail
      go_region_held3 (fun w' => w'.cell? ⟨wr.heap.size, 0, none⟩ = some (.string sp) ∧ w'.cell? ⟨wr.heap.size, 1, none⟩ = some (.string lo) ∧ w'.cell? ⟨wr.heap.size, 2, none⟩ = some (.slice a2 n2 m2) ∧ w'.cell? ⟨wr.heap.size, 3, none⟩ = some (.slice a3 n3 m3) ∧ w'.cell? ⟨wr.heap.size, 4, none⟩ = some (.int .i64 p) ∧ w'.cell? ⟨tb', tz' + i * 3 + 2, none⟩ = some (.func (.func f) #[] #[])) (go_keep) (first
        | (refine (HST.out i _ y K M' _ _ s _ _ _ _ _ HX.out HY.out HMEM.out HOF.out ID.out HCN.out ND.out).mono ?_; rintro e w2 ⟨Q3, t3, ok3, er3⟩; have k0 : w2.cell? ⟨wr.heap.size, 0, none⟩ = some (.string sp) := (t3.cell QB.out).trans y0; have k1 : w2.cell? ⟨wr.heap.size, 1, none⟩ = some (.string lo) := (t3.cell QB.out).trans y1; have k2 : w2.cell? ⟨wr.heap.size, 2, none⟩ = some (.slice a2 n2 m2) := (t3.cell QB.out).trans y2; have k3 : w2.cell? ⟨wr.heap.size, 3, none⟩ = some (.slice a3 n3 m3) := (t3.cell QB.out).trans y3; have k4 : w2.cell? ⟨wr.heap.size, 4, none⟩ = some (.int .i64 p) := (t3.cell QB.out).trans y4; have k5 : w2.cell? ⟨tb', tz' + i * 3 + 2, none⟩ = some (.func (.func f) #[] #[]) := (t3.cell QT.out).trans g2; obtain ⟨rfl, i3⟩ := ok3 s' HR.out))
      all_goals have k6 : w2.cell? ⟨tb', tz' + i * 3 + 1, none⟩ = some (.int .i64 t') := (t3.cell QT.out).trans g1
      all_goals have TT2 := hideT (TT1.out.trans (TD.out.trans t3))
      all_goals have I2 := hideT i3
      all_goals clear t3 i3 ok3 er3
      all_goals go_wp2_with fail
      all_goals go_roundw
      case rel => exact ⟨k + 1, t', s', _, Q3, by omega, by go_num, rfl, HF, TT2, I2, HCM⟩
      case measure => simp [intOf]; omega
end Go.Proofs.YtjfonpbnohbpfaaGreatDoor
