/-
  The program's sort of sentries, once over sentries.
-/
import Derived.Test.YtdcahnaempabcabGreatNPlainS
set_option linter.unusedSimpArgs false
set_option linter.unusedVariables false
namespace Go.Proofs.YtdcahnaempabcabGreat
open Go.RowKit
set_option maxRecDepth 100000
/-- A sentry of the program's own: its two rows, and what they hold. -/
def SIn (B : Nat) (w : World) (p : (Value × Value) × Mp.Sent) : Prop :=
  (∃ a1 c1 a2 c2, p.1 = (.slice a1 p.2.1.length c1, .slice a2 p.2.2.length c2)) ∧ OwnE B 2 84 onE p.1.1 p.2.1 w ∧ OwnE B 3 89 condE p.1.2 p.2.2 w ∧
    ((∀ x ∈ p.2.1, x.1.size ≤ 140737488355328) ∧ ∀ x ∈ p.2.2, x.1.size ≤ 140737488355328 ∧ x.2.1.size ≤ 140737488355328) ∧ p.2.1.length ≤ 1000 ∧ p.2.2.length ≤ 1000
theorem SIn.below {B : Nat} {w w' : World} {p : (Value × Value) × Mp.Sent} (h : SIn B w p) (hb : Below w.heap.size w w') : SIn B w' p := ⟨h.1, h.2.1.below hb, h.2.2.1.below hb, h.2.2.2⟩
theorem own_gb {w w' : World} {H : Nat} {e : TypeId} {z : Nat} {v : Value} {n : Nat} {xs : List Value} {r : Option Nat} (h : w.ownsRow H e z v n xs) (hg : w.grownBy w' r) (hr : ∀ g, v.ownBlock = some g → r ≠ some g) : w'.ownsRow H e z v n xs :=
  own_keep h fun g hv => hg.block g (own_lt h hv).1 fun e => hr g hv e.symm
theorem SIn.gb {B H z n : Nat} {w w' : World} {p : (Value × Value) × Mp.Sent} {t : TypeId} {u : Value} {ys : List Value} (h : SIn B w p) (hu : w.ownsRow H t z u n ys) (h1 : t ≠ 84) (h2 : t ≠ 89) (hg : w.grownBy w' u.ownBlock) : SIn B w' p :=
  ⟨h.1, own_gb h.2.1 hg (own_ne2 h.2.1 hu h1), own_gb h.2.2.1 hg (own_ne2 h.2.2.1 hu h2), h.2.2.2⟩
theorem SIn.sentR {B : Nat} {w : World} {p : (Value × Value) × Mp.Sent} (h : SIn B w p) : sentR w [p.1.1, p.1.2] p.2 :=
  ⟨_, _, rfl, (h.2.1.orow h.2.2.2.2.1 h.2.2.2.1.1).here, (h.2.2.1.crow h.2.2.2.2.2 h.2.2.2.1.2).here⟩
abbrev SE (B : Nat) (w : World) := { p : (Value × Value) × Mp.Sent // SIn B w p }
def seE {B : Nat} {w : World} (x : SE B w) : List Value := [x.1.1.1, x.1.1.2]
def seS {B : Nat} {w : World} (x : SE B w) : Mp.Sent := x.1.2
def seC {B : Nat} {w : World} (x y : SE B w) : Int := Np.sentC (seS x) (seS y)
theorem seE_one {B : Nat} {w : World} (x : SE B w) (v : Value) (hv : v ∈ seE x) : v.oneCell' = true := by
  obtain ⟨⟨⟨v1, v2⟩, s⟩, ⟨a1, c1, a2, c2, e⟩, _⟩ := x
  have e' : (v1, v2) = (Value.slice a1 s.1.length c1, Value.slice a2 s.2.length c2) := e
  rw [Prod.mk.injEq] at e'
  obtain ⟨rfl, rfl⟩ := e'
  simp [seE] at hv
  rcases hv with rfl | rfl <;> rfl
theorem seCmpD {B : Nat} {w : World} (x y : SE B w) (W : World) (hW : ∀ z, SIn B w z → SIn B W z) :
    Calls Tryz.prog 26 #[.agg #[x.1.1.1, x.1.1.2], .agg #[y.1.1.1, y.1.1.2]] W fun e w' => e = .returned (.int .i64 (seC x y)) ∧ Gr W w' := by
  obtain ⟨⟨⟨v1, v2⟩, s1, s2⟩, hx⟩ := x
  obtain ⟨⟨⟨u1, u2⟩, t1, t2⟩, hy⟩ := y
  have hx' := hW _ hx
  have hy' := hW _ hy
  obtain ⟨⟨a1, c1, a2, c2, e⟩, _⟩ := id hx
  obtain ⟨⟨b1, d1, b2, d2, e'⟩, _⟩ := id hy
  have e2 : (v1, v2) = (Value.slice a1 s1.length c1, Value.slice a2 s2.length c2) := e
  have e3 : (u1, u2) = (Value.slice b1 t1.length d1, Value.slice b2 t2.length d2) := e'
  rw [Prod.mk.injEq] at e2 e3
  obtain ⟨rfl, rfl⟩ := e2
  obtain ⟨rfl, rfl⟩ := e3
  exact sentCmpD W a1 a2 b1 b2 _ _ _ _ c1 c2 d1 d2 s1 t1 s2 t2 (hx'.2.1.orow hx'.2.2.2.2.1 hx'.2.2.2.1.1).here (hx'.2.2.1.crow hx'.2.2.2.2.2 hx'.2.2.2.1.2).here (hy'.2.1.orow hy'.2.2.2.2.1 hy'.2.2.2.1.1).here (hy'.2.2.1.crow hy'.2.2.2.2.2 hy'.2.2.2.1.2).here
theorem seC_swo {B : Nat} {w : World} [Inhabited (SE B w)] : Sort.SWO (ltOf (seC (B := B) (w := w))) :=
  ⟨fun x => Np.sentC_tot.swo.irrefl (seS x), fun x y z => Np.sentC_tot.swo.trans (seS x) (seS y) (seS z), fun x y z => Np.sentC_tot.swo.ntrans (seS x) (seS y) (seS z)⟩
theorem perm_list {α : Type} [Inhabited α] {d d' : Array α} (h : Sort.PermIn 0 d.size d d') : d'.toList.Perm d.toList := by
  obtain ⟨h1, _, h3⟩ := h
  have e1 : d'.extract 0 d.size = d' := by rw [← h1]; simp
  have e2 : d.extract 0 d.size = d := by simp
  rwa [e1, e2] at h3
theorem sorted_list {α β : Type} [Inhabited α] {c : β → β → Int} (f : α → β) {d d' : Array α} (hs : d'.size = d.size) (h : Sort.SortedIn (ltOf fun x y => c (f x) (f y)) 0 d.size d') (hc : Np.Tot c) : (d'.toList.map f).Pairwise (fun a b => c a b ≤ 0) := by
  rw [List.pairwise_map, List.pairwise_iff_getElem]
  intro i j hi hj hij
  have hi' : i < d'.size := by simpa using hi
  have hj' : j < d'.size := by simpa using hj
  have := h i j (Nat.zero_le _) hij (by omega)
  rw [getElem!_pos d' j hj', getElem!_pos d' i hi'] at this
  unfold ltOf at this
  simp only [decide_eq_false_iff_not] at this
  have h2 := hc.anti (f d'.toList[j]) (f d'.toList[i])
  have h3 : ¬ c (f d'.toList[j]) (f d'.toList[i]) < 0 := this
  omega
set_option maxHeartbeats 1000000 in
theorem sortSentD (w : World) (H B : Nat) (ad : Option Addr) (n cap : Nat) (L : List (SE B w)) (W : World) (h : W.ownsRow H 60 2 (.slice ad n cap) n (L.map seE).flatten) (hn : n = L.length) (hl : n ≤ 1000) (hW : ∀ z, SIn B w z → SIn B W z) :
    Calls Tryz.prog 129 #[.slice ad n cap, .func (.func 26) #[] #[]] W fun e w' => e = .returned (.tuple #[]) ∧ (∃ L' : List (SE B w), L'.length = L.length ∧ L'.map seS = Np.sortC Np.sentC (L.map seS) ∧ w'.ownsRow H 60 2 (.slice ad n cap) n (L'.map seE).flatten) ∧ W.grownBy w' (Value.slice ad n cap).ownBlock := by
  rcases Nat.eq_zero_or_pos n with h0 | h0
  · subst h0
    have he : L = [] := List.eq_nil_of_length_eq_zero hn.symm
    subst he
    refine (AnyF.slices_SortFunc_none Tryz.sortSent ad cap _ W).mono ?_
    rintro e w' ⟨rfl, rfl⟩
    exact ⟨rfl, ⟨[], rfl, by simp [Np.sortC], h⟩, gb_refl _ _⟩
  · obtain ⟨g, rfl, hg, hgs, _⟩ := own_ownBlock h h0
    obtain ⟨x0, hx0⟩ := Mp.at_lt (l := L) (k := 0) (by omega)
    haveI : Inhabited (SE B w) := ⟨x0⟩
    have eg : ∀ args w, (callFunc 26 args).run Tryz.prog w = .ok (.enter 26 args) w := enters_of Tryz.func26 (by kernel_rfl) rfl
    have hc := AnyQ.slices_SortFunc (α := SE B w) Tryz.sortSent 2 Tryz.isAgg60 Tryz.sizeOf60 seE (fun _ => rfl) seE_one seC seC_swo 26 #[] g 0 cap L.toArray W eg
      (fun m os dk _ x y => (seCmpD x y _ fun z hz => (hW z hz).gb h (by decide) (by decide) (sort_grown seE 2 dk)).mono fun e w' ⟨h1, h2⟩ => ⟨h1, h2.eq⟩) (holds_own seE 2 (fun _ => rfl) h hn) hgs (by simp; omega)
    have hsz : L.toArray.size = n := by rw [hn]; simp
    rw [hsz] at hc
    refine hc.mono ?_
    rintro e w' ⟨rfl, d', q, os, hp, hs, rfl⟩
    have hsz' : d'.size = L.toArray.size := by have := hp.1; exact this
    have hpl : d'.toList.Perm L := by
      have := perm_list (d := L.toArray) (d' := d') (by rw [hsz]; exact hp)
      simpa using this
    have hso := sorted_list (c := Np.sentC) seS (d := L.toArray) (d' := d') hsz' (by rw [hsz]; exact hs) Np.sentC_tot
    refine ⟨rfl, ⟨d'.toList, hpl.length_eq, Np.sortC_eq Np.sentC_tot hso (hpl.map seS), ?_⟩, sort_grown seE 2 _⟩
    have := own_sortedK (m := q) (os := os) (L' := d'.toList) seE 2 (fun _ => rfl) h hn hpl.length_eq
    simpa using this
theorem cpt_map {α β : Type} (c : β → β → Int) (f : α → β) : ∀ L : List α, (Np.cpt (fun x y => c (f x) (f y)) L).map f = Np.cpt c (L.map f)
  | [] => rfl
  | a :: L => by
    have hF : ∀ (r : List α) (p : α), (Np.cptF (fun x y => c (f x) (f y)) p r).map f = Np.cptF c (f p) (r.map f) := by
      intro r
      induction r with
      | nil => intro p; rfl
      | cons x r ih =>
        intro p
        rw [Np.cptF, List.map_cons, Np.cptF]
        split
        · exact ih x
        · rw [List.map_cons, ih x]
    rw [Np.cpt, List.map_cons, List.map_cons, Np.cpt, hF]
set_option maxHeartbeats 1000000 in
theorem eqSentD {B : Nat} {w : World} (pb : Nat) (W : World) (h : W.cell? ⟨pb, 0, none⟩ = some (.func (.func 26) #[] #[])) (hW : ∀ z, SIn B w z → SIn B W z) (x y : SE B w) :
    Calls Tryz.prog 131 #[.agg #[x.1.1.1, x.1.1.2], .agg #[y.1.1.1, y.1.1.2], .pointer (some ⟨pb, 0, none⟩)] W fun e w' => e = .returned (.bool (decide (seC x y = 0))) ∧ Gr W w' := by
  obtain ⟨V, hV, BV, LA, LR, VS⟩ := two_newG W 60 #[x.1.1.1, x.1.1.2] #[y.1.1.1, y.1.1.2]
  have hp := below_cell BV.1 _ _ h
  have s0 : V.cell? ⟨W.heap.size, 0, none⟩ = some x.1.1.1 := LA.cell 0
  have s1 : V.cell? ⟨W.heap.size, 1, none⟩ = some x.1.1.2 := LA.cell 1
  have r0 : V.cell? ⟨W.heap.size + 1, 0, none⟩ = some y.1.1.1 := LR.cell 0
  have r1 : V.cell? ⟨W.heap.size + 1, 1, none⟩ = some y.1.1.2 := LR.cell 1
  have HB := hideT BV
  have HW := hideT hW
  clear BV LA LR VS h hW
  go_enter Tryz.func131, Tryz.ntmps131
  go_wp2_with fail
  refine (seCmpD x y _ fun z hz => (HW.out z hz).below HB.out.1).mono ?_
  rintro e w1 ⟨rfl, g1⟩
  go_wp2_with fail
  go_ret
  exact ⟨ret_b (int_beq _ _), HB.out.trans g1⟩
set_option maxHeartbeats 2000000 in
theorem onceSentD (w : World) (H B : Nat) (ad : Option Addr) (n cap : Nat) (L : List (SE B w)) (h : w.ownsRow H 60 2 (.slice ad n cap) n (L.map seE).flatten) (hn : n = L.length) (hl : n ≤ 1000) :
    Calls Tryz.prog 100 #[.slice ad n cap, .func (.func 26) #[] #[]] w fun e w' => ∃ (ad' : Option Addr) (cap' : Nat) (L' : List (SE B w)), e = .returned (.slice ad' L'.length cap') ∧ L'.map seS = Np.sortU Np.sentC (L.map seS) ∧ w'.ownsRow H 60 2 (.slice ad' L'.length cap') L'.length (L'.map seE).flatten ∧ w.grownBy w' (Value.slice ad n cap).ownBlock := by
  obtain ⟨V, hV⟩ : ∃ V, w.alloc (.cells #[.func (.func 26) #[] #[]] 132) = V := ⟨_, rfl⟩
  have LA : Lies V w.heap.size 132 #[.func (.func 26) #[] #[]] := by rw [← hV]; exact Lies.new _ _ _
  have BV : Below w.heap.size w V := by rw [← hV]; exact (Below.refl _ w).alloc (Nat.le_refl _) _
  have GV : Hid (w.grownBy V (Value.slice ad n cap).ownBlock) := by rw [← hV]; exact gb_alloc _ _ _
  have OV : Hid (V.ownsRow H 60 2 (.slice ad n cap) n (L.map seE).flatten) := own_below h BV
  have HV : Hid (∀ z, SIn B w z → SIn B V z) := fun z hz => hz.below BV
  have p0 : V.cell? ⟨w.heap.size, 0, none⟩ = some (.func (.func 26) #[] #[]) := LA.cell 0
  have hne : Hid (∀ g, ad = some ⟨g, 0, none⟩ → 0 < n → g < w.heap.size) := fun g e h0 => by
    obtain ⟨g', e', _, h3, _⟩ := own_ownBlock h h0
    rw [e] at e'
    cases e'
    exact h3
  have HN := hideT hn
  clear h LA hn BV
  go_enter Tryz.func100, Tryz.ntmps100
  go_wp2_with fail
  refine (sortSentD w H B ad n cap L V OV.out HN.out hl HV.out).mono ?_
  rintro e w1 ⟨rfl, ⟨L1, hl1, hs1, o1⟩, g1⟩
  have HO1 := hideT o1
  have HG1 := hideT (gb_trans GV.out g1)
  have HS1 := hideT hs1
  have HN1 : Hid (n = L1.length) := by show n = _; rw [hl1]; exact HN.out
  have HV1 : Hid (∀ z, SIn B w z → SIn B w1 z) := fun z hz => (HV.out z hz).gb OV.out (by decide) (by decide) g1
  have p1 : 0 < n → w1.cell? ⟨w.heap.size, 0, none⟩ = some (.func (.func 26) #[] #[]) := fun h0 => by
    obtain ⟨g, e, _, _, _⟩ := own_ownBlock OV.out h0
    have hg := hne.out g e h0
    subst e
    exact gb_keep g1 _ _ (by show w.heap.size ≠ g; omega) p0
  clear o1 g1 p0 hs1 hl1
  by_cases h2 : n < 2
  · go_wp2_with fail
    refine (compactS0 _ ad n cap _ h2).mono ?_
    rintro e w2 ⟨rfl, rfl⟩
    go_wp2_with fail
    go_ret
    have hu : Np.sortU Np.sentC (L.map seS) = L1.map seS := by
      unfold Np.sortU
      rw [← HS1.out]
      have hl' := HN1.out
      match L1, hl' with
      | [], _ => rfl
      | [x], _ => rfl
      | x :: y :: r, e => simp at e; omega
    refine ⟨ad, cap, L1, ?_, hu.symm, ?_, HG1.out⟩
    · show Ending.returned (Value.slice ad n cap) = _
      exact congrArg (fun q => Ending.returned (Value.slice ad q cap)) HN1.out
    · have := HO1.out
      have hk := HN1.out
      subst hk
      exact this
  · obtain ⟨g, e, hH, _, _⟩ := own_ownBlock OV.out (by omega)
    have hg := hne.out g e (by omega)
    subst e
    have p2 := p1 (by omega)
    clear p1
    go_wp2_with fail
    have eg : Enters Tryz.prog 131 := enters_of Tryz.func131 (by kernel_rfl) rfl
    refine (compactS (fun x : SE B w => x.1.1.1) (fun x => x.1.1.2) seC w1 H g n cap L1 131 w.heap.size HO1.out HN1.out hl eg (fun x v hv => seE_one x v hv)
      (fun W hW x y => eqSentD _ W (gb_keep hW _ _ (by show w.heap.size ≠ g; omega) p2) (fun z hz => (HV1.out z hz).gb HO1.out (by decide) (by decide) hW) x y)).mono ?_
    rintro e w2 ⟨⟨k, rfl, hk, o2⟩, g2⟩
    have HO2 := hideT o2
    have HG2 := hideT (gb_trans HG1.out g2)
    have HK := hideT hk
    clear o2 g2 hk
    go_wp2_with fail
    go_ret
    have hk := HK.out
    subst hk
    exact ⟨some ⟨g, 0, none⟩, cap, Np.cpt seC L1, rfl, by rw [show (Np.cpt seC L1).map seS = Np.cpt Np.sentC (L1.map seS) from cpt_map Np.sentC seS L1, HS1.out]; rfl, HO2.out, HG2.out⟩
end Go.Proofs.YtdcahnaempabcabGreat
