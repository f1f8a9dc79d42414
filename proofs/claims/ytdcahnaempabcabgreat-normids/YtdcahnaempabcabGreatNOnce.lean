/-
  The program's sorts of events and conditions, and once over conditions.
-/
import Derived.Test.YtdcahnaempabcabGreatNCpt
set_option linter.unusedSimpArgs false
set_option linter.unusedVariables false
namespace Go.Proofs.YtdcahnaempabcabGreat
open Go.RowKit
set_option maxRecDepth 100000
theorem grow_all {w w' : World} (h : Gr w w') : ∃ q os, w' = Sort.grow (w.drewN q) os := h.eq
theorem own_ownBlock {w : World} {H : Nat} {e : TypeId} {z : Nat} {ad : Option Addr} {n cap m : Nat} {xs : List Value} (h : w.ownsRow H e z (.slice ad m cap) n xs) (h0 : 0 < n) : ∃ g, ad = some ⟨g, 0, none⟩ ∧ H ≤ g ∧ g < w.heap.size ∧ m = n := by
  rcases h.2 with ⟨_, h1⟩ | ⟨g, cap', cur, h1, h2, h3, _⟩
  · omega
  · cases h1
    exact ⟨g, rfl, h2, (Array.getElem?_eq_some_iff.1 h3).1, rfl⟩
theorem sort_grown {α : Type} [Inhabited α] (enc : α → List Value) (k : Nat) {w : World} {g n : Nat} {os : Array Obj} (d : Array α) : w.grownBy (Go.Proofs.sortWorldK enc k w g 0 n d os) (some g) :=
  ⟨rfl, rfl, rfl, sort_size enc k d, fun b hb hne => heap_otherK enc k d b hb (fun e => hne (by rw [e]))⟩
set_option maxHeartbeats 1000000 in
theorem sortOnD (w : World) (H : Nat) (ad : Option Addr) (n cap : Nat) (l : List Mp.On) (h : w.ownsRow H 84 2 (.slice ad n cap) n (l.map onE).flatten) (hn : n = l.length) (hl : n ≤ 1000) :
    Calls Tryz.prog 97 #[.slice ad n cap, .func (.func 57) #[] #[]] w fun e w' => e = .returned (.tuple #[]) ∧ w'.ownsRow H 84 2 (.slice ad n cap) n ((Np.sortC Np.onC l).map onE).flatten ∧ w.grownBy w' (Value.slice ad n cap).ownBlock := by
  rcases Nat.eq_zero_or_pos n with h0 | h0
  · subst h0
    have he : l = [] := List.eq_nil_of_length_eq_zero hn.symm
    subst he
    refine (AnyF.slices_SortFunc_none Tryz.sortOn ad cap _ w).mono ?_
    rintro e w' ⟨rfl, rfl⟩
    exact ⟨rfl, by simpa [Np.sortC] using h, gb_refl _ _⟩
  · obtain ⟨g, rfl, hg, hgs, _⟩ := own_ownBlock h h0
    have eg : ∀ args w, (callFunc 57 args).run Tryz.prog w = .ok (.enter 57 args) w := enters_of Tryz.func57 (by kernel_rfl) rfl
    have hc := AnyQ.slices_SortFunc_total (α := Mp.On) Tryz.sortOn 2 Tryz.isAgg84 Tryz.sizeOf84 onE (fun _ => rfl) (fun x v hv => by simp [onE] at hv; rcases hv with rfl | rfl <;> rfl) Np.onC Np.onC_tot.swo 57 #[] g 0 cap l.toArray w eg
      (fun m os dk _ x y => (onCmpD x y _).mono fun e w' ⟨h1, h2⟩ => ⟨h1, h2.eq⟩) (holds_own onE 2 (fun _ => rfl) h hn) hgs (by simp; omega)
      (fun x y h1 h2 => by
        unfold ltOf at h1 h2
        simp only [decide_eq_false_iff_not] at h1 h2
        have h3 := Np.onC_tot.anti x y
        exact (Np.onC_tot.eq0 x y).1 (by omega))
    have hsz : l.toArray.size = n := by rw [hn]; simp
    rw [hsz] at hc
    refine hc.mono ?_
    rintro e w' ⟨rfl, q, os, rfl⟩
    exact ⟨rfl, own_sortedK onE 2 (fun _ => rfl) h hn (Np.sortC_length Np.onC l), sort_grown onE 2 _⟩
set_option maxHeartbeats 1000000 in
theorem sortCondD (w : World) (H : Nat) (ad : Option Addr) (n cap : Nat) (l : List Mp.Cond) (h : w.ownsRow H 89 3 (.slice ad n cap) n (l.map condE).flatten) (hn : n = l.length) (hl : n ≤ 1000) :
    Calls Tryz.prog 126 #[.slice ad n cap, .func (.func 59) #[] #[]] w fun e w' => e = .returned (.tuple #[]) ∧ w'.ownsRow H 89 3 (.slice ad n cap) n ((Np.sortC Np.condC l).map condE).flatten ∧ w.grownBy w' (Value.slice ad n cap).ownBlock := by
  rcases Nat.eq_zero_or_pos n with h0 | h0
  · subst h0
    have he : l = [] := List.eq_nil_of_length_eq_zero hn.symm
    subst he
    refine (AnyF.slices_SortFunc_none Tryz.sortCond ad cap _ w).mono ?_
    rintro e w' ⟨rfl, rfl⟩
    exact ⟨rfl, by simpa [Np.sortC] using h, gb_refl _ _⟩
  · obtain ⟨g, rfl, hg, hgs, _⟩ := own_ownBlock h h0
    have eg : ∀ args w, (callFunc 59 args).run Tryz.prog w = .ok (.enter 59 args) w := enters_of Tryz.func59 (by kernel_rfl) rfl
    have hc := AnyQ.slices_SortFunc_total (α := Mp.Cond) Tryz.sortCond 3 Tryz.isAgg89 Tryz.sizeOf89 condE (fun _ => rfl) (fun x v hv => by simp [condE] at hv; rcases hv with rfl | rfl | rfl <;> rfl) Np.condC Np.condC_tot.swo 59 #[] g 0 cap l.toArray w eg
      (fun m os dk _ x y => (condCmpD x y _).mono fun e w' ⟨h1, h2⟩ => ⟨h1, h2.eq⟩) (holds_own condE 3 (fun _ => rfl) h hn) hgs (by simp; omega)
      (fun x y h1 h2 => by
        unfold ltOf at h1 h2
        simp only [decide_eq_false_iff_not] at h1 h2
        have h3 := Np.condC_tot.anti x y
        exact (Np.condC_tot.eq0 x y).1 (by omega))
    have hsz : l.toArray.size = n := by rw [hn]; simp
    rw [hsz] at hc
    refine hc.mono ?_
    rintro e w' ⟨rfl, q, os, rfl⟩
    exact ⟨rfl, own_sortedK condE 3 (fun _ => rfl) h hn (Np.sortC_length Np.condC l), sort_grown condE 3 _⟩
/-- A row of fewer than two comes back as it is. -/
theorem compactC0 (w : World) (ad : Option Addr) (n cap : Nat) (fv : Value) (hn : n < 2) :
    Calls Tryz.prog 127 #[.slice ad n cap, fv] w fun e w' => e = .returned (.slice ad n cap) ∧ w' = w := by
  go_enter Tryz.func127, Tryz.ntmps127
  go_wp2_with fail
  go_ret
  exact ⟨rfl, rfl⟩
theorem compactS0 (w : World) (ad : Option Addr) (n cap : Nat) (fv : Value) (hn : n < 2) :
    Calls Tryz.prog 130 #[.slice ad n cap, fv] w fun e w' => e = .returned (.slice ad n cap) ∧ w' = w := by
  go_enter Tryz.func130, Tryz.ntmps130
  go_wp2_with fail
  go_ret
  exact ⟨rfl, rfl⟩
set_option maxHeartbeats 1000000 in
theorem eqCondD (pb : Nat) (W : World) (h : W.cell? ⟨pb, 0, none⟩ = some (.func (.func 59) #[] #[])) (x y : Mp.Cond) :
    Calls Tryz.prog 128 #[.agg #[.string x.1, .string x.2.1, .int .i64 x.2.2], .agg #[.string y.1, .string y.2.1, .int .i64 y.2.2], .pointer (some ⟨pb, 0, none⟩)] W fun e w' => e = .returned (.bool (decide (Np.condC x y = 0))) ∧ Gr W w' := by
  obtain ⟨V, hV, BV, LA, LR, VS⟩ := two_newG W 89 #[.string x.1, .string x.2.1, .int .i64 x.2.2] #[.string y.1, .string y.2.1, .int .i64 y.2.2]
  have hp := below_cell BV.1 _ _ h
  have s0 : V.cell? ⟨W.heap.size, 0, none⟩ = some (.string x.1) := LA.cell 0
  have s1 : V.cell? ⟨W.heap.size, 1, none⟩ = some (.string x.2.1) := LA.cell 1
  have s2 : V.cell? ⟨W.heap.size, 2, none⟩ = some (.int .i64 x.2.2) := LA.cell 2
  have r0 : V.cell? ⟨W.heap.size + 1, 0, none⟩ = some (.string y.1) := LR.cell 0
  have r1 : V.cell? ⟨W.heap.size + 1, 1, none⟩ = some (.string y.2.1) := LR.cell 1
  have r2 : V.cell? ⟨W.heap.size + 1, 2, none⟩ = some (.int .i64 y.2.2) := LR.cell 2
  have HB := hideT BV
  clear BV LA LR VS h
  go_enter Tryz.func128, Tryz.ntmps128
  go_wp2_with fail
  refine (condCmpD x y _).mono ?_
  rintro e w1 ⟨rfl, g1⟩
  go_wp2_with fail
  go_ret
  exact ⟨ret_b (int_beq _ _), HB.out.trans g1⟩
/-- What once leaves: a row of its own, nothing turned but the block of the row that came in. -/
def NPostO {α : Type} (H z : Nat) (t : TypeId) (enc : α → List Value) (v : Value) (l' : List α) (w : World) (e : Ending) (w' : World) : Prop := ∃ ad cap, e = .returned (.slice ad l'.length cap) ∧ OwnE H z t enc (.slice ad l'.length cap) l' w' ∧ w.grownBy w' v.ownBlock
theorem gb_trans {a b c : World} {r : Option Nat} (h : a.grownBy b r) (k : b.grownBy c r) : a.grownBy c r :=
  ⟨k.os.trans h.os, k.tape.trans h.tape, k.output.trans h.output, Nat.le_trans h.size k.size, fun j hj hn => (k.block j (by have := h.size; omega) hn).trans (h.block j hj hn)⟩
theorem gb_alloc (w : World) (o : Obj) (r : Option Nat) : w.grownBy (w.alloc o) r := gb_below (gb_refl w r) ((Below.refl _ w).alloc (Nat.le_refl _) o)
theorem gb_any {w w' : World} (h : w.grownBy w' none) (r : Option Nat) : w.grownBy w' r := ⟨h.os, h.tape, h.output, h.size, fun j hj _ => h.block j hj (by simp)⟩
set_option maxHeartbeats 2000000 in
theorem onceCondD (w : World) (H : Nat) (ad : Option Addr) (n cap : Nat) (l : List Mp.Cond) (h : w.ownsRow H 89 3 (.slice ad n cap) n (l.map condE).flatten) (hn : n = l.length) (hl : n ≤ 1000) :
    Calls Tryz.prog 98 #[.slice ad n cap, .func (.func 59) #[] #[]] w (NPostO H 3 89 condE (.slice ad n cap) (Np.sortU Np.condC l) w) := by
  obtain ⟨V, hV⟩ : ∃ V, w.alloc (.cells #[.func (.func 59) #[] #[]] 96) = V := ⟨_, rfl⟩
  have LA : Lies V w.heap.size 96 #[.func (.func 59) #[] #[]] := by rw [← hV]; exact Lies.new _ _ _
  have GV : Hid (w.grownBy V (Value.slice ad n cap).ownBlock) := by rw [← hV]; exact gb_alloc _ _ _
  have OV : Hid (V.ownsRow H 89 3 (.slice ad n cap) n (l.map condE).flatten) := by rw [← hV]; exact own_below h ((Below.refl _ w).alloc (Nat.le_refl _) _)
  have p0 : V.cell? ⟨w.heap.size, 0, none⟩ = some (.func (.func 59) #[] #[]) := LA.cell 0
  have hne : Hid (∀ g, ad = some ⟨g, 0, none⟩ → 0 < n → g < w.heap.size) := fun g e h0 => by
    obtain ⟨g', e', _, h3, _⟩ := own_ownBlock h h0
    rw [e] at e'
    cases e'
    exact h3
  have HN := hideT hn
  clear h LA hn
  go_enter Tryz.func98, Tryz.ntmps98
  go_wp2_with fail
  refine (sortCondD V H ad n cap l OV.out HN.out hl).mono ?_
  rintro e w1 ⟨rfl, o1, g1⟩
  have HO1 := hideT o1
  have HG1 := hideT (gb_trans GV.out g1)
  have p1 : 0 < n → w1.cell? ⟨w.heap.size, 0, none⟩ = some (.func (.func 59) #[] #[]) := fun h0 => by
    obtain ⟨g, e, _, _, _⟩ := own_ownBlock OV.out h0
    have hg := hne.out g e h0
    subst e
    exact gb_keep g1 _ _ (by show w.heap.size ≠ g; omega) p0
  clear o1 g1 p0
  by_cases h2 : n < 2
  · go_wp2_with fail
    refine (compactC0 _ ad n cap _ h2).mono ?_
    rintro e w2 ⟨rfl, rfl⟩
    go_wp2_with fail
    go_ret
    have hu : Np.sortU Np.condC l = Np.sortC Np.condC l := by
      unfold Np.sortU
      have hl' := Np.sortC_length Np.condC l
      match hs : Np.sortC Np.condC l with
      | [] => rfl
      | [x] => rfl
      | x :: y :: r => rw [hs] at hl'; have := HN.out; simp at hl'; omega
    rw [hu]
    have hlen : (Np.sortC Np.condC l).length = n := by rw [Np.sortC_length, HN.out]
    exact ⟨ad, cap, by (show Ending.returned (Value.slice ad n cap) = _; rw [hlen]), by unfold OwnE; rw [hlen]; exact HO1.out, HG1.out⟩
  · obtain ⟨g, e, hH, _, _⟩ := own_ownBlock OV.out (by omega)
    have hg := hne.out g e (by omega)
    subst e
    have p2 := p1 (by omega)
    clear p1
    go_wp2_with fail
    have eg : Enters Tryz.prog 128 := enters_of Tryz.func128 (by kernel_rfl) rfl
    refine (compactC (fun x : Mp.Cond => .string x.1) (fun x => .string x.2.1) (fun x => .int .i64 x.2.2) Np.condC w1 H g n cap (Np.sortC Np.condC l) 128 w.heap.size HO1.out (by rw [Np.sortC_length, HN.out]) hl eg (fun x v hv => by simp at hv; rcases hv with rfl | rfl | rfl <;> rfl)
      (fun W hW x y => eqCondD _ W (gb_keep hW _ _ (by show w.heap.size ≠ g; omega) p2) x y)).mono ?_
    rintro e w2 ⟨⟨k, rfl, hk, o2⟩, g2⟩
    have HO2 := hideT o2
    have HG2 := hideT (gb_trans HG1.out g2)
    have HK := hideT hk
    clear o2 g2 hk
    go_wp2_with fail
    go_ret
    have hk := HK.out
    subst hk
    exact ⟨some ⟨g, 0, none⟩, cap, rfl, HO2.out, HG2.out⟩
end Go.Proofs.YtdcahnaempabcabGreat
