/-
  A case in memory: what lies where, what may turn, and how each thing is turned.
-/
import Derived.Test.YtpipjkbgbhefcaaGreatCMem
set_option linter.unusedSimpArgs false
set_option linter.unusedVariables false
namespace Go.Proofs.YtpipjkbgbhefcaaGreat
open Go.RowKit Go.Maps
open Qp
set_option maxRecDepth 100000
/-- What hangs on the cells of the blocks from lo up to hi. -/
def ZoneR (lo hi : Nat) (P : World → Prop) (w : World) : Prop := ∀ w', (∀ a c, lo ≤ a.block → a.block < hi → w.cell? a = some c → w'.cell? a = some c) → P w'
theorem ZoneR.here {lo hi : Nat} {P : World → Prop} {w : World} (h : ZoneR lo hi P w) : P w := h w fun _ _ _ _ h => h
theorem ZoneR.keep {lo hi : Nat} {P : World → Prop} {w w' : World} {S : Nat → Prop} (h : ZoneR lo hi P w) (k : Keep S w w') (hs : ∀ i, lo ≤ i → i < hi → ¬ S i) : ZoneR lo hi P w' :=
  fun w2 h2 => h w2 fun a c h1 h3 hc => h2 a c h1 h3 (by rw [k.cell (cell_lt hc) (hs _ h1 h3)]; exact hc)
theorem ZoneR.of_new {lo : Nat} {P : World → Prop} {w : World} (h : NewR lo P w) : ZoneR lo w.heap.size P w := fun w' hw => h w' fun a c ha hc => hw a c ha (cell_lt hc) hc
/-- Where a case's things lie. -/
structure Kc where
  cb : Nat
  sb : Nat
  nb : Nat
  mb : Nat
  qb : Nat
  lo : Nat
  hi : Nat
  af : Option Addr
  cf : Nat
  ib : Nat
  io : Nat
  ci : Nat
/-- The blocks of a case that may turn. -/
def CS (K : Kc) (v : Value) (k : Nat) : Prop := k = K.cb ∨ k = K.sb ∨ k = K.nb ∨ k = K.mb ∨ QS K.qb v k
abbrev boxC (K : Kc) (m : Mp.Model) (st : Cp.St) : Array Value := #[.slice K.af m.files.length K.cf, .slice (some ⟨K.ib, K.io, none⟩) m.items.length K.ci, .slice (some ⟨K.sb, 0, none⟩) m.items.length m.items.length, .slice (some ⟨K.nb, 0, none⟩) m.files.length m.files.length, .map (some K.mb), .pointer (some ⟨K.qb, 0, none⟩), .int .i64 st.now, .int .i64 st.rounds]
/-- A case: the model m, how it all is (st), its timers' row v of L; at most N events were put in. -/
structure CIn (w : World) (H : Nat) (K : Kc) (m : Mp.Model) (v : Value) (L : List Thing) (N : Nat) (st : Cp.St) : Prop where
  box : Lies w K.cb 60 (boxC K m st)
  model : ZoneR K.lo K.hi (fun w => ModelAt w K.af K.cf (some ⟨K.ib, K.io, none⟩) K.ci m) w
  ss : IR w K.sb st.s
  nn : IR w K.nb st.f
  map : HIn w K.mb N st.hap
  q : QH w H K.qb v L
  apart : K.sb ≠ K.nb
  zone : ∀ k, CS K v k → k < K.lo ∨ K.hi ≤ k
  zhi : K.hi ≤ w.heap.size
  low : H ≤ K.cb ∧ H ≤ K.sb ∧ H ≤ K.nb ∧ H ≤ K.mb
  ns : st.s.length = m.items.length
  nf : st.f.length = m.files.length
section
variable {w w' : World} {H : Nat} {K : Kc} {m : Mp.Model} {v : Value} {L : List Thing} {N : Nat} {st : Cp.St}
theorem CIn.keep {S : Nat → Prop} (h : CIn w H K m v L N st) (k : Keep S w w') (hs : ∀ i, CS K v i → ¬ S i) (hz : ∀ i, K.lo ≤ i → i < K.hi → ¬ S i) : CIn w' H K m v L N st :=
  ⟨h.box.keep k (hs _ (.inl rfl)), h.model.keep k hz, Lies.keep h.ss k (hs _ (.inr (.inl rfl))), Lies.keep h.nn k (hs _ (.inr (.inr (.inl rfl)))), h.map.keep (k.block _ h.map.lt (hs _ (.inr (.inr (.inr (.inl rfl)))))), ⟨h.q.q.keep k (fun i hi => hs i (.inr (.inr (.inr (.inr hi))))), h.q.heap⟩, h.apart, h.zone, Nat.le_trans h.zhi k.size, h.low, h.ns, h.nf⟩
theorem CIn.below (h : CIn w H K m v L N st) (k : Below w.heap.size w w') : CIn w' H K m v L N st := h.keep (S := fun _ => False) (Keep.of_below k) (fun _ _ e => e) (fun _ _ _ e => e)
theorem CIn.lt (h : CIn w H K m v L N st) {k : Nat} (hk : CS K v k) : k < w.heap.size ∧ H ≤ k := by
  rcases hk with rfl | rfl | rfl | rfl | hk
  · exact ⟨h.box.lt, h.low.1⟩
  · exact ⟨Lies.lt h.ss, h.low.2.1⟩
  · exact ⟨Lies.lt h.nn, h.low.2.2.1⟩
  · exact ⟨h.map.lt, h.low.2.2.2⟩
  · exact h.q.q.lt hk
theorem lies_ne {b b' : Nat} {t t' : TypeId} {C C' : Array Value} (h : Lies w b t C) (h' : Lies w b' t' C') (ht : t ≠ t') : b ≠ b' := by
  rintro rfl
  unfold Lies at h h'
  rw [h] at h'
  simp only [Option.some.injEq, Obj.cells.injEq] at h'
  exact ht h'.2.1
theorem qs_ne {b : Nat} {t : TypeId} {C : Array Value} (h : QH w H K.qb v L) (hl : Lies w b t C) (h1 : t ≠ 85) (h2 : t ≠ 118) : ¬ QS K.qb v b := by
  rintro (e | e)
  · exact lies_ne hl h.q.box h1 e
  · exact own_ne h.q.row hl h2 e
/-- The case's blocks are all unlike. -/
theorem CIn.cb_ne (h : CIn w H K m v L N st) : K.cb ≠ K.sb ∧ K.cb ≠ K.nb ∧ K.cb ≠ K.mb ∧ ¬ QS K.qb v K.cb :=
  ⟨lies_ne h.box h.ss (by decide), lies_ne h.box h.nn (by decide), h.map.ne h.box, qs_ne h.q h.box (by decide) (by decide)⟩
theorem CIn.sb_ne (h : CIn w H K m v L N st) : K.sb ≠ K.cb ∧ K.sb ≠ K.nb ∧ K.sb ≠ K.mb ∧ ¬ QS K.qb v K.sb :=
  ⟨h.cb_ne.1.symm, h.apart, h.map.ne h.ss, qs_ne h.q h.ss (by decide) (by decide)⟩
theorem CIn.nb_ne (h : CIn w H K m v L N st) : K.nb ≠ K.cb ∧ K.nb ≠ K.sb ∧ K.nb ≠ K.mb ∧ ¬ QS K.qb v K.nb :=
  ⟨h.cb_ne.2.1.symm, h.apart.symm, h.map.ne h.nn, qs_ne h.q h.nn (by decide) (by decide)⟩
theorem CIn.mb_ne (h : CIn w H K m v L N st) : K.mb ≠ K.cb ∧ K.mb ≠ K.sb ∧ K.mb ≠ K.nb ∧ ¬ QS K.qb v K.mb :=
  ⟨h.cb_ne.2.2.1.symm, h.sb_ne.2.2.1.symm, h.nb_ne.2.2.1.symm, fun e => by
    rcases e with e | e
    · exact h.map.ne h.q.q.box e.symm
    · exact h.map.ne_own h.q.q.row e⟩
theorem CIn.zone_ne (h : CIn w H K m v L N st) {b : Nat} (hb : CS K v b) : ∀ i, K.lo ≤ i → i < K.hi → ¬ i = b := fun i h1 h2 e => by
  subst e
  have := h.zone i hb
  omega
theorem CIn.at (h : CIn w H K m v L N st) : ModelAt w K.af K.cf (some ⟨K.ib, K.io, none⟩) K.ci m := h.model.here
theorem CIn.c0 (h : CIn w H K m v L N st) : w.cell? ⟨K.cb, 0, none⟩ = some (.slice K.af m.files.length K.cf) := h.box.cell 0
theorem CIn.c1 (h : CIn w H K m v L N st) : w.cell? ⟨K.cb, 1, none⟩ = some (.slice (some ⟨K.ib, K.io, none⟩) m.items.length K.ci) := h.box.cell 1
theorem CIn.c2 (h : CIn w H K m v L N st) : w.cell? ⟨K.cb, 2, none⟩ = some (.slice (some ⟨K.sb, 0, none⟩) m.items.length m.items.length) := h.box.cell 2
theorem CIn.c3 (h : CIn w H K m v L N st) : w.cell? ⟨K.cb, 3, none⟩ = some (.slice (some ⟨K.nb, 0, none⟩) m.files.length m.files.length) := h.box.cell 3
theorem CIn.c4 (h : CIn w H K m v L N st) : w.cell? ⟨K.cb, 4, none⟩ = some (.map (some K.mb)) := h.box.cell 4
theorem CIn.c5 (h : CIn w H K m v L N st) : w.cell? ⟨K.cb, 5, none⟩ = some (.pointer (some ⟨K.qb, 0, none⟩)) := h.box.cell 5
theorem CIn.c6 (h : CIn w H K m v L N st) : w.cell? ⟨K.cb, 6, none⟩ = some (.int .i64 st.now) := h.box.cell 6
theorem CIn.c7 (h : CIn w H K m v L N st) : w.cell? ⟨K.cb, 7, none⟩ = some (.int .i64 st.rounds) := h.box.cell 7
theorem CIn.cs (h : CIn w H K m v L N st) {i : Nat} (hi : i < m.items.length) : w.cell? ⟨K.sb, i, none⟩ = some (.int .i64 (Cp.at0 st.s i)) := h.ss.cell (by rw [h.ns]; exact hi)
theorem CIn.cn (h : CIn w H K m v L N st) {i : Nat} (hi : i < m.files.length) : w.cell? ⟨K.nb, i, none⟩ = some (.int .i64 (Cp.at0 st.f i)) := h.nn.cell (by rw [h.nf]; exact hi)
/-- An item's cells, where they lie. -/
theorem CIn.item (h : CIn w H K m v L N st) {i : Nat} (hi : i < m.items.length) : ∃ a5 c5 a6 c6, ItemAt w K.ib (K.io + i * 7) (Cp.itm m i) a5 c5 a6 c6 := by
  obtain ⟨_, _, _, b, o, ha, hc⟩ := irow_at h.at.items
  have := ha (by omega)
  simp only [Option.some.injEq, Addr.mk.injEq, and_true] at this
  obtain ⟨rfl, rfl⟩ := this
  exact hc i _ (Cp.itm_at hi)
/-- One number of the states. -/
theorem CIn.putS (h : CIn w H K m v L N st) (i : Nat) (x : Int) : CIn (w.setCell ⟨K.sb, i, none⟩ (.int .i64 x)) H K m v L N { st with s := st.s.set i x } ∧ Keep (CS K v) w (w.setCell ⟨K.sb, i, none⟩ (.int .i64 x)) := by
  obtain ⟨n1, n2, n3, n4⟩ := h.sb_ne
  have k : Keep (fun k => k = K.sb) w (w.setCell ⟨K.sb, i, none⟩ (.int .i64 x)) := Keep.set w _ _ rfl
  refine ⟨⟨h.box.keep k n1.symm, h.model.keep k (h.zone_ne (.inr (.inl rfl))), h.ss.set i x, Lies.keep h.nn k n2.symm, h.map.keep (k.block _ h.map.lt n3.symm), ⟨h.q.q.keep k (fun j hj e => n4 (e ▸ hj)), h.q.heap⟩, h.apart, h.zone, Nat.le_trans h.zhi k.size, h.low, by rw [List.length_set]; exact h.ns, h.nf⟩, k.wide (fun i _ e => .inr (.inl e))⟩
theorem CIn.putN (h : CIn w H K m v L N st) (i : Nat) (x : Int) : CIn (w.setCell ⟨K.nb, i, none⟩ (.int .i64 x)) H K m v L N { st with f := st.f.set i x } ∧ Keep (CS K v) w (w.setCell ⟨K.nb, i, none⟩ (.int .i64 x)) := by
  obtain ⟨n1, n2, n3, n4⟩ := h.nb_ne
  have k : Keep (fun k => k = K.nb) w (w.setCell ⟨K.nb, i, none⟩ (.int .i64 x)) := Keep.set w _ _ rfl
  refine ⟨⟨h.box.keep k n1.symm, h.model.keep k (h.zone_ne (.inr (.inr (.inl rfl)))), Lies.keep h.ss k n2.symm, h.nn.set i x, h.map.keep (k.block _ h.map.lt n3.symm), ⟨h.q.q.keep k (fun j hj e => n4 (e ▸ hj)), h.q.heap⟩, h.apart, h.zone, Nat.le_trans h.zhi k.size, h.low, h.ns, by rw [List.length_set]; exact h.nf⟩, k.wide (fun i _ e => .inr (.inr (.inl e)))⟩
theorem CIn.putBox (h : CIn w H K m v L N st) (i : Nat) (x : Int) (st' : Cp.St) (hb : (boxC K m st).setIfInBounds i (.int .i64 x) = boxC K m st') (h1 : st'.s = st.s) (h2 : st'.f = st.f) (h3 : st'.hap = st.hap) :
    CIn (w.setCell ⟨K.cb, i, none⟩ (.int .i64 x)) H K m v L N st' ∧ Keep (CS K v) w (w.setCell ⟨K.cb, i, none⟩ (.int .i64 x)) := by
  obtain ⟨n1, n2, n3, n4⟩ := h.cb_ne
  have k : Keep (fun k => k = K.cb) w (w.setCell ⟨K.cb, i, none⟩ (.int .i64 x)) := Keep.set w _ _ rfl
  have hb' := h.box.set i (.int .i64 x)
  rw [hb] at hb'
  exact ⟨⟨hb', h.model.keep k (h.zone_ne (.inl rfl)), by rw [h1]; exact Lies.keep h.ss k n1.symm, by rw [h2]; exact Lies.keep h.nn k n2.symm, by rw [h3]; exact h.map.keep (k.block _ h.map.lt n3.symm), ⟨h.q.q.keep k (fun j hj e => n4 (e ▸ hj)), h.q.heap⟩, h.apart, h.zone, Nat.le_trans h.zhi k.size, h.low, by rw [h1]; exact h.ns, by rw [h2]; exact h.nf⟩, k.wide (fun i _ e => .inl e)⟩
theorem CIn.putMap (h : CIn w H K m v L N st) {N' : Nat} {hap' : Mp.On → Bool} (hm : HIn w' K.mb N' hap') (hg : w.grownBy w' (some K.mb)) : CIn w' H K m v L N' { st with hap := hap' } ∧ Keep (CS K v) w w' := by
  obtain ⟨n1, n2, n3, n4⟩ := h.mb_ne
  have k : Keep (fun k => some K.mb = some k) w w' := Keep.grown hg
  have ne : ∀ {j : Nat}, K.mb ≠ j → ¬ some K.mb = some j := fun hj e => hj (Option.some.inj e)
  refine ⟨⟨h.box.keep k (ne n1), h.model.keep k (fun i h1 h2 e => h.zone_ne (.inr (.inr (.inr (.inl rfl)))) i h1 h2 (Option.some.inj e).symm), Lies.keep h.ss k (ne n2), Lies.keep h.nn k (ne n3), hm, ⟨h.q.q.keep k (fun j hj e => n4 ((Option.some.inj e) ▸ hj)), h.q.heap⟩, h.apart, h.zone, Nat.le_trans h.zhi k.size, h.low, h.ns, h.nf⟩, k.wide (fun i _ e => .inr (.inr (.inr (.inl (Option.some.inj e).symm))))⟩
theorem CIn.putQ (h : CIn w H K m v L N st) {v' : Value} {L' : List Thing} (t : QTo w w' H K.qb v v' L') : CIn w' H K m v' L' N st ∧ Keep (CS K v) w w' := by
  have k := t.keep
  refine ⟨⟨h.box.keep k h.cb_ne.2.2.2, h.model.keep k (fun i h1 h2 e => by have := h.zone i (.inr (.inr (.inr (.inr e)))); omega), Lies.keep h.ss k h.sb_ne.2.2.2, Lies.keep h.nn k h.nb_ne.2.2.2, h.map.keep (k.block _ h.map.lt h.mb_ne.2.2.2), t.h, h.apart, fun j hj => ?_, Nat.le_trans h.zhi k.size, h.low, h.ns, h.nf⟩, k.wide (fun i _ e => .inr (.inr (.inr (.inr e))))⟩
  rcases hj with e | e | e | e | e | e
  · exact h.zone j (.inl e)
  · exact h.zone j (.inr (.inl e))
  · exact h.zone j (.inr (.inr (.inl e)))
  · exact h.zone j (.inr (.inr (.inr (.inl e))))
  · exact h.zone j (.inr (.inr (.inr (.inr (.inl e)))))
  · rcases t.grew with g | ⟨g, g1, g2⟩
    · exact h.zone j (.inr (.inr (.inr (.inr (.inr (g ▸ e))))))
    · rw [g1] at e
      cases e
      have := h.zhi
      omega
/-- What a call leaves that turned the case alone. -/
structure CTo (w w' : World) (H : Nat) (K : Kc) (m : Mp.Model) (v v' : Value) (L' : List Thing) (N' : Nat) (st' : Cp.St) : Prop where
  c : CIn w' H K m v' L' N' st'
  keep : Keep (CS K v) w w'
  grew : Grew w v v'
theorem CTo.refl (h : CIn w H K m v L N st) : CTo w w H K m v v L N st := ⟨h, Keep.refl _ _, Grew.refl _ _⟩
theorem cs_grew {v' : Value} (g : Grew w v v') : ∀ i, i < w.heap.size → CS K v' i → CS K v i := by
  rintro i hi (e | e | e | e | e | e)
  · exact .inl e
  · exact .inr (.inl e)
  · exact .inr (.inr (.inl e))
  · exact .inr (.inr (.inr (.inl e)))
  · exact .inr (.inr (.inr (.inr (.inl e))))
  · rcases g with g | ⟨k, g, hk⟩
    · exact .inr (.inr (.inr (.inr (.inr (g ▸ e)))))
    · rw [g] at e
      cases e
      omega
theorem CTo.trans {w1 w2 : World} {v1 v2 : Value} {L1 L2 : List Thing} {N1 N2 : Nat} {s1 s2 : Cp.St} (a : CTo w w1 H K m v v1 L1 N1 s1) (b : CTo w1 w2 H K m v1 v2 L2 N2 s2) : CTo w w2 H K m v v2 L2 N2 s2 :=
  ⟨b.c, a.keep.on b.keep (cs_grew a.grew), a.grew.trans a.keep.size b.grew⟩
theorem CTo.of_below (h : CIn w H K m v L N st) (b : Below w.heap.size w w') : CTo w w' H K m v v L N st := ⟨h.below b, Keep.of_below b, Grew.refl _ _⟩
theorem CTo.turn (h : CIn w' H K m v L N st ∧ Keep (CS K v) w w') : CTo w w' H K m v v L N st := ⟨h.1, h.2, Grew.refl _ _⟩
theorem CTo.base {w0 w1 : World} {v1 : Value} {L1 : List Thing} {N1 : Nat} {s1 : Cp.St} (h : CIn w H K m v L N st) (hb : Below H w0 w) (a : CTo w w1 H K m v v1 L1 N1 s1) (h0 : H ≤ w0.heap.size) : Below H w0 w1 :=
  ⟨a.keep.os.trans hb.os, a.keep.tape.trans hb.tape, a.keep.output.trans hb.output, Nat.le_trans hb.size a.keep.size, fun i hi => by
    rw [a.keep.block i (Nat.lt_of_lt_of_le hi (Nat.le_trans h0 hb.size)) (fun e => by have := (h.lt e).2; omega)]
    exact hb.block i hi⟩
end
end Go.Proofs.YtpipjkbgbhefcaaGreat
