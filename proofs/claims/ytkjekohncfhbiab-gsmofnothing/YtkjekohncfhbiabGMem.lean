/-
  What is kept of a program, in memory: rows within rows, and what they hang on.
-/
import Derived.Test.YtkjekohncfhbiabRApp2
import Derived.Test.YtkjekohncfhbiabMCopy2
import Derived.Test.YtkjekohncfhbiabGPlain
set_option linter.unusedSimpArgs false
set_option linter.unusedVariables false
namespace Go.Proofs.Ytkjekohncfhbiab
open Go.RowKit
set_option maxRecDepth 100000
/-! ### What hangs on some blocks -/
def Hang (S : Nat → Prop) (P : World → Prop) (w : World) : Prop := ∀ w', (∀ a c, S a.block → w.cell? a = some c → w'.cell? a = some c) → P w'
section HG
variable {S S' T : Nat → Prop} {P Q : World → Prop} {w w' : World}
theorem Hang.here (h : Hang S P w) : P w := h w fun _ _ _ h => h
theorem Hang.keep (h : Hang S P w) (k : Keep T w w') (hs : ∀ i, i < w.heap.size → S i → ¬ T i) : Hang S P w' := fun w2 h2 => h w2 fun a c h1 hc => h2 a c h1 (by rw [k.cell (cell_lt hc) (hs _ (cell_lt hc) h1)]; exact hc)
theorem Hang.below (h : Hang S P w) (k : Below w.heap.size w w') : Hang S P w' := h.keep (T := fun _ => False) (Keep.of_below k) (fun _ _ _ e => e)
theorem Hang.sub (h : Hang S P w) (hs : ∀ i, i < w.heap.size → S i → S' i) : Hang S' P w := fun w2 h2 => h w2 fun a c h1 hc => h2 a c (hs _ (cell_lt hc) h1) hc
theorem Hang.imp (h : Hang S P w) (hpq : ∀ w, P w → Q w) : Hang S Q w := fun w2 h2 => hpq _ (h w2 h2)
theorem Hang.and (h : Hang S P w) (k : Hang S Q w) : Hang S (fun w => P w ∧ Q w) w := fun w2 h2 => ⟨h w2 h2, k w2 h2⟩
theorem Hang.pure {p : Prop} (h : p) : Hang S (fun _ => p) w := fun _ _ => h
theorem Hang.new {B : Nat} (h : NewR B P w) : Hang (fun k => B ≤ k ∧ k < w.heap.size) P w := fun w2 h2 => h w2 fun a c h1 hc => h2 a c ⟨h1, cell_lt hc⟩ hc
theorem Hang.toNew {B : Nat} (h : Hang S P w) (hs : ∀ i, i < w.heap.size → S i → B ≤ i) : NewR B P w := fun w2 h2 => h w2 fun a c h1 hc => h2 a c (hs _ (cell_lt hc) h1) hc
end HG
/-! ### Rows that are appended to -/
structure AppK (W W' : World) (v v' : Value) : Prop where
  keep : Keep (fun k => v.ownBlock = some k) W W'
  ob : v'.ownBlock = v.ownBlock ∨ v'.ownBlock = some W.heap.size
theorem AppK.old {W W' : World} {v v' : Value} (h : AppK W W' v v') {k : Nat} (hk : k < W.heap.size) (hv : v'.ownBlock = some k) : v.ownBlock = some k := by
  rcases h.ob with e | e
  · rw [← e]; exact hv
  · rw [e] at hv; cases hv; omega
section MadeO
variable {α : Type} {t e : TypeId} {z bytes : Nat} {E : α → List Value}
structure OE (H : Nat) (e : TypeId) (z : Nat) (E : α → List Value) (W : World) (v : Value) (L : List α) : Prop where
  own : W.ownsRow H e z v L.length (L.map E).flatten
  low : H ≤ W.heap.size
theorem OE.keep {H : Nat} {W W' : World} {v : Value} {L : List α} {S : Nat → Prop} (h : OE H e z E W v L) (k : Keep S W W') (hs : ∀ i, v.ownBlock = some i → ¬ S i) : OE H e z E W' v L :=
  ⟨own_keep h.own (fun g hg => k.block g (own_lt h.own hg).1 (hs g hg)), Nat.le_trans h.low k.size⟩
theorem OE.below {H : Nat} {W W' : World} {v : Value} {L : List α} (h : OE H e z E W v L) (k : Below W.heap.size W W') : OE H e z E W' v L := h.keep (Keep.of_below k) (S := fun _ => False) (fun _ _ e => e)
theorem OE.nil {H : Nat} {W : World} (hH : H ≤ W.heap.size) : OE H e z E W (.slice none 0 0) [] := ⟨⟨by simp, .inl ⟨rfl, rfl⟩⟩, hH⟩
theorem OE.lt {H : Nat} {W : World} {v : Value} {L : List α} (h : OE H e z E W v L) {g : Nat} (hg : v.ownBlock = some g) : g < W.heap.size ∧ H ≤ g := own_lt h.own hg
theorem OE.te {H : Nat} {W0 W : World} {v : Value} {L : List α} (h : OE W0.heap.size e z E W v L) (hb : Below W0.heap.size W0 W) : TE e z E W0 W v L := ⟨h.own, hb⟩
theorem OE.form {H : Nat} {W : World} {v : Value} {L : List α} (h : OE H e z E W v L) : ∃ ob oc, v = .slice ob L.length oc ∧ L.length ≤ oc ∧ ∃ g, (0 < L.length → ob = some ⟨g, 0, .none⟩ ∧ v.ownBlock = some g) ∧ ∀ (j : Nat) u, (L.map E).flatten[j]? = some u → H ≤ g ∧ W.cell? ⟨g, j, .none⟩ = some u ∧ W.frozen? ⟨g, j, .none⟩ = false := by
  rcases h.own.2 with ⟨rfl, h0⟩ | ⟨g, cap, cur, rfl, hbg, hg, hnc, hcm, hcs, htake⟩
  · refine ⟨.none, 0, by rw [h0], by omega, 0, fun h => by omega, fun j u hj => ?_⟩
    have h1 := h.own.1
    rw [h0, Nat.zero_mul] at h1
    have := (List.getElem?_eq_some_iff.1 hj).1
    omega
  · refine ⟨_, cap, rfl, hnc, g, fun _ => ⟨rfl, rfl⟩, fun j u hj => ?_⟩
    exact ⟨hbg, own_cell h.own hj, own_free h.own j⟩
theorem run_appO (ht : Try.prog.underlying t = some (.slice e)) {zv : Value} (hi : (Try.prog.info? e).map (fun i => (i.zero, i.size, i.bytes)) = some (some zv, z, bytes)) (hzs : zv.cells.size = z) (hz0 : 0 < z) (hbb : bytes ≤ 1000) (hE : ∀ x, (E x).length = z) (hE1 : ∀ x, ∀ u ∈ E x, u.oneCell' = true)
    {H : Nat} {W : World} {v : Value} {ao : Option Addr} {m c : Nat} {L : List α} (hT : OE H e z E W v L) (news : List α) (hm : news.length = m) (hsrc : 0 < m → ∃ ad, ao = some ad ∧ ∀ (j : Nat) u, (news.map E).flatten[j]? = some u → W.cell? (ad.add j) = some u) (hl : L.length + m ≤ 10000000) (ty : TypeId) :
    ∃ v' w', (Builtin.append_ #[t, t] ty #[v, .slice ao m c]).run Try.prog W = .ok v' w' ∧ OE H e z E w' v' (L ++ news) ∧ AppK W w' v v' := by
  obtain ⟨j0, hj0, jz0, jz1, jz2⟩ := info_parts hi
  by_cases h0 : m = 0
  · subst h0
    obtain rfl := List.eq_nil_of_length_eq_zero hm
    exact ⟨v, W, run_app_noneE ty ht hj0 hT.own ao c, by rw [List.append_nil]; exact hT, Keep.refl _ _, .inl rfl⟩
  · obtain ⟨ad, rfl, hc⟩ := hsrc (by omega)
    obtain ⟨v', w', hr, h2, h3, _, h4⟩ := run_append_own_at (P := Try.prog) W H t ty e j0 _ z bytes ht hj0 jz0 jz1 jz2 hzs hz0 v L.length (L.map E).flatten hT.own ad m c (news.map E).flatten (by rw [flat_len hE, hm]) hc (fun u hu => by
      obtain ⟨q, hq, hu⟩ := List.mem_flatten.1 hu
      obtain ⟨y, _, rfl⟩ := List.mem_map.1 hq
      exact hE1 y u hu) (by unfold maxLen; omega) (Nat.le_trans (Nat.mul_le_mul hl hbb) (by omega)) hT.low
    refine ⟨v', w', hr, ⟨?_, Nat.le_trans hT.low h3.size⟩, Keep.grown h3, h4⟩
    rw [List.length_append, List.map_append, List.flatten_append, hm]
    exact h2
/-- The law: at a step of a region that draws its order. -/
theorem step_appO (ht : Try.prog.underlying t = some (.slice e)) {zv : Value} (hi : (Try.prog.info? e).map (fun i => (i.zero, i.size, i.bytes)) = some (some zv, z, bytes)) (hzs : zv.cells.size = z) (hz0 : 0 < z) (hbb : bytes ≤ 1000) (hE : ∀ x, (E x).length = z) (hE1 : ∀ x, ∀ u ∈ E x, u.oneCell' = true)
    {ops : Array Oper} {o : Oper} {a : Act} {K : Act → World → Prop} {Q : Exit → Act → World → Prop} {F : Prop} (hgd : o.guard = .none) (s x : Operand) (ho : o.op = .call { callee := .builtin .append, args := #[s, x], argTypes := #[t, t] })
    {H : Nat} {W : World} {v : Value} (hs : a.eval s = v) {ao : Option Addr} {m c : Nat} (hx : a.eval x = .slice ao m c) {L : List α} (hT : OE H e z E W v L) (news : List α) (hm : news.length = m) (hsrc : 0 < m → ∃ ad, ao = some ad ∧ ∀ (j : Nat) u, (news.map E).flatten[j]? = some u → W.cell? (ad.add j) = some u) (hl : L.length + m ≤ 10000000)
    (h : ∀ v' w', OE H e z E w' v' (L ++ news) → AppK W w' v v' → K (a.put o.dst v') w') :
    if Region.wanted o (yielded ops a.tmps) = true then Oper.wp Try.prog o a W K Q else F := by
  have hw : Region.wanted o (yielded ops a.tmps) = true := by simp [Region.wanted, hgd]
  rw [if_pos hw]
  obtain ⟨v', w', hr, hT', hG⟩ := run_appO ht hi hzs hz0 hbb hE hE1 hT (c := c) news hm hsrc hl o.type
  unfold Oper.wp execOp
  simp only [ho, resolve, invoke, builtin, Sem.run_bind, Sem.run_pure, Result.andThen_ok, List.map_toArray, List.map_cons, List.map_nil, hs, hx, hr]
  exact h v' w' hT' hG
/-- As step_appO, where the region does not draw. -/
theorem wpList_appO (ht : Try.prog.underlying t = some (.slice e)) {zv : Value} (hi : (Try.prog.info? e).map (fun i => (i.zero, i.size, i.bytes)) = some (some zv, z, bytes)) (hzs : zv.cells.size = z) (hz0 : 0 < z) (hbb : bytes ≤ 1000) (hE : ∀ x, (E x).length = z) (hE1 : ∀ x, ∀ u ∈ E x, u.oneCell' = true)
    {ops : Array Oper} {rest : List Oper} {o : Oper} {a : Act} {Q : Exit → Act → World → Prop} (hgd : o.guard = .none) (s x : Operand) (ho : o.op = .call { callee := .builtin .append, args := #[s, x], argTypes := #[t, t] })
    {H : Nat} {W : World} {v : Value} (hs : a.eval s = v) {ao : Option Addr} {m c : Nat} (hx : a.eval x = .slice ao m c) {L : List α} (hT : OE H e z E W v L) (news : List α) (hm : news.length = m) (hsrc : 0 < m → ∃ ad, ao = some ad ∧ ∀ (j : Nat) u, (news.map E).flatten[j]? = some u → W.cell? (ad.add j) = some u) (hl : L.length + m ≤ 10000000)
    (h : ∀ v' w', OE H e z E w' v' (L ++ news) → AppK W w' v v' → wpList Try.prog ops Q rest (a.put o.dst v') w') : wpList Try.prog ops Q (o :: rest) a W :=
  wpList_plain hgd fun K hK => by
    have h0 := step_appO (F := False) (ops := ops) (K := K) (Q := Q) ht hi hzs hz0 hbb hE hE1 hgd s x ho hs hx hT news hm hsrc hl (fun v' w' h1 h2 => hK _ _ (h v' w' h1 h2))
    rwa [if_pos (by simp [Region.wanted, hgd])] at h0
/-- A row that was appended to is a row of elements, and hangs on its block and on what its elements hang on. -/
theorem OE.row {β : Type} {R : World → List Value → β → Prop} {S : Nat → Prop} {H : Nat} {W : World} {v : Value} {cl : List α} {l : List β} (h : OE H e z E W v cl) (hlen : cl.length = l.length) (hl : l.length ≤ 10000000000000) (hE : ∀ x, (E x).length = z) (hS : ∀ g, v.ownBlock = some g → S g)
    (hR : ∀ (i : Nat) x c, l[i]? = some x → cl[i]? = some c → Hang S (fun w => R w (E c) x) W) : Hang S (fun w => RowR z R w v l) W := by
  obtain ⟨ob, oc, rfl, hoc, g, hg1, hgc⟩ := h.form
  rw [hlen] at hoc hg1 hS
  intro w2 h2
  refine ⟨g, 0, ⟨ob, oc, by rw [hlen], hoc, fun h0 => (hg1 h0).1⟩, hl, fun i x hx => ?_⟩
  have hi : i < cl.length := by have := (List.getElem?_eq_some_iff.1 hx).1; omega
  refine ⟨E cl[i], hE _, hR i x _ hx (List.getElem?_eq_getElem hi) w2 h2, fun j u hu => ?_⟩
  rw [Nat.zero_add]
  have hm : ((cl.map E)).flatten[i * z + j]? = some u := flatten_get (fun y hy => by obtain ⟨q, _, rfl⟩ := List.mem_map.1 hy; exact hE q) (by rw [List.getElem?_map, List.getElem?_eq_getElem hi]; rfl) hu
  refine h2 _ _ (hS g (hg1 (by omega)).2) (hgc _ u hm).2.1
end MadeO
/-! ### What is kept -/
def kcR (w : World) (cs : List Value) (x : Gp.KC) : Prop := cs = [.int .i64 x.1, .int .i64 x.2.1, .bool x.2.2.1, .bool x.2.2.2.1, .bool x.2.2.2.2]
abbrev KCRow := RowR 5 kcR
def krR (w : World) (cs : List Value) (x : Gp.KR) : Prop := ∃ v1 v2 v3, cs = [v1, v2, v3] ∧ LRow w v1 x.1 ∧ KCRow w v2 x.2.1 ∧ LRow w v3 x.2.2
abbrev KRRow := RowR 3 krR
def ksR (w : World) (cs : List Value) (x : Gp.KS) : Prop := ∃ v, cs = [.int .i64 x.1, v] ∧ KRRow w v x.2
abbrev KSRow := RowR 2 ksR
theorem kcrow_turn {w w' : World} {v : Value} {l : List Gp.KC} (h : KCRow w v l) (hc : ∀ a c, w.cell? a = some c → w'.cell? a = some c) : KCRow w' v l := RowR.turn h (fun _ _ _ h => h) hc
theorem krrow_turn {w w' : World} {v : Value} {l : List Gp.KR} (h : KRRow w v l) (hc : ∀ a c, w.cell? a = some c → w'.cell? a = some c) : KRRow w' v l :=
  RowR.turn h (fun cs x _ ⟨v1, v2, v3, e, h1, h2, h3⟩ => ⟨v1, v2, v3, e, lrow_turn h1 hc, kcrow_turn h2 hc, lrow_turn h3 hc⟩) hc
theorem ksrow_turn {w w' : World} {v : Value} {l : List Gp.KS} (h : KSRow w v l) (hc : ∀ a c, w.cell? a = some c → w'.cell? a = some c) : KSRow w' v l :=
  RowR.turn h (fun cs x _ ⟨v1, e, h1⟩ => ⟨v1, e, krrow_turn h1 hc⟩) hc
theorem kcrow_at {w : World} {ao : Option Addr} {n cap : Nat} {l : List Gp.KC} (h : KCRow w (.slice ao n cap) l) : n = l.length ∧ n ≤ 10000000000000 ∧ n ≤ cap ∧ ∃ b o, (0 < n → ao = some ⟨b, o, none⟩) ∧ ∀ (i : Nat) x, l[i]? = some x → w.cell? ⟨b, o + i * 5, none⟩ = some (.int .i64 x.1) ∧ w.cell? ⟨b, o + i * 5 + 1, none⟩ = some (.int .i64 x.2.1) ∧ w.cell? ⟨b, o + i * 5 + 2, none⟩ = some (.bool x.2.2.1) ∧ w.cell? ⟨b, o + i * 5 + 3, none⟩ = some (.bool x.2.2.2.1) ∧ w.cell? ⟨b, o + i * 5 + 4, none⟩ = some (.bool x.2.2.2.2) := by
  obtain ⟨b, o, ⟨a1, c1, e, hcp, ha⟩, h2, h3⟩ := h
  cases e
  refine ⟨rfl, h2, hcp, b, o, ha, fun i s hs => ?_⟩
  obtain ⟨cs, _, rfl, hc⟩ := h3 i s hs
  exact ⟨hc 0 _ rfl, hc 1 _ rfl, hc 2 _ rfl, hc 3 _ rfl, hc 4 _ rfl⟩
structure KRAt (w : World) (b o : Nat) (x : Gp.KR) (a1 : Option Addr) (c1 : Nat) (a2 : Option Addr) (c2 : Nat) (a3 : Option Addr) (c3 : Nat) : Prop where
  lits : LRow w (.slice a1 x.1.length c1) x.1
  conds : KCRow w (.slice a2 x.2.1.length c2) x.2.1
  sets : LRow w (.slice a3 x.2.2.length c3) x.2.2
  d0 : w.cell? ⟨b, o, none⟩ = some (.slice a1 x.1.length c1)
  d1 : w.cell? ⟨b, o + 1, none⟩ = some (.slice a2 x.2.1.length c2)
  d2 : w.cell? ⟨b, o + 2, none⟩ = some (.slice a3 x.2.2.length c3)
theorem KRAt.turn {w w' : World} {b o : Nat} {x : Gp.KR} {a1 a2 a3 : Option Addr} {c1 c2 c3 : Nat} (h : KRAt w b o x a1 c1 a2 c2 a3 c3) (hc : ∀ a c, w.cell? a = some c → w'.cell? a = some c) : KRAt w' b o x a1 c1 a2 c2 a3 c3 :=
  ⟨lrow_turn h.lits hc, kcrow_turn h.conds hc, lrow_turn h.sets hc, hc _ _ h.d0, hc _ _ h.d1, hc _ _ h.d2⟩
theorem krrow_at {w : World} {ao : Option Addr} {n cap : Nat} {l : List Gp.KR} (h : KRRow w (.slice ao n cap) l) : n = l.length ∧ n ≤ 10000000000000 ∧ n ≤ cap ∧ ∃ b o, (0 < n → ao = some ⟨b, o, none⟩) ∧ ∀ (i : Nat) x, l[i]? = some x → ∃ a1 c1 a2 c2 a3 c3, KRAt w b (o + i * 3) x a1 c1 a2 c2 a3 c3 := by
  obtain ⟨b, o, ⟨a1, c1, e, hcp, ha⟩, h2, h3⟩ := h
  cases e
  refine ⟨rfl, h2, hcp, b, o, ha, fun i s hs => ?_⟩
  obtain ⟨cs, _, ⟨v1, v2, v3, rfl, r1, r2, r3⟩, hc⟩ := h3 i s hs
  obtain ⟨a1, c1, rfl⟩ := row_val r1
  obtain ⟨a2, c2, rfl⟩ := row_val r2
  obtain ⟨a3, c3, rfl⟩ := row_val r3
  exact ⟨a1, c1, a2, c2, a3, c3, r1, r2, r3, hc 0 _ rfl, hc 1 _ rfl, hc 2 _ rfl⟩
theorem ksrow_at {w : World} {ao : Option Addr} {n cap : Nat} {l : List Gp.KS} (h : KSRow w (.slice ao n cap) l) : n = l.length ∧ n ≤ 10000000000000 ∧ n ≤ cap ∧ ∃ b o, (0 < n → ao = some ⟨b, o, none⟩) ∧ ∀ (i : Nat) x, l[i]? = some x → ∃ a1 c1, KRRow w (.slice a1 x.2.length c1) x.2 ∧ w.cell? ⟨b, o + i * 2, none⟩ = some (.int .i64 x.1) ∧ w.cell? ⟨b, o + i * 2 + 1, none⟩ = some (.slice a1 x.2.length c1) := by
  obtain ⟨b, o, ⟨a1, c1, e, hcp, ha⟩, h2, h3⟩ := h
  cases e
  refine ⟨rfl, h2, hcp, b, o, ha, fun i s hs => ?_⟩
  obtain ⟨cs, _, ⟨v1, rfl, r1⟩, hc⟩ := h3 i s hs
  obtain ⟨a1, c1, rfl⟩ := row_val r1
  exact ⟨a1, c1, r1, hc 0 _ rfl, hc 1 _ rfl⟩
/-- Where what is kept lies. -/
structure KA where
  a1 : Option Addr
  c1 : Nat
  a3 : Option Addr
  c3 : Nat
  a4 : Option Addr
  c4 : Nat
  a5 : Option Addr
  c5 : Nat
  a6 : Option Addr
  c6 : Nat
structure KeptAt (w : World) (A : KA) (K : Gp.KP) : Prop where
  over : ZRow w (.slice A.a1 K.over.length A.c1) K.over
  files : FRow w (.slice A.a3 K.files.length A.c3) K.files
  strata : KSRow w (.slice A.a4 K.strata.length A.c4) K.strata
  ctrs : TRow w (.slice A.a5 K.ctrs.length A.c5) K.ctrs
  users : URow w (.slice A.a6 K.users.length A.c6) K.users
theorem KeptAt.turn {w w' : World} {A : KA} {K : Gp.KP} (h : KeptAt w A K) (hc : ∀ a c, w.cell? a = some c → w'.cell? a = some c) : KeptAt w' A K :=
  ⟨zrow_turn h.over hc, RowR.turn h.files (fun _ _ _ h => h) hc, ksrow_turn h.strata hc, trow_turn h.ctrs hc, urow_turn h.users hc⟩
theorem KeptAt.below {w w' : World} {A : KA} {K : Gp.KP} (h : KeptAt w A K) (hb : Below w.heap.size w w') : KeptAt w' A K := h.turn (below_cell hb)
/-! ### Rows of a machine's own -/
def FlagR (w : World) (b : Nat) (l : List Bool) : Prop := Lies w b 4 (l.map Value.bool).toArray
def IntR (w : World) (b : Nat) (l : List Int) : Prop := Lies w b 3 (l.map (Value.int .i64)).toArray
theorem FlagR.cell {w : World} {b : Nat} {l : List Bool} (h : FlagR w b l) {i : Nat} {x : Bool} (hi : l[i]? = some x) : w.cell? ⟨b, i, none⟩ = some (.bool x) := by
  rw [Lies.cell h i, List.getElem?_toArray, List.getElem?_map, hi]
  rfl
theorem IntR.cell {w : World} {b : Nat} {l : List Int} (h : IntR w b l) {i : Nat} {x : Int} (hi : l[i]? = some x) : w.cell? ⟨b, i, none⟩ = some (.int .i64 x) := by
  rw [Lies.cell h i, List.getElem?_toArray, List.getElem?_map, hi]
  rfl
theorem FlagR.at {w : World} {b : Nat} {l : List Bool} (h : FlagR w b l) {f : Int} (h0 : 0 ≤ f) (h1 : f < (l.length : Int)) : w.cell? ⟨b, f.toNat, none⟩ = some (.bool (Gp.atB l f)) := by
  refine h.cell ?_
  have hn : f.toNat < l.length := by omega
  unfold Gp.atB
  rw [List.getD_eq_getElem?_getD, List.getElem?_eq_getElem hn]
  rfl
theorem IntR.at {w : World} {b : Nat} {l : List Int} (h : IntR w b l) {f : Int} (h0 : 0 ≤ f) (h1 : f < (l.length : Int)) : w.cell? ⟨b, f.toNat, none⟩ = some (.int .i64 (Gp.atZ l f)) := by
  refine h.cell ?_
  have hn : f.toNat < l.length := by omega
  unfold Gp.atZ
  rw [List.getD_eq_getElem?_getD, List.getElem?_eq_getElem hn]
  rfl
theorem FlagR.set {w : World} {b : Nat} {l : List Bool} (h : FlagR w b l) (i : Nat) (v : Bool) : FlagR (w.setCell ⟨b, i, none⟩ (.bool v)) b (l.set i v) := by
  have := Lies.set h i (.bool v)
  unfold FlagR
  rw [List.map_set]
  rwa [List.setIfInBounds_toArray] at this
theorem IntR.set {w : World} {b : Nat} {l : List Int} (h : IntR w b l) (i : Nat) (v : Int) : IntR (w.setCell ⟨b, i, none⟩ (.int .i64 v)) b (l.set i v) := by
  have := Lies.set h i (.int .i64 v)
  unfold IntR
  rw [List.map_set]
  rwa [List.setIfInBounds_toArray] at this
theorem FlagR.keep {S : Nat → Prop} {w w' : World} {b : Nat} {l : List Bool} (h : FlagR w b l) (k : Keep S w w') (hs : ¬ S b) : FlagR w' b l := Lies.keep h k hs
theorem IntR.keep {S : Nat → Prop} {w w' : World} {b : Nat} {l : List Int} (h : IntR w b l) (k : Keep S w w') (hs : ¬ S b) : IntR w' b l := Lies.keep h k hs
theorem FlagR.below {w w' : World} {b : Nat} {l : List Bool} (h : FlagR w b l) (k : Below w.heap.size w w') : FlagR w' b l := Lies.below h k
theorem IntR.below {w w' : World} {b : Nat} {l : List Int} (h : IntR w b l) (k : Below w.heap.size w w') : IntR w' b l := Lies.below h k
theorem lies_neG {w : World} {b b' : Nat} {t t' : TypeId} {C C' : Array Value} (h : Lies w b t C) (h' : Lies w b' t' C') (ht : t ≠ t') : b ≠ b' := by
  rintro rfl
  unfold Lies at h h'
  rw [h] at h'
  simp only [Option.some.injEq, Obj.cells.injEq] at h'
  exact ht h'.2.1
theorem flag_int_ne {w : World} {b c : Nat} {l : List Bool} {m : List Int} (h : FlagR w b l) (k : IntR w c m) : b ≠ c := by
  rintro rfl
  unfold FlagR Lies at h
  unfold IntR Lies at k
  rw [h] at k
  simp only [Option.some.injEq, Obj.cells.injEq] at k
  exact absurd k.2.1 (by decide)
end Go.Proofs.Ytkjekohncfhbiab
