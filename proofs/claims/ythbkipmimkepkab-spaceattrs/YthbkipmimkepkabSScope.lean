/-
  A scope in memory: its map, and what is hidden; outside, declare.
-/
import Derived.Test.YthbkipmimkepkabSSmall
set_option linter.unusedSimpArgs false
set_option linter.unusedVariables false
namespace Go.Proofs.Ythbkipmimkepkab
open Go.RowKit
abbrev Hide := ByteArray × Bind
def flatH (L : List Hide) : List Value := L.flatMap fun h => [.string h.1, .string h.2.1, .bool h.2.2]
theorem flatH_cons (h : Hide) (L : List Hide) : flatH (h :: L) = .string h.1 :: .string h.2.1 :: .bool h.2.2 :: flatH L := rfl
theorem flatH_app (L M : List Hide) : flatH (L ++ M) = flatH L ++ flatH M := by unfold flatH; exact List.flatMap_append
theorem flatH_len (L : List Hide) : (flatH L).length = L.length * 3 := by
  induction L with
  | nil => rfl
  | cons q L ih => rw [flatH_cons]; simp only [List.length_cons, ih]; omega
structure SIn (w : World) (B sb mb n : Nat) (hv : Value) (L : List Hide) (G : Env) : Prop where
  lies : Lies w sb 47 #[.map (some mb), hv]
  row : w.ownsRow B 60 3 hv L.length (flatH L)
  map : MIn w mb n G
  sB : B ≤ sb
  mB : B ≤ mb
  small : ∀ h ∈ L, h.1.size ≤ 1000000
/-- What a scope's calls may turn. -/
def SS (sb mb : Nat) (hv : Value) (k : Nat) : Prop := k = sb ∨ k = mb ∨ hv.ownBlock = some k
theorem SIn.keep {w w' : World} {B sb mb n : Nat} {hv : Value} {L : List Hide} {G : Env} (h : SIn w B sb mb n hv L G) (hk : ∀ k, SS sb mb hv k → w'.heap[k]? = w.heap[k]?) : SIn w' B sb mb n hv L G := by
  obtain ⟨h1, h2, h3, h4, h5, h6⟩ := h
  refine ⟨?_, own_keep h2 (fun g hg => hk g (.inr (.inr hg))), h3.keep (hk mb (.inr (.inl rfl))), h4, h5, h6⟩
  unfold Lies at *
  rw [hk sb (.inl rfl), h1]
theorem SIn.old {w : World} {B sb mb n : Nat} {hv : Value} {L : List Hide} {G : Env} (h : SIn w B sb mb n hv L G) : ∀ k, SS sb mb hv k → k < w.heap.size ∧ B ≤ k := by
  rintro k (rfl | rfl | e)
  · exact ⟨h.lies.lt, h.sB⟩
  · exact ⟨h.map.lt, h.mB⟩
  · exact own_lt h.row e
theorem SIn.below {w w' : World} {B sb mb n : Nat} {hv : Value} {L : List Hide} {G : Env} (h : SIn w B sb mb n hv L G) (hb : Below w.heap.size w w') : SIn w' B sb mb n hv L G := h.keep (fun k hk => hb.block k (h.old k hk).1)
/-- A block of another kind is none of the scope's. -/
theorem SIn.off {w : World} {B sb mb n : Nat} {hv : Value} {L : List Hide} {G : Env} (h : SIn w B sb mb n hv L G) {k : Nat} {t : TypeId} {C : Array Value} (hl : Lies w k t C) (h1 : t ≠ 47) (h2 : t ≠ 60) : ¬ SS sb mb hv k := by
  rintro (rfl | rfl | e)
  · have h3 := h.lies
    unfold Lies at h3 hl
    rw [hl] at h3
    simp only [Option.some.injEq, Obj.cells.injEq] at h3
    exact h1 h3.2.1
  · exact h.map.ne hl rfl
  · exact own_ne h.row hl h2 e
theorem SIn.base {w0 w w' : World} {B sb mb n : Nat} {hv : Value} {L : List Hide} {G : Env} (h : SIn w B sb mb n hv L G) (hb : Below B w0 w) (hk : Keep (SS sb mb hv) w w') : Below B w0 w' :=
  ⟨hk.os.trans hb.os, hk.tape.trans hb.tape, hk.output.trans hb.output, Nat.le_trans hb.size hk.size, fun i hi => by
    rw [hk.block i (Nat.lt_of_lt_of_le hi (Nat.le_trans h.sB (Nat.le_of_lt h.lies.lt))) (fun e => by have := (h.old i e).2; omega)]
    exact hb.block i hi⟩
theorem SS_grew {w : World} {sb mb : Nat} {hv hv' : Value} (g : Grew w hv hv') : ∀ i, i < w.heap.size → SS sb mb hv' i → SS sb mb hv i := by
  rintro i hi (e | e | e)
  · exact .inl e
  · exact .inr (.inl e)
  · rcases g with g | ⟨k, g, hk⟩
    · exact .inr (.inr (by rw [← g]; exact e))
    · rw [g] at e
      have := Option.some.inj e
      omega
def G0 : Env := upd (fun _ => (e0, false)) e0 (e0, true)
theorem MIn.made (w : World) : MIn (w.alloc (.map #[] 0)) w.heap.size 0 (fun _ => (e0, false)) := ⟨.map [], World.ownsMap_made w _ _ _, fun _ => rfl⟩
theorem infoH : (Try.prog.info? 60).map (fun i => (i.zero, i.size, i.bytes)) = some (some (.agg #[.string ⟨#[]⟩, .string ⟨#[]⟩, .bool false]), 3, 40) := by kernel_rfl
theorem outsideD (w : World) :
    Calls Try.prog 10 #[] w fun e w' => ∃ sb, e = .returned (.pointer (some ⟨sb, 0, none⟩)) ∧ Below w.heap.size w w' ∧ ∃ mb, SIn w' w.heap.size sb mb 1 nilS [] G0 := by
  have hmm := @run_makeMap Try.prog
  obtain ⟨w1, hup, M1, gr1⟩ := (MIn.made w).store (by omega) e0 (by decide) (e0, true)
  go_enter Try.func10, Try.ntmps10
  go_wp2_with fail
  go_ret
  have bM : Below w.heap.size w (w.alloc (.map #[] 0)) := (Below.refl _ w).alloc (Nat.le_refl _) _
  have b1 : Below w.heap.size w w1 := Keep.below bM (Keep.grown gr1) (fun i hi e => by have := Option.some.inj e; omega)
  have b2 := (Below.refl w1.heap.size w1).alloc (Nat.le_refl _) (.cells #[.map (some w.heap.size), .slice none 0 0] 47)
  exact ⟨w1.heap.size, rfl, b1.alloc b1.size _, w.heap.size, ⟨Lies.new w1 _ _, World.ownsRow_nil _ _ _ _, M1.keep (b2.block _ M1.lt), b1.size, Nat.le_refl _, fun h e => by cases e⟩⟩
theorem slice_form {w : World} {H : Nat} {e : TypeId} {z : Nat} {v : Value} {n : Nat} {xs : List Value} (h : w.ownsRow H e z v n xs) : ∃ ad cap, v = .slice ad n cap := by
  rcases h.2 with ⟨rfl, h0⟩ | ⟨g, cap, cur, rfl, _⟩
  · exact ⟨none, 0, by rw [h0]⟩
  · exact ⟨_, _, rfl⟩
/-- Behind the append of what is hidden: the scope stands as it was. -/
theorem hid_grown {W W' w3 : World} {B sb mb n : Nat} {hv : Value} {L : List Hide} {G : Env} (h : SIn W B sb mb n hv L G) (hgrow : W'.grownBy w3 hv.ownBlock) (hB : Below W.heap.size W W') :
    Lies w3 sb 47 #[.map (some mb), hv] ∧ MIn w3 mb n G ∧ w3.cell? ⟨sb, 1, none⟩ = some hv ∧ w3.frozen? ⟨sb, 1, none⟩ = false := by
  have h' := h.below hB
  have h1 : Lies w3 sb 47 #[.map (some mb), hv] := by
    have := hgrow.block sb h'.lies.lt (fun e => own_ne h'.row h'.lies (by decide) e.symm)
    unfold Lies
    rw [this, h'.lies]
  have h2 : MIn w3 mb n G := h'.map.keep (hgrow.block mb h'.map.lt (fun e => h'.map.ne_own h'.row e.symm))
  exact ⟨h1, h2, h1.cell 1, h1.free 1⟩
theorem hid_named {w W' w7 : World} {B sb mb n : Nat} {hv : Value} {L : List Hide} {G : Env} {x : Hide} {gb cap2 m : Nat} (h : SIn w B sb mb n hv L G) (hB : Below w.heap.size w W') (hown1 : w7.ownsRow B 60 3 (.slice (some ⟨gb, 0, none⟩) (L.length + 1) cap2) (L.length + 1) (flatH L ++ [.string x.1, .string x.2.1, .bool x.2.2]))
    (hgrow : W'.grownBy w7 hv.ownBlock) (hat : hv.ownBlock = some gb ∨ gb = w.heap.size + 1) (hx : x.1.size ≤ 1000000) :
    ∃ X, w7.setCell ⟨sb, 1, none⟩ (.slice (some ⟨gb, 0, none⟩) (L.length + 1) cap2) = X ∧ Keep (SS sb mb hv) w X ∧ SIn X B sb mb n (.slice (some ⟨gb, 0, none⟩) (L.length + 1) cap2) (L ++ [x]) G ∧ Grew w hv (.slice (some ⟨gb, 0, none⟩) (L.length + 1) cap2) := by
  obtain ⟨l7, m7, _, _⟩ := hid_grown h hgrow hB
  have k7 : Keep (SS sb mb hv) w w7 := (Keep.of_below hB).on (Keep.grown hgrow) (fun i _ e => .inr (.inr e))
  have hne : gb ≠ sb := fun e => own_ne hown1 l7 (by decide) (by rw [e]; rfl)
  refine ⟨_, rfl, k7.trans (Keep.set _ ⟨sb, 1, none⟩ _ (.inl rfl)), ⟨l7.set 1 _, ?_, m7.keep (Below.heap_setCell _ _ _ _ (fun e => m7.ne l7 e.symm)), h.sB, h.mB, fun y hy => ?_⟩, grew_of hat (Nat.le_refl _)⟩
  · rw [flatH_app, List.length_append]
    exact own_keep hown1 (fun g hg => Below.heap_setCell _ _ _ _ (fun e => hne ((Option.some.inj hg).trans e)))
  · rcases List.mem_append.1 hy with hy | hy
    · exact h.small y hy
    · rw [List.mem_singleton.1 hy]
      exact hx
theorem store_named {W W2 : World} {B sb mb n : Nat} {hv : Value} {L : List Hide} {G G' : Env} (h : SIn W B sb mb n hv L G) (hM : MIn W2 mb (n + 1) G') (hg : W.grownBy W2 (some mb)) : SIn W2 B sb mb (n + 1) hv L G' ∧ Keep (· = mb) W W2 := by
  have hk := (Keep.grown hg).wide (R := (· = mb)) (fun k _ e => (Option.some.inj e).symm)
  have hl := h.lies.keep hk (fun e => h.map.ne h.lies e)
  exact ⟨⟨hl, own_keep h.row (fun g hg' => hk.block g (own_lt h.row hg').1 (fun e => h.map.ne_own h.row (by rw [hg', e]))), hM, h.sB, h.mB, h.small⟩, hk⟩
set_option maxHeartbeats 4000000 in
theorem declareD (w : World) (B sb mb n : Nat) (hv : Value) (L : List Hide) (G : Env) (pre sp : ByteArray) (h : SIn w B sb mb n hv L G) (hp : pre.size ≤ 1000000) (hs : sp.size ≤ 140000000000000) (hn : n ≤ 1000000000) (hL : L.length ≤ 1000000000) :
    Calls Try.prog 16 #[.pointer (some ⟨sb, 0, none⟩), .string pre, .string sp] w fun e w' => e = .returned (.tuple #[]) ∧ Keep (SS sb mb hv) w w' ∧
      ∃ hv', SIn w' B sb mb (n + 1) hv' (L ++ [(pre, G pre)]) (upd G pre (sp, true)) ∧ Grew w hv hv' := by
  obtain ⟨g1, g2, hg⟩ : ∃ g1 g2, G pre = (g1, g2) := ⟨_, _, rfl⟩
  have HS := hideT h
  have HG := hideT hg
  obtain ⟨ad, cap, hf⟩ := slice_form h.row
  subst hf
  have x0 : w.cell? ⟨sb, 0, none⟩ = some (.map (some mb)) := h.lies.cell 0
  have x1 : w.cell? ⟨sb, 1, none⟩ = some (.slice ad L.length cap) := h.lies.cell 1
  have f1 : w.frozen? ⟨sb, 1, none⟩ = false := h.lies.free 1
  have hlk : (Instr.lookup 44 (.map (some mb)) (.string pre) false).run Try.prog w.drew = .ok (.agg #[.string g1, .bool g2]) w.drew := by
    have := (h.below (Below.refl _ w).drew).map.look pre hp
    rw [hg] at this
    exact this
  have hlk0 : (Instr.lookup 44 (.map (some mb)) (.string pre) false).run Try.prog w = .ok (.agg #[.string g1, .bool g2]) w := by
    have := h.map.look pre hp
    rw [hg] at this
    exact this
  have x1a : (w.alloc (.cells #[.string pre, .string g1, .bool g2] 60)).cell? ⟨sb, 1, none⟩ = some (.slice ad L.length cap) := by rw [cell_old _ _ _ h.lies.lt]; exact x1
  obtain ⟨i0, hi0, hz0, hz1, hz2⟩ := info_parts infoH
  have R1 := hideT h.row
  have hBw : B ≤ w.heap.size := Nat.le_trans h.sB (Nat.le_of_lt h.lies.lt)
  clear h hg
  go_enter Try.func16, Try.ntmps16
  go_wp2_with fail
  go_region_law
    ((refine step_append_lies _ (by rfl) _ _ _ (by rfl) B 60 i0 _ 3 40 Try.underlying45 hi0 hz0 hz1 hz2 rfl (by omega) (.slice ad L.length cap) L.length (flatH L) (by rfl) ((R1.out.alloc _).drew)
        ⟨w.heap.size, 0, none⟩ 1 1 [.string pre, .string g1, .bool g2] (by rfl) (by rfl) (World.news_of_block (cs := #[.string pre, .string g1, .bool g2]) (t := 60) (fr := (0, 0)) (heap_alloc_new w _)) (by simp [Value.oneCell'])
        (by omega) (by unfold maxLen; omega) (by omega) (by first | (simp; done) | (simp; omega)) (w.heap.size + 1) (by simp) ?_; intro gb cap2 w7 hown1 hgrow hat hlt; obtain ⟨L7, M7, y7, f7⟩ := hid_grown HS.out hgrow (((Below.refl _ w).alloc (Nat.le_refl _) _).drew)))
  all_goals obtain ⟨X, eX, kX, sX, gX⟩ := hid_named (x := (pre, g1, g2)) (m := 0) HS.out (((Below.refl _ w).alloc (Nat.le_refl _) _).drew) hown1 hgrow hat hp
  all_goals have KX := hideT kX
  all_goals have SX := hideT sX
  all_goals have GX := hideT gX
  all_goals have z0 : X.cell? ⟨sb, 0, none⟩ = some (.map (some mb)) := sX.lies.cell 0
  all_goals clear L7 M7 y7 f7 hown1 hgrow hat hlt kX sX gX hlk hlk0 x0 x1 f1 x1a
  all_goals try rw [eX]
  all_goals clear eX
  all_goals go_wp2_with fail
  all_goals go_region_held3 (fun w' => w'.cell? ⟨sb, 0, none⟩ = some (.map (some mb))) (go_keep) ((go_at_call 14; refine (cloneD sp _ hs).mono ?_; rintro e w8 ⟨rfl, b8⟩; have y8 : w8.cell? ⟨sb, 0, none⟩ = some (.map (some mb)) := ((SX.out.below (Below.refl _ X).drew).below b8).lies.cell 0; obtain ⟨w9, hup, M9, gr9⟩ := ((SX.out.below (Below.refl _ X).drew).below b8).map.store hn pre hp (sp, true); obtain ⟨S9, K9⟩ := store_named ((SX.out.below (Below.refl _ X).drew).below b8) M9 gr9; have y9 : w9.cell? ⟨sb, 0, none⟩ = some (.map (some mb)) := S9.lies.cell 0))
  all_goals have S9 := hideT S9
  all_goals have K9 : Hid (Keep (SS sb mb (.slice ad L.length cap)) w w9) := (by show Keep _ _ _; exact (KX.out.trans (Keep.of_below ((Below.refl _ X).drew.trans b8))).on K9 (fun i _ e => .inr (.inl e)))
  all_goals clear b8 y8 hup M9 gr9 y9
  all_goals go_wp2_with fail
  all_goals first | go_end0 | refine bodyPost_ret (results_none rfl _ _ _) rfl ?_
  all_goals refine ⟨rfl, K9.out, _, ?_, GX.out⟩
  all_goals rw [HG.out]
  all_goals exact S9.out
end Go.Proofs.Ythbkipmimkepkab
