/-
  Several texts in one: each opens with its own word.
-/
import Derived.Test.YtjfonpbnohbpfaaGreatDoorPartS
import Derived.Deep.DeepCutAuto
/-
  The program's resolve: an element's names, and those within.
-/
set_option linter.unusedSimpArgs false
set_option linter.unusedVariables false
namespace Go.Proofs.YtjfonpbnohbpfaaGreatDoor
open Go.RowKit
set_option maxRecDepth 100000
def fineT : Nat → Tr → Prop
  | 0, _ => True
  | d + 1, T => (Xp.nmT T).length ≤ 1000000 ∧ (∀ p ∈ (Xp.asT T).map unpair, p.1.size ≤ 1000000 ∧ p.2.size ≤ 140000000000000) ∧ ∀ K ∈ Xp.ksT T, fineT d K
def attN : Nat → Tr → Nat
  | 0, _ => 0
  | d + 1, T => (Xp.asT T).length + ((Xp.ksT T).map (attN d)).sum
theorem attN_mk (d : Nat) (nm : ByteArray) (l : List Att) (ks : List Tr) (p : Int) : attN (d + 1) (Xp.mkT nm l ks p) = l.length + (ks.map (attN d)).sum := by
  show (l.map Xp.pairD).length + _ = _
  rw [List.length_map]
  rfl
theorem fine_mk {d : Nat} {nm : ByteArray} {l : List Att} {ks : List Tr} {p : Int} (h : fineT (d + 1) (Xp.mkT nm l ks p)) : nm.size ≤ 1000000 ∧ (∀ p ∈ l, p.1.size ≤ 1000000 ∧ p.2.size ≤ 140000000000000) ∧ ∀ K ∈ ks, fineT d K := by
  obtain ⟨h1, h2, h3⟩ := h
  refine ⟨?_, ?_, h3⟩
  · have : (Xp.nmT (Xp.mkT nm l ks p)).length = nm.size := Array.length_toList
    omega
  · have e : (Xp.asT (Xp.mkT nm l ks p)).map unpair = l := unpairs l
    rw [e] at h2
    exact h2
/-- Blocks of trees that are done: new since, and none of the row's of what is hidden. -/
def Done (lo : Nat) (w : World) (hv : Value) (k : Nat) : Prop := lo ≤ k ∧ k < w.heap.size ∧ hv.ownBlock ≠ some k
abbrev nZ : Value := .agg #[.string ⟨#[]⟩, .string ⟨#[]⟩, .slice none 0 0, .slice none 0 0, .int .i64 0]
def ResPost (w : World) (B sb mb n : Nat) (hv : Value) (L : List Hide) (G : Env) (d : Nat) (T : Tr) (e : Ending) (w' : World) : Prop :=
  Keep (SS sb mb hv) w w' ∧
  (∀ q, resP d G T = .error q → e = .returned (.tuple #[nZ, .int .i64 q, .int .i64 5])) ∧
  (∀ N, resP d G T = .ok N → ∃ c0 c1 c2 c3 c4 hv' n', e = .returned (.tuple #[.agg #[c0, c1, c2, c3, c4], .int .i64 0, .int .i64 0]) ∧ SIn w' B sb mb n' hv' L G ∧ n' ≤ n + 2 * attN d T ∧ Grew w hv hv' ∧ NInR w' (Done w.heap.size w' hv') d c0 c1 c2 c3 c4 N)
def ResIn (d : Nat) : Prop := ∀ (w0 w : World) (B sb mb n : Nat) (hv : Value) (L : List Hide) (G : Env) (c0 c1 c2 c3 : Value) (T : Tr), w0.heap.size = B → OkS w0 → Below B w0 w → SIn w B sb mb n hv L G → EIn w0 d c0 c1 c2 c3 T → fineT d T → n + L.length + 2 * attN d T ≤ 100000000 →
  Calls Tryz.prog 31 #[.pointer (some ⟨sb, 0, none⟩), .agg #[c0, c1, c2, c3]] w (ResPost w B sb mb n hv L G d T)
/-- Five cells of a struct that is new, written. -/
theorem put5_named {S : Nat → Prop} {w V : World} {rb : Nat} {t : TypeId} {b0 b1 b2 b3 b4 : Value} (a0 a1 a2 a3 a4 : Value) (KV : Keep S w V) (hr : w.heap.size ≤ rb) (LR : Lies V rb t #[b0, b1, b2, b3, b4]) :
    ∃ X, ((((V.setCell ⟨rb, 0, none⟩ a0).setCell ⟨rb, 1, none⟩ a1).setCell ⟨rb, 2, none⟩ a2).setCell ⟨rb, 3, none⟩ a3).setCell ⟨rb, 4, none⟩ a4 = X ∧ Keep S w X ∧ Lies X rb t #[a0, a1, a2, a3, a4] ∧ ∀ k, k ≠ rb → X.heap[k]? = V.heap[k]? := by
  have hS : ∀ i, i < w.heap.size → i = rb → S i := fun i hi e => by omega
  obtain ⟨V1, h1⟩ : ∃ V1, V.setCell ⟨rb, 0, none⟩ a0 = V1 := ⟨_, rfl⟩
  have k1 : Keep S w V1 := by rw [← h1]; exact KV.on (Keep.set (S := (· = rb)) V ⟨rb, 0, none⟩ a0 rfl) hS
  have l1 : Lies V1 rb t #[a0, b1, b2, b3, b4] := by rw [← h1]; exact LR.set 0 a0
  have f1 : ∀ k, k ≠ rb → V1.heap[k]? = V.heap[k]? := fun k hk => by rw [← h1]; exact Below.heap_setCell _ _ _ _ hk
  rw [h1]
  obtain ⟨V2, h2⟩ : ∃ V2, V1.setCell ⟨rb, 1, none⟩ a1 = V2 := ⟨_, rfl⟩
  have k2 : Keep S w V2 := by rw [← h2]; exact k1.on (Keep.set (S := (· = rb)) V1 ⟨rb, 1, none⟩ a1 rfl) hS
  have l2 : Lies V2 rb t #[a0, a1, b2, b3, b4] := by rw [← h2]; exact l1.set 1 a1
  have f2 : ∀ k, k ≠ rb → V2.heap[k]? = V1.heap[k]? := fun k hk => by rw [← h2]; exact Below.heap_setCell _ _ _ _ hk
  rw [h2]
  obtain ⟨V3, h3⟩ : ∃ V3, V2.setCell ⟨rb, 2, none⟩ a2 = V3 := ⟨_, rfl⟩
  have k3 : Keep S w V3 := by rw [← h3]; exact k2.on (Keep.set (S := (· = rb)) V2 ⟨rb, 2, none⟩ a2 rfl) hS
  have l3 : Lies V3 rb t #[a0, a1, a2, b3, b4] := by rw [← h3]; exact l2.set 2 a2
  have f3 : ∀ k, k ≠ rb → V3.heap[k]? = V2.heap[k]? := fun k hk => by rw [← h3]; exact Below.heap_setCell _ _ _ _ hk
  rw [h3]
  obtain ⟨V4, h4⟩ : ∃ V4, V3.setCell ⟨rb, 3, none⟩ a3 = V4 := ⟨_, rfl⟩
  have k4 : Keep S w V4 := by rw [← h4]; exact k3.on (Keep.set (S := (· = rb)) V3 ⟨rb, 3, none⟩ a3 rfl) hS
  have l4 : Lies V4 rb t #[a0, a1, a2, a3, b4] := by rw [← h4]; exact l3.set 3 a3
  have f4 : ∀ k, k ≠ rb → V4.heap[k]? = V3.heap[k]? := fun k hk => by rw [← h4]; exact Below.heap_setCell _ _ _ _ hk
  rw [h4]
  refine ⟨_, rfl, k4.on (Keep.set (S := (· = rb)) V4 ⟨rb, 4, none⟩ a4 rfl) hS, l4.set 4 a4, fun k hk => ?_⟩
  rw [Below.heap_setCell _ _ _ _ (show k ≠ (⟨rb, 4, none⟩ : Addr).block from hk), f4 k hk, f3 k hk, f2 k hk, f1 k hk]
theorem nb_grown {Y Y' w7 : World} {nb : Nat} {t : TypeId} {C : Array Value} {kv : Value} (hl : Lies Y nb t C) (hB : Below Y.heap.size Y Y') (hgrow : Y'.grownBy w7 kv.ownBlock) (hne : kv.ownBlock ≠ some nb) : Lies w7 nb t C := by
  have h1 := hl.below hB
  unfold Lies
  rw [hgrow.block nb h1.lt (fun e => hne e.symm)]
  exact h1
theorem zero_named {w V : World} {sb mb : Nat} {hv : Value} (KV : Keep (SS sb mb hv) w V) (LR : Lies V (w.heap.size + 1) 45 #[.string ⟨#[]⟩, .string ⟨#[]⟩, .slice none 0 0, .slice none 0 0, .int .i64 0]) :
    ∃ X, (((((V.setCell ⟨w.heap.size + 1, 0, none⟩ (.string ⟨#[]⟩)).setCell ⟨w.heap.size + 1, 1, none⟩ (.string ⟨#[]⟩)).setCell ⟨w.heap.size + 1, 2, none⟩ (.slice none 0 0)).setCell ⟨w.heap.size + 1, 3, none⟩ (.slice none 0 0)).setCell ⟨w.heap.size + 1, 4, none⟩ (.int .i64 0)).drew = X ∧
      Keep (SS sb mb hv) w X ∧ Lies X (w.heap.size + 1) 45 #[.string ⟨#[]⟩, .string ⟨#[]⟩, .slice none 0 0, .slice none 0 0, .int .i64 0] := by
  obtain ⟨X, hX, kX, lX, _⟩ := put5_named (.string ⟨#[]⟩) (.string ⟨#[]⟩) (.slice none 0 0) (.slice none 0 0) (.int .i64 0) KV (by omega) LR
  rw [hX]
  exact ⟨_, rfl, kX.trans (Keep.of_below (Below.refl _ _).drew), lX.below (Below.refl _ _).drew⟩
set_option maxHeartbeats 8000000 in
theorem resolve_step (d : Nat) (IH : ResIn d) : ResIn (d + 1) := by
  intro w0 w B sb mb n hv L G c0 c1 c2 c3 T hw0 hok hB h hE hF hZ
  obtain ⟨nm, p, l, ks, rfl, rfl, rfl, hsz, ha, kb, ko, ⟨kao, kcap, rfl, hkao⟩, hkl, hk⟩ := hE
  obtain ⟨hnm, hat, hfk⟩ := fine_mk hF
  rw [attN_mk] at hZ
  obtain ⟨aad, acap, hf⟩ : ∃ aad acap, c1 = .slice aad l.length acap := by
    obtain ⟨_, _, ⟨aad, acap, h1, _⟩, _⟩ := ha
    exact ⟨aad, acap, h1⟩
  obtain ⟨had, hcap, hhv⟩ := slice_form h.row
  have HA := hideT ha
  have HK := hideT hk
  have HB := hideT hB
  have HS := hideT h
  have HOK := hideT hok
  have HF := hideT hfk
  have HAT := hideT hat
  have HKA := hideT hkao
  have HHV := hideT hhv
  have HC1 := hideT hf
  have hR : Hid (resP (d + 1) G (Xp.mkT nm l ks p) = resT (resP d) G nm l ks p) := resP_mk d G nm l ks p
  have hN : Hid (attN (d + 1) (Xp.mkT nm l ks p) = l.length + (ks.map (attN d)).sum) := attN_mk d nm l ks p
  rw [hf]
  obtain ⟨W, hW, BW, LE, LR⟩ : ∃ W, (w.alloc (.cells #[.string nm, .slice aad l.length acap, .slice kao ks.length kcap, .int .i64 p] 50)).alloc (.cells #[.string ⟨#[]⟩, .string ⟨#[]⟩, .slice none 0 0, .slice none 0 0, .int .i64 0] 45) = W ∧ Below w.heap.size w W ∧ Lies W w.heap.size 50 #[.string nm, .slice aad l.length acap, .slice kao ks.length kcap, .int .i64 p] ∧ Lies W (w.heap.size + 1) 45 #[.string ⟨#[]⟩, .string ⟨#[]⟩, .slice none 0 0, .slice none 0 0, .int .i64 0] := by
    refine ⟨_, rfl, ((Below.refl _ w).alloc (Nat.le_refl _) _).alloc (by simp) _, (Lies.new w _ _).below ((Below.refl _ _).alloc (Nat.le_refl _) _), ?_⟩
    have := Lies.new (w.alloc (.cells #[.string nm, .slice aad l.length acap, .slice kao ks.length kcap, .int .i64 p] 50)) 45 #[.string ⟨#[]⟩, .string ⟨#[]⟩, .slice none 0 0, .slice none 0 0, .int .i64 0]
    rw [World.size_alloc] at this
    exact this
  have SW := hideT (h.below BW)
  have BB := hideT (h.base hB (Keep.of_below BW))
  have x1 : W.cell? ⟨sb, 1, none⟩ = some (.slice had L.length hcap) := by rw [← hhv]; exact SW.out.lies.cell 1
  have y0 : W.cell? ⟨w.heap.size, 0, none⟩ = some (.string nm) := LE.cell 0
  have y1 : W.cell? ⟨w.heap.size, 1, none⟩ = some (.slice aad l.length acap) := LE.cell 1
  have LE := hideT LE
  have LR := hideT LR
  have BW := hideT BW
  clear ha hk hB h hok hfk hat hkao hF hhv hf
  have HW := hideT hW
  go_enter Tryz.func31, Tryz.ntmps31
  go_wp2_with fail
  refine (enterD w0 W B sb mb n hv (.slice aad l.length acap) L G l hw0 BB.out HOK.out SW.out (by rw [← HC1.out]; exact HA.out) (by omega) HAT.out (by omega) (by omega)).mono ?_
  rintro e w1 ⟨k1, en, es⟩
  have K1 := hideT ((Keep.of_below (S := SS sb mb hv) BW.out).trans k1)
  have LE1 := hideT (LE.out.keep k1 (SW.out.off LE.out (by decide) (by decide)))
  have LR1 := hideT (LR.out.keep k1 (SW.out.off LR.out (by decide) (by decide)))
  have B1 := hideT (SW.out.base BB.out k1)
  have ok1 := hideT (HOK.out.below B1.out (by have := HOK.out.lt; omega))
  have hzw1 : w.heap.size + 2 ≤ w1.heap.size := LR1.out.lt
  have hW1 : W.heap.size ≤ w1.heap.size := k1.size
  have y0 : w1.cell? ⟨w.heap.size, 0, none⟩ = some (.string nm) := LE1.out.cell 0
  obtain ⟨pre, loc, hsp⟩ : ∃ pre loc, splitB nm = (pre, loc) := ⟨_, _, rfl⟩
  have HSP := hideT hsp
  obtain ⟨hpz, hlz⟩ := split_size hsp
  have hpz : pre.size ≤ 1000000 := by omega
  clear x1 y1 hsp HW hW k1
  cases hen : enterP (G, [], []) l with
  | none =>
    obtain ⟨rfl, n', hv', L', G', s1⟩ := en hen
    have S1 := hideT s1
    obtain ⟨gs, gb, hg⟩ : ∃ gs gb, G' pre = (gs, gb) := ⟨_, _, rfl⟩
    have HG := hideT hg
    have ER : Hid (resP (d + 1) G (Xp.mkT nm l ks p) = .error p) := by
      show _ = _
      rw [hR.out]
      unfold resT
      rw [hen]
    clear s1 en es hen hg
    go_wp2_with fail
    refine (splitD nm w1 hnm ok1.out pre loc HSP).mono ?_
    rintro e w2 ⟨rfl, b2⟩
    have K2 := hideT (K1.out.trans (Keep.of_below b2))
    have hW2 : w1.heap.size ≤ w2.heap.size := b2.size
    have S2 := hideT (S1.out.below b2)
    have LE2 := hideT (LE1.out.below b2)
    have LR2 := hideT (LR1.out.below b2)
    have x0 : w2.cell? ⟨sb, 0, none⟩ = some (.map (some mb)) := S2.out.lies.cell 0
    have hlk : (Instr.lookup 111 (.map (some mb)) (.string pre) false).run Tryz.prog w2 = .ok (.agg #[.string gs, .bool gb]) w2 := by
      have := S2.out.map.look pre hpz
      rw [HG.out] at this
      exact this
    obtain ⟨V, hV, BV, LFV⟩ : ∃ V, w2.alloc (.cells #[.string gs, .bool gb] 110) = V ∧ Below w2.heap.size w2 V ∧ Lies V w2.heap.size 110 #[.string gs, .bool gb] := ⟨_, rfl, (Below.refl _ w2).alloc (Nat.le_refl _) _, Lies.new w2 _ _⟩
    have KV := hideT (K2.out.trans (Keep.of_below BV))
    have hWV : w2.heap.size ≤ V.heap.size := BV.size
    have SV := hideT (S2.out.below BV)
    have LEV := hideT (LE2.out.below BV)
    have LRV := hideT (LR2.out.below BV)
    have LFV := hideT LFV
    have ff0 : V.cell? ⟨w2.heap.size, 0, none⟩ = some (.string gs) := LFV.out.cell 0
    have ff1 : V.cell? ⟨w2.heap.size, 1, none⟩ = some (.bool gb) := LFV.out.cell 1
    have fz0 : V.frozen? ⟨w2.heap.size, 0, none⟩ = false := LFV.out.free 0
    have fz1 : V.frozen? ⟨w2.heap.size, 1, none⟩ = false := LFV.out.free 1
    clear b2 BV y0
    have r0 : V.cell? ⟨w.heap.size + 1, 0, none⟩ = some (.string ⟨#[]⟩) := LRV.out.cell 0
    have r1 : V.cell? ⟨w.heap.size + 1, 1, none⟩ = some (.string ⟨#[]⟩) := LRV.out.cell 1
    have r2 : V.cell? ⟨w.heap.size + 1, 2, none⟩ = some (.slice none 0 0) := LRV.out.cell 2
    have r3 : V.cell? ⟨w.heap.size + 1, 3, none⟩ = some (.slice none 0 0) := LRV.out.cell 3
    have r4 : V.cell? ⟨w.heap.size + 1, 4, none⟩ = some (.int .i64 0) := LRV.out.cell 4
    have q0 : V.frozen? ⟨w.heap.size + 1, 0, none⟩ = false := LRV.out.free 0
    have q1 : V.frozen? ⟨w.heap.size + 1, 1, none⟩ = false := LRV.out.free 1
    have q2 : V.frozen? ⟨w.heap.size + 1, 2, none⟩ = false := LRV.out.free 2
    have q3 : V.frozen? ⟨w.heap.size + 1, 3, none⟩ = false := LRV.out.free 3
    have q4 : V.frozen? ⟨w.heap.size + 1, 4, none⟩ = false := LRV.out.free 4
    have a3 : V.cell? ⟨w.heap.size, 3, none⟩ = some (.int .i64 p) := LEV.out.cell 3
    obtain ⟨X, hX, kX, lX⟩ := zero_named (sb := sb) (mb := mb) (hv := hv) KV.out LRV.out
    have HX := hideT hX
    have KX := hideT kX
    have LX := hideT lX
    clear hX kX lX
    go_wp2_with fail
    go_region
    clear r0 r1 r2 r3 r4 q0 q1 q2 q3 q4 a3
    rw [HX.out]
    have r0 : X.cell? ⟨w.heap.size + 1, 0, none⟩ = some (.string ⟨#[]⟩) := LX.out.cell 0
    have r1 : X.cell? ⟨w.heap.size + 1, 1, none⟩ = some (.string ⟨#[]⟩) := LX.out.cell 1
    have r2 : X.cell? ⟨w.heap.size + 1, 2, none⟩ = some (.slice none 0 0) := LX.out.cell 2
    have r3 : X.cell? ⟨w.heap.size + 1, 3, none⟩ = some (.slice none 0 0) := LX.out.cell 3
    have r4 : X.cell? ⟨w.heap.size + 1, 4, none⟩ = some (.int .i64 0) := LX.out.cell 4
    go_wp2_with fail
    refine bodyPost_ret (v := .tuple #[nZ, .int .i64 p, .int .i64 5]) (by simp [results, Tryz.results31, go_sem, r0, r1, r2, r3, r4]) rfl ⟨KX.out, fun q hq => ?_, fun N hq => ?_⟩
    · rw [ER.out] at hq
      cases hq
      rfl
    · rw [ER.out] at hq
      cases hq
  | some s =>
    obtain ⟨ov, hv', rfl, s1, g1, o1⟩ := es s hen
    have S1 := hideT s1
    have G1 := hideT g1
    have O1 := hideT o1
    have HEN := hideT hen
    obtain ⟨gs, gb, hg⟩ : ∃ gs gb, s.1 pre = (gs, gb) := ⟨_, _, rfl⟩
    have HG := hideT hg
    obtain ⟨oad, ocap, hov⟩ := slice_form o1
    subst hov
    clear s1 en es hen hg g1 o1
    go_wp2_with fail
    refine (splitD nm w1 hnm ok1.out pre loc HSP).mono ?_
    rintro e w2 ⟨rfl, b2⟩
    have K2 := hideT (K1.out.trans (Keep.of_below b2))
    have hW2 : w1.heap.size ≤ w2.heap.size := b2.size
    have S2 := hideT (S1.out.below b2)
    have LE2 := hideT (LE1.out.below b2)
    have LR2 := hideT (LR1.out.below b2)
    have O2 := hideT (own_keep (w' := w2) O1.out (fun g hg => b2.block g (own_lt O1.out hg).1))
    have x0 : w2.cell? ⟨sb, 0, none⟩ = some (.map (some mb)) := S2.out.lies.cell 0
    have hlk : (Instr.lookup 111 (.map (some mb)) (.string pre) false).run Tryz.prog w2 = .ok (.agg #[.string gs, .bool gb]) w2 := by
      have := S2.out.map.look pre hpz
      rw [HG.out] at this
      exact this
    obtain ⟨V, hV, BV, LFV⟩ : ∃ V, w2.alloc (.cells #[.string gs, .bool gb] 110) = V ∧ Below w2.heap.size w2 V ∧ Lies V w2.heap.size 110 #[.string gs, .bool gb] := ⟨_, rfl, (Below.refl _ w2).alloc (Nat.le_refl _) _, Lies.new w2 _ _⟩
    have KV := hideT (K2.out.trans (Keep.of_below BV))
    have hWV : w2.heap.size ≤ V.heap.size := BV.size
    have SV := hideT (S2.out.below BV)
    have LEV := hideT (LE2.out.below BV)
    have LRV := hideT (LR2.out.below BV)
    have LFV := hideT LFV
    have ff0 : V.cell? ⟨w2.heap.size, 0, none⟩ = some (.string gs) := LFV.out.cell 0
    have ff1 : V.cell? ⟨w2.heap.size, 1, none⟩ = some (.bool gb) := LFV.out.cell 1
    have fz0 : V.frozen? ⟨w2.heap.size, 0, none⟩ = false := LFV.out.free 0
    have fz1 : V.frozen? ⟨w2.heap.size, 1, none⟩ = false := LFV.out.free 1
    clear b2 BV y0
    have OV : Hid (V.ownsRow W.heap.size 66 2 (.slice oad s.2.2.length ocap) s.2.2.length (flatA s.2.2)) := own_keep (w' := V) O2.out (fun g hg => by rw [← hV]; exact ((Below.refl _ w2).alloc (Nat.le_refl _) _).block g (own_lt O2.out hg).1)
    have a3 : V.cell? ⟨w.heap.size, 3, none⟩ = some (.int .i64 p) := LEV.out.cell 3
    have hlz2 : loc.size ≤ 140000000000000 := by omega
    go_wp2_with fail
    · have ER : Hid (resP (d + 1) G (Xp.mkT nm l ks p) = .error p) := by
        show _ = _
        rw [hR.out]
        unfold resT
        rw [HEN.out]
        simp only [HSP.out, HG.out]
        have hgb : gb = false := by simpa using ‹(!gb) = true›
        rw [hgb]
        rfl
      have r0 : V.cell? ⟨w.heap.size + 1, 0, none⟩ = some (.string ⟨#[]⟩) := LRV.out.cell 0
      have r1 : V.cell? ⟨w.heap.size + 1, 1, none⟩ = some (.string ⟨#[]⟩) := LRV.out.cell 1
      have r2 : V.cell? ⟨w.heap.size + 1, 2, none⟩ = some (.slice none 0 0) := LRV.out.cell 2
      have r3 : V.cell? ⟨w.heap.size + 1, 3, none⟩ = some (.slice none 0 0) := LRV.out.cell 3
      have r4 : V.cell? ⟨w.heap.size + 1, 4, none⟩ = some (.int .i64 0) := LRV.out.cell 4
      have q0 : V.frozen? ⟨w.heap.size + 1, 0, none⟩ = false := LRV.out.free 0
      have q1 : V.frozen? ⟨w.heap.size + 1, 1, none⟩ = false := LRV.out.free 1
      have q2 : V.frozen? ⟨w.heap.size + 1, 2, none⟩ = false := LRV.out.free 2
      have q3 : V.frozen? ⟨w.heap.size + 1, 3, none⟩ = false := LRV.out.free 3
      have q4 : V.frozen? ⟨w.heap.size + 1, 4, none⟩ = false := LRV.out.free 4
      obtain ⟨X, hX, kX, lX⟩ := zero_named (sb := sb) (mb := mb) (hv := hv) KV.out LRV.out
      have HX := hideT hX
      have KX := hideT kX
      have LX := hideT lX
      clear hX kX lX
      go_region
      clear r0 r1 r2 r3 r4 q0 q1 q2 q3 q4 a3
      rw [HX.out]
      have r0 : X.cell? ⟨w.heap.size + 1, 0, none⟩ = some (.string ⟨#[]⟩) := LX.out.cell 0
      have r1 : X.cell? ⟨w.heap.size + 1, 1, none⟩ = some (.string ⟨#[]⟩) := LX.out.cell 1
      have r2 : X.cell? ⟨w.heap.size + 1, 2, none⟩ = some (.slice none 0 0) := LX.out.cell 2
      have r3 : X.cell? ⟨w.heap.size + 1, 3, none⟩ = some (.slice none 0 0) := LX.out.cell 3
      have r4 : X.cell? ⟨w.heap.size + 1, 4, none⟩ = some (.int .i64 0) := LX.out.cell 4
      go_wp2_with fail
      refine bodyPost_ret (v := .tuple #[nZ, .int .i64 p, .int .i64 5]) (by simp [results, Tryz.results31, go_sem, r0, r1, r2, r3, r4]) rfl ⟨KX.out, fun q hq => ?_, fun N hq => ?_⟩
      · rw [ER.out] at hq
        cases hq
        rfl
      · rw [ER.out] at hq
        cases hq
    · have hgb : gb = true := by simpa using ‹(!gb) = false›
      have HGB := hideT hgb
      clear hgb
      have n0 := World.new_ne V _ ff0
      have n1 := World.new_ne V _ a3
      go_cut [13] from 43 to 60 (fun nv wc => ∃ nb : Nat, nv = .pointer (some ⟨nb, 0, none⟩) ∧ V.heap.size ≤ nb ∧ Hid (Below V.heap.size V wc) ∧ Hid (Lies wc nb 45 #[.string gs, .string loc, .slice oad s.2.2.length ocap, .slice none 0 0, .int .i64 p]))
      case first =>
        go_region_held3 (fun w' => w'.cell? ⟨w2.heap.size, 0, none⟩ = some (.string gs) ∧ w'.cell? ⟨w.heap.size, 3, none⟩ = some (.int .i64 p)) (go_keep) ((go_at_call 53; refine (cloneS loc _ hlz2).mono ?_; rintro e w3 ⟨rfl, b3⟩; first | (have bV : Below V.heap.size V w3 := (Below.refl _ V).drew.trans b3; have c31 : w3.cell? ⟨w2.heap.size, 0, none⟩ = some (.string gs) := (LFV.out.below bV).cell 0; have c32 : w3.cell? ⟨w.heap.size, 3, none⟩ = some (.int .i64 p) := (LEV.out.below bV).cell 3; have n2 := World.new_ne w3 _ c31; have n3 := World.new_ne w3 _ c32) | (have bV : Below V.heap.size V w3 := (((Below.refl _ V).alloc (Nat.le_refl _) _).drew).trans (b3.mono (by simp)); have LN : Lies w3 V.heap.size 45 #[.string ⟨#[]⟩, .string ⟨#[]⟩, .slice none 0 0, .slice none 0 0, .int .i64 0] := (Lies.below (Lies.new V _ _) (Below.refl _ _).drew).below b3; have c31 : w3.cell? ⟨w2.heap.size, 0, none⟩ = some (.string gs) := (LFV.out.below bV).cell 0; have c32 : w3.cell? ⟨w.heap.size, 3, none⟩ = some (.int .i64 p) := (LEV.out.below bV).cell 3; have m0 := LN.cell 0; have m1 := LN.cell 1; have m2 := LN.cell 2; have m3 := LN.cell 3; have m4 := LN.cell 4; have g0 := LN.free 0; have g1 := LN.free 1; have g2 := LN.free 2; have g3 := LN.free 3; have g4 := LN.free 4)))
        · go_wp2_with fail
          go_meet
          case rel => exact ⟨w3.heap.size, rfl, bV.size, bV.alloc bV.size _, Lies.new w3 _ _⟩
        · go_wp2_with fail
          go_meet
          case rel =>
            obtain ⟨X, hX, kX, lX, _⟩ := put5_named (S := fun _ => False) (w := V) (rb := V.heap.size) (.string gs) (.string loc) (.slice oad s.2.2.length ocap) (.slice none 0 0) (.int .i64 p) (Keep.of_below bV) (Nat.le_refl _) LN
            rw [hX]
            exact ⟨V.heap.size, rfl, Nat.le_refl _, Keep.below (Below.refl _ V) kX (fun _ _ e => e), lX⟩
      case rest =>
        obtain ⟨nb, rfl, hnb, BC, LC⟩ := hcut
        have hswz : sb < w.heap.size := HS.out.lies.lt
        have hmwz : mb < w.heap.size := HS.out.map.lt
        have hWz : w.heap.size + 2 ≤ W.heap.size := LR.out.lt
        have hVz : W.heap.size ≤ V.heap.size := by omega
        have KC := hideT (KV.out.trans (Keep.of_below BC.out))
        have SC := hideT (SV.out.below BC.out)
        have LEC := hideT (LEV.out.below BC.out)
        have LRC := hideT (LRV.out.below BC.out)
        have OC := hideT (own_keep (w' := wc) OV.out (fun g hg => BC.out.block g (own_lt OV.out hg).1))
        have hnbw : nb < wc.heap.size := LC.out.lt
        obtain ⟨Pn, hPn⟩ : ∃ Pn, Pn = s.2.1.length := ⟨_, rfl⟩
        have hPl : Pn + s.2.2.length = l.length := by
          have := enter_len HEN.out
          simp at this
          omega
        have k2 : wc.cell? ⟨w.heap.size, 2, none⟩ = some (.slice kao ks.length kcap) := LEC.out.cell 2
        obtain ⟨tot, htot⟩ : ∃ tot, tot = (ks.map (attN d)).sum := ⟨_, rfl⟩
        have HTOT := hideT htot
        have HPN := hideT hPn
        rw [← htot] at hZ
        have AC : Hid (ARowR wc (DoneK w wc hv' nilS nb) (.slice oad s.2.2.length ocap) s.2.2) := by
          refine attrs_of OC.out (by omega) (fun q hq => ?_) (fun g hg => ⟨?_, (own_lt OC.out hg).1, own_ne2 OC.out SC.out.row (by decide) g hg, (fun e => by cases e), ?_⟩)
          · rcases enter_sub HEN.out q hq with h1 | h1
            · cases h1
            · have := HAT.out q h1
              omega
          · have := (own_lt OC.out hg).2
            omega
          · have h1 := (own_lt OV.out hg).1
            omega
        clear n0 n1 ff0 ff1 fz0 fz1 a3 hlk x0 htot hPn
        go_wp2_with fail
        go_loopw [64] (fun i wr => ∃ (j : Nat) (hv2 : Value) (n2 : Nat) (kad : Option Addr) (kc : Nat) (xs : List Tr), j ≤ ks.length ∧ i = .int .i64 j ∧ xs.length = j ∧ Hid (Keep (SS sb mb hv) w wr) ∧ Hid (SIn wr B sb mb n2 hv2 (L ++ s.2.1) s.1) ∧ Hid (Grew w hv hv2) ∧ Hid (Lies wr w.heap.size 50 #[.string nm, .slice aad l.length acap, .slice kao ks.length kcap, .int .i64 p]) ∧ Hid (Lies wr (w.heap.size + 1) 45 #[.string ⟨#[]⟩, .string ⟨#[]⟩, .slice none 0 0, .slice none 0 0, .int .i64 0]) ∧ Hid (Lies wr nb 45 #[.string gs, .string loc, .slice oad s.2.2.length ocap, .slice kad j kc, .int .i64 p]) ∧ Hid (ARowR wr (DoneK w wr hv2 (.slice kad j kc) nb) (.slice oad s.2.2.length ocap) s.2.2) ∧ Hid (NRow wr wc.heap.size (DoneK w wr hv2 (.slice kad j kc) nb) d (.slice kad j kc) xs) ∧ Hid (kidsP (resP d s.1) (ks.take j) = .ok xs) ∧ n2 + 2 * ((ks.drop j).map (attN d)).sum ≤ n + Pn + 2 * tot ∧ wc.heap.size ≤ wr.heap.size) (fun i _ => ks.length - (intOf i).toNat)
        case atStart =>
          refine ⟨0, hv', n + Pn, none, 0, [], Nat.zero_le _, rfl, rfl, KC, ?_, ?_, LEC, LRC, LC, AC, ?_, rfl, ?_, Nat.le_refl _⟩
          · rw [HPN.out]; exact SC
          · exact (Grew.refl w hv).trans BW.out.size G1.out
          · exact ⟨[], World.ownsRow_nil _ _ _ _, rfl, fun i q K h1 _ => by simp at h1⟩
          · rw [List.drop_zero, ← HTOT.out]; omega
        case round =>
          obtain ⟨j, hv2, n2, kad, kc, xs, hj, rfl, hxs, KR, SR, GR, LER, LRR, LNR, AR, NR, XR, hbud, hzr⟩ := hrel
          have hnR : w.heap.size + 2 ≤ wr.heap.size := by omega
          have BR := hideT (HS.out.base HB.out KR.out)
          by_cases hlt : j < ks.length
          · obtain ⟨K, hK⟩ : ∃ K, ks[j]? = some K := ⟨ks[j]'hlt, List.getElem?_eq_getElem _⟩
            obtain rfl := HKA.out (by omega)
            obtain ⟨d0, d1, d2, d3, ⟨f0, f1, f2, f3⟩, he⟩ := HK.out j K hK
            rw [← BR.out.cell (p := ⟨kb, ko + 4 * j, none⟩) (by rw [← hw0]; exact cell_lt f0), Nat.mul_comm] at f0
            rw [← BR.out.cell (p := ⟨kb, ko + 4 * j + 1, none⟩) (by rw [← hw0]; exact cell_lt f1), Nat.mul_comm] at f1
            rw [← BR.out.cell (p := ⟨kb, ko + 4 * j + 2, none⟩) (by rw [← hw0]; exact cell_lt f2), Nat.mul_comm] at f2
            rw [← BR.out.cell (p := ⟨kb, ko + 4 * j + 3, none⟩) (by rw [← hw0]; exact cell_lt f3), Nat.mul_comm] at f3
            obtain ⟨nm2, a2, an2, ac2, e2, en2, ec2, p2, rfl, rfl, rfl, rfl⟩ := he.form
            obtain ⟨U, hU, BU, LU⟩ : ∃ U, wr.alloc (.cells #[.string nm2, .slice a2 an2 ac2, .slice e2 en2 ec2, .int .i64 p2] 50) = U ∧ Below wr.heap.size wr U ∧ Lies U wr.heap.size 50 #[.string nm2, .slice a2 an2 ac2, .slice e2 en2 ec2, .int .i64 p2] := ⟨_, rfl, (Below.refl _ wr).alloc (Nat.le_refl _) _, Lies.new wr _ _⟩
            have hUz : U.heap.size = wr.heap.size + 1 := by rw [← hU]; simp
            have u0 : U.cell? ⟨wr.heap.size, 0, none⟩ = some (.string nm2) := LU.cell 0
            have u1 : U.cell? ⟨wr.heap.size, 1, none⟩ = some (.slice a2 an2 ac2) := LU.cell 1
            have u2 : U.cell? ⟨wr.heap.size, 2, none⟩ = some (.slice e2 en2 ec2) := LU.cell 2
            have u3 : U.cell? ⟨wr.heap.size, 3, none⟩ = some (.int .i64 p2) := LU.cell 3
            have HKJ := hideT hK
            have HE := hideT he
            have HFK : Hid (fineT d K) := HF.out K (List.mem_of_getElem? hK)
            have HSUM : ((ks.drop j).map (attN d)).sum = attN d K + ((ks.drop (j + 1)).map (attN d)).sum := by rw [drop_at hK]; rfl
            have hPL : (L ++ s.2.1).length = L.length + Pn := by rw [List.length_append, HPN.out]
            have SU := hideT (SR.out.below BU)
            have KU := hideT (KR.out.trans (Keep.of_below BU))
            have LEU := hideT (LER.out.below BU)
            have LRU := hideT (LRR.out.below BU)
            have LNU := hideT (LNR.out.below BU)
            have BUh := hideT BU
            clear hK he LU k2 BU
            go_wp2_with fail
            refine (IH w0 U B sb mb n2 hv2 (L ++ s.2.1) s.1 _ _ _ _ K hw0 HOK.out (SU.out.base (HS.out.base HB.out KR.out |>.trans (BUh.out.mono (by have := BR.out.size; omega))) (Keep.refl _ _)) SU.out HE.out HFK.out (by rw [hPL]; omega)).mono ?_
            rintro e w4 ⟨k4, ee, eo⟩
            have K4 := hideT (KU.out.on k4 (SS_grew GR.out))
            have LE4 := hideT (LEU.out.keep k4 (SU.out.off LEU.out (by decide) (by decide)))
            have LR4 := hideT (LRU.out.keep k4 (SU.out.off LRU.out (by decide) (by decide)))
            have LN4 := hideT (LNU.out.keep k4 (SU.out.off LNU.out (by decide) (by decide)))
            have hz4 : U.heap.size ≤ w4.heap.size := k4.size
            clear f0 f1 f2 f3 u0 u1 u2 u3
            cases hr : resP d s.1 K with
            | error q =>
              obtain rfl := ee q hr
              have ER : Hid (resP (d + 1) G (Xp.mkT nm l ks p) = .error q) := by
                show _ = _
                rw [hR.out]
                unfold resT
                rw [HEN.out]
                simp only [HSP.out, HG.out, HGB.out]
                rw [take_drop_at HKJ.out, kids_err _ K q hr _ _ xs XR.out]
                rfl
              clear ee eo hr
              have BV5 : Below w4.heap.size w4 (w4.alloc (.cells #[.string ⟨#[]⟩, .string ⟨#[]⟩, .slice none 0 0, .slice none 0 0, .int .i64 0] 45)) := (Below.refl _ w4).alloc (Nat.le_refl _) _
              have K5 := hideT (K4.out.trans (Keep.of_below BV5))
              have LR5 := hideT (LR4.out.below BV5)
              have r0 : (w4.alloc (.cells #[.string ⟨#[]⟩, .string ⟨#[]⟩, .slice none 0 0, .slice none 0 0, .int .i64 0] 45)).cell? ⟨w.heap.size + 1, 0, none⟩ = some (.string ⟨#[]⟩) := LR5.out.cell 0
              have r1 : (w4.alloc (.cells #[.string ⟨#[]⟩, .string ⟨#[]⟩, .slice none 0 0, .slice none 0 0, .int .i64 0] 45)).cell? ⟨w.heap.size + 1, 1, none⟩ = some (.string ⟨#[]⟩) := LR5.out.cell 1
              have r2 : (w4.alloc (.cells #[.string ⟨#[]⟩, .string ⟨#[]⟩, .slice none 0 0, .slice none 0 0, .int .i64 0] 45)).cell? ⟨w.heap.size + 1, 2, none⟩ = some (.slice none 0 0) := LR5.out.cell 2
              have r3 : (w4.alloc (.cells #[.string ⟨#[]⟩, .string ⟨#[]⟩, .slice none 0 0, .slice none 0 0, .int .i64 0] 45)).cell? ⟨w.heap.size + 1, 3, none⟩ = some (.slice none 0 0) := LR5.out.cell 3
              have r4 : (w4.alloc (.cells #[.string ⟨#[]⟩, .string ⟨#[]⟩, .slice none 0 0, .slice none 0 0, .int .i64 0] 45)).cell? ⟨w.heap.size + 1, 4, none⟩ = some (.int .i64 0) := LR5.out.cell 4
              have q0 : (w4.alloc (.cells #[.string ⟨#[]⟩, .string ⟨#[]⟩, .slice none 0 0, .slice none 0 0, .int .i64 0] 45)).frozen? ⟨w.heap.size + 1, 0, none⟩ = false := LR5.out.free 0
              have q1 : (w4.alloc (.cells #[.string ⟨#[]⟩, .string ⟨#[]⟩, .slice none 0 0, .slice none 0 0, .int .i64 0] 45)).frozen? ⟨w.heap.size + 1, 1, none⟩ = false := LR5.out.free 1
              have q2 : (w4.alloc (.cells #[.string ⟨#[]⟩, .string ⟨#[]⟩, .slice none 0 0, .slice none 0 0, .int .i64 0] 45)).frozen? ⟨w.heap.size + 1, 2, none⟩ = false := LR5.out.free 2
              have q3 : (w4.alloc (.cells #[.string ⟨#[]⟩, .string ⟨#[]⟩, .slice none 0 0, .slice none 0 0, .int .i64 0] 45)).frozen? ⟨w.heap.size + 1, 3, none⟩ = false := LR5.out.free 3
              have q4 : (w4.alloc (.cells #[.string ⟨#[]⟩, .string ⟨#[]⟩, .slice none 0 0, .slice none 0 0, .int .i64 0] 45)).frozen? ⟨w.heap.size + 1, 4, none⟩ = false := LR5.out.free 4
              obtain ⟨X, hX, kX, lX, _⟩ := put5_named (.string ⟨#[]⟩) (.string ⟨#[]⟩) (.slice none 0 0) (.slice none 0 0) (.int .i64 0) K5.out (by omega) LR5.out
              have KX := hideT kX
              have LX := hideT lX
              clear kX lX BV5
              go_wp2_with fail
              clear r0 r1 r2 r3 r4 q0 q1 q2 q3 q4
              have r0 : X.cell? ⟨w.heap.size + 1, 0, none⟩ = some (.string ⟨#[]⟩) := LX.out.cell 0
              have r1 : X.cell? ⟨w.heap.size + 1, 1, none⟩ = some (.string ⟨#[]⟩) := LX.out.cell 1
              have r2 : X.cell? ⟨w.heap.size + 1, 2, none⟩ = some (.slice none 0 0) := LX.out.cell 2
              have r3 : X.cell? ⟨w.heap.size + 1, 3, none⟩ = some (.slice none 0 0) := LX.out.cell 3
              have r4 : X.cell? ⟨w.heap.size + 1, 4, none⟩ = some (.int .i64 0) := LX.out.cell 4
              refine bodyPost_ret (v := .tuple #[nZ, .int .i64 q, .int .i64 5]) (by simp [results, Tryz.results31, go_sem, r0, r1, r2, r3, r4]) rfl ⟨KX.out, fun q' hq => ?_, fun N hq => ?_⟩
              · rw [ER.out] at hq
                cases hq
                rfl
              · rw [ER.out] at hq
                cases hq
            | ok N =>
              obtain ⟨c0, c1', c2', c3', c4', hv3, n3, rfl, s3, hn3, g3, t3⟩ := eo N hr
              obtain ⟨sp3, lo3, ad3, an3, ac3, kd3, kn3, kc3, p3, rfl, rfl, rfl, rfl, rfl⟩ := t3.form
              obtain ⟨Y, hY, BY, LY⟩ : ∃ Y, w4.alloc (.cells #[.string sp3, .string lo3, .slice ad3 an3 ac3, .slice kd3 kn3 kc3, .int .i64 p3] 45) = Y ∧ Below w4.heap.size w4 Y ∧ Lies Y w4.heap.size 45 #[.string sp3, .string lo3, .slice ad3 an3 ac3, .slice kd3 kn3 kc3, .int .i64 p3] := ⟨_, rfl, (Below.refl _ w4).alloc (Nat.le_refl _) _, Lies.new w4 _ _⟩
              have v0 : Y.cell? ⟨w4.heap.size, 0, none⟩ = some (.string sp3) := LY.cell 0
              have v1 : Y.cell? ⟨w4.heap.size, 1, none⟩ = some (.string lo3) := LY.cell 1
              have v2 : Y.cell? ⟨w4.heap.size, 2, none⟩ = some (.slice ad3 an3 ac3) := LY.cell 2
              have v3 : Y.cell? ⟨w4.heap.size, 3, none⟩ = some (.slice kd3 kn3 kc3) := LY.cell 3
              have v4 : Y.cell? ⟨w4.heap.size, 4, none⟩ = some (.int .i64 p3) := LY.cell 4
              have LNY := hideT (LN4.out.below BY)
              have z3 : Y.cell? ⟨nb, 3, none⟩ = some (.slice kad j kc) := LNY.out.cell 3
              obtain ⟨qs, o1, hq, ht⟩ := NR.out
              have hkvz : ∀ g, (Value.slice kad j kc).ownBlock = some g → wc.heap.size ≤ g ∧ g < wr.heap.size := fun g hg => ⟨(own_lt o1 hg).2, (own_lt o1 hg).1⟩
              have hkvn : (Value.slice kad j kc).ownBlock ≠ some nb := fun e => by have := (hkvz nb e).1; omega
              have O4 : w4.ownsRow wc.heap.size 45 5 (.slice kad j kc) j (flatN qs) := by
                have h1 := own_keep (w' := U) o1 (fun g hg => BUh.out.block g (own_lt o1 hg).1)
                have h2 := SU.out.rowKeep h1 (by decide) (by decide) k4
                rw [hxs] at h2
                exact h2
              have OY := hideT (own_keep (w' := Y) O4 (fun g hg => BY.block g (own_lt O4 hg).1))
              have O4 := hideT O4
              have HT := hideT ht
              have HKV := hideT hkvz
              have S3 := hideT s3
              have G3 := hideT g3
              have T3 := hideT t3
              have BYh := hideT BY
              have K4' := hideT k4
              have HRK := hideT hr
              obtain ⟨i0, hi0, hz0, hz1, hz2⟩ := info_parts infoN
              have hwcY : wc.heap.size ≤ Y.heap.size := by have := BYh.out.size; omega
              have hj12 : j + 1 ≤ 1000000000000 := by omega
              clear o1 ht hkvz s3 g3 t3 BY LY ee eo hr k4
              go_wp2_with (first | (at_builtin; refine wpList_append_lies _ (by rfl) _ _ _ (by rfl) wc.heap.size 45 i0 _ 5 88 Tryz.underlying43 hi0 hz0 hz1 hz2 rfl (by omega) (.slice kad j kc) j (flatN qs) (by rfl) (OY.out.alloc _) ⟨Y.heap.size, 0, none⟩ 1 1 [.string sp3, .string lo3, .slice ad3 an3 ac3, .slice kd3 kn3 kc3, .int .i64 p3] (by rfl) (by rfl) (World.news_of_block (cs := #[.string sp3, .string lo3, .slice ad3 an3 ac3, .slice kd3 kn3 kc3, .int .i64 p3]) (t := 45) (fr := (0, 0)) (heap_alloc_new Y _)) (by simp [Value.oneCell']) (by omega) (by unfold maxLen; omega) (by omega) (by first | (simp; done) | (simp; omega)) (Y.heap.size + 1) (by simp) ?_; intro gb7 cap2 w7 hown hgrow hat7 hlt7; have LN7 := hideT (nb_grown LNY.out ((Below.refl _ Y).alloc (Nat.le_refl _) _) hgrow hkvn); have y7 : w7.cell? ⟨nb, 3, none⟩ = some (.slice kad j kc) := LN7.out.cell 3; have f7 : w7.frozen? ⟨nb, 3, none⟩ = false := LN7.out.free 3) | fail)
              have hLNY := LNY.out.lt
              have bA := (Below.refl Y.heap.size Y).alloc (Nat.le_refl _) (.cells #[.string sp3, .string lo3, .slice ad3 an3 ac3, .slice kd3 kn3 kc3, .int .i64 p3] 45)
              have b6 : Below w4.heap.size w4 (Y.alloc (.cells #[.string sp3, .string lo3, .slice ad3 an3 ac3, .slice kd3 kn3 kc3, .int .i64 p3] 45)) := BYh.out.trans (bA.mono BYh.out.size)
              obtain ⟨X, hX⟩ : ∃ X, w7.setCell ⟨nb, 3, none⟩ (.slice (some ⟨gb7, 0, none⟩) (j + 1) cap2) = X := ⟨_, rfl⟩
              have hXo : ∀ k, k ≠ nb → X.heap[k]? = w7.heap[k]? := fun k hk => by rw [← hX]; exact Below.heap_setCell _ _ _ _ hk
              have hXz : w7.heap.size ≤ X.heap.size := by rw [← hX]; simp [World.setCell]
              have hat8 : (Value.slice kad j kc).ownBlock = some gb7 ∨ gb7 = (Y.alloc (.cells #[.string sp3, .string lo3, .slice ad3 an3 ac3, .slice kd3 kn3 kc3, .int .i64 p3] 45)).heap.size := by
                rcases hat7 with h1 | h1
                · exact .inl h1
                · exact .inr (by rw [h1]; simp)
              have hmv : ∀ k, DoneK w w4 hv3 (.slice kad j kc) nb k → X.heap[k]? = w4.heap[k]? ∧ DoneK w X hv3 (.slice (some ⟨gb7, 0, none⟩) (j + 1) cap2) nb k := fun k hk => doneK_append b6 hgrow hat8 rfl hXo hXz hk
              have hmv2 : ∀ k, DoneK w wr hv2 (.slice kad j kc) nb k → X.heap[k]? = wr.heap[k]? ∧ DoneK w X hv3 (.slice (some ⟨gb7, 0, none⟩) (j + 1) cap2) nb k := fun k hk => by
                obtain ⟨h1, h2⟩ := doneK_call BUh.out K4'.out G3.out hswz hmwz hk
                obtain ⟨h3, h4⟩ := hmv k h2
                exact ⟨h3.trans h1, h4⟩
              have hnew : ∀ k, Done U.heap.size w4 hv3 k → DoneK w w4 hv3 (.slice kad j kc) nb k := by
                rintro k ⟨h1, h2, h3⟩
                exact ⟨by omega, h2, h3, fun e => by have := (HKV.out k e).2; omega, by omega⟩
              have S6 := ((S3.out.below b6).grown (O4.out |> fun o => own_keep o (fun g hg => b6.block g (own_lt o hg).1)) (by decide) (by decide) hgrow)
              have S8 : SIn X B sb mb n3 hv3 (L ++ s.2.1) s.1 := S6.keep (fun k hk => hXo k (fun e => by rw [e] at hk; exact S6.off LN7.out (by decide) (by decide) hk))
              have K8 : Keep (SS sb mb hv) w X := by
                have h1 := (K4.out.trans (Keep.of_below b6)).on (Keep.grown hgrow) (fun i hi e => by have := (HKV.out i e).1; omega)
                have h2 := h1.on (Keep.set (S := (· = nb)) w7 ⟨nb, 3, none⟩ (.slice (some ⟨gb7, 0, none⟩) (j + 1) cap2) rfl) (fun i hi e => by omega)
                rw [hX] at h2
                exact h2
              have LE8 : Lies X w.heap.size 50 #[.string nm, .slice aad l.length acap, .slice (some ⟨kb, ko, none⟩) ks.length kcap, .int .i64 p] := by
                have h1 := nb_grown LE4.out b6 hgrow (fun e => by have := (HKV.out _ e).1; omega)
                rw [← hX]
                exact h1.off _ _ (by show w.heap.size ≠ nb; omega)
              have LR8 : Lies X (w.heap.size + 1) 45 #[.string ⟨#[]⟩, .string ⟨#[]⟩, .slice none 0 0, .slice none 0 0, .int .i64 0] := by
                have h1 := nb_grown LR4.out b6 hgrow (fun e => by have := (HKV.out _ e).1; omega)
                rw [← hX]
                exact h1.off _ _ (by show w.heap.size + 1 ≠ nb; omega)
              have LN8 : Lies X nb 45 #[.string gs, .string loc, .slice oad s.2.2.length ocap, .slice (some ⟨gb7, 0, none⟩) (j + 1) cap2, .int .i64 p] := by
                rw [← hX]
                exact LN7.out.set 3 _
              have A8 := AR.out.turn (fun k hk => (hmv2 k hk).1) (fun k hk => (hmv2 k hk).2)
              have hgn : gb7 ≠ nb := by
                rcases hat7 with h1 | h1
                · have := (HKV.out _ h1).1
                  omega
                · omega
              have O8 : X.ownsRow wc.heap.size 45 5 (.slice (some ⟨gb7, 0, none⟩) (j + 1) cap2) (xs.length + 1) (flatN qs ++ [.string sp3, .string lo3, .slice ad3 an3 ac3, .slice kd3 kn3 kc3, .int .i64 p3]) := by
                rw [hxs]
                exact own_keep hown (fun g hg => hXo g (fun e => hgn ((Option.some.inj hg).trans e)))
              have N8 : NRow X wc.heap.size (DoneK w X hv3 (.slice (some ⟨gb7, 0, none⟩) (j + 1) cap2) nb) d (.slice (some ⟨gb7, 0, none⟩) (j + 1) cap2) (xs ++ [N]) :=
                NRow.snoc (w := X) (kv := nilS) (R := fun _ => True) (q := (.string sp3, .string lo3, .slice ad3 an3 ac3, .slice kd3 kn3 kc3, .int .i64 p3)) hq (fun i q K' e1 e2 => (HT.out i q K' e1 e2).turn (fun k hk => (hmv2 k hk).1) (fun k hk => (hmv2 k hk).2)) O8 (T3.out.turn (fun k hk => (hmv k (hnew k hk)).1) (fun k hk => (hmv k (hnew k hk)).2))
              have X8 : kidsP (resP d s.1) (ks.take (j + 1)) = .ok (xs ++ [N]) := by
                rw [take_snoc HKJ.out]
                exact kids_snoc _ K _ xs XR.out N HRK.out
              have hzX : wc.heap.size ≤ X.heap.size := by have := hgrow.size; have := bA.size; omega
              rw [hX]
              refine ⟨⟨j + 1, hv3, n3, some ⟨gb7, 0, none⟩, cap2, xs ++ [N], by omega, by go_num, by simp [hxs], K8, S8, GR.out.trans (by omega) G3.out, LE8, LR8, LN8, A8, N8, X8, by omega, hzX⟩, ?_⟩
              first | omega | (simp [intOf]; omega)
          · have HJE : Hid (j = ks.length) := by show _ = _; omega
            have hbud2 : n2 ≤ n + Pn + 2 * tot := by omega
            go_wp2_with fail
            refine (leaveD wr B sb mb n2 hv2 L s.2.1 s.1 SR.out (by have := HPN.out; omega) (by have := HPN.out; omega)).mono ?_
            rintro e w5 ⟨rfl, k5, hv5, s5, g5⟩
            have LN5 := hideT (LNR.out.keep k5 (SR.out.off LNR.out (by decide) (by decide)))
            have LR5 := hideT (LRR.out.keep k5 (SR.out.off LRR.out (by decide) (by decide)))
            have K5 := hideT (KR.out.on k5 (SS_grew GR.out))
            have m0 : w5.cell? ⟨nb, 0, none⟩ = some (.string gs) := LN5.out.cell 0
            have m1 : w5.cell? ⟨nb, 1, none⟩ = some (.string loc) := LN5.out.cell 1
            have m2 : w5.cell? ⟨nb, 2, none⟩ = some (.slice oad s.2.2.length ocap) := LN5.out.cell 2
            have m3 : w5.cell? ⟨nb, 3, none⟩ = some (.slice kad j kc) := LN5.out.cell 3
            have m4 : w5.cell? ⟨nb, 4, none⟩ = some (.int .i64 p) := LN5.out.cell 4
            have r0 : w5.cell? ⟨w.heap.size + 1, 0, none⟩ = some (.string ⟨#[]⟩) := LR5.out.cell 0
            have r1 : w5.cell? ⟨w.heap.size + 1, 1, none⟩ = some (.string ⟨#[]⟩) := LR5.out.cell 1
            have r2 : w5.cell? ⟨w.heap.size + 1, 2, none⟩ = some (.slice none 0 0) := LR5.out.cell 2
            have r3 : w5.cell? ⟨w.heap.size + 1, 3, none⟩ = some (.slice none 0 0) := LR5.out.cell 3
            have r4 : w5.cell? ⟨w.heap.size + 1, 4, none⟩ = some (.int .i64 0) := LR5.out.cell 4
            have q0 : w5.frozen? ⟨w.heap.size + 1, 0, none⟩ = false := LR5.out.free 0
            have q1 : w5.frozen? ⟨w.heap.size + 1, 1, none⟩ = false := LR5.out.free 1
            have q2 : w5.frozen? ⟨w.heap.size + 1, 2, none⟩ = false := LR5.out.free 2
            have q3 : w5.frozen? ⟨w.heap.size + 1, 3, none⟩ = false := LR5.out.free 3
            have q4 : w5.frozen? ⟨w.heap.size + 1, 4, none⟩ = false := LR5.out.free 4
            obtain ⟨X, hX, kX, lX, eX⟩ := put5_named (.string gs) (.string loc) (.slice oad s.2.2.length ocap) (.slice kad j kc) (.int .i64 p) K5.out (by omega) LR5.out
            have KX := hideT kX
            have LX := hideT lX
            have EX := hideT eX
            have S5 := hideT s5
            have G5 := hideT g5
            have K5' := hideT k5
            clear kX lX eX s5 g5 k5
            go_wp2_with fail
            clear r0 r1 r2 r3 r4 q0 q1 q2 q3 q4 m0 m1 m2 m3 m4
            have r0 : X.cell? ⟨w.heap.size + 1, 0, none⟩ = some (.string gs) := LX.out.cell 0
            have r1 : X.cell? ⟨w.heap.size + 1, 1, none⟩ = some (.string loc) := LX.out.cell 1
            have r2 : X.cell? ⟨w.heap.size + 1, 2, none⟩ = some (.slice oad s.2.2.length ocap) := LX.out.cell 2
            have r3 : X.cell? ⟨w.heap.size + 1, 3, none⟩ = some (.slice kad j kc) := LX.out.cell 3
            have r4 : X.cell? ⟨w.heap.size + 1, 4, none⟩ = some (.int .i64 p) := LX.out.cell 4
            have OKR : Hid (resP (d + 1) G (Xp.mkT nm l ks p) = .ok (mkN gs loc s.2.2 xs p)) := by
              show _ = _
              rw [hR.out]
              unfold resT
              rw [HEN.out]
              simp only [HSP.out, HG.out, HGB.out]
              have h1 := XR.out
              rw [HJE.out, List.take_length] at h1
              rw [h1]
              rfl
            refine bodyPost_ret (v := .tuple #[.agg #[.string gs, .string loc, .slice oad s.2.2.length ocap, .slice kad j kc, .int .i64 p], .int .i64 0, .int .i64 0]) (by simp [results, Tryz.results31, go_sem, r0, r1, r2, r3, r4]) rfl ⟨KX.out, fun q' hq => ?_, fun N hq => ?_⟩
            · rw [OKR.out] at hq
              cases hq
            · rw [OKR.out] at hq
              cases hq
              have hun : undo s.2.1 s.1 = G := enter_undo HEN.out
              have S6 := S5.out
              rw [hun] at S6
              have S7 : SIn X B sb mb (n2 + s.2.1.length) hv5 L G := S6.keep (fun k hk => EX.out k (fun e => by rw [e] at hk; exact S6.off LR5.out (by decide) (by decide) hk))
              have hzX : w5.heap.size ≤ X.heap.size := by rw [← hX]; simp [World.setCell]
              have hmv : ∀ k, DoneK w wr hv2 (.slice kad j kc) nb k → X.heap[k]? = wr.heap[k]? ∧ Done w.heap.size X hv5 k := by
                intro k hk
                obtain ⟨h1, h2⟩ := doneK_call (Below.refl _ wr) K5'.out G5.out hswz hmwz hk
                obtain ⟨h3, h4, h5, _, _⟩ := h2
                exact ⟨(EX.out k (by omega)).trans h1, by omega, by omega, h5⟩
              obtain ⟨qs, o1, hq, ht⟩ := NR.out
              have o5 := SR.out.rowKeep o1 (by decide) (by decide) K5'.out
              refine ⟨_, _, _, _, _, hv5, n2 + s.2.1.length, rfl, S7, by rw [hN.out, ← HTOT.out]; have := HPN.out; omega, GR.out.trans KR.out.size G5.out, named_of (AR.out.turn (fun k hk => (hmv k hk).1) (fun k hk => (hmv k hk).2)) (NR.out.turn (fun g hg => ?_) (fun k hk => (hmv k hk).1) (fun k hk => (hmv k hk).2)) (fun g hg => ?_) (by omega)⟩
              · have hg1 := (own_lt o1 hg)
                rw [EX.out g (by omega), K5'.out.block g hg1.1 (SR.out.rowOff o1 (by decide) (by decide) g hg)]
              · have hg1 := (own_lt o5 hg)
                exact ⟨by omega, by omega, own_ne2 o5 S5.out.row (by decide) g hg⟩
end Go.Proofs.YtjfonpbnohbpfaaGreatDoor
/-
  The program's Resolve, for every element that is not too large.
-/
set_option linter.unusedSimpArgs false
set_option linter.unusedVariables false
namespace Go.Proofs.YtjfonpbnohbpfaaGreatDoor
open Go.RowKit
set_option maxRecDepth 100000
theorem resolveD : ∀ d, ResIn d
  | 0 => fun _ _ _ _ _ _ _ _ _ _ _ _ _ _ _ _ _ _ h _ _ => h.elim
  | d + 1 => resolve_step d (resolveD d)
/-- Resolve: what comes back. -/
def ResolvePost (w : World) (d : Nat) (T : Tr) (e : Ending) (w' : World) : Prop :=
  Below w.heap.size w w' ∧
  (∀ q, resP d G0 T = .error q → e = .returned (.tuple #[nZ, .int .i64 q, .int .i64 5])) ∧
  (∀ N, resP d G0 T = .ok N → ∃ c0 c1 c2 c3 c4, e = .returned (.tuple #[.agg #[c0, c1, c2, c3, c4], .int .i64 0, .int .i64 0]) ∧ NInR w' (· < w'.heap.size) d c0 c1 c2 c3 c4 N)
set_option maxHeartbeats 2000000 in
theorem ResolveD (w : World) (d : Nat) (c0 c1 c2 c3 : Value) (T : Tr) (hok : OkS w) (hE : EIn w d c0 c1 c2 c3 T) (hF : fineT d T) (hZ : 2 * attN d T ≤ 99999999) :
    Calls Tryz.prog 12 #[.agg #[c0, c1, c2, c3]] w (ResolvePost w d T) := by
  obtain ⟨nm, a, an, ac, k, kn, kc, p, rfl, rfl, rfl, rfl⟩ := hE.form
  obtain ⟨W, hW, BW, LE, LR⟩ : ∃ W, (w.alloc (.cells #[.string nm, .slice a an ac, .slice k kn kc, .int .i64 p] 50)).alloc (.cells #[.string ⟨#[]⟩, .string ⟨#[]⟩, .slice none 0 0, .slice none 0 0, .int .i64 0] 45) = W ∧ Below w.heap.size w W ∧ Lies W w.heap.size 50 #[.string nm, .slice a an ac, .slice k kn kc, .int .i64 p] ∧ Lies W (w.heap.size + 1) 45 #[.string ⟨#[]⟩, .string ⟨#[]⟩, .slice none 0 0, .slice none 0 0, .int .i64 0] := by
    refine ⟨_, rfl, ((Below.refl _ w).alloc (Nat.le_refl _) _).alloc (by simp) _, (Lies.new w _ _).below ((Below.refl _ _).alloc (Nat.le_refl _) _), ?_⟩
    have := Lies.new (w.alloc (.cells #[.string nm, .slice a an ac, .slice k kn kc, .int .i64 p] 50)) 45 #[.string ⟨#[]⟩, .string ⟨#[]⟩, .slice none 0 0, .slice none 0 0, .int .i64 0]
    rw [World.size_alloc] at this
    exact this
  have x0 : W.cell? ⟨w.heap.size, 0, none⟩ = some (.string nm) := LE.cell 0
  have x1 : W.cell? ⟨w.heap.size, 1, none⟩ = some (.slice a an ac) := LE.cell 1
  have x2 : W.cell? ⟨w.heap.size, 2, none⟩ = some (.slice k kn kc) := LE.cell 2
  have x3 : W.cell? ⟨w.heap.size, 3, none⟩ = some (.int .i64 p) := LE.cell 3
  have r0 : W.cell? ⟨w.heap.size + 1, 0, none⟩ = some (.string ⟨#[]⟩) := LR.cell 0
  have HE := hideT hE
  have HF := hideT hF
  have HOK := hideT hok
  have BW := hideT BW
  have LEh := hideT LE
  have LRh := hideT LR
  have hokW : OkS W := hok.below BW.out hok.lt
  have HOW := hideT hokW
  have HEW := hideT (hE.below BW.out)
  clear hE hF hok LE LR hokW r0
  cases hr : resP d G0 T with
  | error q =>
    have HR := hideT hr
    clear hr
    go_enter Tryz.func12, Tryz.ntmps12
    go_wp2_with fail
    go_region_held3 (fun w' => w'.cell? ⟨w.heap.size, 0, none⟩ = some (.string nm) ∧ w'.cell? ⟨w.heap.size, 1, none⟩ = some (.slice a an ac) ∧ w'.cell? ⟨w.heap.size, 2, none⟩ = some (.slice k kn kc) ∧ w'.cell? ⟨w.heap.size, 3, none⟩ = some (.int .i64 p)) (go_keep) (first | (go_at_call 30; refine (outsideD _).mono ?_; rintro e w1 ⟨sb, rfl, b1, mb, s1⟩; have bb1 : Below W.heap.size W w1 := (Below.refl _ W).drew.trans b1; have w10 : w1.cell? ⟨w.heap.size, 0, none⟩ = some (.string nm) := (LEh.out.below bb1).cell 0; have w11 : w1.cell? ⟨w.heap.size, 1, none⟩ = some (.slice a an ac) := (LEh.out.below bb1).cell 1; have w12 : w1.cell? ⟨w.heap.size, 2, none⟩ = some (.slice k kn kc) := (LEh.out.below bb1).cell 2; have w13 : w1.cell? ⟨w.heap.size, 3, none⟩ = some (.int .i64 p) := (LEh.out.below bb1).cell 3) | (go_at_call 31; refine (resolveD d W _ W.heap.size sb mb 1 nilS [] G0 _ _ _ _ T rfl HOW.out bb1 s1 HEW.out HF.out (by simp; omega)).mono ?_; rintro e w2 ⟨k2, ee, eo⟩; have bb2 : Below W.heap.size W w2 := s1.base bb1 k2; have w20 : w2.cell? ⟨w.heap.size, 0, none⟩ = some (.string nm) := (LEh.out.below bb2).cell 0; have w21 : w2.cell? ⟨w.heap.size, 1, none⟩ = some (.slice a an ac) := (LEh.out.below bb2).cell 1; have w22 : w2.cell? ⟨w.heap.size, 2, none⟩ = some (.slice k kn kc) := (LEh.out.below bb2).cell 2; have w23 : w2.cell? ⟨w.heap.size, 3, none⟩ = some (.int .i64 p) := (LEh.out.below bb2).cell 3; have w2r0 : w2.cell? ⟨w.heap.size + 1, 0, none⟩ = some (.string ⟨#[]⟩) := (LRh.out.below bb2).cell 0; have w2q0 : w2.frozen? ⟨w.heap.size + 1, 0, none⟩ = false := (LRh.out.below bb2).free 0; have w2r1 : w2.cell? ⟨w.heap.size + 1, 1, none⟩ = some (.string ⟨#[]⟩) := (LRh.out.below bb2).cell 1; have w2q1 : w2.frozen? ⟨w.heap.size + 1, 1, none⟩ = false := (LRh.out.below bb2).free 1; have w2r2 : w2.cell? ⟨w.heap.size + 1, 2, none⟩ = some (.slice none 0 0) := (LRh.out.below bb2).cell 2; have w2q2 : w2.frozen? ⟨w.heap.size + 1, 2, none⟩ = false := (LRh.out.below bb2).free 2; have w2r3 : w2.cell? ⟨w.heap.size + 1, 3, none⟩ = some (.slice none 0 0) := (LRh.out.below bb2).cell 3; have w2q3 : w2.frozen? ⟨w.heap.size + 1, 3, none⟩ = false := (LRh.out.below bb2).free 3; have w2r4 : w2.cell? ⟨w.heap.size + 1, 4, none⟩ = some (.int .i64 0) := (LRh.out.below bb2).cell 4; have w2q4 : w2.frozen? ⟨w.heap.size + 1, 4, none⟩ = false := (LRh.out.below bb2).free 4; obtain rfl := ee q HR.out))
    all_goals obtain ⟨X, hX, kX, lX, eX⟩ := put5_named (S := fun _ => False) (.string ⟨#[]⟩) (.string ⟨#[]⟩) (.slice none 0 0) (.slice none 0 0) (.int .i64 0) (Keep.of_below (BW.out.trans (bb2.mono BW.out.size))) (by omega) (LRh.out.below bb2)
    all_goals go_wp2_with fail
    all_goals try rw [hX]
    all_goals have r0 := lX.cell 0
    all_goals have r1 := lX.cell 1
    all_goals have r2 := lX.cell 2
    all_goals have r3 := lX.cell 3
    all_goals have r4 := lX.cell 4
    all_goals simp only [List.getElem?_toArray, List.getElem?_cons_zero, List.getElem?_cons_succ] at r0 r1 r2 r3 r4
    all_goals refine bodyPost_ret (v := .tuple #[nZ, .int .i64 q, .int .i64 5]) (by simp [results, Tryz.results12, go_sem, r0, r1, r2, r3, r4]) rfl ⟨Keep.below (Below.refl _ w) kX (fun _ _ e => e), fun q' hq => ?_, fun N' hq => ?_⟩
    all_goals (rw [HR.out] at hq; cases hq)
    all_goals rfl
  | ok N =>
    have HR := hideT hr
    clear hr
    go_enter Tryz.func12, Tryz.ntmps12
    go_wp2_with fail
    go_region_held3 (fun w' => w'.cell? ⟨w.heap.size, 0, none⟩ = some (.string nm) ∧ w'.cell? ⟨w.heap.size, 1, none⟩ = some (.slice a an ac) ∧ w'.cell? ⟨w.heap.size, 2, none⟩ = some (.slice k kn kc) ∧ w'.cell? ⟨w.heap.size, 3, none⟩ = some (.int .i64 p)) (go_keep) (first | (go_at_call 30; refine (outsideD _).mono ?_; rintro e w1 ⟨sb, rfl, b1, mb, s1⟩; have bb1 : Below W.heap.size W w1 := (Below.refl _ W).drew.trans b1; have w10 : w1.cell? ⟨w.heap.size, 0, none⟩ = some (.string nm) := (LEh.out.below bb1).cell 0; have w11 : w1.cell? ⟨w.heap.size, 1, none⟩ = some (.slice a an ac) := (LEh.out.below bb1).cell 1; have w12 : w1.cell? ⟨w.heap.size, 2, none⟩ = some (.slice k kn kc) := (LEh.out.below bb1).cell 2; have w13 : w1.cell? ⟨w.heap.size, 3, none⟩ = some (.int .i64 p) := (LEh.out.below bb1).cell 3) | (go_at_call 31; refine (resolveD d W _ W.heap.size sb mb 1 nilS [] G0 _ _ _ _ T rfl HOW.out bb1 s1 HEW.out HF.out (by simp; omega)).mono ?_; rintro e w2 ⟨k2, ee, eo⟩; have bb2 : Below W.heap.size W w2 := s1.base bb1 k2; have w20 : w2.cell? ⟨w.heap.size, 0, none⟩ = some (.string nm) := (LEh.out.below bb2).cell 0; have w21 : w2.cell? ⟨w.heap.size, 1, none⟩ = some (.slice a an ac) := (LEh.out.below bb2).cell 1; have w22 : w2.cell? ⟨w.heap.size, 2, none⟩ = some (.slice k kn kc) := (LEh.out.below bb2).cell 2; have w23 : w2.cell? ⟨w.heap.size, 3, none⟩ = some (.int .i64 p) := (LEh.out.below bb2).cell 3; have w2r0 : w2.cell? ⟨w.heap.size + 1, 0, none⟩ = some (.string ⟨#[]⟩) := (LRh.out.below bb2).cell 0; have w2q0 : w2.frozen? ⟨w.heap.size + 1, 0, none⟩ = false := (LRh.out.below bb2).free 0; have w2r1 : w2.cell? ⟨w.heap.size + 1, 1, none⟩ = some (.string ⟨#[]⟩) := (LRh.out.below bb2).cell 1; have w2q1 : w2.frozen? ⟨w.heap.size + 1, 1, none⟩ = false := (LRh.out.below bb2).free 1; have w2r2 : w2.cell? ⟨w.heap.size + 1, 2, none⟩ = some (.slice none 0 0) := (LRh.out.below bb2).cell 2; have w2q2 : w2.frozen? ⟨w.heap.size + 1, 2, none⟩ = false := (LRh.out.below bb2).free 2; have w2r3 : w2.cell? ⟨w.heap.size + 1, 3, none⟩ = some (.slice none 0 0) := (LRh.out.below bb2).cell 3; have w2q3 : w2.frozen? ⟨w.heap.size + 1, 3, none⟩ = false := (LRh.out.below bb2).free 3; have w2r4 : w2.cell? ⟨w.heap.size + 1, 4, none⟩ = some (.int .i64 0) := (LRh.out.below bb2).cell 4; have w2q4 : w2.frozen? ⟨w.heap.size + 1, 4, none⟩ = false := (LRh.out.below bb2).free 4; obtain ⟨c0, c1', c2', c3', c4', hv3, n3, rfl, s3, _, _, t3⟩ := eo N HR.out; obtain ⟨sp3, lo3, ad3, an3, ac3, kd3, kn3, kc3, p3, rfl, rfl, rfl, rfl, rfl⟩ := t3.form))
    all_goals obtain ⟨X, hX, kX, lX, eX⟩ := put5_named (S := fun _ => False) (.string sp3) (.string lo3) (.slice ad3 an3 ac3) (.slice kd3 kn3 kc3) (.int .i64 p3) (Keep.of_below (BW.out.trans (bb2.mono BW.out.size))) (by omega) (LRh.out.below bb2)
    all_goals go_wp2_with fail
    all_goals try rw [hX]
    all_goals have r0 := lX.cell 0
    all_goals have r1 := lX.cell 1
    all_goals have r2 := lX.cell 2
    all_goals have r3 := lX.cell 3
    all_goals have r4 := lX.cell 4
    all_goals simp only [List.getElem?_toArray, List.getElem?_cons_zero, List.getElem?_cons_succ] at r0 r1 r2 r3 r4
    all_goals refine bodyPost_ret (v := .tuple #[.agg #[.string sp3, .string lo3, .slice ad3 an3 ac3, .slice kd3 kn3 kc3, .int .i64 p3], .int .i64 0, .int .i64 0]) (by simp [results, Tryz.results12, go_sem, r0, r1, r2, r3, r4]) rfl ⟨Keep.below (Below.refl _ w) kX (fun _ _ e => e), fun q' hq => ?_, fun N' hq => ?_⟩
    all_goals (rw [HR.out] at hq; cases hq)
    all_goals refine ⟨_, _, _, _, _, rfl, t3.turn (fun k' hk' => eX k' (by have := hk'.1; have := bb1.size; have := LRh.out.lt; omega)) (fun k' hk' => Nat.lt_of_lt_of_le hk'.2.1 ?_)⟩
    all_goals (rw [← hX]; simp [World.setCell])
end Go.Proofs.YtjfonpbnohbpfaaGreatDoor
/-
  Elements that are written out in a text: what they are in memory; what a resolved one's cells hold.
-/
set_option linter.unusedSimpArgs false
set_option linter.unusedVariables false
namespace Go.Proofs.YtjfonpbnohbpfaaGreatDoor
open Go.RowKit
set_option maxRecDepth 100000
theorem lies_at {w : World} {b : Nat} {t : TypeId} {C : Array Value} (h : Lies w b t C) {L : List Value} (hC : C.toList = L) {k : Nat} {v : Value} (hv : L[k]? = some v) : w.cell? ⟨b, k, none⟩ = some v := by
  rw [h.cell k, ← Array.getElem?_toList, hC, hv]
theorem ARow.nil (w : World) : ARow w nilS [] := ⟨0, 0, ⟨none, 0, rfl, fun h => absurd h (by decide)⟩, ⟨by decide, fun p hp => by cases hp⟩, fun i p hp => by simp at hp⟩
theorem ARow.lies {w : World} {b : Nat} {t : TypeId} {C : Array Value} (h : Lies w b t C) (l : List Att) (hC : C.toList = flatA l) (hl : l.length ≤ 1000000000000) (hz : ∀ p ∈ l, p.1.size ≤ 140737488355328 ∧ p.2.size ≤ 140737488355328) (n cap : Nat) (hn : n = l.length) : ARow w (.slice (some ⟨b, 0, none⟩) n cap) l := by
  refine ⟨b, 0, ⟨_, cap, by rw [hn], fun _ => rfl⟩, ⟨hl, hz⟩, fun i p hp => ?_⟩
  obtain ⟨h0, h1⟩ := flatA_get hp
  simp only [Nat.zero_add]
  exact ⟨lies_at h hC h0, lies_at h hC h1⟩
theorem EIn.leaf {w : World} (n : Nat) (nm : ByteArray) (c1 : Value) (l : List Att) (p : Int) (hnm : nm.size ≤ 140737488355328) (ha : ARow w c1 l) : EIn w (n + 1) (.string nm) c1 nilS (.int .i64 p) (Xp.mkT nm l [] p) :=
  ⟨nm, p, l, [], rfl, rfl, rfl, hnm, ha, 0, 0, ⟨none, 0, rfl, fun h => absurd h (by decide)⟩, by simp, fun i K hK => by simp at hK⟩
theorem EIn.node {w : World} (n : Nat) (nm : ByteArray) (c1 : Value) (l : List Att) (p : Int) (hnm : nm.size ≤ 140737488355328) (ha : ARow w c1 l) {b : Nat} {t : TypeId} {C : Array Value} (h : Lies w b t C) (L : List Quad) (ks : List Tr) (hC : C.toList = flatE L) (hL : L.length = ks.length) (hl : ks.length ≤ 1000000) (hk : ∀ (i : Nat) (q : Quad) (K : Tr), L[i]? = some q → ks[i]? = some K → EIn w n q.1 q.2.1 q.2.2.1 q.2.2.2 K) (m cap : Nat) (hm : m = ks.length) :
    EIn w (n + 1) (.string nm) c1 (.slice (some ⟨b, 0, none⟩) m cap) (.int .i64 p) (Xp.mkT nm l ks p) := by
  refine ⟨nm, p, l, ks, rfl, rfl, rfl, hnm, ha, b, 0, ⟨_, cap, by rw [hm], fun _ => rfl⟩, by omega, fun i K hK => ?_⟩
  obtain ⟨q, hq⟩ : ∃ q, L[i]? = some q := ⟨L[i]'(by have := (List.getElem?_eq_some_iff.1 hK).1; omega), List.getElem?_eq_getElem _⟩
  obtain ⟨h0, h1, h2, h3⟩ := flatE_get hq
  simp only [Nat.zero_add]
  exact ⟨q.1, q.2.1, q.2.2.1, q.2.2.2, ⟨lies_at h hC h0, lies_at h hC h1, lies_at h hC h2, lies_at h hC h3⟩, hk i q K hq hK⟩
theorem fine_node {d : Nat} {nm : ByteArray} {l : List Att} {ks : List Tr} {p : Int} (h1 : nm.size ≤ 1000000) (h2 : ∀ p ∈ l, p.1.size ≤ 1000000 ∧ p.2.size ≤ 140000000000000) (h3 : ∀ K ∈ ks, fineT d K) : fineT (d + 1) (Xp.mkT nm l ks p) := by
  refine ⟨?_, ?_, h3⟩
  · have : (Xp.nmT (Xp.mkT nm l ks p)).length = nm.size := Array.length_toList
    omega
  · have e : (Xp.asT (Xp.mkT nm l ks p)).map unpair = l := unpairs l
    rw [e]
    exact h2
theorem mkN_inj {sp lo sp' lo' : ByteArray} {l l' : List Att} {ks ks' : List Tr} {p p' : Int} (h : mkN sp lo l ks p = mkN sp' lo' l' ks' p') : sp = sp' ∧ lo = lo' ∧ l = l' ∧ ks = ks' ∧ p = p' := by
  simp only [mkN, DataW.agg.injEq, List.cons.injEq, DataW.lit.injEq, Lit.string.injEq, Lit.int.injEq, DataW.slice.injEq, and_true, true_and] at h
  obtain ⟨h1, h2, h3, h4, h5⟩ := h
  exact ⟨Xp.ba_inj h1, Xp.ba_inj h2, Xp.pairs_inj h3, h4, h5⟩
theorem NInR.inv {w : World} {R : Nat → Prop} {n : Nat} {c0 c1 c2 c3 c4 : Value} {sp lo : ByteArray} {l : List Att} {ks : List Tr} {p : Int} (h : NInR w R (n + 1) c0 c1 c2 c3 c4 (mkN sp lo l ks p)) :
    c0 = .string sp ∧ c1 = .string lo ∧ c4 = .int .i64 p ∧ ARowR w R c2 l ∧ (∃ a ac, c2 = .slice a l.length ac) ∧ ∃ b o ka kc, c3 = .slice ka ks.length kc ∧ (0 < ks.length → ka = some ⟨b, o, none⟩) ∧ ∀ i K, ks[i]? = some K → ∃ d0 d1 d2 d3 d4, Five w b (o + 5 * i) d0 d1 d2 d3 d4 ∧ NInR w R n d0 d1 d2 d3 d4 K := by
  obtain ⟨sp', lo', p', l', ks', h0, h1, h4, hT, ha, b, o, ⟨ka, kc, h3, hka⟩, hb, hl, hk⟩ := h
  obtain ⟨rfl, rfl, rfl, rfl, rfl⟩ := mkN_inj hT
  exact ⟨h0, h1, h4, ha, (by obtain ⟨_, _, ⟨a, ac, e, _⟩, _⟩ := ha; exact ⟨a, ac, e⟩), b, o, ka, kc, h3, hka, hk⟩
theorem att_one {a b : ByteArray} {n m : Nat} (h1 : a.size ≤ n) (h2 : b.size ≤ m) : ∀ p ∈ [(a, b)], p.1.size ≤ n ∧ p.2.size ≤ m := by
  intro p hp
  rw [List.mem_singleton.1 hp]
  exact ⟨h1, h2⟩
theorem of_alloc {w W : World} {C : Array Value} {t : TypeId} (h : w.alloc (.cells C t) = W) : Below w.heap.size w W ∧ Lies W w.heap.size t C ∧ W.heap.size = w.heap.size + 1 := by
  subst h
  exact ⟨(Below.refl _ w).alloc (Nat.le_refl _) _, Lies.new w _ _, by simp⟩
theorem cell_below {w w' : World} {n : Nat} (h : Below n w w') (hn : n = w.heap.size) {a : Addr} {v : Value} (hc : w.cell? a = some v) : w'.cell? a = some v := by
  subst hn
  rw [h.cell (cell_lt hc)]
  exact hc
theorem splitB_one (l : List UInt8) (h : Lib.indexByte l 58 < 0) : splitB ⟨l.toArray⟩ = (e0, ⟨l.toArray⟩) := by
  unfold splitB
  rw [show (⟨l.toArray⟩ : ByteArray).data.toList = l from rfl, Sp.splitL_none _ h]
theorem G0_none : G0 e0 = (e0, true) := upd_same _ _ _
theorem G0_other {k : ByteArray} (h : k ≠ e0) : G0 k = (e0, false) := upd_other _ _ h
end Go.Proofs.YtjfonpbnohbpfaaGreatDoor
