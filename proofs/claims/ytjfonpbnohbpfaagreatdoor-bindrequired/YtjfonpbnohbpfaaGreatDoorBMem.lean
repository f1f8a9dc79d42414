/-
  The binder in memory: quiet blocks, rows that lie in them, items that are bound.
-/
import Derived.Test.YtjfonpbnohbpfaaGreatDoorBPlain
import Derived.Test.YtjfonpbnohbpfaaGreatDoorPartO
import Derived.Test.YtjfonpbnohbpfaaGreatDoorPartN
set_option linter.unusedSimpArgs false
set_option linter.unusedVariables false
namespace Go.Proofs.YtjfonpbnohbpfaaGreatDoor
open Go.RowKit
set_option maxRecDepth 100000
/-- From (w, Q) to (w', Q'): what is quiet stays as it is, and quiet. -/
structure TQ (w : World) (Q : Nat → Prop) (w' : World) (Q' : Nat → Prop) : Prop where
  os : w'.os = w.os
  tape : w'.tape = w.tape
  output : w'.output = w.output
  size : w.heap.size ≤ w'.heap.size
  keep : ∀ k, Q k → w'.heap[k]? = w.heap[k]? ∧ Q' k
theorem TQ.refl (w : World) (Q : Nat → Prop) : TQ w Q w Q := ⟨rfl, rfl, rfl, Nat.le_refl _, fun k h => ⟨rfl, h⟩⟩
theorem TQ.trans {a b c : World} {P Q R : Nat → Prop} (h : TQ a P b Q) (k : TQ b Q c R) : TQ a P c R :=
  ⟨k.os.trans h.os, k.tape.trans h.tape, k.output.trans h.output, Nat.le_trans h.size k.size, fun i hi => ⟨(k.keep i (h.keep i hi).2).1.trans (h.keep i hi).1, (k.keep i (h.keep i hi).2).2⟩⟩
theorem TQ.of_below {w w' : World} {Q Q' : Nat → Prop} (h : Below w.heap.size w w') (hQ : ∀ k, Q k → k < w.heap.size) (hQ' : ∀ k, Q k → Q' k) : TQ w Q w' Q' :=
  ⟨h.os, h.tape, h.output, h.size, fun k hk => ⟨h.block k (hQ k hk), hQ' k hk⟩⟩
theorem TQ.of_keep {w w' : World} {S Q Q' : Nat → Prop} (h : Keep S w w') (hQ : ∀ k, Q k → k < w.heap.size ∧ ¬ S k) (hQ' : ∀ k, Q k → Q' k) : TQ w Q w' Q' :=
  ⟨h.os, h.tape, h.output, h.size, fun k hk => ⟨h.block k (hQ k hk).1 (hQ k hk).2, hQ' k hk⟩⟩
theorem TQ.below {w w' : World} {Q Q' : Nat → Prop} {B : Nat} (h : TQ w Q w' Q') (hB : ∀ k, k < B → Q k) : Below B w w' :=
  ⟨h.os, h.tape, h.output, h.size, fun k hk => (h.keep k (hB k hk)).1⟩
theorem TQ.cell {w w' : World} {Q Q' : Nat → Prop} (h : TQ w Q w' Q') {a : Addr} (ha : Q a.block) : w'.cell? a = w.cell? a := World.cell?_of_block (w := w) (h.keep _ ha).1
theorem TQ.tree {w w' : World} {Q Q' : Nat → Prop} (h : TQ w Q w' Q') {n : Nat} {c0 c1 c2 c3 c4 : Value} {T : Tr} (hT : NInR w Q n c0 c1 c2 c3 c4 T) : NInR w' Q' n c0 c1 c2 c3 c4 T := hT.turn (fun k hk => (h.keep k hk).1) (fun k hk => (h.keep k hk).2)
/-- A row in a quiet block. -/
def RowQ {α : Type} (z : Nat) (R : World → List Value → α → Prop) (w : World) (Q : Nat → Prop) (v : Value) (l : List α) : Prop :=
  ∃ b o, (∃ ao cap, v = .slice ao l.length cap ∧ l.length ≤ cap ∧ (0 < l.length → ao = some ⟨b, o, none⟩)) ∧ (0 < l.length → Q b) ∧ l.length ≤ 10000000000000 ∧ ∀ (i : Nat) x, l[i]? = some x → ∃ cs : List Value, cs.length = z ∧ R w cs x ∧ ∀ (j : Nat) c, cs[j]? = some c → w.cell? ⟨b, o + i * z + j, none⟩ = some c
theorem RowQ.turn {α : Type} {z : Nat} {R R' : World → List Value → α → Prop} {w w' : World} {Q Q' : Nat → Prop} {v : Value} {l : List α} (h : RowQ z R w Q v l) (hR : ∀ cs x, x ∈ l → R w cs x → R' w' cs x) (hk : ∀ k, Q k → w'.heap[k]? = w.heap[k]? ∧ Q' k) : RowQ z R' w' Q' v l := by
  obtain ⟨b, o, h1, hq, h2, h3⟩ := h
  refine ⟨b, o, h1, fun h => (hk b (hq h)).2, h2, fun i x hx => ?_⟩
  obtain ⟨cs, k1, k2, k3⟩ := h3 i x hx
  have h0 : 0 < l.length := Nat.lt_of_le_of_lt (Nat.zero_le _) (List.getElem?_eq_some_iff.1 hx).1
  refine ⟨cs, k1, hR cs x (List.mem_of_getElem? hx) k2, fun j c hj => ?_⟩
  rw [World.cell?_of_block (w := w) (w' := w') (a := ⟨b, o + i * z + j, none⟩) (hk b (hq h0)).1]
  exact k3 j c hj
theorem RowQ.plain {α : Type} {z : Nat} {R R' : World → List Value → α → Prop} {w : World} {Q : Nat → Prop} {v : Value} {l : List α} (h : RowQ z R w Q v l) (hR : ∀ cs x, R w cs x → R' w cs x) : RowR z R' w v l := by
  obtain ⟨b, o, h1, _, h2, h3⟩ := h
  refine ⟨b, o, h1, h2, fun i x hx => ?_⟩
  obtain ⟨cs, k1, k2, k3⟩ := h3 i x hx
  exact ⟨cs, k1, hR cs x k2, k3⟩
theorem RowQ.nil {α : Type} {z : Nat} {R : World → List Value → α → Prop} (w : World) (Q : Nat → Prop) : RowQ z R w Q nilS ([] : List α) := ⟨0, 0, ⟨none, 0, rfl, Nat.le_refl _, fun h => absurd h (Nat.lt_irrefl 0)⟩, fun h => absurd h (Nat.lt_irrefl 0), Nat.zero_le _, fun i x hx => by simp at hx⟩
theorem flat_at {z : Nat} : ∀ (C : List (List Value)), (∀ cs ∈ C, cs.length = z) → ∀ {i j : Nat} {cs : List Value} {c : Value}, C[i]? = some cs → cs[j]? = some c → C.flatten[i * z + j]? = some c
  | [], _, i, j, cs, c, h, _ => by simp at h
  | a :: C, hz, 0, j, cs, c, h, hj => by
    simp only [List.getElem?_cons_zero, Option.some.injEq] at h
    subst h
    have := (List.getElem?_eq_some_iff.1 hj).1
    rw [List.flatten_cons, Nat.zero_mul, Nat.zero_add, List.getElem?_append_left this]
    exact hj
  | a :: C, hz, i + 1, j, cs, c, h, hj => by
    rw [List.getElem?_cons_succ] at h
    have ha := hz a List.mem_cons_self
    rw [List.flatten_cons, List.getElem?_append_right (by rw [ha, Nat.succ_mul]; omega), show (i + 1) * z + j - a.length = i * z + j by rw [ha, Nat.succ_mul]; omega]
    exact flat_at C (fun cs h => hz cs (List.mem_cons_of_mem _ h)) h hj
def SentQ (Q : Nat → Prop) (w : World) (cs : List Value) (x : Mp.Sent) : Prop := ∃ v1 v2, cs = [v1, v2] ∧ RowQ 2 onR w Q v1 x.1 ∧ RowQ 3 condR w Q v2 x.2
theorem SentQ.turn {Q Q' : Nat → Prop} {w w' : World} {cs : List Value} {x : Mp.Sent} (h : SentQ Q w cs x) (hk : ∀ k, Q k → w'.heap[k]? = w.heap[k]? ∧ Q' k) : SentQ Q' w' cs x := by
  obtain ⟨v1, v2, e, h1, h2⟩ := h
  exact ⟨v1, v2, e, h1.turn (fun _ _ _ h => h) hk, h2.turn (fun _ _ _ h => h) hk⟩
theorem SentQ.plain {Q : Nat → Prop} {w : World} {cs : List Value} {x : Mp.Sent} (h : SentQ Q w cs x) : sentR w cs x := by
  obtain ⟨v1, v2, e, h1, h2⟩ := h
  exact ⟨v1, v2, e, h1.plain (fun _ _ h => h), h2.plain (fun _ _ h => h)⟩
/-- An item that is bound, with all that stands in it. -/
def itemQ (Q : Nat → Prop) (w : World) (cs : List Value) (x : Mp.Item) : Prop :=
  ∃ v5 v6, cs = itemC x v5 v6 ∧ (x.id.size ≤ 140737488355328 ∧ x.parent.size ≤ 140737488355328) ∧ RowQ 2 (SentQ Q) w Q v5 x.entry ∧ RowQ 2 (SentQ Q) w Q v6 x.exit
theorem itemQ.turn {Q Q' : Nat → Prop} {w w' : World} {cs : List Value} {x : Mp.Item} (h : itemQ Q w cs x) (hk : ∀ k, Q k → w'.heap[k]? = w.heap[k]? ∧ Q' k) : itemQ Q' w' cs x := by
  obtain ⟨v5, v6, e, hz, h1, h2⟩ := h
  exact ⟨v5, v6, e, hz, h1.turn (fun _ _ _ h => h.turn hk) hk, h2.turn (fun _ _ _ h => h.turn hk) hk⟩
theorem itemQ.plain {Q : Nat → Prop} {w : World} {cs : List Value} {x : Mp.Item} (h : itemQ Q w cs x) : itemR w cs x := by
  obtain ⟨v5, v6, e, hz, h1, h2⟩ := h
  exact ⟨v5, v6, e, hz, h1.plain (fun _ _ h => h.plain), h2.plain (fun _ _ h => h.plain)⟩
/-- A row of sentries that may still grow. -/
def OwnS (B : Nat) (Q : Nat → Prop) (w : World) (v : Value) (l : List Mp.Sent) : Prop :=
  ∃ C : List (List Value), w.ownsRow B 39 2 v l.length C.flatten ∧ C.length = l.length ∧ (∀ cs ∈ C, cs.length = 2) ∧ ∀ (i : Nat) x cs, l[i]? = some x → C[i]? = some cs → SentQ Q w cs x
/-- No quiet block is the row's. -/
def Noff (Q : Nat → Prop) (v : Value) : Prop := ∀ k, Q k → v.ownBlock ≠ some k
theorem OwnS.nil (B : Nat) (Q : Nat → Prop) (w : World) : OwnS B Q w nilS [] := ⟨[], World.ownsRow_nil _ _ _ _, rfl, fun _ h => by simp at h, fun i x cs h => by simp at h⟩
theorem Noff.nil (Q : Nat → Prop) : Noff Q nilS := fun k _ h => by cases h
theorem OwnS.turn {B : Nat} {Q Q' : Nat → Prop} {w w' : World} {v : Value} {l : List Mp.Sent} (h : OwnS B Q w v l) (hv : ∀ g, v.ownBlock = some g → w'.heap[g]? = w.heap[g]?) (hk : ∀ k, Q k → w'.heap[k]? = w.heap[k]? ∧ Q' k) : OwnS B Q' w' v l := by
  obtain ⟨C, h1, h2, hz, h3⟩ := h
  exact ⟨C, own_keep h1 hv, h2, hz, fun i x cs e1 e2 => (h3 i x cs e1 e2).turn hk⟩
/-- The item whose sentries are being bound. -/
def lastQ (B : Nat) (Q : Nat → Prop) (w : World) (cs : List Value) (x : Mp.Item) : Prop :=
  ∃ v5 v6, cs = itemC x v5 v6 ∧ (x.id.size ≤ 140737488355328 ∧ x.parent.size ≤ 140737488355328) ∧ OwnS B Q w v5 x.entry ∧ OwnS B Q w v6 x.exit ∧ Noff Q v5 ∧ Noff Q v6 ∧ (∀ g, v5.ownBlock = some g → v6.ownBlock ≠ some g)
theorem ownS_row {B : Nat} {Q Q' : Nat → Prop} {w : World} {v : Value} {l : List Mp.Sent} (h : OwnS B Q w v l) (hQ : ∀ k, Q k → Q' k) (hv : ∀ g, v.ownBlock = some g → Q' g) (hl : l.length ≤ 10000000000000) : RowQ 2 (SentQ Q') w Q' v l := by
  obtain ⟨C, h1, h2, hz, h3⟩ := h
  rcases h1.2 with ⟨rfl, h0⟩ | ⟨g, cap, cur, rfl, g1, g2, g3, g4, g5, g6⟩
  · have : l = [] := List.eq_nil_of_length_eq_zero h0
    subst this
    exact RowQ.nil w Q'
  · refine ⟨g, 0, ⟨_, cap, rfl, g3, fun _ => rfl⟩, fun _ => hv g rfl, hl, fun i x hx => ?_⟩
    have hi := (List.getElem?_eq_some_iff.1 hx).1
    have hC : C[i]? = some C[i] := List.getElem?_eq_getElem (by omega)
    refine ⟨C[i], hz _ (List.getElem_mem _), (h3 i x _ hx hC).turn (fun k hk => ⟨rfl, hQ k hk⟩), fun j c hj => ?_⟩
    rw [Nat.zero_add]
    refine own_cell h1 ?_
    exact flat_at C hz hC hj
/-- What the binder holds, outside a sentry. -/
structure BMem (B b : Nat) (w : World) (Q : Nat → Prop) (s : Bp.BS) (fv iv o1 o2 : Value) (at_ : Int) (C : List (List Value)) : Prop where
  lies : Lies w b 61 #[fv, iv, .string s.parent, o1, o2, .int .i64 at_]
  bB : B ≤ b
  so1 : ∃ a n c, o1 = .slice a n c
  so2 : ∃ a n c, o2 = .slice a n c
  files : w.ownsRow B 9 1 fv s.files.length (s.files.map Value.string)
  fz : ∀ f ∈ s.files, f.size ≤ 140737488355328
  items : w.ownsRow B 31 7 iv s.items.length C.flatten
  len : C.length = s.items.length
  seven : ∀ cs ∈ C, cs.length = 7
  done : ∀ (j : Nat) x cs, j + 1 < s.items.length → s.items[j]? = some x → C[j]? = some cs → itemQ Q w cs x
  last : ∀ (j : Nat) x cs, j + 1 = s.items.length → s.items[j]? = some x → C[j]? = some cs → lastQ B Q w cs x
  par : s.parent.size ≤ 140737488355328
  quiet : ∀ k, Q k → k < w.heap.size ∧ k ≠ b ∧ fv.ownBlock ≠ some k ∧ iv.ownBlock ≠ some k
/-- The blocks that were made since w join the quiet ones. -/
def freshQ (w w' : World) (Q : Nat → Prop) (k : Nat) : Prop := Q k ∨ (w.heap.size ≤ k ∧ k < w'.heap.size)
theorem BMem.fresh {B b : Nat} {w w' : World} {Q : Nat → Prop} {s : Bp.BS} {fv iv o1 o2 : Value} {at_ : Int} {C : List (List Value)} (h : BMem B b w Q s fv iv o1 o2 at_ C) (hb : Below w.heap.size w w') : BMem B b w' (freshQ w w' Q) s fv iv o1 o2 at_ C := by
  have hk : ∀ k, Q k → w'.heap[k]? = w.heap[k]? ∧ freshQ w w' Q k := fun k hk => ⟨hb.block k (h.quiet k hk).1, .inl hk⟩
  have ho : ∀ {v : Value} {H : Nat} {e : TypeId} {z n : Nat} {xs : List Value}, w.ownsRow H e z v n xs → ∀ g, v.ownBlock = some g → w'.heap[g]? = w.heap[g]? := fun h g hg => hb.block g (own_lt h hg).1
  have hof : ∀ {v : Value} {H : Nat} {e : TypeId} {z n : Nat} {xs : List Value}, w.ownsRow H e z v n xs → ∀ k, w.heap.size ≤ k → v.ownBlock ≠ some k := fun h k hk e => by have := (own_lt h e).1; omega
  refine ⟨h.lies.below hb, h.bB, h.so1, h.so2, own_keep h.files (ho h.files), h.fz, own_keep h.items (ho h.items), h.len, h.seven, fun j x cs h1 h2 h3 => (h.done j x cs h1 h2 h3).turn hk, fun j x cs h1 h2 h3 => ?_, h.par, fun k hq => ?_⟩
  · obtain ⟨v5, v6, e, hz, h5, h6, f5, f6, hn⟩ := h.last j x cs h1 h2 h3
    obtain ⟨C5, g5, _⟩ := id h5
    obtain ⟨C6, g6, _⟩ := id h6
    refine ⟨v5, v6, e, hz, h5.turn (ho g5) hk, h6.turn (ho g6) hk, fun k hq => ?_, fun k hq => ?_, hn⟩
    · rcases hq with hq | ⟨hq, _⟩
      · exact f5 k hq
      · exact hof g5 k hq
    · rcases hq with hq | ⟨hq, _⟩
      · exact f6 k hq
      · exact hof g6 k hq
  · rcases hq with hq | ⟨hq, hl⟩
    · obtain ⟨a1, a2, a3, a4⟩ := h.quiet k hq
      exact ⟨Nat.lt_of_lt_of_le a1 hb.size, a2, a3, a4⟩
    · exact ⟨hl, by have := h.lies.lt; omega, hof h.files k hq, hof h.items k hq⟩
def Fit (M : Nat) (s : Bp.BS) : Prop := s.files.length ≤ M ∧ s.items.length ≤ M ∧ ∀ x ∈ s.items, x.entry.length ≤ M ∧ x.exit.length ≤ M
def BIn (B b M : Nat) (w : World) (Q : Nat → Prop) (s : Bp.BS) : Prop := Fit M s ∧ ∃ fv iv o1 o2 at_ C, BMem B b w Q s fv iv o1 o2 at_ C
theorem BIn.fresh {B b M : Nat} {w w' : World} {Q : Nat → Prop} {s : Bp.BS} (h : BIn B b M w Q s) (hb : Below w.heap.size w w') : BIn B b M w' (freshQ w w' Q) s := by
  obtain ⟨hf, fv, iv, o1, o2, a, C, h⟩ := h
  exact ⟨hf, fv, iv, o1, o2, a, C, h.fresh hb⟩
theorem Fit.mono {M M' : Nat} {s : Bp.BS} (h : Fit M s) (hm : M ≤ M') : Fit M' s := ⟨Nat.le_trans h.1 hm, Nat.le_trans h.2.1 hm, fun x hx => ⟨Nat.le_trans (h.2.2 x hx).1 hm, Nat.le_trans (h.2.2 x hx).2 hm⟩⟩
theorem BIn.mono {B b M M' : Nat} {w : World} {Q : Nat → Prop} {s : Bp.BS} (h : BIn B b M w Q s) (hm : M ≤ M') : BIn B b M' w Q s := ⟨h.1.mono hm, h.2⟩
theorem TQ.fresh {w w' : World} {Q : Nat → Prop} (hb : Below w.heap.size w w') (hQ : ∀ k, Q k → k < w.heap.size) : TQ w Q w' (freshQ w w' Q) := TQ.of_below hb hQ (fun k h => .inl h)
/-- The binder's six cells; no quiet block is its own. -/
def Six (b : Nat) (w : World) (Q : Nat → Prop) : Prop := (∃ c0 c1 c2 c3 c4 c5, Lies w b 61 #[c0, c1, c2, c3, c4, c5]) ∧ ∀ k, Q k → k < w.heap.size ∧ k ≠ b
theorem BIn.six {B b M : Nat} {w : World} {Q : Nat → Prop} {s : Bp.BS} (h : BIn B b M w Q s) : Six b w Q := by
  obtain ⟨hf, fv, iv, o1, o2, a, C, h⟩ := h
  exact ⟨⟨_, _, _, _, _, _, h.lies⟩, fun k hk => ⟨(h.quiet k hk).1, (h.quiet k hk).2.1⟩⟩
/-- A fault is noted. -/
def Fault (b : Nat) (w : World) (q : Int) : Prop := ∃ c0 c1 c2 c3 c4, Lies w b 61 #[c0, c1, c2, c3, c4, .int .i64 q]
/-- What a call of a binder's part comes to. -/
def BPost {σ : Type} (b : Nat) (w : World) (Q : Nat → Prop) (I : World → (Nat → Prop) → σ → Prop) (r : Except Int σ) (e : Ending) (w' : World) : Prop :=
  ∃ Q', TQ w Q w' Q' ∧ (∀ s', r = .ok s' → e = .returned (.bool true) ∧ I w' Q' s') ∧ (∀ q, r = .error q → e = .returned (.bool false) ∧ Fault b w' q)
end Go.Proofs.YtjfonpbnohbpfaaGreatDoor
