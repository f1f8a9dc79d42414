/-
  What is written is read as it was.
-/
import Derived.Test.YtcfalhgcdffjoaaKPlain
import Derived.Test.YtcfalhgcdffjoaaMEq2
set_option linter.unusedVariables false
namespace Go.Proofs.Ytcfalhgcdffjoaa.Kp
open Mp (BA e0 placeZ)
theorem text_back {s : BA} (h : s.size ≤ 12) (r : List UInt8) : textS (some (text s ++ r)) = (s, some r) := by
  have hb := num_back (most := 12) (n := (s.size : Int)) (by omega) (by omega) (by omega) (s.data.toList ++ r)
  have hl : s.data.toList.length = s.size := Array.length_toList
  unfold textS text
  rw [List.append_assoc, hb]
  show (if (s.data.toList ++ r).length < (s.size : Int).toNat then _ else _) = _
  rw [if_neg (by rw [List.length_append]; omega)]
  show ((⟨((s.data.toList ++ r).take (s.size : Int).toNat).toArray⟩ : BA), some ((s.data.toList ++ r).drop (s.size : Int).toNat)) = _
  rw [show (s.size : Int).toNat = s.data.toList.length by omega, List.take_left, List.drop_left]
theorem rep_back {α : Type} {one : St → α × St} {f : α → List UInt8} : ∀ (L acc : List α) (r : List UInt8), (∀ x ∈ L, ∀ r, one (some (f x ++ r)) = (x, some r)) → repS one L.length acc (some (L.flatMap f ++ r)) = (acc ++ L, some r)
  | [], acc, r, h => by simp [repS]
  | x :: L, acc, r, h => by
    rw [List.length_cons, repS, List.flatMap_cons, List.append_assoc, h x List.mem_cons_self]
    show repS one L.length (acc ++ [x]) (some (L.flatMap f ++ r)) = _
    rw [rep_back L _ r (fun y hy => h y (List.mem_cons_of_mem _ hy)), List.append_assoc]
    rfl
theorem row_back {α : Type} {one : St → α × St} {f : α → List UInt8} {most : Int} {L : List α} (hl : (L.length : Int) ≤ most) (hm : most ≤ 1000) (h : ∀ x ∈ L, ∀ r, one (some (f x ++ r)) = (x, some r)) (r : List UInt8) : rowS most one (some (num L.length ++ (L.flatMap f ++ r))) = (L, some r) := by
  unfold rowS
  rw [num_back (by omega) hl (by omega)]
  show repS one (L.length : Int).toNat [] _ = _
  rw [Int.toNat_natCast, rep_back L [] r h, List.nil_append]
theorem atZ_has {l : List BA} {s : BA} (h : Mp.has l s = true) : ∃ k : Nat, atZ l s = k ∧ l[k]? = some s ∧ k < l.length := by
  unfold Mp.has at h
  unfold atZ
  cases e : Mp.idx l s with
  | none => rw [e] at h; cases h
  | some k =>
    obtain ⟨x, hx, hp, _⟩ := Mp.find_some_inv e
    rw [of_decide_eq_true hp] at hx
    exact ⟨k, rfl, hx, (List.getElem?_eq_some_iff.1 hx).1⟩
theorem one_back {l : List BA} {s : BA} (h : Mp.has l s = true) (hl : l.length ≤ 1000) (r : List UInt8) : oneS l (some (num (atZ l s) ++ r)) = (s, some r) := by
  obtain ⟨k, e, hk, hlt⟩ := atZ_has h
  unfold oneS
  rw [e, num_back (by omega) (by omega) (by omega)]
  show (l.getD (k : Int).toNat e0, some r) = _
  rw [Int.toNat_natCast, List.getD_eq_getElem?_getD, hk]
  rfl
theorem place_at (l : List Mp.Item) (s : BA) : placeZ l s = atZ (l.map Mp.Item.id) s := by
  unfold placeZ atZ Mp.placeO Mp.idx
  rw [List.findIdx?_map]
  rfl
theorem on_ev {l : List Mp.Item} {o : Mp.On} (h : Mp.onLegal l o = true) : 0 ≤ o.2 ∧ o.2 ≤ 5 := by
  unfold Mp.onLegal at h
  split at h
  · cases h
  · split at h
    · cases h
    · unfold Mp.legalB at h
      split at h
      · omega
      · split at h
        · omega
        · split at h
          · omega
          · cases h
theorem on_back {m : Mp.Model} {o : Mp.On} (h : Mp.onLegal m.items o = true) (hl : m.items.length ≤ 16) (r : List UInt8) : onS (m.items.map Mp.Item.id) (some (onW m o ++ r)) = (o, some r) := by
  unfold Mp.onLegal at h
  cases e : Mp.placeO m.items o.1 with
  | none => rw [e] at h; cases h
  | some k =>
    rw [e] at h
    dsimp only at h
    obtain ⟨x, hx, hp, _⟩ := Mp.find_some_inv e
    rw [hx] at h
    dsimp only at h
    have hev : 0 ≤ o.2 ∧ o.2 ≤ 5 := by
      unfold Mp.legalB at h
      split at h
      · omega
      · split at h
        · omega
        · split at h
          · omega
          · cases h
    have hh : Mp.has (m.items.map Mp.Item.id) o.1 = true := by
      unfold Mp.has Mp.idx
      rw [List.findIdx?_map]
      have : List.findIdx? (fun x => decide (x.id = o.1)) m.items = some k := e
      show (List.findIdx? (fun x => decide (x.id = o.1)) m.items).isSome = true
      rw [this]
      rfl
    unfold onS onW
    rw [List.append_assoc, place_at, one_back hh (by rw [List.length_map]; omega)]
    dsimp only
    rw [num_back hev.1 hev.2 (by omega)]
theorem op_has {s : BA} (h : Mp.opB s = true) : Mp.has opsL s = true := by
  unfold Mp.opB at h
  simp only [Bool.or_eq_true, decide_eq_true_eq] at h
  rcases h with ((((h | h) | h) | h) | h) | h <;> subst h <;> kernel_rfl
theorem cond_back {m : Mp.Model} {c : Mp.Cond} (h : Mp.condB m.files c = true) (hl : m.files.length ≤ 6) (r : List UInt8) : condS m.files (some (condW m c ++ r)) = (c, some r) := by
  unfold Mp.condB at h
  simp only [Bool.and_eq_true, decide_eq_true_eq] at h
  obtain ⟨⟨⟨h1, h2⟩, h3⟩, h4⟩ := h
  have hf : 0 ≤ fold c.2.2 ∧ fold c.2.2 ≤ 2000000 := by
    unfold fold
    split <;> omega
  unfold condS condW
  rw [List.append_assoc, List.append_assoc, one_back h1 (by omega)]
  dsimp only
  rw [one_back (op_has h2) (by decide)]
  dsimp only
  rw [num_back hf.1 hf.2 (by omega)]
  dsimp only
  rw [fold_back]
theorem onsF_mem {l : List Mp.Item} : ∀ (row seen : List Mp.On), Mp.onsF l seen row = true → ∀ o ∈ row, Mp.onLegal l o = true
  | [], seen, h, o, ho => by cases ho
  | x :: row, seen, h, o, ho => by
    unfold Mp.onsF at h
    simp only [Bool.and_eq_true] at h
    rcases List.mem_cons.1 ho with rfl | ho
    · exact h.1.1
    · exact onsF_mem row _ h.2 o ho
theorem sent_back {m : Mp.Model} {s : Mp.Sent} (h : Mp.sentB m s = true) (hi : m.items.length ≤ 16) (hf : m.files.length ≤ 6) (r : List UInt8) : sentS m.files (m.items.map Mp.Item.id) (some (sentW m s ++ r)) = (s, some r) := by
  unfold Mp.sentB Mp.onB Mp.ifB at h
  simp only [Bool.and_eq_true, decide_eq_true_eq] at h
  obtain ⟨⟨_, h1, h2⟩, h3, h4⟩ := h
  have ho := onsF_mem _ _ h2
  have hc := List.all_eq_true.1 h4
  unfold sentS sentW
  rw [List.append_assoc, List.append_assoc, List.append_assoc, row_back (by omega) (by decide) (fun x hx r => on_back (ho x hx) hi r)]
  dsimp only
  rw [row_back (by omega) (by decide) (fun x hx r => cond_back (hc x hx) hf r)]
theorem sents_back {m : Mp.Model} {l : List Mp.Sent} (h : Mp.sentsB m l = true) (hi : m.items.length ≤ 16) (hf : m.files.length ≤ 6) (r : List UInt8) : rowS 3 (sentS m.files (m.items.map Mp.Item.id)) (some (sentsW m l ++ r)) = (l, some r) := by
  unfold Mp.sentsB at h
  simp only [Bool.and_eq_true, decide_eq_true_eq] at h
  unfold sentsW
  rw [List.append_assoc, row_back (by omega) (by decide) (fun x hx r => sent_back (List.all_eq_true.1 h.2 x hx) hi hf r)]
/-- What an item must keep to, to be had again. -/
structure Fine (m : Mp.Model) (x : Mp.Item) : Prop where
  kind : 0 ≤ x.kind ∧ x.kind ≤ 5
  par : (x.parent = e0 ∧ placeZ m.items e0 = -1) ∨ Mp.has (m.items.map Mp.Item.id) x.parent = true
  ticks : 0 ≤ x.ticks ∧ x.ticks ≤ 100
  entry : Mp.sentsB m x.entry = true
  exit : Mp.sentsB m x.exit = true
theorem par_back {m : Mp.Model} {x : Mp.Item} (h : Fine m x) (hi : m.items.length ≤ 16) (r : List UInt8) : parS (m.items.map Mp.Item.id) (some (num (placeZ m.items x.parent + 1) ++ r)) = (x.parent, some r) := by
  unfold parS
  rcases h.par with ⟨h1, h2⟩ | h1
  · rw [h1, h2, num_back (by decide) (by rw [List.length_map]; omega) (by decide)]
    rfl
  · obtain ⟨k, e, hk, hlt⟩ := atZ_has h1
    have hml : (m.items.map Mp.Item.id).length = m.items.length := List.length_map _
    rw [place_at, e, num_back (by omega) (by omega) (by omega)]
    dsimp only
    rw [if_neg (by omega), show ((k : Int) + 1 - 1).toNat = k by omega, List.getD_eq_getElem?_getD, hk]
    rfl
theorem item_back {m : Mp.Model} {x : Mp.Item} (h : Fine m x) (hi : m.items.length ≤ 16) (hf : m.files.length ≤ 6) (r : List UInt8) : itemS m.files (m.items.map Mp.Item.id) x.id (some (itemW m x ++ r)) = (x, some r) := by
  unfold itemS itemW
  simp only [List.append_assoc]
  rw [num_back h.kind.1 h.kind.2 (by have := h.kind; omega)]
  dsimp only
  rw [par_back h hi]
  dsimp only
  rw [num_back (by split <;> decide) (by split <;> decide) (by split <;> decide)]
  dsimp only
  rw [num_back h.ticks.1 h.ticks.2 (by have := h.ticks; omega)]
  dsimp only
  rw [sents_back h.entry hi hf]
  dsimp only
  rw [sents_back h.exit hi hf]
  obtain ⟨id, kind, par, req, ticks, en, ex⟩ := x
  cases req <;> rfl
theorem items_back {m : Mp.Model} (hi : m.items.length ≤ 16) (hf : m.files.length ≤ 6) : ∀ (L acc : List Mp.Item) (r : List UInt8), (∀ x ∈ L, Fine m x) → itemsS m.files (m.items.map Mp.Item.id) (L.map Mp.Item.id) acc (some (L.flatMap (itemW m) ++ r)) = (acc ++ L, some r)
  | [], acc, r, h => by simp [itemsS]
  | x :: L, acc, r, h => by
    rw [List.map_cons, itemsS, List.flatMap_cons, List.append_assoc, item_back (h x List.mem_cons_self) hi hf]
    show itemsS _ _ (L.map Mp.Item.id) (acc ++ [x]) (some (L.flatMap (itemW m) ++ r)) = _
    rw [items_back hi hf L _ r (fun y hy => h y (List.mem_cons_of_mem _ hy)), List.append_assoc]
    rfl
theorem namesF_mem : ∀ (l seen : List BA), Mp.namesF seen l = true → ∀ s ∈ l, Mp.isN s = true
  | [], seen, h, s, hs => by cases hs
  | x :: l, seen, h, s, hs => by
    unfold Mp.namesF at h
    simp only [Bool.and_eq_true] at h
    rcases List.mem_cons.1 hs with rfl | hs
    · exact h.1.1
    · exact namesF_mem l _ h.2 s hs
theorem isN_len {s : BA} (h : Mp.isN s = true) : 1 ≤ s.size ∧ s.size ≤ 12 := by
  unfold Mp.isN Sp.isB at h
  simp only [Bool.and_eq_true, decide_eq_true_eq] at h
  have : s.data.toList.length = s.size := Array.length_toList
  omega
theorem itemsF_mem {l : List Mp.Item} : ∀ (r : List Mp.Item) (k : Nat), Mp.itemsF l k r = true → ∀ x ∈ r, ∃ i, Mp.itemR l i x = true
  | [], k, h, x, hx => by cases hx
  | y :: r, k, h, x, hx => by
    unfold Mp.itemsF at h
    simp only [Bool.and_eq_true] at h
    rcases List.mem_cons.1 hx with rfl | hx
    · exact ⟨k, h.1⟩
    · exact itemsF_mem r _ h.2 x hx
structure Good (m : Mp.Model) : Prop where
  files : m.files.length ≤ 6
  items : m.items.length ≤ 16
  ids : ∀ x ∈ m.items, 1 ≤ x.id.size ∧ x.id.size ≤ 12
  fz : ∀ s ∈ m.files, 1 ≤ s.size ∧ s.size ≤ 12
  fine : ∀ x ∈ m.items, Fine m x
theorem good_of {m : Mp.Model} (h : Mp.isB m = true) : Good m := by
  have hR : Mp.isR m = true := by rw [Mp.is_eq]; exact h
  unfold Mp.isR at hR
  simp only [Bool.and_eq_true, decide_eq_true_eq] at hR
  obtain ⟨⟨⟨⟨⟨h1, h2⟩, h3⟩, h4⟩, h5⟩, h6⟩ := hR
  have hit := itemsF_mem _ _ h5
  have hid : ∀ x ∈ m.items, 1 ≤ x.id.size ∧ x.id.size ≤ 12 := fun x hx => by
    obtain ⟨i, hi⟩ := hit x hx
    unfold Mp.itemR at hi
    simp only [Bool.and_eq_true] at hi
    exact isN_len hi.1.1.1.1.1
  have hno : placeZ m.items e0 = -1 := by
    unfold placeZ Mp.placeO
    rw [Mp.find_none (fun j y hy => decide_eq_false (fun e => by
      have := (hid y (List.mem_of_getElem? hy)).1
      rw [e] at this
      exact absurd this (by decide)))]
  refine ⟨h1, h3, hid, fun s hs => isN_len (namesF_mem _ _ h4 s hs), fun x hx => ?_⟩
  obtain ⟨i, hi⟩ := hit x hx
  have hb := List.all_eq_true.1 h6 x hx
  unfold Mp.bothS at hb
  unfold Mp.itemR at hi
  simp only [Bool.and_eq_true] at hi hb
  obtain ⟨⟨⟨⟨⟨i1, i2⟩, i3⟩, i4⟩, i5⟩, i6⟩ := hi
  refine ⟨?_, ?_, ?_, hb.1, hb.2⟩
  · unfold Mp.kindB at i3
    simp only [Bool.and_eq_true, decide_eq_true_eq] at i3
    omega
  · split at i6
    · unfold Mp.planB at i6
      simp only [Bool.and_eq_true, decide_eq_true_eq] at i6
      exact .inl ⟨i6.1.1.1.2, hno⟩
    · unfold Mp.nestedR at i6
      simp only [Bool.and_eq_true, decide_eq_true_eq] at i6
      refine .inr ?_
      have hp : 0 ≤ atZ (m.items.map Mp.Item.id) x.parent := by rw [← place_at]; exact i6.1.1.1.1.1.2
      unfold atZ at hp
      unfold Mp.has
      cases e : Mp.idx (m.items.map Mp.Item.id) x.parent with
      | none => rw [e] at hp; exact absurd hp (by decide)
      | some k => rfl
  · unfold Mp.ticksB at i4
    split at i4
    · simp only [Bool.and_eq_true, decide_eq_true_eq] at i4
      omega
    · have := of_decide_eq_true i4
      omega
theorem flat_map {α β γ : Type} (f : α → β) (g : β → List γ) (l : List α) : (l.map f).flatMap g = l.flatMap (fun x => g (f x)) := List.flatMap_map _ _ _
theorem all_back {m : Mp.Model} (h : Mp.isB m = true) (r : List UInt8) : allS (some (body m ++ r)) = (m, some r) := by
  have G := good_of h
  have hrow := row_back (one := textS) (f := text) (most := 22) (L := m.files ++ m.items.map Mp.Item.id) (by rw [List.length_append, List.length_map]; have := G.files; have := G.items; omega) (by decide) (fun s hs r => text_back (by
    rcases List.mem_append.1 hs with hs | hs
    · exact (G.fz s hs).2
    · obtain ⟨x, hx, rfl⟩ := List.mem_map.1 hs
      exact (G.ids x hx).2) r) (num m.files.length ++ (m.items.flatMap (itemW m) ++ r))
  have e1 : body m ++ r = num ((m.files ++ m.items.map Mp.Item.id).length : Int) ++ ((m.files ++ m.items.map Mp.Item.id).flatMap text ++ (num m.files.length ++ (m.items.flatMap (itemW m) ++ r))) := by
    unfold body
    rw [List.length_append, List.length_map, List.flatMap_append, flat_map]
    simp only [List.append_assoc]
    rfl
  have hf := G.files
  have hi := G.items
  unfold allS
  rw [e1, hrow]
  dsimp only
  rw [num_back (by omega) (by rw [List.length_append]; omega) (by omega)]
  dsimp only
  rw [Int.toNat_natCast, List.take_left, List.drop_left, items_back hi hf m.items [] r (fun x hx => G.fine x hx)]
  rfl
/-- Two models with one writing are one; one writing is not the beginning of another. -/
theorem body_inj {a b : Mp.Model} (ha : Mp.isB a = true) (hb : Mp.isB b = true) {r : List UInt8} (h : body a ++ r = body b) : a = b ∧ r = [] := by
  have h1 := all_back ha r
  have h2 := all_back hb []
  rw [List.append_nil, ← h, h1] at h2
  exact ⟨congrArg Prod.fst h2, Option.some.inj (congrArg Prod.snd h2)⟩
theorem head_len (s : Nat) : (head s).length = 8 := rfl
theorem pack_drop (m : Mp.Model) : (pack m).drop 8 = body m := rfl
theorem unpack_pack {m : Mp.Model} (h : Mp.isB m = true) : unpack (pack m) = some m := by
  have h1 := all_back h []
  rw [List.append_nil] at h1
  have hl : ¬ (pack m).length < 8 := by
    show ¬ (head (sum (body m)) ++ body m).length < 8
    rw [List.length_append, head_len]
    omega
  unfold unpack
  rw [if_neg hl, pack_drop, h1]
  dsimp only
  rw [if_pos ⟨h, rfl⟩]
theorem unpack_some {l : List UInt8} {m : Mp.Model} (h : unpack l = some m) : Mp.isB m = true ∧ pack m = l := by
  unfold unpack at h
  split at h
  · cases h
  · split at h
    · cases h
    · split at h
      · rename_i h1
        cases h
        exact h1
      · cases h
end Go.Proofs.Ytcfalhgcdffjoaa.Kp
