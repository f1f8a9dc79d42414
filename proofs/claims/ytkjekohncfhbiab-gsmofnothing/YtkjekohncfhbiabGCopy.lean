/-
  A row in memory of its own: copied, at five types. (Written by GCopy.py.)
-/
import Derived.Test.YtkjekohncfhbiabGMem
import Derived.Laws.CopyRow
import Derived.Laws.CopyOwn
set_option linter.unusedSimpArgs false
set_option linter.unusedVariables false
namespace Go.Proofs.Ytkjekohncfhbiab
open Go.RowKit
set_option maxRecDepth 100000
theorem run_copy_all {P : Program} (w : World) (dT sT ty elem : TypeId) (g dCap n z : Nat) (ao : Option Addr) (sCap : Nat) (cur : Array Value) (t : TypeId) (cs : List Value)
    (hu : P.underlying dT = some (.slice elem)) (hs : (P.info? elem).map (·.size) = some z) (hg : w.heap[g]? = some (.cells cur t (0, 0))) (hcs : cs.length = n * z) (hcur : cur.size = n * z)
    (hsrc : 0 < n → ∃ ad, ao = some ad ∧ ∀ (j : Nat) v, cs[j]? = some v → w.cell? (ad.add j) = some v) (h1 : ∀ v ∈ cs, v.oneCell' = true) :
    (Builtin.copy_ #[dT, sT] ty #[.slice (some ⟨g, 0, none⟩) n dCap, .slice ao n sCap]).run P w = .ok (goInt n) (w.setRow g cs.toArray) := by
  have hst := run_storeCells_at P g 0 t cs 0 cur w hg (by simp [hcs, hcur]) h1
  have hfin : (cur.toList.take (0 + 0) ++ cs ++ cur.toList.drop (0 + 0 + cs.length)).toArray = cs.toArray := by
    rw [List.drop_eq_nil_of_le (by simp [hcs, hcur])]
    simp
  rw [hfin] at hst
  cases hq : P.info? elem with
  | none => simp [hq] at hs
  | some i =>
    have hi : i.size = z := by simpa [hq] using hs
    rcases Nat.eq_zero_or_pos n with h0 | h0
    · subst h0
      rw [Nat.zero_mul] at hcs
      obtain rfl := List.eq_nil_of_length_eq_zero hcs
      have hl : ∀ (x : Addr), (loadCells x 0).run P w = .ok #[] w := fun x => by simpa using run_loadCells_list (P := P) w x [] (by simp)
      cases ao <;> simp [Builtin.copy_, run_underlying hu, Builtin.lenOf, Builtin.firstCells, sizeOf, typeInfo, hq, hl, hst]
    · obtain ⟨ad, rfl, hc⟩ := hsrc h0
      have hl := run_loadCells_list (P := P) w ad cs hc
      rw [hcs] at hl
      simp [Builtin.copy_, run_underlying hu, Builtin.lenOf, Builtin.firstCells, sizeOf, typeInfo, hq, hi, hl, hst]
/-- What copied leaves: a block of its own. -/
def CopPost (T : TypeId) (n : Nat) (cs : List Value) (w : World) (e : Ending) (w' : World) : Prop := e = .returned (.slice (some ⟨w.heap.size, 0, none⟩) n n) ∧ Lies w' w.heap.size T cs.toArray ∧ Below w.heap.size w w'
theorem infoC_B : (Try.prog.info? 4).map (fun i => (i.zero, i.size, i.bytes)) = some (some (.bool false), 1, 1) := by kernel_rfl
set_option maxHeartbeats 4000000 in
theorem copiedB (w : World) (ao : Option Addr) (n cap : Nat) (cs : List Value) (hn : n ≤ 100000) (hcs : cs.length = n * 1) (hsrc : 0 < n → ∃ ad, ao = some ad ∧ ∀ (j : Nat) v, cs[j]? = some v → w.cell? (ad.add j) = some v) (h1 : ∀ v ∈ cs, v.oneCell' = true) :
    Calls Try.prog 22 #[.slice ao n cap] w (CopPost 4 n cs w) := by
  obtain ⟨i0, hi0, hz0, hz1, hz2⟩ := info_parts infoC_B
  have hr := run_make (P := Try.prog) w 31 4 i0 _ Try.underlying31 hi0 hz0 .i64 .i64 n n (by omega) (Int.le_refl _) (by rw [hz2]; omega) (by omega)
  simp only [Int.toNat_natCast, hz1] at hr
  obtain ⟨C, hC⟩ : ∃ C, madeCells (.bool false : Value).cells (n * 1) = C := ⟨_, rfl⟩
  have hCs : C.size = n * 1 := by rw [← hC]; exact size_madeCells _ _
  rw [hC] at hr
  obtain ⟨W, hW⟩ : ∃ W, w.alloc (.cells C 4) = W := ⟨_, rfl⟩
  have hL : Lies W w.heap.size 4 C := by rw [← hW]; exact Lies.new _ _ _
  have hB : Below w.heap.size w W := by rw [← hW]; exact (Below.refl _ w).alloc (Nat.le_refl _) _
  rw [hW] at hr
  have hsz : (Try.prog.info? 4).map (·.size) = some 1 := by kernel_rfl
  have hrun := run_copy_all (P := Try.prog) W 31 31 3 4 w.heap.size n n 1 ao cap C 4 cs Try.underlying31 hsz hL hcs hCs (fun h0 => by
    obtain ⟨ad, e, hc⟩ := hsrc h0
    exact ⟨ad, e, fun j v hv => below_cell hB _ _ (hc j v hv)⟩) h1
  obtain ⟨W2, hW2⟩ : ∃ W2, W.setRow w.heap.size cs.toArray = W2 := ⟨_, rfl⟩
  rw [hW2] at hrun
  have hL2 : Lies W2 w.heap.size 4 cs.toArray := by rw [← hW2]; exact setRow_heap _ _ _ _ _ _ hL
  have hB2 : Below w.heap.size w W2 := by rw [← hW2]; exact below_setRow hB (Nat.le_refl _) _
  have HL2 := hideT hL2
  have HB2 := hideT hB2
  clear hL2 hB2 hL hB hsrc h1 hcs hCs hC hW hW2
  go_enter Try.func22, Try.ntmps22
  go_wp2_with fail
  go_ret
  exact ⟨rfl, HL2.out, HB2.out⟩
theorem infoC_I : (Try.prog.info? 3).map (fun i => (i.zero, i.size, i.bytes)) = some (some (.int .i64 0), 1, 8) := by kernel_rfl
set_option maxHeartbeats 4000000 in
theorem copiedI (w : World) (ao : Option Addr) (n cap : Nat) (cs : List Value) (hn : n ≤ 100000) (hcs : cs.length = n * 1) (hsrc : 0 < n → ∃ ad, ao = some ad ∧ ∀ (j : Nat) v, cs[j]? = some v → w.cell? (ad.add j) = some v) (h1 : ∀ v ∈ cs, v.oneCell' = true) :
    Calls Try.prog 45 #[.slice ao n cap] w (CopPost 3 n cs w) := by
  obtain ⟨i0, hi0, hz0, hz1, hz2⟩ := info_parts infoC_I
  have hr := run_make (P := Try.prog) w 48 3 i0 _ Try.underlying48 hi0 hz0 .i64 .i64 n n (by omega) (Int.le_refl _) (by rw [hz2]; omega) (by omega)
  simp only [Int.toNat_natCast, hz1] at hr
  obtain ⟨C, hC⟩ : ∃ C, madeCells (.int .i64 0 : Value).cells (n * 1) = C := ⟨_, rfl⟩
  have hCs : C.size = n * 1 := by rw [← hC]; exact size_madeCells _ _
  rw [hC] at hr
  obtain ⟨W, hW⟩ : ∃ W, w.alloc (.cells C 3) = W := ⟨_, rfl⟩
  have hL : Lies W w.heap.size 3 C := by rw [← hW]; exact Lies.new _ _ _
  have hB : Below w.heap.size w W := by rw [← hW]; exact (Below.refl _ w).alloc (Nat.le_refl _) _
  rw [hW] at hr
  have hsz : (Try.prog.info? 3).map (·.size) = some 1 := by kernel_rfl
  have hrun := run_copy_all (P := Try.prog) W 48 48 3 3 w.heap.size n n 1 ao cap C 3 cs Try.underlying48 hsz hL hcs hCs (fun h0 => by
    obtain ⟨ad, e, hc⟩ := hsrc h0
    exact ⟨ad, e, fun j v hv => below_cell hB _ _ (hc j v hv)⟩) h1
  obtain ⟨W2, hW2⟩ : ∃ W2, W.setRow w.heap.size cs.toArray = W2 := ⟨_, rfl⟩
  rw [hW2] at hrun
  have hL2 : Lies W2 w.heap.size 3 cs.toArray := by rw [← hW2]; exact setRow_heap _ _ _ _ _ _ hL
  have hB2 : Below w.heap.size w W2 := by rw [← hW2]; exact below_setRow hB (Nat.le_refl _) _
  have HL2 := hideT hL2
  have HB2 := hideT hB2
  clear hL2 hB2 hL hB hsrc h1 hcs hCs hC hW hW2
  go_enter Try.func45, Try.ntmps45
  go_wp2_with fail
  go_ret
  exact ⟨rfl, HL2.out, HB2.out⟩
theorem infoC_L : (Try.prog.info? 36).map (fun i => (i.zero, i.size, i.bytes)) = some (some (.agg #[.int .i64 0, .bool false]), 2, 16) := by kernel_rfl
set_option maxHeartbeats 4000000 in
theorem copiedL (w : World) (ao : Option Addr) (n cap : Nat) (cs : List Value) (hn : n ≤ 100000) (hcs : cs.length = n * 2) (hsrc : 0 < n → ∃ ad, ao = some ad ∧ ∀ (j : Nat) v, cs[j]? = some v → w.cell? (ad.add j) = some v) (h1 : ∀ v ∈ cs, v.oneCell' = true) :
    Calls Try.prog 49 #[.slice ao n cap] w (CopPost 36 n cs w) := by
  obtain ⟨i0, hi0, hz0, hz1, hz2⟩ := info_parts infoC_L
  have hr := run_make (P := Try.prog) w 37 36 i0 _ Try.underlying37 hi0 hz0 .i64 .i64 n n (by omega) (Int.le_refl _) (by rw [hz2]; omega) (by omega)
  simp only [Int.toNat_natCast, hz1] at hr
  obtain ⟨C, hC⟩ : ∃ C, madeCells (.agg #[.int .i64 0, .bool false] : Value).cells (n * 2) = C := ⟨_, rfl⟩
  have hCs : C.size = n * 2 := by rw [← hC]; exact size_madeCells _ _
  rw [hC] at hr
  obtain ⟨W, hW⟩ : ∃ W, w.alloc (.cells C 36) = W := ⟨_, rfl⟩
  have hL : Lies W w.heap.size 36 C := by rw [← hW]; exact Lies.new _ _ _
  have hB : Below w.heap.size w W := by rw [← hW]; exact (Below.refl _ w).alloc (Nat.le_refl _) _
  rw [hW] at hr
  have hsz : (Try.prog.info? 36).map (·.size) = some 2 := by kernel_rfl
  have hrun := run_copy_all (P := Try.prog) W 37 37 3 36 w.heap.size n n 2 ao cap C 36 cs Try.underlying37 hsz hL hcs hCs (fun h0 => by
    obtain ⟨ad, e, hc⟩ := hsrc h0
    exact ⟨ad, e, fun j v hv => below_cell hB _ _ (hc j v hv)⟩) h1
  obtain ⟨W2, hW2⟩ : ∃ W2, W.setRow w.heap.size cs.toArray = W2 := ⟨_, rfl⟩
  rw [hW2] at hrun
  have hL2 : Lies W2 w.heap.size 36 cs.toArray := by rw [← hW2]; exact setRow_heap _ _ _ _ _ _ hL
  have hB2 : Below w.heap.size w W2 := by rw [← hW2]; exact below_setRow hB (Nat.le_refl _) _
  have HL2 := hideT hL2
  have HB2 := hideT hB2
  clear hL2 hB2 hL hB hsrc h1 hcs hCs hC hW hW2
  go_enter Try.func49, Try.ntmps49
  go_wp2_with fail
  go_ret
  exact ⟨rfl, HL2.out, HB2.out⟩
theorem infoC_S : (Try.prog.info? 42).map (fun i => (i.zero, i.size, i.bytes)) = some (some (.agg #[.int .i64 0, .bool false]), 2, 16) := by kernel_rfl
set_option maxHeartbeats 4000000 in
theorem copiedS (w : World) (ao : Option Addr) (n cap : Nat) (cs : List Value) (hn : n ≤ 100000) (hcs : cs.length = n * 2) (hsrc : 0 < n → ∃ ad, ao = some ad ∧ ∀ (j : Nat) v, cs[j]? = some v → w.cell? (ad.add j) = some v) (h1 : ∀ v ∈ cs, v.oneCell' = true) :
    Calls Try.prog 78 #[.slice ao n cap] w (CopPost 42 n cs w) := by
  obtain ⟨i0, hi0, hz0, hz1, hz2⟩ := info_parts infoC_S
  have hr := run_make (P := Try.prog) w 43 42 i0 _ Try.underlying43 hi0 hz0 .i64 .i64 n n (by omega) (Int.le_refl _) (by rw [hz2]; omega) (by omega)
  simp only [Int.toNat_natCast, hz1] at hr
  obtain ⟨C, hC⟩ : ∃ C, madeCells (.agg #[.int .i64 0, .bool false] : Value).cells (n * 2) = C := ⟨_, rfl⟩
  have hCs : C.size = n * 2 := by rw [← hC]; exact size_madeCells _ _
  rw [hC] at hr
  obtain ⟨W, hW⟩ : ∃ W, w.alloc (.cells C 42) = W := ⟨_, rfl⟩
  have hL : Lies W w.heap.size 42 C := by rw [← hW]; exact Lies.new _ _ _
  have hB : Below w.heap.size w W := by rw [← hW]; exact (Below.refl _ w).alloc (Nat.le_refl _) _
  rw [hW] at hr
  have hsz : (Try.prog.info? 42).map (·.size) = some 2 := by kernel_rfl
  have hrun := run_copy_all (P := Try.prog) W 43 43 3 42 w.heap.size n n 2 ao cap C 42 cs Try.underlying43 hsz hL hcs hCs (fun h0 => by
    obtain ⟨ad, e, hc⟩ := hsrc h0
    exact ⟨ad, e, fun j v hv => below_cell hB _ _ (hc j v hv)⟩) h1
  obtain ⟨W2, hW2⟩ : ∃ W2, W.setRow w.heap.size cs.toArray = W2 := ⟨_, rfl⟩
  rw [hW2] at hrun
  have hL2 : Lies W2 w.heap.size 42 cs.toArray := by rw [← hW2]; exact setRow_heap _ _ _ _ _ _ hL
  have hB2 : Below w.heap.size w W2 := by rw [← hW2]; exact below_setRow hB (Nat.le_refl _) _
  have HL2 := hideT hL2
  have HB2 := hideT hB2
  clear hL2 hB2 hL hB hsrc h1 hcs hCs hC hW hW2
  go_enter Try.func78, Try.ntmps78
  go_wp2_with fail
  go_ret
  exact ⟨rfl, HL2.out, HB2.out⟩
theorem infoC_T : (Try.prog.info? 89).map (fun i => (i.zero, i.size, i.bytes)) = some (some (.agg #[.int .i64 0, .int .i64 0, .int .i64 0]), 3, 24) := by kernel_rfl
set_option maxHeartbeats 4000000 in
theorem copiedT (w : World) (ao : Option Addr) (n cap : Nat) (cs : List Value) (hn : n ≤ 100000) (hcs : cs.length = n * 3) (hsrc : 0 < n → ∃ ad, ao = some ad ∧ ∀ (j : Nat) v, cs[j]? = some v → w.cell? (ad.add j) = some v) (h1 : ∀ v ∈ cs, v.oneCell' = true) :
    Calls Try.prog 47 #[.slice ao n cap] w (CopPost 89 n cs w) := by
  obtain ⟨i0, hi0, hz0, hz1, hz2⟩ := info_parts infoC_T
  have hr := run_make (P := Try.prog) w 50 89 i0 _ Try.underlying50 hi0 hz0 .i64 .i64 n n (by omega) (Int.le_refl _) (by rw [hz2]; omega) (by omega)
  simp only [Int.toNat_natCast, hz1] at hr
  obtain ⟨C, hC⟩ : ∃ C, madeCells (.agg #[.int .i64 0, .int .i64 0, .int .i64 0] : Value).cells (n * 3) = C := ⟨_, rfl⟩
  have hCs : C.size = n * 3 := by rw [← hC]; exact size_madeCells _ _
  rw [hC] at hr
  obtain ⟨W, hW⟩ : ∃ W, w.alloc (.cells C 89) = W := ⟨_, rfl⟩
  have hL : Lies W w.heap.size 89 C := by rw [← hW]; exact Lies.new _ _ _
  have hB : Below w.heap.size w W := by rw [← hW]; exact (Below.refl _ w).alloc (Nat.le_refl _) _
  rw [hW] at hr
  have hsz : (Try.prog.info? 89).map (·.size) = some 3 := by kernel_rfl
  have hrun := run_copy_all (P := Try.prog) W 50 50 3 89 w.heap.size n n 3 ao cap C 89 cs Try.underlying50 hsz hL hcs hCs (fun h0 => by
    obtain ⟨ad, e, hc⟩ := hsrc h0
    exact ⟨ad, e, fun j v hv => below_cell hB _ _ (hc j v hv)⟩) h1
  obtain ⟨W2, hW2⟩ : ∃ W2, W.setRow w.heap.size cs.toArray = W2 := ⟨_, rfl⟩
  rw [hW2] at hrun
  have hL2 : Lies W2 w.heap.size 89 cs.toArray := by rw [← hW2]; exact setRow_heap _ _ _ _ _ _ hL
  have hB2 : Below w.heap.size w W2 := by rw [← hW2]; exact below_setRow hB (Nat.le_refl _) _
  have HL2 := hideT hL2
  have HB2 := hideT hB2
  clear hL2 hB2 hL hB hsrc h1 hcs hCs hC hW hW2
  go_enter Try.func47, Try.ntmps47
  go_wp2_with fail
  go_ret
  exact ⟨rfl, HL2.out, HB2.out⟩
/-! ### What the copies are -/
theorem add_at (b o j : Nat) : (⟨b, o, none⟩ : Addr).add j = ⟨b, o + j, none⟩ := add_none b o j
theorem int_cells (l : List Int) : ∀ v ∈ l.map (Value.int .i64), v.oneCell' = true := fun v hv => by
  obtain ⟨x, _, rfl⟩ := List.mem_map.1 hv
  rfl
theorem bool_cells (l : List Bool) : ∀ v ∈ l.map Value.bool, v.oneCell' = true := fun v hv => by
  obtain ⟨x, _, rfl⟩ := List.mem_map.1 hv
  rfl
theorem zrow_src {w : World} {ao : Option Addr} {n cap : Nat} {l : List Int} (h : ZRow w (.slice ao n cap) l) : 0 < n → ∃ ad, ao = some ad ∧ ∀ (j : Nat) v, (l.map (Value.int .i64))[j]? = some v → w.cell? (ad.add j) = some v := by
  obtain ⟨hn, _, _, b, o, ha, hc⟩ := zrow_at h
  intro h0
  refine ⟨_, ha h0, fun j v hv => ?_⟩
  rw [List.getElem?_map] at hv
  cases hx : l[j]? with
  | none => rw [hx] at hv; cases hv
  | some x =>
    rw [hx] at hv
    cases hv
    rw [add_at]
    exact hc j x hx
/-- A row that was copied, as a row: it hangs on its block alone. -/
theorem zrow_cop {w : World} {b : Nat} {l : List Int} {n : Nat} (h : Lies w b 3 (l.map (Value.int .i64)).toArray) (hn : n = l.length) (hl : l.length ≤ 100000000000000) : Hang (fun k => k = b) (fun w => ZRow w (.slice (some ⟨b, 0, none⟩) n n) l) w := fun w2 h2 => by
  subst hn
  refine ⟨b, 0, ⟨_, _, rfl, Nat.le_refl _, fun _ => rfl⟩, hl, fun i x hx => ?_⟩
  refine h2 _ _ rfl ?_
  rw [Nat.zero_add]
  exact IntR.cell h hx
theorem rowr_src {α : Type} {z : Nat} {R : World → List Value → α → Prop} {w : World} {ao : Option Addr} {n cap : Nat} {l : List α} (h : RowR z R w (.slice ao n cap) l) (hR : ∀ cs x, R w cs x → ∀ u ∈ cs, u.oneCell' = true) :
    ∃ cl : List (Cel z), cl.length = n ∧ n = l.length ∧ (∀ (i : Nat) x c, l[i]? = some x → cl[i]? = some c → R w c.1 x) ∧ ((cl.map celE).flatten.length = n * z) ∧ (∀ v ∈ (cl.map celE).flatten, v.oneCell' = true) ∧ (0 < n → ∃ ad, ao = some ad ∧ ∀ (j : Nat) u, (cl.map celE).flatten[j]? = some u → w.cell? (ad.add j) = some u) := by
  obtain ⟨cl, h1, h2, h3, h4⟩ := rowr_cells h hR
  refine ⟨cl, h1, h2, h3, by rw [flat_len celE_len, h1], fun v hv => ?_, h4⟩
  obtain ⟨q, hq, hu⟩ := List.mem_flatten.1 hv
  obtain ⟨y, _, rfl⟩ := List.mem_map.1 hq
  exact celE_one y v hu
theorem rowr_cop {α : Type} {z : Nat} {R : World → List Value → α → Prop} {w : World} {b : Nat} {T : TypeId} {l : List α} {cl : List (Cel z)} {n : Nat} (h : Lies w b T (cl.map celE).flatten.toArray) (hcl : cl.length = n) (hn : n = l.length) (hl : l.length ≤ 10000000000000) (hR : ∀ (i : Nat) x c, l[i]? = some x → cl[i]? = some c → ∀ w, R w c.1 x) :
    Hang (fun k => k = b) (fun w => RowR z R w (.slice (some ⟨b, 0, none⟩) n n) l) w := fun w2 h2 => by
  subst hn
  refine ⟨b, 0, ⟨_, _, rfl, Nat.le_refl _, fun _ => rfl⟩, hl, fun i x hx => ?_⟩
  have hi : i < cl.length := by have := (List.getElem?_eq_some_iff.1 hx).1; omega
  refine ⟨cl[i].1, cl[i].2.1, hR i x _ hx (List.getElem?_eq_getElem hi) w2, fun j u hu => ?_⟩
  refine h2 _ _ rfl ?_
  rw [Nat.zero_add, Lies.cell h, List.getElem?_toArray]
  exact cel_at (List.getElem?_eq_getElem hi) hu
theorem lit_one {w : World} (cs : List Value) (x : Rp.Lit) (h : litR w cs x) : ∀ u ∈ cs, u.oneCell' = true := fun u hu => by
  rw [show cs = _ from h] at hu
  simp at hu
  rcases hu with rfl | rfl <;> rfl
theorem ctr_one {w : World} (cs : List Value) (x : Rp.Ctr) (h : ctrR w cs x) : ∀ u ∈ cs, u.oneCell' = true := fun u hu => by
  rw [show cs = _ from h] at hu
  simp at hu
  rcases hu with rfl | rfl | rfl <;> rfl
def sliceA (b n : Nat) : Value := .slice (some ⟨b, 0, none⟩) n n
/-- What a copy of a row leaves: it hangs on its block alone. -/
def RCop (P : Value → World → Prop) (n : Nat) (w : World) (e : Ending) (w' : World) : Prop := e = .returned (.slice (some ⟨w.heap.size, 0, none⟩) n n) ∧ Hang (fun k => k = w.heap.size) (P (.slice (some ⟨w.heap.size, 0, none⟩) n n)) w' ∧ Below w.heap.size w w' ∧ w.heap.size < w'.heap.size
theorem copyZg (w : World) (ao : Option Addr) (cap : Nat) (l : List Int) (h : ZRow w (.slice ao l.length cap) l) (hn : l.length ≤ 100000) :
    Calls Try.prog 45 #[.slice ao l.length cap] w (RCop (fun v w => ZRow w v l) l.length w) :=
  (copiedI w ao l.length cap _ hn (by rw [List.length_map, Nat.mul_one]) (zrow_src h) (int_cells l)).mono fun e w' ⟨h1, h2, h3⟩ => ⟨h1, zrow_cop h2 rfl (by omega), h3, h2.lt⟩
theorem copyL (w : World) (ao : Option Addr) (cap : Nat) (l : List Rp.Lit) (h : LRow w (.slice ao l.length cap) l) (hn : l.length ≤ 100000) :
    Calls Try.prog 49 #[.slice ao l.length cap] w (RCop (fun v w => LRow w v l) l.length w) := by
  obtain ⟨cl, h1, h2, h3, h4, h5, h6⟩ := rowr_src h lit_one
  exact (copiedL w ao l.length cap _ hn h4 h6 h5).mono fun e w' ⟨k1, k2, k3⟩ => ⟨k1, rowr_cop k2 h1 rfl (by omega) (fun i x c hx hc _ => h3 i x c hx hc), k3, k2.lt⟩
theorem copyS (w : World) (ao : Option Addr) (cap : Nat) (l : List Rp.Lit) (h : LRow w (.slice ao l.length cap) l) (hn : l.length ≤ 100000) :
    Calls Try.prog 78 #[.slice ao l.length cap] w (RCop (fun v w => LRow w v l) l.length w) := by
  obtain ⟨cl, h1, h2, h3, h4, h5, h6⟩ := rowr_src h lit_one
  exact (copiedS w ao l.length cap _ hn h4 h6 h5).mono fun e w' ⟨k1, k2, k3⟩ => ⟨k1, rowr_cop k2 h1 rfl (by omega) (fun i x c hx hc _ => h3 i x c hx hc), k3, k2.lt⟩
theorem copyT (w : World) (ao : Option Addr) (cap : Nat) (l : List Rp.Ctr) (h : TRow w (.slice ao l.length cap) l) (hn : l.length ≤ 100000) :
    Calls Try.prog 47 #[.slice ao l.length cap] w (RCop (fun v w => TRow w v l) l.length w) := by
  obtain ⟨cl, h1, h2, h3, h4, h5, h6⟩ := rowr_src h ctr_one
  exact (copiedT w ao l.length cap _ hn h4 h6 h5).mono fun e w' ⟨k1, k2, k3⟩ => ⟨k1, rowr_cop k2 h1 rfl (by omega) (fun i x c hx hc _ => h3 i x c hx hc), k3, k2.lt⟩
theorem flag_src {w : World} {b : Nat} {l : List Bool} (h : FlagR w b l) (n : Nat) (hn : n ≤ l.length) : 0 < n → ∃ ad, (some ⟨b, 0, none⟩ : Option Addr) = some ad ∧ ∀ (j : Nat) v, ((l.take n).map Value.bool)[j]? = some v → w.cell? (ad.add j) = some v := by
  intro h0
  refine ⟨_, rfl, fun j v hv => ?_⟩
  rw [List.getElem?_map] at hv
  cases hx : (l.take n)[j]? with
  | none => rw [hx] at hv; cases hv
  | some x =>
    rw [hx] at hv
    cases hv
    rw [add_at, Nat.zero_add]
    refine h.cell ?_
    have hj : j < n := by have := (List.getElem?_eq_some_iff.1 hx).1; rw [List.length_take] at this; omega
    rwa [List.getElem?_take_of_lt hj] at hx
theorem int_src {w : World} {b : Nat} {l : List Int} (h : IntR w b l) : 0 < l.length → ∃ ad, (some ⟨b, 0, none⟩ : Option Addr) = some ad ∧ ∀ (j : Nat) v, (l.map (Value.int .i64))[j]? = some v → w.cell? (ad.add j) = some v := by
  intro h0
  refine ⟨_, rfl, fun j v hv => ?_⟩
  rw [List.getElem?_map] at hv
  cases hx : l[j]? with
  | none => rw [hx] at hv; cases hv
  | some x =>
    rw [hx] at hv
    cases hv
    rw [add_at, Nat.zero_add]
    exact h.cell hx
/-- Flags ahead of a place, copied. -/
theorem copyF (w : World) (b n cap : Nat) (l : List Bool) (h : FlagR w b l) (hn : n ≤ l.length) (hl : l.length ≤ 100000) :
    Calls Try.prog 22 #[.slice (some ⟨b, 0, none⟩) n cap] w (fun e w' => e = .returned (.slice (some ⟨w.heap.size, 0, none⟩) n n) ∧ FlagR w' w.heap.size (l.take n) ∧ Below w.heap.size w w') :=
  (copiedB w _ n cap _ (by omega) (by rw [List.length_map, List.length_take, Nat.mul_one]; omega) (flag_src h n hn) (bool_cells _)).mono fun e w' ⟨h1, h2, h3⟩ => ⟨h1, h2, h3⟩
/-- Numbers, copied. -/
theorem copyN (w : World) (b n cap : Nat) (l : List Int) (h : IntR w b l) (hn : n = l.length) (hl : l.length ≤ 100000) :
    Calls Try.prog 45 #[.slice (some ⟨b, 0, none⟩) n cap] w (fun e w' => e = .returned (.slice (some ⟨w.heap.size, 0, none⟩) n n) ∧ IntR w' w.heap.size l ∧ Below w.heap.size w w') := by
  subst hn
  exact (copiedI w _ l.length cap _ (by omega) (by rw [List.length_map, Nat.mul_one]) (int_src h) (int_cells l)).mono fun e w' ⟨h1, h2, h3⟩ => ⟨h1, h2, h3⟩
end Go.Proofs.Ytkjekohncfhbiab
