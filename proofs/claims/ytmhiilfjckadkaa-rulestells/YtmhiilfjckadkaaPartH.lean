/-
  Several texts in one: each opens with its own word.
-/
import Derived.Test.YtmhiilfjckadkaaRRepeat
import Derived.Test.YtmhiilfjckadkaaMRows
import Derived.Deep.AppendSrc
import Derived.Deep.AppendLies
import Derived.Deep.RegionLaw
import Derived.Test.YtmhiilfjckadkaaRInts
import Derived.Test.YtmhiilfjckadkaaRRef4
/-
  A row of whatever elements made by appends one in another: none or some are appended.
-/
set_option linter.unusedSimpArgs false
set_option linter.unusedVariables false
namespace Go.Proofs.Ytmhiilfjckadkaa
open Go.RowKit
set_option maxRecDepth 100000
section MadeR
variable {α : Type} {t e : TypeId} {z bytes : Nat} {E : α → List Value}
/-- A row that was made since W0, all of W0 left as it was. -/
structure TE (e : TypeId) (z : Nat) (E : α → List Value) (W0 W : World) (v : Value) (L : List α) : Prop where
  own : W.ownsRow W0.heap.size e z v L.length (L.map E).flatten
  below : Below W0.heap.size W0 W
theorem TE.alloc {W0 W : World} {v : Value} {L : List α} (h : TE e z E W0 W v L) (o : Obj) : TE e z E W0 (W.alloc o) v L := ⟨h.own.alloc _, h.below.alloc h.below.size _⟩
theorem TE.drew {W0 W : World} {v : Value} {L : List α} (h : TE e z E W0 W v L) : TE e z E W0 W.drew v L := ⟨h.own.drew, below_drewN h.below 1⟩
theorem TE.under {W0 W W' : World} {v : Value} {L : List α} (h : TE e z E W0 W v L) (hb : Below W.heap.size W W') : TE e z E W0 W' v L := ⟨own_below h.own hb, h.below.trans (hb.mono h.below.size)⟩
theorem TE.drewN {W0 W : World} {v : Value} {L : List α} (h : TE e z E W0 W v L) (d : Nat) : TE e z E W0 (W.drewN d) v L := h.under (below_drewN (Below.refl _ W) d)
theorem TE.none {W0 W : World} (hb : Below W0.heap.size W0 W) : TE e z E W0 W (.slice none 0 0) [] := ⟨⟨by simp, .inl ⟨rfl, rfl⟩⟩, hb⟩
theorem TE.empty {W0 W : World} (hb : Below W0.heap.size W0 W) (H : Nat) (hH : W.heap.size = H) : TE e z E W0 (W.alloc (.cells #[] e)) (.slice (some ⟨H, 0, .none⟩) 0 0) [] :=
  ⟨⟨by simp, .inr ⟨H, 0, #[], rfl, by rw [← hH]; exact hb.size, by rw [← hH]; exact heap_alloc_new W _, Nat.le_refl _, by unfold maxLen; omega, by simp, by simp⟩⟩, hb.alloc hb.size _⟩
theorem TE.cell {W0 W : World} {v : Value} {L : List α} (h : TE e z E W0 W v L) {a : Addr} {c : Value} (hc : W0.cell? a = some c) : W.cell? a = some c := below_cell h.below _ _ hc
theorem TE.low {W0 W1 W : World} {v : Value} {L : List α} (h : TE e z E W1 W v L) (hb : Below W0.heap.size W0 W1) : TE e z E W0 W v L := ⟨⟨h.own.1, h.own.2.imp id fun ⟨g, cap, cur, h1, h2, h3⟩ => ⟨g, cap, cur, h1, Nat.le_trans hb.size h2, h3⟩⟩, hb.trans (h.below.mono hb.size)⟩
theorem te_form {W0 W : World} {v : Value} {L : List α} (h : TE e z E W0 W v L) : ∃ ob oc, v = .slice ob L.length oc ∧ L.length ≤ oc ∧ ∃ g, (0 < L.length → ob = some ⟨g, 0, .none⟩) ∧ (L.length = 0 → ob = .none ∨ ob = some ⟨g, 0, .none⟩) ∧ ∀ (j : Nat) u, (L.map E).flatten[j]? = some u → W.cell? ⟨g, j, .none⟩ = some u := by
  rcases h.own.2 with ⟨rfl, h0⟩ | ⟨g, cap, cur, rfl, hbg, hg, hnc, hcm, hcs, htake⟩
  · refine ⟨.none, 0, by rw [h0], by omega, 0, fun h => by omega, fun _ => .inl rfl, fun j u hj => ?_⟩
    have h1 := h.own.1
    rw [h0, Nat.zero_mul] at h1
    have := (List.getElem?_eq_some_iff.1 hj).1
    omega
  · refine ⟨_, cap, rfl, hnc, g, fun _ => rfl, fun _ => .inr rfl, fun j u hj => ?_⟩
    have hc := h.own.cells (g := g) rfl j u hj
    rwa [show ((⟨g, 0, .none⟩ : Addr).add j) = ⟨g, j, .none⟩ by unfold Addr.add; split <;> simp_all] at hc
theorem run_app_noneE {W : World} {H n : Nat} {v : Value} {xs : List Value} (ty : TypeId) (ht : Try.prog.underlying t = some (.slice e)) {i : TypeInfo} (hi : Try.prog.info? e = some i) (hown : W.ownsRow H e z v n xs) (ao : Option Addr) (c : Nat) :
    (Builtin.append_ #[t, t] ty #[v, .slice ao 0 c]).run Try.prog W = .ok v W := by
  rcases hown.2 with ⟨rfl, rfl⟩ | ⟨g, cap, cur, rfl, hbg, hg, hnc, hcm, hcs, htake⟩
  · cases ao <;> simp [Builtin.append_, run_underlying ht, sizeOf, typeInfo, hi, Builtin.lenOf, Builtin.firstCells, loadCells, loadCellsFrom]
  · have h0 : W.setCells g (0 + n * i.size) [] = W := rfl
    have hr := run_append_room_src (P := Try.prog) W t t ty e i ht hi g 0 n cap (.slice ao 0 c) 0 [] (by
      cases ao with
      | none => exact Src.ofNil W ht c
      | some a => exact Src.ofSlice W ht a 0 c [] (by simp) (fun j u h => by simp at h) (fun u h => by cases h)) (by omega) (fun j h => by simp at h) (fun j h => by simp at h)
    rw [h0] at hr
    exact hr
theorem flat_len (hE : ∀ x, (E x).length = z) : ∀ (l : List α), (l.map E).flatten.length = l.length * z
  | [] => by simp
  | x :: l => by rw [List.map_cons, List.flatten_cons, List.length_append, hE, flat_len hE l, List.length_cons, Nat.succ_mul]; omega
/-- The law: at a step of a region that draws its order. -/
theorem step_appE (ht : Try.prog.underlying t = some (.slice e)) {zv : Value} (hi : (Try.prog.info? e).map (fun i => (i.zero, i.size, i.bytes)) = some (some zv, z, bytes)) (hzs : zv.cells.size = z) (hz0 : 0 < z) (hbb : bytes ≤ 1000) (hE : ∀ x, (E x).length = z) (hE1 : ∀ x, ∀ u ∈ E x, u.oneCell' = true)
    {ops : Array Oper} {o : Oper} {a : Act} {K : Act → World → Prop} {Q : Exit → Act → World → Prop} {F : Prop} (hgd : o.guard = .none) (s x : Operand) (ho : o.op = .call { callee := .builtin .append, args := #[s, x], argTypes := #[t, t] })
    {W0 W : World} {v : Value} (hs : a.eval s = v) {ao : Option Addr} {m c : Nat} (hx : a.eval x = .slice ao m c) {L : List α} (hT : TE e z E W0 W v L) (news : List α) (hm : news.length = m) (hsrc : 0 < m → ∃ ad, ao = some ad ∧ ∀ (j : Nat) u, (news.map E).flatten[j]? = some u → W.cell? (ad.add j) = some u) (hl : L.length + m ≤ 1000000)
    (h : ∀ v' w', TE e z E W0 w' v' (L ++ news) → (∀ (b i : Nat) (u : Value), v.ownBlock ≠ some b → W.cell? ⟨b, i, .none⟩ = some u → w'.cell? ⟨b, i, .none⟩ = some u) → K (a.put o.dst v') w') :
    if Region.wanted o (yielded ops a.tmps) = true then Oper.wp Try.prog o a W K Q else F := by
  have hw : Region.wanted o (yielded ops a.tmps) = true := by simp [Region.wanted, hgd]
  rw [if_pos hw]
  obtain ⟨j0, hj0, jz0, jz1, jz2⟩ := info_parts hi
  have hr : ∃ v' w', (Builtin.append_ #[t, t] o.type #[v, .slice ao m c]).run Try.prog W = .ok v' w' ∧ TE e z E W0 w' v' (L ++ news) ∧ (∀ (b i : Nat) (u : Value), v.ownBlock ≠ some b → W.cell? ⟨b, i, .none⟩ = some u → w'.cell? ⟨b, i, .none⟩ = some u) := by
    by_cases h0 : m = 0
    · subst h0
      obtain rfl := List.eq_nil_of_length_eq_zero hm
      exact ⟨v, W, run_app_noneE o.type ht hj0 hT.own ao c, by rw [List.append_nil]; exact hT, fun _ _ _ _ h => h⟩
    · obtain ⟨ad, rfl, hc⟩ := hsrc (by omega)
      obtain ⟨v', w', hr, h2, h3, _, _⟩ := run_append_own_at (P := Try.prog) W W0.heap.size t o.type e j0 _ z bytes ht hj0 jz0 jz1 jz2 hzs hz0 v L.length (L.map E).flatten hT.own ad m c (news.map E).flatten (by rw [flat_len hE, hm]) hc (fun u hu => by
        obtain ⟨q, hq, hu⟩ := List.mem_flatten.1 hu
        obtain ⟨y, _, rfl⟩ := List.mem_map.1 hq
        exact hE1 y u hu) (by unfold maxLen; omega) (Nat.le_trans (Nat.mul_le_mul hl hbb) (by omega)) hT.below.size
      refine ⟨v', w', hr, ⟨?_, ?_⟩, fun b i u hb hu => by rw [h3.cell_far ⟨b, i, .none⟩ (cell_lt hu) (fun e => hb e.symm)]; exact hu⟩
      · rw [List.length_append, List.map_append, List.flatten_append, hm]
        exact h2
      · exact ⟨h3.os.trans hT.below.os, h3.tape.trans hT.below.tape, h3.output.trans hT.below.output, Nat.le_trans hT.below.size h3.size, fun k hk => (h3.block k (by have := hT.below.size; omega) (fun e => by have := (own_lt hT.own e.symm).2; omega)).trans (hT.below.block k hk)⟩
  obtain ⟨v', w', hr, hT', hG⟩ := hr
  unfold Oper.wp execOp
  simp only [ho, resolve, invoke, builtin, Sem.run_bind, Sem.run_pure, Result.andThen_ok, List.map_toArray, List.map_cons, List.map_nil, hs, hx, hr]
  exact h v' w' hT' hG
end MadeR
end Go.Proofs.Ytmhiilfjckadkaa
/-
  A stratum among rising ones, once: the document's put. (Written with RApp's law.)
-/
set_option linter.unusedSimpArgs false
set_option linter.unusedVariables false
namespace Go.Proofs.Ytmhiilfjckadkaa
open Go.RowKit
set_option maxRecDepth 100000
abbrev zE (x : Int) : List Value := [.int .i64 x]
theorem zE_flat (L : List Int) : (L.map zE).flatten = L.map zV := by
  induction L with
  | nil => rfl
  | cons a L ih => rw [List.map_cons, List.map_cons, List.flatten_cons, ih]; rfl
theorem zE_one (x : Int) : ∀ u ∈ zE x, u.oneCell' = true := fun u hu => by simp at hu; subst hu; rfl
theorem one_newZ (W : World) (x : Int) (B : Nat) (hB : W.heap.size = B) : (W.alloc (.cells #[.int .i64 x] 3)).cell? ⟨B, 0, none⟩ = some (.int .i64 x) := by
  subst hB
  exact cell_new W #[.int .i64 x] 3 0
theorem one_srcZ {W : World} {B : Nat} {x : Int} (h : W.cell? ⟨B, 0, none⟩ = some (.int .i64 x)) : 0 < 1 → ∃ ad, (some ⟨B, 0, none⟩ : Option Addr) = some ad ∧ ∀ (j : Nat) u, ([x].map zE).flatten[j]? = some u → W.cell? (ad.add j) = some u := fun _ => ⟨_, rfl, fun j u hj => by
  match j, hj with
  | 0, hj => cases hj; exact h
  | j + 1, hj => simp at hj⟩
abbrev ZE (W0 W : World) (v : Value) (L : List Int) : Prop := TE 3 1 zE W0 W v L
/-- What put answers: a row that rises, with one number besides. -/
def PutPost (W0 : World) (L : List Int) (x : Int) (w : World) (e : Ending) (w' : World) : Prop := ∃ v' L', e = .returned v' ∧ ZE W0 w' v' L' ∧ L'.Pairwise (· < ·) ∧ (∀ y, y ∈ L' ↔ y ∈ L ∨ y = x) ∧ L'.length ≤ L.length + 1 ∧ Below w.heap.size w w'
theorem ins_rises {L : List Int} {x : Int} {k : Nat} (hr : L.Pairwise (· < ·)) (hlo : ∀ (q : Nat) y, q < k → L[q]? = some y → y < x) (hhi : ∀ y, L[k]? = some y → x < y) :
    (L.take k ++ x :: L.drop k).Pairwise (· < ·) ∧ ∀ y, y ∈ L.take k ++ x :: L.drop k ↔ y ∈ L ∨ y = x := by
  have h1 : ∀ y ∈ L.take k, y < x := fun y hy => by
    obtain ⟨q, hq, h⟩ := Mp.mem_take.1 hy
    exact hlo q y hq h
  have h2 : ∀ y ∈ L.drop k, x < y := fun y hy => by
    obtain ⟨q, hq⟩ := List.getElem?_of_mem hy
    rw [List.getElem?_drop] at hq
    have hk : k < L.length := by have := (List.getElem?_eq_some_iff.1 hq).1; omega
    have hz := hhi L[k] (List.getElem?_eq_getElem hk)
    by_cases e : q = 0
    · subst e
      rw [Nat.add_zero, List.getElem?_eq_getElem hk] at hq
      cases hq
      exact hz
    · obtain ⟨hl, rfl⟩ := List.getElem?_eq_some_iff.1 hq
      have := List.pairwise_iff_getElem.1 hr k (k + q) hk hl (by omega)
      omega
  refine ⟨?_, fun y => ?_⟩
  · rw [List.pairwise_append, List.pairwise_cons]
    refine ⟨hr.sublist (List.take_sublist k L), ⟨h2, hr.sublist (List.drop_sublist k L)⟩, fun a ha b hb => ?_⟩
    rcases List.mem_cons.1 hb with rfl | hb
    · exact h1 a ha
    · have := h1 a ha
      have := h2 b hb
      omega
  · rw [List.mem_append, List.mem_cons]
    constructor
    · rintro (h | h | h)
      · exact .inl (List.mem_of_mem_take h)
      · exact .inr h
      · exact .inl (List.mem_of_mem_drop h)
    · rintro (h | h)
      · rw [← List.take_append_drop k L, List.mem_append] at h
        rcases h with h | h
        · exact .inl h
        · exact .inr (.inr h)
      · exact .inr (.inl h)
set_option maxHeartbeats 16000000 in
theorem putD (w W0 : World) (v : Value) (L : List Int) (x : Int) (hT : ZE W0 w v L) (hr : L.Pairwise (· < ·)) (hlen : L.length ≤ 100000) :
    Calls Try.prog 36 #[v, .int .i64 x] w (PutPost W0 L x w) := by
  obtain ⟨ob, oc, rfl, hoc, g, hg1, hg0, hgc⟩ := te_form hT
  obtain ⟨n, hn⟩ : ∃ n, L.length = n := ⟨_, rfl⟩
  rw [hn] at hoc hg1 hg0 hT hlen ⊢
  have HLN := hideT hn
  have HG1 := hideT hg1
  have HG0 := hideT hg0
  have HGC := hideT hgc
  have HT := hideT hT
  have HRI := hideT hr
  clear hg1 hg0 hgc hT hr
  go_enter Try.func36, Try.ntmps36
  go_wp2_with fail
  go_loop [5] (fun i => ∃ k : Nat, k ≤ n ∧ i = .int .i64 k ∧ Hid (∀ (q : Nat) y, q < k → L[q]? = some y → y < x)) (fun i => n - (intOf i).toNat)
  case atStart => exact ⟨0, by omega, rfl, fun q y h => absurd h (by omega)⟩
  case round =>
    obtain ⟨k, hk, rfl, HB⟩ := hrel
    have t0 : (0 : Int) ≤ (k : Int) := by omega
    have hko : (k : Int) ≤ (oc : Int) := by omega
    have hkn : (k : Int) ≤ (n : Int) := by omega
    by_cases hlt : k < n
    · obtain ⟨y, hy⟩ := Mp.at_lt (l := L) (k := k) (by omega)
      obtain rfl := HG1.out (by omega)
      have c0 : w.cell? ⟨g, k, none⟩ = some (.int .i64 y) := HGC.out k _ (by rw [zE_flat, List.getElem?_map, hy]; rfl)
      have t1 : (k : Int) < (n : Int) := by omega
      have HY := hideT hy
      clear hy
      by_cases hyx : y < x
      · have HR : Hid (∀ (q : Nat) y, q < k + 1 → L[q]? = some y → y < x) := fun q z hq hz => by
          by_cases e : q < k
          · exact HB.out q z e hz
          · obtain rfl : q = k := by omega
            rw [HY.out] at hz
            cases hz
            exact hyx
        go_wp2_with fail
        go_round
        case rel => exact ⟨k + 1, by omega, by go_num, HR⟩
        case measure => simp [intOf]; omega
      by_cases he : y = x
      · have HF : Hid (PutPost W0 L x w (.returned (.slice (some ⟨g, 0, none⟩) n oc)) w) := ⟨_, L, rfl, HT.out, HRI.out, fun z => ⟨fun h => .inl h, fun h => h.elim id (fun h => by rw [h, ← he]; exact List.mem_of_getElem? HY.out)⟩, by omega, Below.refl _ _⟩
        have t2 : (y == x) = true := by simp [he]
        have t3 : ¬ y < x := hyx
        have t4 : decide (y < x) = false := decide_eq_false hyx
        clear he
        go_wp2_with fail
        go_ret
        exact HF.out
      have t2 : (y == x) = false := beq_eq_false_iff_ne.2 he
      have t4 : decide (y < x) = false := decide_eq_false hyx
      have HPP : Hid (∀ v3 W3, ZE w W3 v3 (L.take k ++ x :: L.drop k) → PutPost W0 L x w (.returned v3) W3) := fun v3 W3 h => by
        obtain ⟨p1, p2⟩ := ins_rises HRI.out HB.out (fun z hz => by rw [HY.out] at hz; cases hz; omega)
        exact ⟨v3, _, rfl, h.low HT.out.below, p1, p2, by simp; omega, h.below⟩
      clear he
      have HTL : Hid ((L.take k).length = k) := by
        show _ = _
        rw [List.length_take]
        omega
      have HS1 : Hid (∀ (q : Nat) u, ((L.take k).map zE).flatten[q]? = some u → w.cell? ((⟨g, 0, none⟩ : Addr).add q) = some u) := fun q u hu => by
        rw [zE_flat, List.getElem?_map, List.getElem?_take] at hu
        split at hu
        · rw [show ((⟨g, 0, none⟩ : Addr).add q) = ⟨g, q, none⟩ by unfold Addr.add; split <;> simp_all]
          exact HGC.out q u (by rw [zE_flat, List.getElem?_map]; exact hu)
        · cases hu
      have HTD : Hid ((L.drop k).length = n - k) := by
        show _ = _
        rw [List.length_drop, HLN.out]
      have HS3 : Hid (∀ (q : Nat) u, ((L.drop k).map zE).flatten[q]? = some u → w.cell? ((⟨g, k, none⟩ : Addr).add q) = some u) := fun q u hu => by
        rw [zE_flat, List.getElem?_map, List.getElem?_drop] at hu
        rw [show ((⟨g, k, none⟩ : Addr).add q) = ⟨g, k + q, none⟩ by unfold Addr.add; split <;> simp_all]
        exact HGC.out (k + q) u (by rw [zE_flat, List.getElem?_map]; exact hu)
      have hoj : ¬ oc = k := by omega
      go_wp2_with fail
      go_region_law (first
        | (refine step_appE (t := 22) (e := 3) (z := 1) (E := zE) Try.underlying22 infoZ rfl (by omega) (by omega) (fun _ => rfl) zE_one (by rfl) (.tmp 33) (.tmp 36) (by rfl) (W0 := w) (v := .slice (some ⟨w.heap.size, 0, none⟩) 0 0) (by rfl) (by rfl) (by exact TE.empty (below_drewN (Below.refl _ w) _) _ (by simp)) (L.take k) HTL.out (fun _ => ⟨_, rfl, fun q u hu => by first | exact below_cell ((below_drewN (Below.refl _ w) _).alloc (by simp) _) _ _ (HS1.out q u hu) | exact below_cell (((below_drewN (Below.refl _ w) _).alloc (by simp) _).alloc (by simp) _) _ _ (HS1.out q u hu)⟩) (by simp; try omega) ?_; intro v1 W1 T1 G1; rw [List.nil_append] at T1; skip)
        | (refine step_appE (t := 22) (e := 3) (z := 1) (E := zE) Try.underlying22 infoZ rfl (by omega) (by omega) (fun _ => rfl) zE_one (by rfl) (.tmp 33) (.tmp 36) (by rfl) (W0 := w) (v := .slice (some ⟨w.heap.size, 0, none⟩) 0 0) (by rfl) (by rfl) (by exact (TE.empty (below_drewN (Below.refl _ w) _) _ (by simp)).alloc _) (L.take k) HTL.out (fun _ => ⟨_, rfl, fun q u hu => by first | exact below_cell ((below_drewN (Below.refl _ w) _).alloc (by simp) _) _ _ (HS1.out q u hu) | exact below_cell (((below_drewN (Below.refl _ w) _).alloc (by simp) _).alloc (by simp) _) _ _ (HS1.out q u hu)⟩) (by simp; try omega) ?_; intro v1 W1 T1 G1; rw [List.nil_append] at T1; have X1 := G1 (w.heap.size + 1) 0 (.int .i64 x) (by simp [Value.ownBlock]) (one_newZ _ x _ (by simp)))
        | (refine step_appE (t := 22) (e := 3) (z := 1) (E := zE) Try.underlying22 infoZ rfl (by omega) (by omega) (fun _ => rfl) zE_one (by rfl) (.tmp 33) (.tmp 36) (by rfl) (W0 := w) (v := .slice (some ⟨w.heap.size + 1, 0, none⟩) 0 0) (by rfl) (by rfl) (by exact TE.empty ((below_drewN (Below.refl _ w) _).alloc (by simp) _) _ (by simp)) (L.take k) HTL.out (fun _ => ⟨_, rfl, fun q u hu => by first | exact below_cell ((below_drewN (Below.refl _ w) _).alloc (by simp) _) _ _ (HS1.out q u hu) | exact below_cell (((below_drewN (Below.refl _ w) _).alloc (by simp) _).alloc (by simp) _) _ _ (HS1.out q u hu)⟩) (by simp; try omega) ?_; intro v1 W1 T1 G1; rw [List.nil_append] at T1; have X1 := G1 w.heap.size 0 (.int .i64 x) (by simp [Value.ownBlock]) (below_cell ((Below.refl _ _).alloc (Nat.le_refl _) _) _ _ (one_newZ _ x _ (by simp))))
        | (refine step_appE (t := 22) (e := 3) (z := 1) (E := zE) Try.underlying22 infoZ rfl (by omega) (by omega) (fun _ => rfl) zE_one (by rfl) (.tmp 37) (.tmp 39) (by rfl) (W0 := w) (v := v1) (by rfl) (by rfl) (by first | exact T1.alloc _ | exact T1) [x] (by rfl) (one_srcZ (by first | exact one_newZ _ _ _ (by rfl) | exact X1)) (by rw [HTL.out]; omega) ?_; intro v2 W2 T2 G2)
        | (refine step_appE (t := 22) (e := 3) (z := 1) (E := zE) Try.underlying22 infoZ rfl (by omega) (by omega) (fun _ => rfl) zE_one (by rfl) (.tmp 40) (.tmp 43) (by rfl) (W0 := w) (v := v2) (by rfl) (by rfl) (by exact T2) (L.drop k) HTD.out (fun _ => ⟨_, rfl, fun q u hu => T2.cell (HS3.out q u hu)⟩) (by rw [List.length_append, HTL.out]; simp; try omega) ?_; intro v3 W3 T3 G3))
      all_goals
        have ST : Hid (PutPost W0 L x w (.returned v3) W3) := HPP.out v3 W3 (by simpa using T3)
        clear T1 T2 T3 G1 G2 G3
        try clear X1
        go_wp2_with fail
        go_ret
        exact ST.out
    · obtain rfl : k = n := by omega
      have hkk : ¬ (k : Int) < (k : Int) := by omega
      have HPP : Hid (∀ v3 W3, ZE w W3 v3 (L.take k ++ x :: L.drop k) → PutPost W0 L x w (.returned v3) W3) := fun v3 W3 h => by
        obtain ⟨p1, p2⟩ := ins_rises HRI.out HB.out (fun z hz => by have := (List.getElem?_eq_some_iff.1 hz).1; have := HLN.out; omega)
        exact ⟨v3, _, rfl, h.low HT.out.below, p1, p2, by simp; omega, h.below⟩
      have hcase : ob = some ⟨g, 0, none⟩ ∨ (k = 0 ∧ ob = none) := by
        by_cases h0 : k = 0
        · rcases HG0.out h0 with h | h
          · exact .inr ⟨h0, h⟩
          · exact .inl h
        · exact .inl (HG1.out (by omega))
      rcases hcase with rfl | ⟨rfl, rfl⟩
      · have HTD : Hid ((L.drop k).length = 0) := by
          show _ = _
          rw [List.length_drop, HLN.out]
          omega
        have HTL : Hid ((L.take k).length = k) := by
          show _ = _
          rw [List.length_take]
          omega
        have HS1 : Hid (∀ (q : Nat) u, ((L.take k).map zE).flatten[q]? = some u → w.cell? ((⟨g, 0, none⟩ : Addr).add q) = some u) := fun q u hu => by
          rw [zE_flat, List.getElem?_map, List.getElem?_take] at hu
          split at hu
          · rw [show ((⟨g, 0, none⟩ : Addr).add q) = ⟨g, q, none⟩ by unfold Addr.add; split <;> simp_all]
            exact HGC.out q u (by rw [zE_flat, List.getElem?_map]; exact hu)
          · cases hu
        by_cases hoj : oc = k
        · have hoj' := hoj.symm
          subst hoj'
          go_wp2_with fail
          go_region_law (first
            | (refine step_appE (t := 22) (e := 3) (z := 1) (E := zE) Try.underlying22 infoZ rfl (by omega) (by omega) (fun _ => rfl) zE_one (by rfl) (.tmp 33) (.tmp 36) (by rfl) (W0 := w) (v := .slice (some ⟨w.heap.size, 0, none⟩) 0 0) (by rfl) (by rfl) (by exact TE.empty (below_drewN (Below.refl _ w) _) _ (by simp)) (L.take k) HTL.out (fun _ => ⟨_, rfl, fun q u hu => by first | exact below_cell ((below_drewN (Below.refl _ w) _).alloc (by simp) _) _ _ (HS1.out q u hu) | exact below_cell (((below_drewN (Below.refl _ w) _).alloc (by simp) _).alloc (by simp) _) _ _ (HS1.out q u hu)⟩) (by simp; try omega) ?_; intro v1 W1 T1 G1; rw [List.nil_append] at T1; skip)
            | (refine step_appE (t := 22) (e := 3) (z := 1) (E := zE) Try.underlying22 infoZ rfl (by omega) (by omega) (fun _ => rfl) zE_one (by rfl) (.tmp 33) (.tmp 36) (by rfl) (W0 := w) (v := .slice (some ⟨w.heap.size, 0, none⟩) 0 0) (by rfl) (by rfl) (by exact (TE.empty (below_drewN (Below.refl _ w) _) _ (by simp)).alloc _) (L.take k) HTL.out (fun _ => ⟨_, rfl, fun q u hu => by first | exact below_cell ((below_drewN (Below.refl _ w) _).alloc (by simp) _) _ _ (HS1.out q u hu) | exact below_cell (((below_drewN (Below.refl _ w) _).alloc (by simp) _).alloc (by simp) _) _ _ (HS1.out q u hu)⟩) (by simp; try omega) ?_; intro v1 W1 T1 G1; rw [List.nil_append] at T1; have X1 := G1 (w.heap.size + 1) 0 (.int .i64 x) (by simp [Value.ownBlock]) (one_newZ _ x _ (by simp)))
            | (refine step_appE (t := 22) (e := 3) (z := 1) (E := zE) Try.underlying22 infoZ rfl (by omega) (by omega) (fun _ => rfl) zE_one (by rfl) (.tmp 33) (.tmp 36) (by rfl) (W0 := w) (v := .slice (some ⟨w.heap.size + 1, 0, none⟩) 0 0) (by rfl) (by rfl) (by exact TE.empty ((below_drewN (Below.refl _ w) _).alloc (by simp) _) _ (by simp)) (L.take k) HTL.out (fun _ => ⟨_, rfl, fun q u hu => by first | exact below_cell ((below_drewN (Below.refl _ w) _).alloc (by simp) _) _ _ (HS1.out q u hu) | exact below_cell (((below_drewN (Below.refl _ w) _).alloc (by simp) _).alloc (by simp) _) _ _ (HS1.out q u hu)⟩) (by simp; try omega) ?_; intro v1 W1 T1 G1; rw [List.nil_append] at T1; have X1 := G1 w.heap.size 0 (.int .i64 x) (by simp [Value.ownBlock]) (below_cell ((Below.refl _ _).alloc (Nat.le_refl _) _) _ _ (one_newZ _ x _ (by simp))))
            | (refine step_appE (t := 22) (e := 3) (z := 1) (E := zE) Try.underlying22 infoZ rfl (by omega) (by omega) (fun _ => rfl) zE_one (by rfl) (.tmp 37) (.tmp 39) (by rfl) (W0 := w) (v := v1) (by rfl) (by rfl) (by first | exact T1.alloc _ | exact T1) [x] (by rfl) (one_srcZ (by first | exact one_newZ _ _ _ (by rfl) | exact X1)) (by rw [HTL.out]; omega) ?_; intro v2 W2 T2 G2)
            | (refine step_appE (t := 22) (e := 3) (z := 1) (E := zE) Try.underlying22 infoZ rfl (by omega) (by omega) (fun _ => rfl) zE_one (by rfl) (.tmp 40) (.tmp 43) (by rfl) (W0 := w) (v := v2) (by rfl) (by rfl) (by exact T2) (L.drop k) (by first | exact HTD.out | (rw [HTD.out]; omega)) (fun h => absurd h (by omega)) (by rw [List.length_append, HTL.out]; simp; try omega) ?_; intro v3 W3 T3 G3))
          all_goals
            have ST : Hid (PutPost W0 L x w (.returned v3) W3) := HPP.out v3 W3 (by simpa using T3)
            clear T1 T2 T3 G1 G2 G3
            try clear X1
            go_wp2_with fail
            go_ret
            exact ST.out
        · have hoj2 : ¬ oc - k = 0 := by omega
          go_wp2_with fail
          go_region_law (first
            | (refine step_appE (t := 22) (e := 3) (z := 1) (E := zE) Try.underlying22 infoZ rfl (by omega) (by omega) (fun _ => rfl) zE_one (by rfl) (.tmp 33) (.tmp 36) (by rfl) (W0 := w) (v := .slice (some ⟨w.heap.size, 0, none⟩) 0 0) (by rfl) (by rfl) (by exact TE.empty (below_drewN (Below.refl _ w) _) _ (by simp)) (L.take k) HTL.out (fun _ => ⟨_, rfl, fun q u hu => by first | exact below_cell ((below_drewN (Below.refl _ w) _).alloc (by simp) _) _ _ (HS1.out q u hu) | exact below_cell (((below_drewN (Below.refl _ w) _).alloc (by simp) _).alloc (by simp) _) _ _ (HS1.out q u hu)⟩) (by simp; try omega) ?_; intro v1 W1 T1 G1; rw [List.nil_append] at T1; skip)
            | (refine step_appE (t := 22) (e := 3) (z := 1) (E := zE) Try.underlying22 infoZ rfl (by omega) (by omega) (fun _ => rfl) zE_one (by rfl) (.tmp 33) (.tmp 36) (by rfl) (W0 := w) (v := .slice (some ⟨w.heap.size, 0, none⟩) 0 0) (by rfl) (by rfl) (by exact (TE.empty (below_drewN (Below.refl _ w) _) _ (by simp)).alloc _) (L.take k) HTL.out (fun _ => ⟨_, rfl, fun q u hu => by first | exact below_cell ((below_drewN (Below.refl _ w) _).alloc (by simp) _) _ _ (HS1.out q u hu) | exact below_cell (((below_drewN (Below.refl _ w) _).alloc (by simp) _).alloc (by simp) _) _ _ (HS1.out q u hu)⟩) (by simp; try omega) ?_; intro v1 W1 T1 G1; rw [List.nil_append] at T1; have X1 := G1 (w.heap.size + 1) 0 (.int .i64 x) (by simp [Value.ownBlock]) (one_newZ _ x _ (by simp)))
            | (refine step_appE (t := 22) (e := 3) (z := 1) (E := zE) Try.underlying22 infoZ rfl (by omega) (by omega) (fun _ => rfl) zE_one (by rfl) (.tmp 33) (.tmp 36) (by rfl) (W0 := w) (v := .slice (some ⟨w.heap.size + 1, 0, none⟩) 0 0) (by rfl) (by rfl) (by exact TE.empty ((below_drewN (Below.refl _ w) _).alloc (by simp) _) _ (by simp)) (L.take k) HTL.out (fun _ => ⟨_, rfl, fun q u hu => by first | exact below_cell ((below_drewN (Below.refl _ w) _).alloc (by simp) _) _ _ (HS1.out q u hu) | exact below_cell (((below_drewN (Below.refl _ w) _).alloc (by simp) _).alloc (by simp) _) _ _ (HS1.out q u hu)⟩) (by simp; try omega) ?_; intro v1 W1 T1 G1; rw [List.nil_append] at T1; have X1 := G1 w.heap.size 0 (.int .i64 x) (by simp [Value.ownBlock]) (below_cell ((Below.refl _ _).alloc (Nat.le_refl _) _) _ _ (one_newZ _ x _ (by simp))))
            | (refine step_appE (t := 22) (e := 3) (z := 1) (E := zE) Try.underlying22 infoZ rfl (by omega) (by omega) (fun _ => rfl) zE_one (by rfl) (.tmp 37) (.tmp 39) (by rfl) (W0 := w) (v := v1) (by rfl) (by rfl) (by first | exact T1.alloc _ | exact T1) [x] (by rfl) (one_srcZ (by first | exact one_newZ _ _ _ (by rfl) | exact X1)) (by rw [HTL.out]; omega) ?_; intro v2 W2 T2 G2)
            | (refine step_appE (t := 22) (e := 3) (z := 1) (E := zE) Try.underlying22 infoZ rfl (by omega) (by omega) (fun _ => rfl) zE_one (by rfl) (.tmp 40) (.tmp 43) (by rfl) (W0 := w) (v := v2) (by rfl) (by rfl) (by exact T2) (L.drop k) (by first | exact HTD.out | (rw [HTD.out]; omega)) (fun h => absurd h (by omega)) (by rw [List.length_append, HTL.out]; simp; try omega) ?_; intro v3 W3 T3 G3))
          all_goals
            have ST : Hid (PutPost W0 L x w (.returned v3) W3) := HPP.out v3 W3 (by simpa using T3)
            clear T1 T2 T3 G1 G2 G3
            try clear X1
            go_wp2_with fail
            go_ret
            exact ST.out
      · have HTD : Hid ((L.drop 0).length = 0) := by
          show _ = _
          rw [List.length_drop, HLN.out]
        have HTL : Hid ((L.take 0).length = 0) := by
          show _ = _
          rw [List.length_take]
          omega
        go_wp2_with fail
        go_region_law (first
          | (refine step_appE (t := 22) (e := 3) (z := 1) (E := zE) Try.underlying22 infoZ rfl (by omega) (by omega) (fun _ => rfl) zE_one (by rfl) (.tmp 33) (.tmp 36) (by rfl) (W0 := w) (v := .slice (some ⟨w.heap.size, 0, none⟩) 0 0) (by rfl) (by rfl) (by exact TE.empty (below_drewN (Below.refl _ w) _) _ (by simp)) (L.take 0) HTL.out (fun h => absurd h (by omega)) (by simp; try omega) ?_; intro v1 W1 T1 G1; rw [List.nil_append] at T1; skip)
          | (refine step_appE (t := 22) (e := 3) (z := 1) (E := zE) Try.underlying22 infoZ rfl (by omega) (by omega) (fun _ => rfl) zE_one (by rfl) (.tmp 33) (.tmp 36) (by rfl) (W0 := w) (v := .slice (some ⟨w.heap.size, 0, none⟩) 0 0) (by rfl) (by rfl) (by exact (TE.empty (below_drewN (Below.refl _ w) _) _ (by simp)).alloc _) (L.take 0) HTL.out (fun h => absurd h (by omega)) (by simp; try omega) ?_; intro v1 W1 T1 G1; rw [List.nil_append] at T1; have X1 := G1 (w.heap.size + 1) 0 (.int .i64 x) (by simp [Value.ownBlock]) (one_newZ _ x _ (by simp)))
          | (refine step_appE (t := 22) (e := 3) (z := 1) (E := zE) Try.underlying22 infoZ rfl (by omega) (by omega) (fun _ => rfl) zE_one (by rfl) (.tmp 33) (.tmp 36) (by rfl) (W0 := w) (v := .slice (some ⟨w.heap.size + 1, 0, none⟩) 0 0) (by rfl) (by rfl) (by exact TE.empty ((below_drewN (Below.refl _ w) _).alloc (by simp) _) _ (by simp)) (L.take 0) HTL.out (fun h => absurd h (by omega)) (by simp; try omega) ?_; intro v1 W1 T1 G1; rw [List.nil_append] at T1; have X1 := G1 w.heap.size 0 (.int .i64 x) (by simp [Value.ownBlock]) (below_cell ((Below.refl _ _).alloc (Nat.le_refl _) _) _ _ (one_newZ _ x _ (by simp))))
          | (refine step_appE (t := 22) (e := 3) (z := 1) (E := zE) Try.underlying22 infoZ rfl (by omega) (by omega) (fun _ => rfl) zE_one (by rfl) (.tmp 37) (.tmp 39) (by rfl) (W0 := w) (v := v1) (by rfl) (by rfl) (by first | exact T1.alloc _ | exact T1) [x] (by rfl) (one_srcZ (by first | exact one_newZ _ _ _ (by rfl) | exact X1)) (by rw [HTL.out]; omega) ?_; intro v2 W2 T2 G2)
          | (refine step_appE (t := 22) (e := 3) (z := 1) (E := zE) Try.underlying22 infoZ rfl (by omega) (by omega) (fun _ => rfl) zE_one (by rfl) (.tmp 40) (.tmp 43) (by rfl) (W0 := w) (v := v2) (by rfl) (by rfl) (by exact T2) (L.drop 0) HTD.out (fun h => absurd h (by omega)) (by rw [List.length_append, HTL.out]; simp; try omega) ?_; intro v3 W3 T3 G3))
        all_goals
          have ST : Hid (PutPost W0 L x w (.returned v3) W3) := HPP.out v3 W3 (by simpa using T3)
          clear T1 T2 T3 G1 G2 G3
          try clear X1
          go_wp2_with fail
          go_ret
          exact ST.out
end Go.Proofs.Ytmhiilfjckadkaa
/-
  The strata that read, that write a flag, as the document has them. (Written by RRef6.py.)
-/
set_option linter.unusedSimpArgs false
set_option linter.unusedVariables false
namespace Go.Proofs.Ytmhiilfjckadkaa
open Go.RowKit
set_option maxRecDepth 100000
namespace Rp
theorem nodup_le : ∀ {L M : List Int}, L.Pairwise (· < ·) → (∀ y ∈ L, y ∈ M) → L.length ≤ M.length
  | [], M, _, _ => Nat.zero_le _
  | x :: L, M, h, hm => by
    have hx := hm x (List.mem_cons_self ..)
    rw [List.pairwise_cons] at h
    have := nodup_le (L := L) (M := M.erase x) h.2 (fun y hy => (List.mem_erase_of_ne (by have := h.1 y hy; omega)).2 (hm y (List.mem_cons_of_mem _ hy)))
    rw [List.length_erase_of_mem hx] at this
    have := List.length_pos_of_mem hx
    simp only [List.length_cons]
    omega
theorem strata_le {p : Prog} {L : List Int} (h : L.Pairwise (· < ·)) (hm : ∀ y ∈ L, ∃ r ∈ p.rules, r.1 = y) : L.length ≤ p.rules.length := by
  have := nodup_le (M := p.rules.map fun r => r.1) h (fun y hy => by
    obtain ⟨r, hr, e⟩ := hm y hy
    exact List.mem_map.2 ⟨r, hr, e⟩)
  rwa [List.length_map] at this
end Rp
theorem zrow_ze {W0 W : World} {v : Value} {L : List Int} (h : ZE W0 W v L) (hl : L.length ≤ 100000) : ZRow W v L := by
  obtain ⟨ob, oc, rfl, hoc, g, hg1, hg0, hgc⟩ := te_form h
  refine ⟨g, 0, ⟨ob, oc, rfl, hoc, hg1⟩, by omega, fun i x hx => ?_⟩
  rw [Nat.zero_add]
  exact hgc i _ (by rw [zE_flat, List.getElem?_map, hx]; rfl)
/-- What the document's Reads and Writes answer. -/
def DPost (S : Int → Prop) (w : World) (e : Ending) (w' : World) : Prop := ∃ v L, e = .returned v ∧ ZRow w' v L ∧ Rp.Sets L S ∧ Below w.heap.size w w'
/-- A row under way that rises and holds what a set holds. -/
def GotS (w wr : World) (v : Value) (S : Int → Prop) : Prop := ∃ L, ZE w wr v L ∧ L.Pairwise (· < ·) ∧ ∀ y, y ∈ L ↔ S y
theorem GotS.iff {w wr : World} {v : Value} {S T : Int → Prop} (h : GotS w wr v S) (hi : ∀ y, S y ↔ T y) : GotS w wr v T := by
  obtain ⟨L, h1, h2, h3⟩ := h
  exact ⟨L, h1, h2, fun y => (h3 y).trans (hi y)⟩
theorem GotS.slice {w wr : World} {v : Value} {S : Int → Prop} (h : GotS w wr v S) : ∃ ao n c, v = .slice ao n c := by
  obtain ⟨L, h1, h2, h3⟩ := h
  obtain ⟨ob, oc, rfl, _⟩ := te_form h1
  exact ⟨_, _, _, rfl⟩
theorem GotS.below {w wr : World} {v : Value} {S : Int → Prop} (h : GotS w wr v S) : Below w.heap.size w wr := by
  obtain ⟨L, h1, h2, h3⟩ := h
  exact h1.below
theorem GotS.put {w wr : World} {v : Value} {S T : Int → Prop} {p : Rp.Prog} {s : Int} (h : GotS w wr v S) (hl : p.rules.length ≤ 90000) (hS : ∀ y, S y → ∃ r ∈ p.rules, r.1 = y) (hT : ∀ y, T y ↔ S y ∨ y = s) :
    Calls Try.prog 36 #[v, .int .i64 s] wr fun e w' => ∃ v', e = .returned v' ∧ GotS w w' v' T ∧ Below wr.heap.size wr w' := by
  obtain ⟨L, h1, h2, h3⟩ := h
  have := Rp.strata_le h2 (fun y hy => hS y ((h3 y).1 hy))
  refine (putD wr w v L s h1 h2 (by omega)).mono ?_
  rintro e w' ⟨v', L', rfl, k1, k2, k3, k4, k5⟩
  exact ⟨v', rfl, ⟨L', k1, k2, fun y => by rw [k3, hT, h3]⟩, k5⟩
theorem GotS.done {w wr : World} {v : Value} {S T : Int → Prop} {p : Rp.Prog} (h : GotS w wr v S) (hl : p.rules.length ≤ 90000) (hS : ∀ y, S y → ∃ r ∈ p.rules, r.1 = y) (hT : ∀ y, S y ↔ T y) : DPost T w (.returned v) wr := by
  obtain ⟨L, h1, h2, h3⟩ := h
  have := Rp.strata_le h2 (fun y hy => hS y ((h3 y).1 hy))
  exact ⟨v, L, rfl, zrow_ze h1 (by omega), ⟨h2, fun y => (h3 y).trans (hT y)⟩, h1.below⟩
theorem sk_mem {p : Rp.Prog} {k : Nat} {f y : Int} (h : Rp.SK p k f y) : ∃ r ∈ p.rules, r.1 = y := by
  obtain ⟨i, r, _, hr, hs, _⟩ := h
  exact ⟨r, List.mem_of_getElem? hr, hs⟩
set_option maxHeartbeats 8000000 in
theorem refReads (w : World) (A : PA) (p : Rp.Prog) (h : ProgAt w A p) (f : Int) (hsm : p.rules.length ≤ 90000) :
    Calls Try.prog 13 #[.agg #[.int .i64 p.flags, .int .i64 p.lasting, .slice A.a2 p.first.length A.c2, .slice A.a3 p.over.length A.c3, .int .i64 p.frm, .slice A.a5 p.files.length A.c5, .slice A.a6 p.rules.length A.c6, .slice A.a7 p.ctrs.length A.c7, .slice A.a8 p.users.length A.c8, .slice A.a9 p.notes.length A.c9], .int .i64 f] w (DPost (Rp.ReadsS p f) w) := by
  obtain ⟨a2, c2, a3, c3, a5, c5, a6, c6, a7, c7, a8, c8, a9, c9⟩ := A
  show Calls _ _ #[.agg #[.int .i64 p.flags, .int .i64 p.lasting, .slice a2 p.first.length c2, .slice a3 p.over.length c3, .int .i64 p.frm, .slice a5 p.files.length c5, .slice a6 p.rules.length c6, .slice a7 p.ctrs.length c7, .slice a8 p.users.length c8, .slice a9 p.notes.length c9], _] w _
  have B0 := hideT ((Below.refl w.heap.size w).alloc (Nat.le_refl _) (.cells #[.int .i64 p.flags, .int .i64 p.lasting, .slice a2 p.first.length c2, .slice a3 p.over.length c3, .int .i64 p.frm, .slice a5 p.files.length c5, .slice a6 p.rules.length c6, .slice a7 p.ctrs.length c7, .slice a8 p.users.length c8, .slice a9 p.notes.length c9] 29))
  have L0 := hideT (PBox.newC w a2 a3 a5 a6 a7 a8 a9 c2 c3 c5 c6 c7 c8 c9 p)
  obtain ⟨_, hl, _, b, o, ha, hc⟩ := rrow_at (show RRow w (.slice a6 p.rules.length c6) p.rules from h.rules)
  have HC := hideT hc
  have HA := hideT ha
  clear hc ha h
  go_enter Try.func13, Try.ntmps13
  go_wp2_with fail
  go_loopw [5, 6] (fun x i wr => ∃ k : Nat, k ≤ p.rules.length ∧ i = .int .i64 k ∧ Hid (PBox wr w.heap.size ⟨a2, c2, a3, c3, a5, c5, a6, c6, a7, c7, a8, c8, a9, c9⟩ p) ∧ Hid (GotS w wr x (Rp.SK p k f))) (fun _ i _ => p.rules.length - (intOf i).toNat)
  case atStart => exact ⟨0, by omega, rfl, L0, [], TE.none B0.out, List.Pairwise.nil, fun y => ⟨fun h => (by cases h), fun ⟨i, r, hi, _⟩ => absurd hi (by omega)⟩⟩
  case round =>
    obtain ⟨k, hk, rfl, HX, HG⟩ := hrel
    obtain ⟨oad, on, ocap, ho⟩ := HG.out.slice
    subst ho
    obtain ⟨x0, x1, x2, x3, x4, x5, x6, x7, x8, x9⟩ := HX.out.cellsC
    have t0 : (0 : Int) ≤ (k : Int) := by omega
    by_cases hlt : k < p.rules.length
    · obtain ⟨⟨s, l1, l2, l3⟩, hx⟩ := Mp.at_lt (l := p.rules) (k := k) hlt
      obtain ⟨i1, n1, i2, n2, i3, n3, I0⟩ := HC.out k _ hx
      obtain ⟨_, hln, _, bq, oq, haq, hcq⟩ := lrow_at (show LRow w (.slice i1 l1.length n1) l1 from I0.ifs)
      obtain rfl := HA.out (by omega)
      have HX0 := hideT hx
      have HI := hideT I0
      have HCQ := hideT hcq
      have HAQ := hideT haq
      have t1 : (k : Int) < (p.rules.length : Int) := by omega
      have HG2 : Hid (GotS w wr (.slice oad on ocap) (fun y => Rp.SK p k f y ∨ Rp.SJ l1 s 0 f y)) := HG.out.iff (fun y => ⟨fun h => .inl h, fun h => h.elim id (fun h => (Rp.sj_zero f y h).elim)⟩)
      clear hx I0 hcq haq
      clear x0 x1 x2 x3 x4 x5 x7 x8 x9
      go_wp2_with fail
      clear x6
      go_loopw [5, 7] (fun x i wr => ∃ t : Nat, t ≤ l1.length ∧ i = .int .i64 t ∧ Hid (PBox wr w.heap.size ⟨a2, c2, a3, c3, a5, c5, some ⟨b, o, none⟩, c6, a7, c7, a8, c8, a9, c9⟩ p) ∧ Hid (GotS w wr x (fun y => Rp.SK p k f y ∨ Rp.SJ l1 s t f y))) (fun _ i _ => l1.length - (intOf i).toNat)
      case atStart => exact ⟨0, by omega, rfl, HX, HG2⟩
      case round =>
        obtain ⟨t, ht, rfl, HY, HH⟩ := hrel
        obtain ⟨pad, pn, pcap, hp⟩ := HH.out.slice
        subst hp
        obtain ⟨x0, x1, x2, x3, x4, x5, x6, x7, x8, x9⟩ := HY.out.cellsC
        have BW := hideT HH.out.below
        obtain ⟨r1, r2, r3, d0, d1, d2, d3⟩ := HI.out.turn (below_cell BW.out)
        dsimp only at r1 r2 r3 d0 d1 d2 d3
        clear r1 r2 r3 x0 x1 x2 x3 x4 x5 x7 x8 x9
        have HSM : Hid (∀ y, (Rp.SK p k f y ∨ Rp.SJ l1 s t f y) → ∃ r ∈ p.rules, r.1 = y) := fun y hy => by
          rcases hy with hy | ⟨rfl, _⟩
          · exact sk_mem hy
          · exact ⟨_, List.mem_of_getElem? HX0.out, rfl⟩
        have t2 : (0 : Int) ≤ (t : Int) := by omega
        by_cases htl : t < l1.length
        · obtain ⟨⟨f0, f1⟩, hy⟩ := Mp.at_lt (l := l1) (k := t) htl
          obtain ⟨e0, e1⟩ := HCQ.out t _ hy
          dsimp only at e0 e1
          have e0 := below_cell BW.out _ _ e0
          clear e1
          obtain rfl := HAQ.out (by omega)
          have HY0 := hideT hy
          clear hy
          have t3 : (t : Int) < (l1.length : Int) := by omega
          by_cases he : f0 = f
          · have t4 : (f0 == f) = true := by simp [he]
            have HT : Hid (∀ y, (Rp.SK p k f y ∨ Rp.SJ l1 s (t + 1) f y) ↔ (Rp.SK p k f y ∨ Rp.SJ l1 s t f y) ∨ y = s) := fun y => by
              rw [Rp.sj_step HY0.out, or_assoc]
              simp [he]
            clear he
            go_wp2_with fail
            refine (GotS.put HH.out hsm HSM.out HT.out).mono ?_
            rintro e w2 ⟨v2, rfl, g2, b2⟩
            obtain ⟨qad, qn, qcap, hq⟩ := g2.slice
            subst hq
            have HG3 := hideT g2
            have HY3 := hideT (HY.out.below b2)
            clear g2 b2 d0 d1 d2 d3 e0 x6
            go_wp2_with fail
            refine ⟨⟨t + 1, by omega, by go_num, HY3, HG3⟩, ?_⟩
            first | omega | (simp [intOf]; omega)
          · have t4 : (f0 == f) = false := beq_eq_false_iff_ne.2 he
            have HG3 : Hid (GotS w wr (.slice pad pn pcap) (fun y => Rp.SK p k f y ∨ Rp.SJ l1 s (t + 1) f y)) := HH.out.iff (fun y => by
              rw [Rp.sj_step HY0.out, ← or_assoc]
              exact ⟨fun h => .inl h, fun h => h.elim id (fun h => absurd h.1.symm he)⟩)
            clear he
            go_wp2_with fail
            refine ⟨⟨t + 1, by omega, by go_num, HY, HG3⟩, ?_⟩
            first | omega | (simp [intOf]; omega)
        · have t3 : ¬ (t : Int) < (l1.length : Int) := by omega
          have HG3 : Hid (GotS w wr (.slice pad pn pcap) (Rp.SK p (k + 1) f)) := HH.out.iff (fun y => (Rp.sk_step HX0.out (j := t) (by show l1.length ≤ t; omega) f y).symm)
          go_wp2_with fail
          refine ⟨⟨k + 1, by omega, by go_num, HY, HG3⟩, ?_⟩
          first | omega | (simp [intOf]; omega)
    · have t1 : ¬ (k : Int) < (p.rules.length : Int) := by omega
      have HD : Hid (DPost (Rp.ReadsS p f) w (.returned (.slice oad on ocap)) wr) := HG.out.done hsm (fun y hy => sk_mem hy) (fun y => Rp.sk_all p (by omega) f y)
      go_wp2_with fail
      go_ret
      exact HD.out
theorem sw_mem {p : Rp.Prog} {k : Nat} {f y : Int} (h : Rp.SW p k f y) : ∃ r ∈ p.rules, r.1 = y := by
  obtain ⟨i, r, _, hr, hs, _⟩ := h
  exact ⟨r, List.mem_of_getElem? hr, hs⟩
set_option maxHeartbeats 8000000 in
theorem refWrites (w : World) (A : PA) (p : Rp.Prog) (h : ProgAt w A p) (f : Int) (hsm : p.rules.length ≤ 90000) :
    Calls Try.prog 15 #[.agg #[.int .i64 p.flags, .int .i64 p.lasting, .slice A.a2 p.first.length A.c2, .slice A.a3 p.over.length A.c3, .int .i64 p.frm, .slice A.a5 p.files.length A.c5, .slice A.a6 p.rules.length A.c6, .slice A.a7 p.ctrs.length A.c7, .slice A.a8 p.users.length A.c8, .slice A.a9 p.notes.length A.c9], .int .i64 f] w (DPost (Rp.WritesS p f) w) := by
  obtain ⟨a2, c2, a3, c3, a5, c5, a6, c6, a7, c7, a8, c8, a9, c9⟩ := A
  show Calls _ _ #[.agg #[.int .i64 p.flags, .int .i64 p.lasting, .slice a2 p.first.length c2, .slice a3 p.over.length c3, .int .i64 p.frm, .slice a5 p.files.length c5, .slice a6 p.rules.length c6, .slice a7 p.ctrs.length c7, .slice a8 p.users.length c8, .slice a9 p.notes.length c9], _] w _
  have B0 := hideT ((Below.refl w.heap.size w).alloc (Nat.le_refl _) (.cells #[.int .i64 p.flags, .int .i64 p.lasting, .slice a2 p.first.length c2, .slice a3 p.over.length c3, .int .i64 p.frm, .slice a5 p.files.length c5, .slice a6 p.rules.length c6, .slice a7 p.ctrs.length c7, .slice a8 p.users.length c8, .slice a9 p.notes.length c9] 29))
  have L0 := hideT (PBox.newC w a2 a3 a5 a6 a7 a8 a9 c2 c3 c5 c6 c7 c8 c9 p)
  obtain ⟨_, hl, _, b, o, ha, hc⟩ := rrow_at (show RRow w (.slice a6 p.rules.length c6) p.rules from h.rules)
  have HC := hideT hc
  have HA := hideT ha
  clear hc ha h
  go_enter Try.func15, Try.ntmps15
  go_wp2_with fail
  go_loopw [5, 6] (fun x i wr => ∃ k : Nat, k ≤ p.rules.length ∧ i = .int .i64 k ∧ Hid (PBox wr w.heap.size ⟨a2, c2, a3, c3, a5, c5, a6, c6, a7, c7, a8, c8, a9, c9⟩ p) ∧ Hid (GotS w wr x (Rp.SW p k f))) (fun _ i _ => p.rules.length - (intOf i).toNat)
  case atStart => exact ⟨0, by omega, rfl, L0, [], TE.none B0.out, List.Pairwise.nil, fun y => ⟨fun h => (by cases h), fun ⟨i, r, hi, _⟩ => absurd hi (by omega)⟩⟩
  case round =>
    obtain ⟨k, hk, rfl, HX, HG⟩ := hrel
    obtain ⟨oad, on, ocap, ho⟩ := HG.out.slice
    subst ho
    obtain ⟨x0, x1, x2, x3, x4, x5, x6, x7, x8, x9⟩ := HX.out.cellsC
    have t0 : (0 : Int) ≤ (k : Int) := by omega
    by_cases hlt : k < p.rules.length
    · obtain ⟨⟨s, l1, l2, l3⟩, hx⟩ := Mp.at_lt (l := p.rules) (k := k) hlt
      obtain ⟨i1, n1, i2, n2, i3, n3, I0⟩ := HC.out k _ hx
      obtain ⟨_, hln, _, bq, oq, haq, hcq⟩ := lrow_at (show LRow w (.slice i3 l3.length n3) l3 from I0.thens)
      obtain rfl := HA.out (by omega)
      have HX0 := hideT hx
      have HI := hideT I0
      have HCQ := hideT hcq
      have HAQ := hideT haq
      have t1 : (k : Int) < (p.rules.length : Int) := by omega
      have HG2 : Hid (GotS w wr (.slice oad on ocap) (fun y => Rp.SW p k f y ∨ Rp.SJ l3 s 0 f y)) := HG.out.iff (fun y => ⟨fun h => .inl h, fun h => h.elim id (fun h => (Rp.sj_zero f y h).elim)⟩)
      clear hx I0 hcq haq
      clear x0 x1 x2 x3 x4 x5 x7 x8 x9
      go_wp2_with fail
      clear x6
      go_loopw [5, 7] (fun x i wr => ∃ t : Nat, t ≤ l3.length ∧ i = .int .i64 t ∧ Hid (PBox wr w.heap.size ⟨a2, c2, a3, c3, a5, c5, some ⟨b, o, none⟩, c6, a7, c7, a8, c8, a9, c9⟩ p) ∧ Hid (GotS w wr x (fun y => Rp.SW p k f y ∨ Rp.SJ l3 s t f y))) (fun _ i _ => l3.length - (intOf i).toNat)
      case atStart => exact ⟨0, by omega, rfl, HX, HG2⟩
      case round =>
        obtain ⟨t, ht, rfl, HY, HH⟩ := hrel
        obtain ⟨pad, pn, pcap, hp⟩ := HH.out.slice
        subst hp
        obtain ⟨x0, x1, x2, x3, x4, x5, x6, x7, x8, x9⟩ := HY.out.cellsC
        have BW := hideT HH.out.below
        obtain ⟨r1, r2, r3, d0, d1, d2, d3⟩ := HI.out.turn (below_cell BW.out)
        dsimp only at r1 r2 r3 d0 d1 d2 d3
        clear r1 r2 r3 x0 x1 x2 x3 x4 x5 x7 x8 x9
        have HSM : Hid (∀ y, (Rp.SW p k f y ∨ Rp.SJ l3 s t f y) → ∃ r ∈ p.rules, r.1 = y) := fun y hy => by
          rcases hy with hy | ⟨rfl, _⟩
          · exact sw_mem hy
          · exact ⟨_, List.mem_of_getElem? HX0.out, rfl⟩
        have t2 : (0 : Int) ≤ (t : Int) := by omega
        by_cases htl : t < l3.length
        · obtain ⟨⟨f0, f1⟩, hy⟩ := Mp.at_lt (l := l3) (k := t) htl
          obtain ⟨e0, e1⟩ := HCQ.out t _ hy
          dsimp only at e0 e1
          have e0 := below_cell BW.out _ _ e0
          clear e1
          obtain rfl := HAQ.out (by omega)
          have HY0 := hideT hy
          clear hy
          have t3 : (t : Int) < (l3.length : Int) := by omega
          by_cases he : f0 = f
          · have t4 : (f0 == f) = true := by simp [he]
            have HT : Hid (∀ y, (Rp.SW p k f y ∨ Rp.SJ l3 s (t + 1) f y) ↔ (Rp.SW p k f y ∨ Rp.SJ l3 s t f y) ∨ y = s) := fun y => by
              rw [Rp.sj_step HY0.out, or_assoc]
              simp [he]
            clear he
            go_wp2_with fail
            refine (GotS.put HH.out hsm HSM.out HT.out).mono ?_
            rintro e w2 ⟨v2, rfl, g2, b2⟩
            obtain ⟨qad, qn, qcap, hq⟩ := g2.slice
            subst hq
            have HG3 := hideT g2
            have HY3 := hideT (HY.out.below b2)
            clear g2 b2 d0 d1 d2 d3 e0 x6
            go_wp2_with fail
            refine ⟨⟨t + 1, by omega, by go_num, HY3, HG3⟩, ?_⟩
            first | omega | (simp [intOf]; omega)
          · have t4 : (f0 == f) = false := beq_eq_false_iff_ne.2 he
            have HG3 : Hid (GotS w wr (.slice pad pn pcap) (fun y => Rp.SW p k f y ∨ Rp.SJ l3 s (t + 1) f y)) := HH.out.iff (fun y => by
              rw [Rp.sj_step HY0.out, ← or_assoc]
              exact ⟨fun h => .inl h, fun h => h.elim id (fun h => absurd h.1.symm he)⟩)
            clear he
            go_wp2_with fail
            refine ⟨⟨t + 1, by omega, by go_num, HY, HG3⟩, ?_⟩
            first | omega | (simp [intOf]; omega)
        · have t3 : ¬ (t : Int) < (l3.length : Int) := by omega
          have HG3 : Hid (GotS w wr (.slice pad pn pcap) (Rp.SW p (k + 1) f)) := HH.out.iff (fun y => (Rp.sw_step HX0.out (j := t) (by show l3.length ≤ t; omega) f y).symm)
          go_wp2_with fail
          refine ⟨⟨k + 1, by omega, by go_num, HY, HG3⟩, ?_⟩
          first | omega | (simp [intOf]; omega)
    · have t1 : ¬ (k : Int) < (p.rules.length : Int) := by omega
      have HD : Hid (DPost (Rp.WritesS p f) w (.returned (.slice oad on ocap)) wr) := HG.out.done hsm (fun y hy => sw_mem hy) (fun y => Rp.sw_all p (by omega) f y)
      go_wp2_with fail
      go_ret
      exact HD.out
end Go.Proofs.Ytmhiilfjckadkaa
