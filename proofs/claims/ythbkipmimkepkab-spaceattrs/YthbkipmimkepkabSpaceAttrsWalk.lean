/-
  SpaceAttrs: attributes without a prefix stay, in order; those that name spaces go.
-/
import Derived.Test.YthbkipmimkepkabSKnown
import Derived.Test.YthbkipmimkepkabSSameA
import Derived.Test.YthbkipmimkepkabRefIs
set_option linter.unusedSimpArgs false
set_option linter.unusedVariables false
namespace Go.Proofs.Ythbkipmimkepkab
open Go.RowKit
/-- A row of texts. -/
def TRow (w : World) (v : Value) (l : List ByteArray) : Prop := ∃ b o, Row v l.length b o ∧ l.length ≤ maxLen ∧ (∀ s ∈ l, s.size ≤ maxLen) ∧ ∀ i s, l[i]? = some s → w.cell? ⟨b, o + i, none⟩ = some (.string s)
theorem isRef_v (s : ByteArray) (w : World) (hs : s.size ≤ maxLen) (b : Bool) (h : Hid (Sp.isB s.data.toList = b)) :
    Calls Try.prog 4 #[.string s] w fun e w' => e = .returned (.bool b) ∧ w' = w := by
  have := isRef_any s w hs
  rw [h.out] at this
  exact this
theorem sp_a1 : splitB ⟨#[97]⟩ = (e0, ⟨#[97]⟩) := by kernel_rfl
/-- Names that are plain. -/
def Fair (l : List ByteArray) : Prop := ∀ s ∈ l, Sp.isB s.data.toList = true ∧ s ≠ xmlnsB
theorem split_plain {s : ByteArray} (h : Sp.isB s.data.toList = true) : splitB s = (e0, s) := by
  have := splitB_one s.data.toList (by rw [Sp.indexByte_without 58 _ (Sp.isB_no_colon _ h)]; decide)
  rw [show (⟨s.data.toList.toArray⟩ : ByteArray) = s from ofB_data s] at this
  exact this
theorem enter_plain (u : ByteArray) : ∀ (l : List ByteArray) (s : St), Fair l → enterP s (l.map fun x => (x, u)) = some (s.1, s.2.1, s.2.2 ++ l.map fun x => (x, u))
  | [], s, _ => by simp [enterP]
  | a :: l, s, h => by
    obtain ⟨h1, h2⟩ := h a List.mem_cons_self
    have hs : stepP s (a, u) = some (s.1, s.2.1, s.2.2 ++ [(a, u)]) := by
      unfold stepP
      rw [if_neg h2, split_plain h1, if_pos rfl]
    rw [List.map_cons, enter_step _ hs, enter_plain u l _ (fun x hx => h x (List.mem_cons_of_mem _ hx))]
    simp
def atT (l : List ByteArray) (u : ByteArray) : Tr := Xp.mkT ⟨#[97]⟩ ((xmlnsB, u) :: l.map fun x => (x, u)) [] 0
def atN (l : List ByteArray) (u : ByteArray) : Tr := mkN u ⟨#[97]⟩ (l.map fun x => (x, u)) [] 0
theorem res_at (l : List ByteArray) (u : ByteArray) (h : Fair l) : resP 1 G0 (atT l u) = .ok (atN l u) := by
  unfold atT atN
  rw [resP_mk]
  unfold resT
  have hs : stepP (G0, [], []) (xmlnsB, u) = some (upd G0 e0 (u, true), [(e0, G0 e0)], []) := by
    unfold stepP
    rw [if_pos rfl]
    rfl
  rw [enter_step _ hs, enter_plain u l _ h]
  simp only [sp_a1, upd_same, if_true, kidsP, List.nil_append]
theorem fair_size {l : List ByteArray} (h : Fair l) : ∀ s ∈ l, s.size ≤ 12 := by
  intro s hs
  have := (Sp.isB_mem _ (h s hs).1).2.1
  simpa using this
theorem map_size {l : List ByteArray} {u : ByteArray} {n m : Nat} (h : ∀ s ∈ l, s.size ≤ n) (hu : u.size ≤ m) : ∀ p ∈ l.map (fun x => (x, u)), p.1.size ≤ n ∧ p.2.size ≤ m := by
  intro p hp
  obtain ⟨x, hx, rfl⟩ := List.mem_map.1 hp
  exact ⟨h x hx, hu⟩
theorem take_add {α : Type} {l : List α} {k : Nat} {a : α} (h : l[k]? = some a) : l.take (k + 1) = l.take k ++ [a] := by
  rw [List.take_add_one, h]
  rfl
theorem grown_lies {w w' : World} {k : Nat} {t : TypeId} {C : Array Value} {row : Option Nat} (h : Lies w k t C) (hg : w.grownBy w' row) (hn : row ≠ some k) : Lies w' k t C := by
  unfold Lies at *
  rw [hg.block k (Lies.lt (t := t) (C := C) h) (fun e => hn e.symm), h]
theorem sameAttrs_eq (w : World) (va vb : Value) (la : List Att) (ha : ARow w va la) (hb : ARow w vb la) :
    Calls Try.prog 6 #[va, vb] w fun e w' => e = .returned (.bool true) ∧ Below w.heap.size w w' := by
  have := sameAttrs_any w va vb la la ha hb
  rw [decide_eq_true (p := la = la) rfl] at this
  exact this
theorem flatA_one : ∀ (l : List Att), ∀ v ∈ flatA l, v.oneCell' = true
  | [], v, h => by cases h
  | a :: l, v, h => by
    rw [flatA_cons] at h
    rcases List.mem_cons.1 h with rfl | h
    · rfl
    · rcases List.mem_cons.1 h with rfl | h
      · rfl
      · exact flatA_one l v h
theorem add_plainS (b k : Nat) : (⟨b, 0, none⟩ : Addr).add k = ⟨b, k, none⟩ := by
  unfold Addr.add
  split
  · rename_i h
    rw [h]
  · simp
theorem below_al {w W : World} (h : Below w.heap.size w W) (o : Obj) : Below w.heap.size w (W.alloc o) := h.alloc h.size o
set_option maxHeartbeats 4000000 in
theorem spaceAttrs_walk (l : List ByteArray) (sv : Value) (u : ByteArray) (hu : u.size ≤ maxLen) (w : World) (hl : TRow w sv l) (hok : OkS w) :
    Calls Try.prog 3 #[sv, .string u] w fun e w' => e = .returned (.bool true) ∧ Below w.heap.size w w' := by
  obtain ⟨b, o, ⟨ao, cap, rfl, hao⟩, hlm, hsz, hc⟩ := hl
  unfold maxLen at hlm
  by_cases h1 : (l.length : Int) > 8
  · go_enter Try.func3, Try.ntmps3
    go_wp2_with fail
    go_ret
    exact ⟨rfl, Below.refl _ _⟩
  by_cases h2 : (u.size : Int) > 50
  · go_enter Try.func3, Try.ntmps3
    go_wp2_with fail
    go_ret
    exact ⟨rfl, Below.refl _ _⟩
  obtain ⟨m, hm⟩ : ∃ m, m = l.length := ⟨_, rfl⟩
  have HM := hideT hm
  have HSZ := hideT hsz
  have HC := hideT hc
  have HAO := hideT hao
  have hm8 : m ≤ 8 := by omega
  have hu50 : u.size ≤ 50 := by omega
  rw [← hm] at h1 ⊢
  have HOK := hideT hok
  obtain ⟨i0, hi0, hz0, hz1, hz2⟩ := info_parts infoA
  clear hc hsz hao hlm hm hok
  obtain ⟨W, hW, BW, LA, LV, zW⟩ : ∃ W, (w.alloc (.cells #[.string xmlnsB, .string u] 24)).alloc (.cells #[.string ⟨#[97]⟩, .slice (some ⟨w.heap.size, 0, none⟩) 1 1, .slice none 0 0, .int .i64 0] 28) = W ∧ Below w.heap.size w W ∧ Lies W w.heap.size 24 #[.string xmlnsB, .string u] ∧ Lies W (w.heap.size + 1) 28 #[.string ⟨#[97]⟩, .slice (some ⟨w.heap.size, 0, none⟩) 1 1, .slice none 0 0, .int .i64 0] ∧ W.heap.size = w.heap.size + 1 + 1 := by
    obtain ⟨c1, d1, z1⟩ := of_alloc (rfl : w.alloc (.cells #[.string xmlnsB, .string u] 24) = _)
    obtain ⟨c2, d2, z2⟩ := of_alloc (rfl : (w.alloc (.cells #[.string xmlnsB, .string u] 24)).alloc (.cells #[.string ⟨#[97]⟩, .slice (some ⟨w.heap.size, 0, none⟩) 1 1, .slice none 0 0, .int .i64 0] 28) = _)
    rw [z1] at d2 z2
    exact ⟨_, rfl, c1.trans (c2.mono c1.size), d1.below c2, d2, z2⟩
  have HW := hideT hW
  have BW := hideT BW
  have LA := hideT LA
  have LV := hideT LV
  have ZW := hideT zW
  have hwW : w.heap.size ≤ W.heap.size := by omega
  clear hW zW
  go_enter Try.func3, Try.ntmps3
  go_wp2_with fail
  rw [HW.out]
  go_loopw [6, 7] (fun x i wr => ∃ k : Nat, k ≤ m ∧ i = .int .i64 k ∧ Hid (Below W.heap.size W wr) ∧ Hid (wr.ownsRow W.heap.size 24 2 x k (flatA ((l.take k).map fun y => (y, u)))) ∧ Hid (Fair (l.take k)) ∧ (k = 0 → x = nilS)) (fun _ i _ => m - (intOf i).toNat)
  case atStart => exact ⟨0, by omega, rfl, Below.refl _ _, World.ownsRow_nil _ _ _ _, (fun s hs => by simp at hs), fun _ => rfl⟩
  case round =>
    obtain ⟨k, hk, rfl, B1, O1, F1, hk0⟩ := hrel
    obtain ⟨oad, ocap, ho⟩ := slice_form O1.out
    subst ho
    have BwR : Hid (Below w.heap.size w wr) := BW.out.trans (B1.out.mono hwW)
    have hzr : W.heap.size ≤ wr.heap.size := B1.out.size
    by_cases hlt : k < m
    · obtain ⟨s, hs⟩ : ∃ s, l[k]? = some s := ⟨l[k]'(by have := HM.out; omega), List.getElem?_eq_getElem _⟩
      obtain rfl := HAO.out (by have := HM.out; omega)
      have q0 := HC.out k s hs
      have q0 := cell_below BwR.out rfl q0
      have hss := HSZ.out s (List.mem_of_getElem? hs)
      have HKS := hideT hs
      clear hs
      obtain ⟨bs, HB⟩ : ∃ b, Hid (Sp.isB s.data.toList = b) := ⟨_, rfl⟩
      cases bs
      case false =>
        go_wp2_with fail
        refine (isRef_v s wr hss false HB).mono ?_
        rintro e w1 ⟨rfl, rfl⟩
        go_wp2_with fail
        go_ret
        exact ⟨rfl, BwR.out⟩
      by_cases hX : s = xmlnsB
      · subst hX
        go_wp2_with fail
        refine (isRef_v xmlnsB wr hss true HB).mono ?_
        rintro e w1 ⟨rfl, rfl⟩
        go_wp2_with fail
        go_ret
        exact ⟨rfl, BwR.out⟩
      have t1 : ¬ s.toList = [120, 109, 108, 110, 115] := tl_ne xmlnsB _ hX rfl
      have t2 : (s.toList == [120, 109, 108, 110, 115]) = false := tl_beq xmlnsB _ hX rfl
      have HNX := hideT hX
      clear hX
      go_wp2_with fail
      refine (isRef_v s wr hss true HB).mono ?_
      rintro e w1 ⟨rfl, rfl⟩
      go_wp2_with (first | (at_builtin; refine wpList_append_lies _ (by rfl) _ _ _ (by rfl) W.heap.size 24 i0 _ 2 32 Try.underlying25 hi0 hz0 hz1 hz2 rfl (by omega) (.slice oad k ocap) k (flatA ((l.take k).map fun y => (y, u))) (by rfl) (O1.out.alloc _) ⟨w1.heap.size, 0, none⟩ 1 1 [.string s, .string u] (by rfl) (by rfl) (World.news_of_block (cs := #[.string s, .string u]) (t := 24) (fr := (0, 0)) (heap_alloc_new w1 _)) (by simp [Value.oneCell']) (by omega) (by unfold maxLen; omega) (by omega) (by first | (simp; done) | (simp; omega)) (w1.heap.size + 1) (by simp) ?_; intro gb cap2 w3 hown hgrow hat hlt3) | fail)
      have bA := (Below.refl w1.heap.size w1).alloc (Nat.le_refl _) (.cells #[.string s, .string u] 24)
      have B3 : Hid (Below W.heap.size W w3) := Keep.below (B1.out.trans (bA.mono hzr)) (Keep.grown hgrow) (fun i hi e => by have := (own_lt O1.out e).2; omega)
      have O3 : Hid (w3.ownsRow W.heap.size 24 2 (.slice (some ⟨gb, 0, none⟩) (k + 1) cap2) (k + 1) (flatA ((l.take (k + 1)).map fun y => (y, u)))) := by
        show World.ownsRow _ _ _ _ _ _ _
        rw [take_add HKS.out, List.map_append, flatA_app]
        exact hown
      have F3 : Hid (Fair (l.take (k + 1))) := by
        show Fair _
        rw [take_add HKS.out]
        intro y hy
        rcases List.mem_append.1 hy with hy | hy
        · exact F1.out y hy
        · rw [List.mem_singleton.1 hy]
          exact ⟨HB.out, HNX.out⟩
      refine ⟨⟨k + 1, by omega, by go_num, B3, O3, F3, fun h => by omega⟩, ?_⟩
      first | omega | (simp [intOf]; omega)
    · have hkm : l.take k = l := List.take_of_length_le (by have := HM.out; omega)
      have FL : Hid (Fair l) := by
        have := F1.out
        rw [hkm] at this
        exact this
      have OL : Hid (wr.ownsRow W.heap.size 24 2 (.slice oad k ocap) k (flatA (l.map fun y => (y, u)))) := by
        have := O1.out
        rw [hkm] at this
        exact this
      have hlz : ∀ y ∈ l, y.size ≤ 12 := fair_size FL.out
      have hll : (l.map fun x => (x, u)).length = k := by rw [List.length_map]; have := HM.out; omega
      have HLL := hideT hll
      have LAr := hideT (LA.out.below B1.out)
      have LVr := hideT (LV.out.below B1.out)
      have hZW := ZW.out
      have HF : Hid (fineT 1 (atT l u)) := fine_node (by decide) (fun q hq => by
        rcases List.mem_cons.1 hq with rfl | hq
        · exact ⟨(show xmlnsB.size ≤ _ by decide), (show u.size ≤ _ by omega)⟩
        · have := map_size (u := u) (m := 50) hlz hu50 q hq
          omega) (by simp)
      have HAN : Hid (2 * attN 1 (atT l u) ≤ 99999999) := by
        show _ ≤ _
        unfold atT
        rw [attN_mk]
        simp
        have := HM.out
        omega
      have hz1' : ∀ q ∈ (xmlnsB, u) :: l.map (fun x => (x, u)), q.1.size ≤ 140737488355328 ∧ q.2.size ≤ 140737488355328 := fun q hq => by
        rcases List.mem_cons.1 hq with rfl | hq
        · exact ⟨(show xmlnsB.size ≤ _ by decide), (show u.size ≤ _ by omega)⟩
        · have := map_size (u := u) (m := 50) hlz hu50 q hq
          omega
      have HZ1 := hideT hz1'
      have e1 : wr.cell? ⟨w.heap.size + 1, 1, none⟩ = some (.slice (some ⟨w.heap.size, 0, none⟩) 1 1) := LVr.out.cell 1
      have f1 : wr.frozen? ⟨w.heap.size + 1, 1, none⟩ = false := LVr.out.free 1
      clear hkm hll hz1'
      by_cases hk1 : k = 0
      · have hnil := hk0 hk1
        simp only [Value.slice.injEq] at hnil
        obtain ⟨rfl, _, rfl⟩ := hnil
        subst hk1
        have hl0 : l = [] := by
          have := HLL.out
          simpa using this
        obtain ⟨X, hX, bX, lX, eX⟩ : ∃ X, wr.setCell ⟨w.heap.size + 1, 1, none⟩ (.slice (some ⟨w.heap.size, 0, none⟩) 1 1) = X ∧ Below w.heap.size w X ∧ Lies X (w.heap.size + 1) 28 #[.string ⟨#[97]⟩, .slice (some ⟨w.heap.size, 0, none⟩) 1 1, .slice none 0 0, .int .i64 0] ∧ Lies X w.heap.size 24 #[.string xmlnsB, .string u] :=
          ⟨_, rfl, BwR.out.setCell (by show w.heap.size ≤ w.heap.size + 1; omega) _, LVr.out.set 1 _, LAr.out.off _ _ (by show w.heap.size ≠ w.heap.size + 1; omega)⟩
        have BX := hideT bX
        have LX := hideT lX
        have AX : Hid (ARow X (.slice (some ⟨w.heap.size, 0, none⟩) 1 1) ((xmlnsB, u) :: l.map fun y => (y, u))) := by
          show ARow _ _ _
          rw [hl0]
          exact ARow.lies eX _ rfl (by simp) (att_one (by decide) (by omega)) _ _ rfl
        have WX : Hid (ARow X nilS (l.map fun y => (y, u))) := by
          show ARow _ _ _
          rw [hl0]
          exact ARow.nil _
        clear hl0
        clear bX lX eX
        have x0 : X.cell? ⟨w.heap.size + 1, 0, none⟩ = some (.string ⟨#[97]⟩) := LX.out.cell 0
        have x1 : X.cell? ⟨w.heap.size + 1, 1, none⟩ = some (.slice (some ⟨w.heap.size, 0, none⟩) 1 1) := LX.out.cell 1
        have x2 : X.cell? ⟨w.heap.size + 1, 2, none⟩ = some (.slice none 0 0) := LX.out.cell 2
        have x3 : X.cell? ⟨w.heap.size + 1, 3, none⟩ = some (.int .i64 0) := LX.out.cell 3
        go_wp2_with fail
        try rw [hX]
        refine (ResolveD X 1 _ _ _ _ (atT l u) (HOK.out.below BX.out HOK.out.lt) (EIn.leaf 0 _ _ _ _ (by decide) AX.out) HF.out HAN.out).mono ?_
        rintro e w2 ⟨b2, ee, eo⟩
        clear ee
        obtain ⟨c0, c1, c2, c3, c4, rfl, t1⟩ := eo _ (res_at l u FL.out)
        obtain ⟨rfl, rfl, rfl, ar, ⟨ad, ac, rfl⟩, rb, ro, ka, kc, rfl, _, _⟩ := t1.inv
        have BY := (Below.refl w2.heap.size w2).alloc (Nat.le_refl _) (.cells #[.string u, .string ⟨#[97]⟩, .slice ad (l.map fun x => (x, u)).length ac, .slice ka 0 kc, .int .i64 0] 32)
        have LY := Lies.new w2 32 #[.string u, .string ⟨#[97]⟩, .slice ad (l.map fun x => (x, u)).length ac, .slice ka 0 kc, .int .i64 0]
        have AR := hideT (ar.toARow.below BY)
        have AW := hideT (WX.out.below (b2.trans (BY.mono b2.size)))
        have BF := hideT (BX.out.trans ((b2.trans (BY.mono b2.size)).mono BX.out.size))
        obtain ⟨ln, hln⟩ : ∃ ln, (l.map fun x => (x, u)).length = ln := ⟨_, rfl⟩
        rw [hln] at LY BF AR AW ⊢
        have p2 := LY.cell 2
        simp only [List.getElem?_toArray, List.getElem?_cons_zero, List.getElem?_cons_succ] at p2
        have HO := hideT (HOK.out.below BF.out HOK.out.lt)
        clear eo t1 ar BY LY b2 hln x0 x1 x2 x3
        go_wp2_with fail
        refine (sameAttrs_eq _ _ _ _ AR.out AW.out).mono ?_
        rintro e w5 ⟨rfl, b5⟩
        have B5 := hideT (BF.out.trans (b5.mono BF.out.size))
        have H5 := hideT (HO.out.below b5 HO.out.lt)
        clear b5
        go_wp2_with fail
        refine (knownS _ H5.out).mono ?_
        rintro e w9 ⟨rfl, b9⟩
        go_wp2_with fail
        go_ret
        exact ⟨rfl, B5.out.trans (b9.mono B5.out.size)⟩
      · have hkp : 0 < k := by omega
        obtain ⟨g, gcap, hv, _, hg⟩ := OL.out.form hkp
        simp only [Value.slice.injEq, true_and] at hv
        obtain ⟨rfl, rfl⟩ := hv
        have hgz := own_lt OL.out (g := g) rfl
        have OA : Hid (wr.ownsRow w.heap.size 24 2 (.slice (some ⟨w.heap.size, 0, none⟩) 1 1) 1 [.string xmlnsB, .string u]) := ⟨rfl, .inr ⟨w.heap.size, 1, #[.string xmlnsB, .string u], rfl, Nat.le_refl _, LAr.out, by omega, by unfold maxLen; omega, rfl, rfl⟩⟩
        have hfl : (flatA (l.map fun y => (y, u))).length = k * 2 := by rw [flatA_len, HLL.out]
        have HFL := hideT hfl
        have HNW : Hid (∀ j v, (flatA (l.map fun y => (y, u)))[j]? = some v → wr.cell? ((⟨g, 0, none⟩ : Addr).add j) = some v) := fun j v hj => by
          rw [add_plainS]
          exact own_cell OL.out hj
        have hwr : w.heap.size ≤ wr.heap.size := by omega
        have hk8 : k ≤ 8 := by omega
        clear hfl
        go_wp2_with (first | (at_builtin; refine wpList_append_lies _ (by rfl) _ _ _ (by rfl) w.heap.size 24 i0 _ 2 32 Try.underlying25 hi0 hz0 hz1 hz2 rfl (by omega) (.slice (some ⟨w.heap.size, 0, none⟩) 1 1) 1 [.string xmlnsB, .string u] (by rfl) OA.out ⟨g, 0, none⟩ k ocap (flatA (l.map fun y => (y, u))) (by rfl) HFL.out HNW.out (flatA_one _) hkp (by unfold maxLen; omega) (by omega) hwr wr.heap.size rfl ?_; intro g9 cap9 w9 hown9 hgrow9 hat9 hlt9; have L9 := hideT (grown_lies LVr.out hgrow9 (by show some w.heap.size ≠ some (w.heap.size + 1); intro e; have := Option.some.inj e; omega)); have y9 : w9.cell? ⟨w.heap.size + 1, 1, none⟩ = some (.slice (some ⟨w.heap.size, 0, none⟩) 1 1) := L9.out.cell 1; have z9 : w9.frozen? ⟨w.heap.size + 1, 1, none⟩ = false := L9.out.free 1; have y90 : w9.cell? ⟨w.heap.size + 1, 0, none⟩ = some (.string ⟨#[97]⟩) := L9.out.cell 0; have y92 : w9.cell? ⟨w.heap.size + 1, 2, none⟩ = some (.slice none 0 0) := L9.out.cell 2; have y93 : w9.cell? ⟨w.heap.size + 1, 3, none⟩ = some (.int .i64 0) := L9.out.cell 3) | fail)
        have B9 : Below w.heap.size w w9 := Keep.below BwR.out (Keep.grown hgrow9) (fun i hi e => by have e' : w.heap.size = i := Option.some.inj e; omega)
        obtain ⟨X, hX⟩ : ∃ X, w9.setCell ⟨w.heap.size + 1, 1, none⟩ (.slice (some ⟨g9, 0, none⟩) (1 + k) cap9) = X := ⟨_, rfl⟩
        have hg9 : g9 ≠ w.heap.size + 1 := by
          rcases hat9 with h | h
          · have h' : w.heap.size = g9 := Option.some.inj h
            omega
          · omega
        have OX : X.ownsRow w.heap.size 24 2 (.slice (some ⟨g9, 0, none⟩) (1 + k) cap9) (1 + k) (flatA ((xmlnsB, u) :: l.map fun y => (y, u))) := by
          rw [← hX]
          exact own_keep hown9 (fun g' hg' => Below.heap_setCell _ _ _ _ (fun e => hg9 ((Option.some.inj hg').trans e)))
        have OW : X.ownsRow W.heap.size 24 2 (.slice (some ⟨g, 0, none⟩) k ocap) k (flatA (l.map fun y => (y, u))) := by
          rw [← hX]
          have h9 := own_keep (w' := w9) OL.out (fun g' hg' => hgrow9.block g' (own_lt OL.out hg').1 (fun e => by have e' : w.heap.size = g' := (Option.some.inj e).symm; have := (own_lt OL.out hg').2; omega))
          exact own_keep h9 (fun g' hg' => Below.heap_setCell _ _ _ _ (fun e => by have := (own_lt OL.out hg').2; have e' : g' = w.heap.size + 1 := e; omega))
        have hl1 : ((xmlnsB, u) :: l.map fun y => (y, u)).length = 1 + k := by rw [List.length_cons, HLL.out]; omega
        have AX : Hid (ARow X (.slice (some ⟨g9, 0, none⟩) (1 + k) cap9) ((xmlnsB, u) :: l.map fun y => (y, u))) := (attrs_of (R := fun _ => True) (by rw [hl1]; exact OX) (by rw [hl1]; omega) HZ1.out (fun _ _ => trivial)).toARow
        have WX : Hid (ARow X (.slice (some ⟨g, 0, none⟩) k ocap) (l.map fun y => (y, u))) := (attrs_of (R := fun _ => True) (by rw [HLL.out]; exact OW) (by rw [HLL.out]; omega) (fun q hq => HZ1.out q (List.mem_cons_of_mem _ hq)) (fun _ _ => trivial)).toARow
        have BX : Hid (Below w.heap.size w X) := by
          rw [← hX]
          exact B9.setCell (by show w.heap.size ≤ w.heap.size + 1; omega) _
        clear hown9 hgrow9 hat9 hlt9 y9 z9 y90 y92 y93 B9 hg9 OX OW hl1 e1 f1
        rw [hX]
        clear hX
        refine (ResolveD X 1 _ _ _ _ (atT l u) (HOK.out.below BX.out HOK.out.lt) (EIn.leaf 0 _ _ _ _ (by decide) AX.out) HF.out HAN.out).mono ?_
        rintro e w2 ⟨b2, ee, eo⟩
        clear ee
        obtain ⟨c0, c1, c2, c3, c4, rfl, t1⟩ := eo _ (res_at l u FL.out)
        obtain ⟨rfl, rfl, rfl, ar, ⟨ad, ac, rfl⟩, rb, ro, ka, kc, rfl, _, _⟩ := t1.inv
        have BY := (Below.refl w2.heap.size w2).alloc (Nat.le_refl _) (.cells #[.string u, .string ⟨#[97]⟩, .slice ad (l.map fun x => (x, u)).length ac, .slice ka 0 kc, .int .i64 0] 32)
        have LY := Lies.new w2 32 #[.string u, .string ⟨#[97]⟩, .slice ad (l.map fun x => (x, u)).length ac, .slice ka 0 kc, .int .i64 0]
        have AR := hideT (ar.toARow.below BY)
        have AW := hideT (WX.out.below (b2.trans (BY.mono b2.size)))
        have BF := hideT (BX.out.trans ((b2.trans (BY.mono b2.size)).mono BX.out.size))
        obtain ⟨ln, hln⟩ : ∃ ln, (l.map fun x => (x, u)).length = ln := ⟨_, rfl⟩
        rw [hln] at LY BF AR AW ⊢
        have p2 := LY.cell 2
        simp only [List.getElem?_toArray, List.getElem?_cons_zero, List.getElem?_cons_succ] at p2
        have HO := hideT (HOK.out.below BF.out HOK.out.lt)
        clear eo t1 ar BY LY b2 hln
        go_wp2_with fail
        refine (sameAttrs_eq _ _ _ _ AR.out AW.out).mono ?_
        rintro e w5 ⟨rfl, b5⟩
        have B5 := hideT (BF.out.trans (b5.mono BF.out.size))
        have H5 := hideT (HO.out.below b5 HO.out.lt)
        clear b5
        go_wp2_with fail
        refine (knownS _ H5.out).mono ?_
        rintro e w9 ⟨rfl, b9⟩
        go_wp2_with fail
        go_ret
        exact ⟨rfl, B5.out.trans (b9.mono B5.out.size)⟩
end Go.Proofs.Ythbkipmimkepkab
