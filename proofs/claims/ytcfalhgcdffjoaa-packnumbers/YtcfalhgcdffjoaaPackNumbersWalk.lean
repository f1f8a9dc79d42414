/-
  PackNumbers: numbers of conditions, small, great, below nought, come back.
-/
import Derived.Test.YtcfalhgcdffjoaaKLaw
set_option linter.unusedSimpArgs false
set_option linter.unusedVariables false
namespace Go.Proofs.Ytcfalhgcdffjoaa
open Go.RowKit
set_option maxRecDepth 100000
def numC (n : Int) : Mp.Cond := (⟨#[102]⟩, ⟨#[62, 61]⟩, n)
def numM (n ticks : Int) : Mp.Model := ⟨[⟨#[102]⟩], [⟨⟨#[112]⟩, 1, Mp.e0, false, 0, [], []⟩, ⟨⟨#[116]⟩, 5, ⟨#[112]⟩, false, ticks, [], [([], [numC n])]⟩]⟩
theorem row_of_lies {α : Type} {z : Nat} {R : World → List Value → α → Prop} {w : World} {g : Nat} {t : TypeId} {C : Array Value} (h : Lies w g t C) {l : List α} {n : Nat} (hn : n = l.length) (hl : n ≤ 1000) (hc : ∀ (i : Nat) x, l[i]? = some x → ∃ cs : List Value, cs.length = z ∧ R w cs x ∧ ∀ (j : Nat) c, cs[j]? = some c → C[i * z + j]? = some c) : RowR z R w (.slice (some ⟨g, 0, none⟩) n n) l := by
  subst hn
  refine ⟨g, 0, ⟨_, _, rfl, Nat.le_refl _, fun _ => rfl⟩, by omega, fun i x hx => ?_⟩
  obtain ⟨cs, k1, k2, k3⟩ := hc i x hx
  refine ⟨cs, k1, k2, fun j c hj => ?_⟩
  rw [Nat.zero_add, h.cell]
  exact k3 j c hj
theorem one_at {α : Type} {a x : α} {i : Nat} (h : [a][i]? = some x) : i = 0 ∧ x = a := by
  match i, h with
  | 0, h => exact ⟨rfl, (Option.some.inj h).symm⟩
theorem numAt {w : World} {f c s i : Nat} {n ticks : Int} (hf : Lies w f 9 #[.string ⟨#[102]⟩]) (hc : Lies w c 43 #[.string ⟨#[102]⟩, .string ⟨#[62, 61]⟩, .int .i64 n]) (hs : Lies w s 47 #[.slice none 0 0, .slice (some ⟨c, 0, none⟩) 1 1])
    (hi : Lies w i 41 #[.string ⟨#[112]⟩, .int .i64 1, .string ⟨#[]⟩, .bool false, .int .i64 0, .slice none 0 0, .slice none 0 0, .string ⟨#[116]⟩, .int .i64 5, .string ⟨#[112]⟩, .bool false, .int .i64 ticks, .slice none 0 0, .slice (some ⟨s, 0, none⟩) 1 1]) :
    ModelAt w (some ⟨f, 0, none⟩) 1 (some ⟨i, 0, none⟩) 2 (numM n ticks) := by
  have rc : CRow w (.slice (some ⟨c, 0, none⟩) 1 1) [numC n] := row_of_lies hc rfl (by decide) (fun k x hx => by
    obtain ⟨rfl, rfl⟩ := one_at hx
    refine ⟨[.string ⟨#[102]⟩, .string ⟨#[62, 61]⟩, .int .i64 n], rfl, ⟨rfl, (by decide : (1 : Nat) ≤ 140737488355328), (by decide : (2 : Nat) ≤ 140737488355328)⟩, fun j c hj => ?_⟩
    rw [Nat.zero_mul, Nat.zero_add, List.getElem?_toArray]
    exact hj)
  have rs : SRow w (.slice (some ⟨s, 0, none⟩) 1 1) [([], [numC n])] := row_of_lies hs rfl (by decide) (fun k x hx => by
    obtain ⟨rfl, rfl⟩ := one_at hx
    refine ⟨[nilS, .slice (some ⟨c, 0, none⟩) 1 1], rfl, ⟨_, _, rfl, rowR_nil w, rc⟩, fun j c hj => ?_⟩
    rw [Nat.zero_mul, Nat.zero_add, List.getElem?_toArray]
    exact hj)
  refine ⟨row_of_lies hf rfl (by show 1 ≤ 1000; decide) (fun k x hx => ?_), row_of_lies hi rfl (by show 2 ≤ 1000; decide) (fun k x hx => ?_)⟩
  · obtain ⟨rfl, rfl⟩ := one_at hx
    refine ⟨[.string ⟨#[102]⟩], rfl, ⟨rfl, (by decide : (1 : Nat) ≤ 140737488355328)⟩, fun j c hj => ?_⟩
    rw [Nat.zero_mul, Nat.zero_add, List.getElem?_toArray]
    exact hj
  · match k, hx with
    | 0, hx =>
      obtain rfl := (Option.some.inj hx).symm
      refine ⟨itemC ⟨⟨#[112]⟩, 1, Mp.e0, false, 0, [], []⟩ nilS nilS, rfl, ⟨_, _, rfl, ⟨(by decide : (1 : Nat) ≤ 140737488355328), (by decide : (0 : Nat) ≤ 140737488355328)⟩, rowR_nil w, rowR_nil w⟩, fun j c hj => ?_⟩
      have hj7 := (List.getElem?_eq_some_iff.1 hj).1
      rw [Nat.zero_mul, Nat.zero_add, List.getElem?_toArray]
      match j, hj7, hj with
      | 0, _, hj => exact hj
      | 1, _, hj => exact hj
      | 2, _, hj => exact hj
      | 3, _, hj => exact hj
      | 4, _, hj => exact hj
      | 5, _, hj => exact hj
      | 6, _, hj => exact hj
    | 1, hx =>
      obtain rfl := (Option.some.inj hx).symm
      refine ⟨itemC ⟨⟨#[116]⟩, 5, ⟨#[112]⟩, false, ticks, [], [([], [numC n])]⟩ nilS (.slice (some ⟨s, 0, none⟩) 1 1), rfl, ⟨_, _, rfl, ⟨(by decide : (1 : Nat) ≤ 140737488355328), (by decide : (1 : Nat) ≤ 140737488355328)⟩, rowR_nil w, rs⟩, fun j c hj => ?_⟩
      have hj7 := (List.getElem?_eq_some_iff.1 hj).1
      rw [List.getElem?_toArray]
      match j, hj7, hj with
      | 0, _, hj => exact hj
      | 1, _, hj => exact hj
      | 2, _, hj => exact hj
      | 3, _, hj => exact hj
      | 4, _, hj => exact hj
      | 5, _, hj => exact hj
      | 6, _, hj => exact hj
set_option maxHeartbeats 8000000 in
theorem packNumbers_walk (n : Int) (h1 : (Lit.int .i64 n).wf = true) (ticks : Int) (h2 : (Lit.int .i64 ticks).wf = true) {w : World} :
    Calls Try.prog 8 #[.int .i64 n, .int .i64 ticks] w fun e w' => e = .returned (.bool true) ∧ Below w.heap.size w w' := by
  clear h1 h2
  obtain ⟨W1, hW1⟩ : ∃ W1, w.alloc (.cells #[.string ⟨#[102]⟩] 9) = W1 := ⟨_, rfl⟩
  obtain ⟨B1, L1, z1⟩ := of_alloc hW1
  obtain ⟨W2, hW2⟩ : ∃ W2, W1.alloc (.cells #[.string ⟨#[102]⟩, .string ⟨#[62, 61]⟩, .int .i64 n] 43) = W2 := ⟨_, rfl⟩
  obtain ⟨B2, L2, z2⟩ := of_alloc hW2
  obtain ⟨W3, hW3⟩ : ∃ W3, W2.alloc (.cells #[.slice none 0 0, .slice (some ⟨w.heap.size + 1, 0, none⟩) 1 1] 47) = W3 := ⟨_, rfl⟩
  obtain ⟨B3, L3, z3⟩ := of_alloc hW3
  obtain ⟨W4, hW4⟩ : ∃ W4, W3.alloc (.cells #[.string ⟨#[112]⟩, .int .i64 1, .string ⟨#[]⟩, .bool false, .int .i64 0, .slice none 0 0, .slice none 0 0, .string ⟨#[116]⟩, .int .i64 5, .string ⟨#[112]⟩, .bool false, .int .i64 ticks, .slice none 0 0, .slice (some ⟨w.heap.size + 1 + 1, 0, none⟩) 1 1] 41) = W4 := ⟨_, rfl⟩
  obtain ⟨B4, L4, z4⟩ := of_alloc hW4
  obtain ⟨W5, hW5⟩ : ∃ W5, W4.alloc (.cells #[.slice (some ⟨w.heap.size, 0, none⟩) 1 1, .slice (some ⟨w.heap.size + 1 + 1 + 1, 0, none⟩) 2 2] 25) = W5 := ⟨_, rfl⟩
  obtain ⟨B5, L5, z5⟩ := of_alloc hW5
  rw [z1] at L2 z2
  rw [z2] at L3 z3
  rw [z3] at L4 z4
  rw [z4] at L5 z5
  have b45 := B5
  have b35 := B4.trans (B5.mono B4.size)
  have b25 := B3.trans (b35.mono B3.size)
  have b15 := B2.trans (b25.mono B2.size)
  have b05 := B1.trans (b15.mono B1.size)
  have M5 : Hid (ModelAt W5 (some ⟨w.heap.size, 0, none⟩) 1 (some ⟨w.heap.size + 1 + 1 + 1, 0, none⟩) 2 (numM n ticks)) := numAt (L1.below b15) (L2.below b25) (L3.below b35) (L4.below b45)
  have BW := hideT b05
  have LB5 := hideT L5
  have HW1 := hideT hW1
  have HW2 := hideT hW2
  have HW3 := hideT hW3
  have HW4 := hideT hW4
  have HW5 := hideT hW5
  obtain ⟨m, hm⟩ : ∃ m, numM n ticks = m := ⟨_, rfl⟩
  have hfl : m.files.length = 1 := by rw [← hm]; rfl
  have hil : m.items.length = 2 := by rw [← hm]; rfl
  rw [hm] at M5
  have HFL := hideT hfl
  have HIL := hideT hil
  clear hW1 hW2 hW3 hW4 hW5 B1 B2 B3 B4 B5 L1 L2 L3 L4 L5 b45 b35 b25 b15 b05 hm hfl hil z1 z2 z3 z4
  go_enter Try.func8, Try.ntmps8
  go_wp2_with fail
  rw [HW1.out, HW2.out, HW3.out, HW4.out, HW5.out]
  cases hb : Mp.isB m
  · have hp := packNo W5 m _ _ _ _ M5.out hb
    rw [HFL.out, HIL.out] at hp
    refine hp.mono ?_
    rintro e w6 ⟨rfl, p6⟩
    have B6 := hideT (BW.out.trans (p6.mono BW.out.size))
    have L6 := hideT (LB5.out.below p6)
    have M6 := hideT (M5.out.below p6)
    have x0 : w6.cell? ⟨w.heap.size + 1 + 1 + 1 + 1, 0, none⟩ = some (.slice (some ⟨w.heap.size, 0, none⟩) 1 1) := L6.out.cell 0
    have x1 : w6.cell? ⟨w.heap.size + 1 + 1 + 1 + 1, 1, none⟩ = some (.slice (some ⟨w.heap.size + 1 + 1 + 1, 0, none⟩) 2 2) := L6.out.cell 1
    clear hp p6
    go_wp2_with fail
    have hr := isRefV w6 m _ _ _ _ M6.out false hb
    rw [HFL.out, HIL.out] at hr
    refine hr.mono ?_
    rintro e w7 ⟨rfl, p7⟩
    have B7 := hideT (B6.out.trans (p7.mono B6.out.size))
    clear hr p7 x0 x1
    go_wp2_with fail
    refine (known6 _).mono ?_
    rintro e w8 ⟨rfl, p8⟩
    have B8 := hideT (B7.out.trans (p8.mono B7.out.size))
    clear p8
    go_wp2_with fail
    go_ret
    exact ⟨rfl, B8.out⟩
  · have hp := packD W5 m _ _ _ _ M5.out hb
    rw [HFL.out, HIL.out] at hp
    refine hp.mono ?_
    rintro e w6 ⟨v1, rfl, o6, p6⟩
    obtain ⟨hpp, hpl⟩ := pack_small hb
    obtain ⟨g1, k1, hv1⟩ := own_form o6 hpp
    subst hv1
    have hcap := own_capS o6
    have R6 := hideT (brow_own o6 (by omega))
    obtain ⟨N, hN⟩ : ∃ N, (Kp.pack m).length = N := ⟨_, rfl⟩
    rw [hN] at R6 hcap
    have B6 := hideT (BW.out.trans (p6.mono BW.out.size))
    have L6 := hideT (LB5.out.below p6)
    have M6 := hideT (M5.out.below p6)
    have x0 : w6.cell? ⟨w.heap.size + 1 + 1 + 1 + 1, 0, none⟩ = some (.slice (some ⟨w.heap.size, 0, none⟩) 1 1) := L6.out.cell 0
    have x1 : w6.cell? ⟨w.heap.size + 1 + 1 + 1 + 1, 1, none⟩ = some (.slice (some ⟨w.heap.size + 1 + 1 + 1, 0, none⟩) 2 2) := L6.out.cell 1
    have HB := hideT hb
    clear hp p6 o6 hb
    go_wp2_with fail
    have hr := isRefV w6 m _ _ _ _ M6.out true HB
    rw [HFL.out, HIL.out] at hr
    refine hr.mono ?_
    rintro e w7 ⟨rfl, p7⟩
    have B7 := hideT (B6.out.trans (p7.mono B6.out.size))
    have L7 := hideT (L6.out.below p7)
    have M7 := hideT (M6.out.below p7)
    have R7 := hideT (brow_below R6.out p7)
    clear hr p7 x0 x1
    go_wp2_with fail
    refine (unpackV w7 _ _ _ (Kp.pack m) R7.out hcap.2).mono ?_
    intro e w8 hu
    obtain ⟨⟨qa, qc, ra, rc, rfl, n8⟩, p8⟩ := unpack_ok (Kp.unpack_pack HB.out) hu
    rw [HFL.out, HIL.out]
    have B8 := hideT (B7.out.trans (p8.mono B7.out.size))
    have L8 := hideT (L7.out.below p8)
    have M8 := hideT (M7.out.below p8)
    obtain ⟨W9, hW9⟩ : ∃ W9, w8.alloc (.cells #[.slice qa 1 qc, .slice ra 2 rc] 25) = W9 := ⟨_, rfl⟩
    obtain ⟨B9', L9', z9⟩ := of_alloc hW9
    have B9 := hideT (B8.out.trans (B9'.mono B8.out.size))
    have M9 := hideT (M8.out.below B9')
    have N9 := hideT (n8.below B9')
    have HW9 := hideT hW9
    have x0 : w8.cell? ⟨w.heap.size + 1 + 1 + 1 + 1, 0, none⟩ = some (.slice (some ⟨w.heap.size, 0, none⟩) 1 1) := L8.out.cell 0
    have x1 : w8.cell? ⟨w.heap.size + 1 + 1 + 1 + 1, 1, none⟩ = some (.slice (some ⟨w.heap.size + 1 + 1 + 1, 0, none⟩) 2 2) := L8.out.cell 1
    have e8 := L8.out.lt
    clear hu p8 n8 hW9 B9' L9'
    go_wp2_with fail
    rw [HW9.out]
    have hr := refSameD W9 qa ra _ _ qc rc _ _ m m N9.out.here M9.out true (eqM_self m)
    rw [HFL.out, HIL.out] at hr
    refine hr.mono ?_
    rintro e wA ⟨rfl, pA⟩
    have BA := hideT (B9.out.trans (pA.mono B9.out.size))
    clear hr pA x0 x1
    go_wp2_with fail
    refine (known6 _).mono ?_
    rintro e wB ⟨rfl, pB⟩
    have BB := hideT (BA.out.trans (pB.mono BA.out.size))
    clear pB
    go_wp2_with fail
    go_ret
    exact ⟨rfl, BB.out⟩
end Go.Proofs.Ytcfalhgcdffjoaa
