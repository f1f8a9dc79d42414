/-
  The law's own measure of an element: heavy.
-/
import Derived.Test.YtimecocegnnjjaaDoorPartC
import Derived.Deep.RegionHeld3
set_option linter.unusedSimpArgs false
set_option linter.unusedVariables false
namespace Go.Proofs.YtimecocegnnjjaaDoor
open Go.RowKit
namespace Xp
def sz (l : List UInt8) : Int := ((l.length / 50 : Nat) : Int)
def pairW : Tr → Int
  | .agg [.lit (.string a), .lit (.string b)] => sz a + sz b
  | _ => 0
/-- Down by what each weighs, as long as something is left. -/
def downA : List Tr → Int → Int
  | [], x => x
  | a :: l, x => if 0 < x then downA l (x - pairW a) else x
def downK (f : Tr → Int → Int) : List Tr → Int → Int
  | [], x => x
  | a :: l, x => if 0 < x then downK f l (f a x) else x
def heavyT : Nat → Tr → Int → Int
  | 0, _, x => x
  | n + 1, T, x => downK (heavyT n) (ksT T) (downA (asT T) (x - 1 - ((asT T).length : Nat) - sz (nmT T)))
theorem downA_stop (l : List Tr) (x : Int) (h : ¬ 0 < x) : downA l x = x := by
  cases l with
  | nil => rfl
  | cons a l => exact if_neg h
theorem downK_stop (f : Tr → Int → Int) (l : List Tr) (x : Int) (h : ¬ 0 < x) : downK f l x = x := by
  cases l with
  | nil => rfl
  | cons a l => exact if_neg h
end Xp
theorem Xp.pairW_mk (p : ByteArray × ByteArray) : Xp.pairW (Xp.pairD p) = (p.1.size : Int) / 50 + (p.2.size : Int) / 50 := by
  obtain ⟨a, b⟩ := p
  show Xp.sz a.data.toList + Xp.sz b.data.toList = _
  unfold Xp.sz
  rw [Array.length_toList, Array.length_toList]
  rfl
theorem Xp.heavy_mk (n : Nat) (nm : ByteArray) (l : List (ByteArray × ByteArray)) (ks : List Tr) (p x : Int) : Xp.heavyT (n + 1) (Xp.mkT nm l ks p) x = Xp.downK (Xp.heavyT n) ks (Xp.downA (l.map Xp.pairD) (x - 1 - (l.length : Int) - (nm.size : Int) / 50)) := by
  show Xp.downK (Xp.heavyT n) (Xp.ksT (Xp.mkT nm l ks p)) (Xp.downA (Xp.asT (Xp.mkT nm l ks p)) (x - 1 - ((Xp.asT (Xp.mkT nm l ks p)).length : Nat) - Xp.sz (Xp.nmT (Xp.mkT nm l ks p)))) = _
  rw [Xp.ks_mk, Xp.as_mk, Xp.nm_mk, List.length_map]
  unfold Xp.sz
  rw [Array.length_toList]
  rfl
theorem Xp.downA_on {l : List Tr} {k : Nat} {a : Tr} {y : Int} (h : l[k]? = some a) (hy : 0 < y) : Xp.downA (l.drop k) y = Xp.downA (l.drop (k + 1)) (y - Xp.pairW a) := by
  obtain ⟨h1, e1⟩ := List.getElem?_eq_some_iff.1 h
  rw [List.drop_eq_getElem_cons h1, e1]
  exact if_pos hy
theorem Xp.downK_on {f : Tr → Int → Int} {l : List Tr} {k : Nat} {a : Tr} {y : Int} (h : l[k]? = some a) (hy : 0 < y) : Xp.downK f (l.drop k) y = Xp.downK f (l.drop (k + 1)) (f a y) := by
  obtain ⟨h1, e1⟩ := List.getElem?_eq_some_iff.1 h
  rw [List.drop_eq_getElem_cons h1, e1]
  exact if_pos hy
set_option maxHeartbeats 1000000 in
set_option maxRecDepth 100000 in
theorem heavy_law : ∀ (n : Nat) (w : World) (c0 c1 c2 c3 : Value) (T : Tr) (x : Int), EIn w n c0 c1 c2 c3 T → 0 ≤ x → x ≤ 1000000 →
    Calls Tryd.prog 4 #[.agg #[c0, c1, c2, c3], .int .i64 x] w fun e w' => (∃ y : Int, e = .returned (.int .i64 y) ∧ y = Xp.heavyT n T x ∧ y ≤ 1000000 ∧ -10000000000000 ≤ y) ∧ Below w.heap.size w w' := by
  intro n
  induction n with
  | zero => intro w c0 c1 c2 c3 T x h; exact h.elim
  | succ n ih =>
    rintro w c0 c1 c2 c3 T x ⟨nm, p, l, ks, rfl, rfl, rfl, hs1, ⟨ab, ao, ⟨aao, acap, rfl, haao⟩, ⟨hal, hz⟩, hac⟩, kb1, ko1, ⟨kao1, kcap1, rfl, hkao1⟩, hkl1, hk1⟩ hx1 hx2
    have IH : Hid (∀ (w : World) (c0 c1 c2 c3 : Value) (T : Tr) (x : Int), EIn w n c0 c1 c2 c3 T → 0 ≤ x → x ≤ 1000000 →
      Calls Tryd.prog 4 #[.agg #[c0, c1, c2, c3], .int .i64 x] w fun e w' => (∃ y : Int, e = .returned (.int .i64 y) ∧ y = Xp.heavyT n T x ∧ y ≤ 1000000 ∧ -10000000000000 ≤ y) ∧ Below w.heap.size w w') := ih
    have HZ : Hid (∀ p ∈ l, p.1.size ≤ 140737488355328 ∧ p.2.size ≤ 140737488355328) := hz
    have HC : Hid (∀ (i : Nat) p, l[i]? = some p → w.cell? ⟨ab, ao + 2 * i, none⟩ = some (.string p.1) ∧ w.cell? ⟨ab, ao + 2 * i + 1, none⟩ = some (.string p.2)) := hac
    have HK1 : Hid (∀ (i : Nat) K, ks[i]? = some K → ∃ d0 d1 d2 d3, Four w kb1 (ko1 + 4 * i) d0 d1 d2 d3 ∧ EIn w n d0 d1 d2 d3 K) := hk1
    have HAO : Hid (0 < l.length → aao = some ⟨ab, ao, none⟩) := haao
    have HKO : Hid (0 < ks.length → kao1 = some ⟨kb1, ko1, none⟩) := hkao1
    have HT : Hid (Xp.heavyT (n + 1) (Xp.mkT nm l ks p) x = Xp.downK (Xp.heavyT n) ks (Xp.downA (l.map Xp.pairD) (x - 1 - (l.length : Int) - (nm.size : Int) / 50))) := Xp.heavy_mk n nm l ks p x
    clear ih hz hac hk1 haao hkao1
    obtain ⟨W, hW⟩ : ∃ W, W = w.alloc (.cells #[.string nm, .slice aao l.length acap, .slice kao1 ks.length kcap1, .int .i64 p] 25) := ⟨_, rfl⟩
    have X1 : Hid (W.cell? ⟨w.heap.size, 1, none⟩ = some (.slice aao l.length acap)) := by
      show _ = _
      rw [hW, cell_new]
      rfl
    have X2 : Hid (W.cell? ⟨w.heap.size, 2, none⟩ = some (.slice kao1 ks.length kcap1)) := by
      show _ = _
      rw [hW, cell_new]
      rfl
    have zW : W.heap.size = w.heap.size + 1 := by rw [hW]; simp
    have BV : Hid (Below w.heap.size w W) := by rw [hW]; exact (Below.refl _ w).alloc (Nat.le_refl _) _
    have HWW : Hid (W = w.alloc (.cells #[.string nm, .slice aao l.length acap, .slice kao1 ks.length kcap1, .int .i64 p] 25)) := hW
    clear hW
    have hdiv : (0 : Int) ≤ (nm.size : Int) / 50 ∧ (nm.size : Int) / 50 ≤ 2814749767107 := by omega
    go_enter Tryd.func4, Tryd.ntmps4
    go_wp2_with fail
    rw [← HWW.out]
    go_loopw [1, 5] (fun L i wr => ∃ (k : Nat) (y : Int), k ≤ l.length ∧ i = .int .i64 k ∧ L = .int .i64 y ∧ y ≤ 1000000 ∧ -9000000000000 ≤ y ∧ Hid (Below W.heap.size W wr) ∧ Hid (Xp.downA (l.map Xp.pairD) (x - 1 - (l.length : Int) - (nm.size : Int) / 50) = Xp.downA ((l.map Xp.pairD).drop k) y)) (fun _ i _ => l.length - (intOf i).toNat)
    case atStart => exact ⟨0, _, by omega, rfl, rfl, by omega, by omega, Below.refl _ _, rfl⟩
    case round =>
      obtain ⟨k, y, hk, rfl, rfl, hy1, hy2, HB, HA⟩ := hrel
      have x1 : wr.cell? ⟨w.heap.size, 1, none⟩ = some (.slice aao l.length acap) := by rw [HB.out.cell (cell_lt X1.out)]; exact X1.out
      by_cases hlt : k < l.length ∧ 0 < y
      · obtain ⟨hlt, hpos⟩ := hlt
        obtain rfl := HAO.out (by omega)
        obtain ⟨⟨pa, pb⟩, hp⟩ : ∃ p, l[k]? = some p := ⟨l[k]'hlt, List.getElem?_eq_getElem _⟩
        obtain ⟨q1, q2⟩ := HC.out k _ hp
        obtain ⟨z1, z2⟩ := HZ.out _ (List.mem_of_getElem? hp)
        have BR : Hid (Below w.heap.size w wr) := BV.out.trans (HB.out.mono (by omega))
        have p1 : wr.cell? ⟨ab, ao + k * 2, none⟩ = some (.string pa) := by rw [BR.out.cell (by have := cell_lt q1; exact this), Nat.mul_comm]; exact q1
        have p2 : wr.cell? ⟨ab, ao + k * 2 + 1, none⟩ = some (.string pb) := by rw [BR.out.cell (by have := cell_lt q2; exact this), Nat.mul_comm]; exact q2
        have HN : Hid (Xp.downA (l.map Xp.pairD) (x - 1 - (l.length : Int) - (nm.size : Int) / 50) = Xp.downA ((l.map Xp.pairD).drop (k + 1)) (y - (pa.size : Int) / 50 - (pb.size : Int) / 50)) := by
          show _ = _
          rw [HA.out, Xp.downA_on (by rw [List.getElem?_map, hp]; rfl) hpos, Xp.pairW_mk, Int.sub_sub]
        have i0 : (0 : Int) ≤ (k : Int) := by omega
        have i1 : (k : Int) < (l.length : Int) := by omega
        have d1 : (0 : Int) ≤ (pa.size : Int) / 50 ∧ (pa.size : Int) / 50 ≤ 2814749767107 := by dsimp only at z1; omega
        have d2 : (0 : Int) ≤ (pb.size : Int) / 50 ∧ (pb.size : Int) / 50 ≤ 2814749767107 := by dsimp only at z2; omega
        have u1 : IntKind.i64.wrap ((pa.size : Int) / 50) = (pa.size : Int) / 50 := by rw [IntKind.wrap_i64]; omega
        have u2 : IntKind.i64.wrap ((pb.size : Int) / 50) = (pb.size : Int) / 50 := by rw [IntKind.wrap_i64]; omega
        have u3 : IntKind.i64.wrap (y - (pa.size : Int) / 50) = y - (pa.size : Int) / 50 := by rw [IntKind.wrap_i64]; omega
        have u4 : IntKind.i64.wrap (y - (pa.size : Int) / 50 - (pb.size : Int) / 50) = y - (pa.size : Int) / 50 - (pb.size : Int) / 50 := by rw [IntKind.wrap_i64]; omega
        have B1 : y - (pa.size : Int) / 50 - (pb.size : Int) / 50 ≤ 1000000 ∧ -9000000000000 ≤ y - (pa.size : Int) / 50 - (pb.size : Int) / 50 := by omega
        clear hp q1 q2
        go_wp2_with fail
        go_region_held3 (fun w' => w'.cell? ⟨w.heap.size, 1, none⟩ = some (.slice (some ⟨ab, ao, none⟩) l.length acap) ∧ w'.cell? ⟨ab, ao + k * 2, none⟩ = some (.string pa) ∧ w'.cell? ⟨ab, ao + k * 2 + 1, none⟩ = some (.string pb)) (go_keep) (fail)
        all_goals go_wp2_with fail
        all_goals (
          go_roundw
          case rel => exact ⟨k + 1, _, by omega, by go_num, rfl, B1.1, B1.2, HB.out.drew, HN⟩
          case measure => simp [intOf]; omega)
      · have HF : Hid (Xp.heavyT (n + 1) (Xp.mkT nm l ks p) x = Xp.downK (Xp.heavyT n) ks y) := by
          show _ = _
          rw [HT.out, HA.out]
          by_cases h1 : k < l.length
          · rw [Xp.downA_stop _ _ (fun h => hlt ⟨h1, h⟩)]
          · rw [List.drop_eq_nil_iff.2 (by rw [List.length_map]; omega)]
            rfl
        by_cases h1 : k < l.length
        · have h2 : ¬ 0 < y := fun h => hlt ⟨h1, h⟩
          clear hlt
          have x2 : wr.cell? ⟨w.heap.size, 2, none⟩ = some (.slice kao1 ks.length kcap1) := by rw [HB.out.cell (cell_lt X2.out)]; exact X2.out
          clear HA
          have zV : W.heap.size ≤ wr.heap.size := HB.out.size
          go_wp2_with fail
          clear x1 x2
          go_loopw [1, 6] (fun L i wq => ∃ (j : Nat) (z : Int), j ≤ ks.length ∧ i = .int .i64 j ∧ L = .int .i64 z ∧ z ≤ 1000000 ∧ -10000000000000 ≤ z ∧ Hid (Below W.heap.size W wq) ∧ Hid (Xp.downK (Xp.heavyT n) ks y = Xp.downK (Xp.heavyT n) (ks.drop j) z)) (fun _ i _ => ks.length - (intOf i).toNat)
          case atStart => exact ⟨0, y, by omega, rfl, rfl, hy1, by omega, HB, rfl⟩
          case round =>
            obtain ⟨j, z, hj, rfl, rfl, hz1, hz2, HB2, HA2⟩ := hrel
            have x2 : wr.cell? ⟨w.heap.size, 2, none⟩ = some (.slice kao1 ks.length kcap1) := by rw [HB2.out.cell (cell_lt X2.out)]; exact X2.out
            by_cases hlt2 : j < ks.length ∧ 0 < z
            · obtain ⟨hlt2, hpos⟩ := hlt2
              obtain rfl := HKO.out (by omega)
              obtain ⟨K, hK⟩ : ∃ K, ks[j]? = some K := ⟨ks[j]'hlt2, List.getElem?_eq_getElem _⟩
              obtain ⟨f0, f1, f2, f3, hf, he⟩ := HK1.out j K hK
              have BR : Hid (Below w.heap.size w wr) := BV.out.trans (HB2.out.mono (by omega))
              have EF : Hid (EIn wr n f0 f1 f2 f3 K) := EIn.below BR.out he
              obtain ⟨q0, q1, q2, q3⟩ := hf.below BR.out
              rw [Nat.mul_comm] at q0 q1 q2 q3
              have HN : Hid (Xp.downK (Xp.heavyT n) ks y = Xp.downK (Xp.heavyT n) (ks.drop (j + 1)) (Xp.heavyT n K z)) := HA2.out.trans (Xp.downK_on hK hpos)
              have zR : W.heap.size ≤ wr.heap.size := HB2.out.size
              clear hK hf he
              go_wp2_with fail
              refine (IH.out _ f0 f1 f2 f3 K z EF.out (by omega) hz1).mono ?_
              rintro e w2 ⟨⟨t, rfl, ht, ht1, ht2⟩, b2⟩
              have B2 : Hid (Below W.heap.size W w2) := HB2.out.trans (b2.mono zR)
              have HT2 : Hid (t = Xp.heavyT n K z) := ht
              clear b2 q0 q1 q2 q3 EF x2 ht
              go_wp2_with fail
              go_roundw
              case rel => exact ⟨j + 1, t, by omega, by go_num, rfl, ht1, ht2, B2, by show _ = _; rw [HN.out, ← HT2.out]⟩
              case measure => simp [intOf]; omega
            · have HR : Hid (z = Xp.heavyT (n + 1) (Xp.mkT nm l ks p) x) := by
                show _ = _
                rw [HF.out, HA2.out]
                by_cases h1 : j < ks.length
                · rw [Xp.downK_stop _ _ _ (fun h => hlt2 ⟨h1, h⟩)]
                · rw [List.drop_eq_nil_iff.2 (by omega)]
                  rfl
              by_cases h3 : j < ks.length
              · have h4 : ¬ 0 < z := fun h => hlt2 ⟨h3, h⟩
                clear hlt2
                go_wp2_with fail
                go_ret
                exact ⟨⟨z, rfl, HR.out, hz1, hz2⟩, BV.out.trans (HB2.out.mono (by omega))⟩
              · clear hlt2
                go_wp2_with fail
                go_ret
                exact ⟨⟨z, rfl, HR.out, hz1, hz2⟩, BV.out.trans (HB2.out.mono (by omega))⟩
        · clear hlt
          have x2 : wr.cell? ⟨w.heap.size, 2, none⟩ = some (.slice kao1 ks.length kcap1) := by rw [HB.out.cell (cell_lt X2.out)]; exact X2.out
          clear HA
          have zV : W.heap.size ≤ wr.heap.size := HB.out.size
          go_wp2_with fail
          clear x1 x2
          go_loopw [1, 6] (fun L i wq => ∃ (j : Nat) (z : Int), j ≤ ks.length ∧ i = .int .i64 j ∧ L = .int .i64 z ∧ z ≤ 1000000 ∧ -10000000000000 ≤ z ∧ Hid (Below W.heap.size W wq) ∧ Hid (Xp.downK (Xp.heavyT n) ks y = Xp.downK (Xp.heavyT n) (ks.drop j) z)) (fun _ i _ => ks.length - (intOf i).toNat)
          case atStart => exact ⟨0, y, by omega, rfl, rfl, hy1, by omega, HB, rfl⟩
          case round =>
            obtain ⟨j, z, hj, rfl, rfl, hz1, hz2, HB2, HA2⟩ := hrel
            have x2 : wr.cell? ⟨w.heap.size, 2, none⟩ = some (.slice kao1 ks.length kcap1) := by rw [HB2.out.cell (cell_lt X2.out)]; exact X2.out
            by_cases hlt2 : j < ks.length ∧ 0 < z
            · obtain ⟨hlt2, hpos⟩ := hlt2
              obtain rfl := HKO.out (by omega)
              obtain ⟨K, hK⟩ : ∃ K, ks[j]? = some K := ⟨ks[j]'hlt2, List.getElem?_eq_getElem _⟩
              obtain ⟨f0, f1, f2, f3, hf, he⟩ := HK1.out j K hK
              have BR : Hid (Below w.heap.size w wr) := BV.out.trans (HB2.out.mono (by omega))
              have EF : Hid (EIn wr n f0 f1 f2 f3 K) := EIn.below BR.out he
              obtain ⟨q0, q1, q2, q3⟩ := hf.below BR.out
              rw [Nat.mul_comm] at q0 q1 q2 q3
              have HN : Hid (Xp.downK (Xp.heavyT n) ks y = Xp.downK (Xp.heavyT n) (ks.drop (j + 1)) (Xp.heavyT n K z)) := HA2.out.trans (Xp.downK_on hK hpos)
              have zR : W.heap.size ≤ wr.heap.size := HB2.out.size
              clear hK hf he
              go_wp2_with fail
              refine (IH.out _ f0 f1 f2 f3 K z EF.out (by omega) hz1).mono ?_
              rintro e w2 ⟨⟨t, rfl, ht, ht1, ht2⟩, b2⟩
              have B2 : Hid (Below W.heap.size W w2) := HB2.out.trans (b2.mono zR)
              have HT2 : Hid (t = Xp.heavyT n K z) := ht
              clear b2 q0 q1 q2 q3 EF x2 ht
              go_wp2_with fail
              go_roundw
              case rel => exact ⟨j + 1, t, by omega, by go_num, rfl, ht1, ht2, B2, by show _ = _; rw [HN.out, ← HT2.out]⟩
              case measure => simp [intOf]; omega
            · have HR : Hid (z = Xp.heavyT (n + 1) (Xp.mkT nm l ks p) x) := by
                show _ = _
                rw [HF.out, HA2.out]
                by_cases h1 : j < ks.length
                · rw [Xp.downK_stop _ _ _ (fun h => hlt2 ⟨h1, h⟩)]
                · rw [List.drop_eq_nil_iff.2 (by omega)]
                  rfl
              by_cases h3 : j < ks.length
              · have h4 : ¬ 0 < z := fun h => hlt2 ⟨h3, h⟩
                clear hlt2
                go_wp2_with fail
                go_ret
                exact ⟨⟨z, rfl, HR.out, hz1, hz2⟩, BV.out.trans (HB2.out.mono (by omega))⟩
              · clear hlt2
                go_wp2_with fail
                go_ret
                exact ⟨⟨z, rfl, HR.out, hz1, hz2⟩, BV.out.trans (HB2.out.mono (by omega))⟩
end Go.Proofs.YtimecocegnnjjaaDoor
