/-
  Several texts in one: each opens with its own word.
-/
import Derived.Test.YtcfalhgcdffjoaaPartU
import Derived.Deep.RegionLaw
import Derived.Test.YtcfalhgcdffjoaaPartV
import Derived.Test.YtcfalhgcdffjoaaKBack
/-
  The reader in memory: a number, a text.
-/
set_option linter.unusedSimpArgs false
set_option linter.unusedVariables false
namespace Go.Proofs.Ytcfalhgcdffjoaa
open Go.RowKit
set_option maxRecDepth 100000
/-- All but block b is as it was. -/
abbrev But (b : Nat) (w w' : World) : Prop := Keep (fun k => k = b) w w'
theorem But.refl (b : Nat) (w : World) : But b w w := Keep.refl _ _
theorem But.set (b : Nat) (w : World) (k : Nat) (u : Value) : But b w (w.setCell ⟨b, k, none⟩ u) := Keep.set (S := fun k => k = b) w ⟨b, k, none⟩ u rfl
theorem But.cell {b : Nat} {w w' : World} (h : But b w w') {a : Addr} {c : Value} (hc : w.cell? a = some c) (hb : a.block ≠ b) : w'.cell? a = some c := by
  rw [Keep.cell h (cell_lt hc) hb]
  exact hc
theorem But.lies {b : Nat} {w w' : World} (h : But b w w') {g : Nat} {t : TypeId} {C : Array Value} (hl : Lies w g t C) (hb : g ≠ b) : Lies w' g t C := hl.keep h hb
/-- A row in a block of kind T that is not b. -/
def RowN {α : Type} (b T z : Nat) (R : World → List Value → α → Prop) (w : World) (v : Value) (l : List α) : Prop :=
  ∃ g o, (∃ ao cap, v = .slice ao l.length cap ∧ l.length ≤ cap ∧ cap ≤ maxLen ∧ (0 < l.length → ao = some ⟨g, o, none⟩)) ∧ (0 < l.length → g ≠ b ∧ ∃ C, Lies w g T C) ∧ l.length ≤ 10000000000000 ∧ ∀ (i : Nat) x, l[i]? = some x → ∃ cs : List Value, cs.length = z ∧ R w cs x ∧ ∀ (j : Nat) c, cs[j]? = some c → w.cell? ⟨g, o + i * z + j, none⟩ = some c
theorem RowN.turn {α : Type} {b T z : Nat} {R R' : World → List Value → α → Prop} {w w' : World} {v : Value} {l : List α} (h : RowN b T z R w v l) (hR : ∀ cs x, x ∈ l → R w cs x → R' w' cs x) (hk : ∀ g C, g ≠ b → Lies w g T C → Lies w' g T C) : RowN b T z R' w' v l := by
  obtain ⟨g, o, h1, hq, h2, h3⟩ := h
  refine ⟨g, o, h1, fun h => ⟨(hq h).1, (hq h).2.imp fun C hC => hk g C (hq h).1 hC⟩, h2, fun i x hx => ?_⟩
  obtain ⟨cs, k1, k2, k3⟩ := h3 i x hx
  have h0 : 0 < l.length := Nat.lt_of_le_of_lt (Nat.zero_le _) (List.getElem?_eq_some_iff.1 hx).1
  obtain ⟨hb, C, hC⟩ := hq h0
  refine ⟨cs, k1, hR cs x (List.mem_of_getElem? hx) k2, fun j c hj => ?_⟩
  have h4 := k3 j c hj
  rw [hC.cell] at h4
  rw [(hk g C hb hC).cell]
  exact h4
theorem RowN.plain {α : Type} {b T z : Nat} {R R' : World → List Value → α → Prop} {w : World} {v : Value} {l : List α} (h : RowN b T z R w v l) (hR : ∀ cs x, R w cs x → R' w cs x) : RowR z R' w v l := by
  obtain ⟨g, o, ⟨ao, cap, e, h1, _, h2⟩, _, h3, h4⟩ := h
  refine ⟨g, o, ⟨ao, cap, e, h1, h2⟩, h3, fun i x hx => ?_⟩
  obtain ⟨cs, k1, k2, k3⟩ := h4 i x hx
  exact ⟨cs, k1, hR cs x k2, k3⟩
theorem RowN.nil {α : Type} {b T z : Nat} {R : World → List Value → α → Prop} (w : World) : RowN b T z R w nilS ([] : List α) := ⟨0, 0, ⟨none, 0, rfl, Nat.le_refl _, Nat.zero_le _, fun h => absurd h (Nat.lt_irrefl 0)⟩, fun h => absurd h (Nat.lt_irrefl 0), Nat.zero_le _, fun i x hx => by simp at hx⟩
/-- Bytes in a block ahead of b. -/
def BRowN (b : Nat) (w : World) (v : Value) (l : List UInt8) : Prop :=
  ∃ g o ao cap, v = .slice ao l.length cap ∧ l.length ≤ cap ∧ cap ≤ maxLen ∧ (0 < l.length → ao = some ⟨g, o, none⟩) ∧ (0 < l.length → g < b) ∧ l.length ≤ 140737488355328 ∧ ∀ (i : Nat) x, l[i]? = some x → w.cell? ⟨g, o + i, none⟩ = some (.int .u8 x.toNat)
theorem BRowN.turn {b : Nat} {w w' : World} {v : Value} {l : List UInt8} (h : BRowN b w v l) (hk : But b w w') : BRowN b w' v l := by
  obtain ⟨g, o, ao, cap, h1, h2, h2', h3, h3', h4, h5⟩ := h
  refine ⟨g, o, ao, cap, h1, h2, h2', h3, h3', h4, fun i x hx => ?_⟩
  have h0 : 0 < l.length := Nat.lt_of_le_of_lt (Nat.zero_le _) (List.getElem?_eq_some_iff.1 hx).1
  exact But.cell hk (h5 i x hx) (Nat.ne_of_lt (h3' h0))
theorem brown_tail {b : Nat} {w : World} {g o n cap : Nat} {x : UInt8} {r : List UInt8} (h : BRowN b w (.slice (some ⟨g, o, none⟩) n cap) (x :: r)) : BRowN b w (.slice (if cap = 1 then some ⟨g, o, none⟩ else some ⟨g, o + 1, none⟩) r.length (cap - 1)) r := by
  obtain ⟨g', o', ao, cap', h1, h2, h2', h3, h3', h4, h5⟩ := h
  simp only [Value.slice.injEq, List.length_cons] at h1
  obtain ⟨h1, rfl, rfl⟩ := h1
  have e := h3 (by simp)
  rw [← h1] at e
  simp only [Option.some.injEq, Addr.mk.injEq] at e
  obtain ⟨rfl, rfl, _⟩ := e
  rw [List.length_cons] at h2 h4
  refine ⟨g, o + 1, _, cap - 1, rfl, by omega, by omega, fun h0 => by rw [if_neg (by omega)], fun h0 => h3' (by simp), by omega, fun i y hy => ?_⟩
  have := h5 (i + 1) y (by rw [List.getElem?_cons_succ]; exact hy)
  rw [show o + 1 + i = o + (i + 1) by omega]
  exact this
/-- The reader at b: what is left, or a fault; files and ids. -/
structure RSt (b : Nat) (w : World) (σ : Kp.St) (rv fv iv : Value) (fs ids : List ByteArray) : Prop where
  lies : Lies w b 57 #[rv, .bool σ.isNone, fv, iv]
  rest : BRowN b w rv (Kp.rest σ)
  files : RowN b 9 1 strR w fv fs
  ids : RowN b 9 1 strR w iv ids
theorem strR_any {w w' : World} {cs : List Value} {x : ByteArray} (h : strR w cs x) : strR w' cs x := h
/-- The reader's rest and fault alone are turned. -/
theorem RSt.but {b : Nat} {w w' : World} {σ σ' : Kp.St} {rv rv' fv iv : Value} {fs ids : List ByteArray} (h : RSt b w σ rv fv iv fs ids) (hk : But b w w') (hl : Lies w' b 57 #[rv', .bool σ'.isNone, fv, iv]) (hr : BRowN b w rv' (Kp.rest σ')) : RSt b w' σ' rv' fv iv fs ids :=
  ⟨hl, hr.turn hk, h.files.turn (fun _ _ _ h => h) (fun _ _ hb hC => hk.lies hC hb), h.ids.turn (fun _ _ _ h => h) (fun _ _ hb hC => hk.lies hC hb)⟩
theorem RSt.below {b : Nat} {w w' : World} {σ : Kp.St} {rv fv iv : Value} {fs ids : List ByteArray} (h : RSt b w σ rv fv iv fs ids) (hb : Below w.heap.size w w') : RSt b w' σ rv fv iv fs ids :=
  h.but (Keep.of_below hb) (h.lies.below hb) h.rest
theorem RSt.cells {b : Nat} {w : World} {σ : Kp.St} {rv fv iv : Value} {fs ids : List ByteArray} (h : RSt b w σ rv fv iv fs ids) : w.cell? ⟨b, 0, none⟩ = some rv ∧ w.cell? ⟨b, 1, none⟩ = some (.bool σ.isNone) ∧ w.cell? ⟨b, 2, none⟩ = some fv ∧ w.cell? ⟨b, 3, none⟩ = some iv ∧ w.frozen? ⟨b, 0, none⟩ = false ∧ w.frozen? ⟨b, 1, none⟩ = false :=
  ⟨h.lies.cell 0, h.lies.cell 1, h.lies.cell 2, h.lies.cell 3, h.lies.free 0, h.lies.free 1⟩
/-- What a reading comes to. -/
def RPost (b : Nat) (fv iv : Value) (fs ids : List ByteArray) (v : World → Value → Prop) (σ : Kp.St) (w : World) (e : Ending) (w' : World) : Prop := ∃ r rv, e = .returned r ∧ v w' r ∧ RSt b w' σ rv fv iv fs ids ∧ But b w w'
theorem brownil (b : Nat) (w : World) : BRowN b w (.slice none 0 0) [] := ⟨0, 0, none, 0, rfl, Nat.le_refl _, Nat.zero_le _, fun h => absurd h (Nat.lt_irrefl 0), fun h => absurd h (Nat.lt_irrefl 0), Nat.zero_le _, fun i x hx => by simp at hx⟩
set_option maxHeartbeats 1000000 in
theorem failD (b : Nat) (w : World) (σ : Kp.St) (rv fv iv : Value) (fs ids : List ByteArray) (h : RSt b w σ rv fv iv fs ids) :
    Calls Try.prog 61 #[.pointer (some ⟨b, 0, none⟩)] w fun e w' => e = .returned (.tuple #[]) ∧ RSt b w' none (.slice none 0 0) fv iv fs ids ∧ But b w w' := by
  have HI := hideT h
  obtain ⟨x0, x1, x2, x3, f0, f1⟩ := h.cells
  have hlt := h.lies.lt
  obtain ⟨ra, rn, rc, hrv⟩ : ∃ a n c, rv = .slice a n c := by
    obtain ⟨_, _, ao, cap, e, _⟩ := h.rest
    exact ⟨_, _, _, e⟩
  subst hrv
  clear h
  go_enter Try.func61, Try.ntmps61
  go_wp2_with fail
  first | go_end0 | refine bodyPost_ret (results_none rfl _ _ _) rfl ?_
  refine ⟨rfl, HI.out.but ?_ ?_ (brownil _ _), ?_⟩
  · exact (But.set b w 0 _).trans (But.set b _ 1 _)
  · exact (HI.out.lies.set 0 _).set 1 _
  · exact (But.set b w 0 _).trans (But.set b _ 1 _)
theorem and127 (x : UInt8) : bits .and .u8 (x.toNat : Int) 127 = ((x.toNat % 128 : Nat) : Int) := by
  have := bits_mask .u8 8 (by decide) wraps_u8 7 (by decide) (x.toNat : Int) (by omega) (by have := x.toNat_lt; omega)
  rw [show (2 : Int) ^ 7 - 1 = 127 by decide] at this
  rw [this]
  omega
theorem wraps_i64 (n : Int) (h₀ : 0 ≤ n) (h₁ : n < 2 ^ 62) : IntKind.i64.wrap n = n := by rw [IntKind.wrap_i64]; omega
theorem or_low (i : Nat) (y x : Int) (hy0 : 0 ≤ y) (hy : y < 2 ^ i) (hx0 : 0 ≤ x) (hx : x % 2 ^ i = 0) (hy1 : y < 2 ^ 62) (hx1 : x < 2 ^ 62) : bits .or .i64 y x = y + x := by
  have h := bits_join .i64 62 (by decide) wraps_i64 i x y hx0 hx hx1 hy0 hy hy1
  obtain ⟨a, rfl⟩ := Int.eq_ofNat_of_zero_le hx0
  obtain ⟨b, rfl⟩ := Int.eq_ofNat_of_zero_le hy0
  have ha : a < 2 ^ 62 := by exact_mod_cast hx1
  have hb : b < 2 ^ 62 := by exact_mod_cast hy1
  rw [(bits_nat .i64 62 (by decide) wraps_i64 a b ha hb).2] at h
  rw [(bits_nat .i64 62 (by decide) wraps_i64 b a hb ha).2, Nat.or_comm, h]
  omega
set_option maxHeartbeats 4000000 in
theorem numberR (b : Nat) (w : World) (σ : Kp.St) (rv fv iv : Value) (fs ids : List ByteArray) (h : RSt b w σ rv fv iv fs ids) (most : Int) (h1 : -1 ≤ most) (h2 : most ≤ 2000000) :
    Calls Try.prog 44 #[.pointer (some ⟨b, 0, none⟩), .int .i64 most] w (RPost b fv iv fs ids (fun _ r => r = .int .i64 (Kp.numS most σ).1) (Kp.numS most σ).2 w) := by
  have HI := hideT h
  clear h
  go_enter Try.func44, Try.ntmps44
  go_wp2_with fail
  go_loopw [5, 6] (fun q s wr => ∃ (n : Int) (j : Nat) (σ' : Kp.St) (rv' : Value), q = .int .i64 n ∧ s = .int .i64 ((7 * j : Nat) : Int) ∧ j ≤ 3 ∧ 0 ≤ n ∧ n < 128 ^ j ∧ Hid (RSt b wr σ' rv' fv iv fs ids) ∧ Hid (But b w wr) ∧ Hid (Kp.numR most j n (Kp.rest σ') = Kp.numS most σ)) (fun _ s _ => 30 - (intOf s).toNat)
  case atStart => exact ⟨0, 0, σ, rv, rfl, rfl, by decide, by decide, by decide, HI, But.refl _ _, rfl⟩
  case round =>
    obtain ⟨n, j, σ', rv', rfl, rfl, hj, hn0, hn1, HR, HW, HN⟩ := hrel
    obtain ⟨x0, x1, x2, x3, f0, f1⟩ := HR.out.cells
    have hlt := HR.out.lies.lt
    obtain ⟨g, o, ao, cap, hrv, hc1, hc2, hao, hgb, hll, hcc⟩ := HR.out.rest
    subst hrv
    cases hrest : Kp.rest σ' with
    | nil =>
      rw [hrest] at x0
      have HN2 := HN.out
      rw [hrest] at HN2
      have HE : Hid (Kp.numS most σ = (0, none)) := HN2.symm.trans rfl
      clear HN2 hcc hao hgb hll hc1 hrest
      match j, hj with
      | 0, _ =>
        go_wp2_with fail
        all_goals
          refine (failD b _ _ _ fv iv fs ids HR.out).mono ?_
          rintro e wf ⟨rfl, rf, kf⟩
          go_wp2_with fail
          go_ret
          exact ⟨_, _, rfl, by rw [HE.out]; rfl, by rw [HE.out]; exact rf, HW.out.trans kf⟩
      | 1, _ =>
        go_wp2_with fail
        all_goals
          refine (failD b _ _ _ fv iv fs ids HR.out).mono ?_
          rintro e wf ⟨rfl, rf, kf⟩
          go_wp2_with fail
          go_ret
          exact ⟨_, _, rfl, by rw [HE.out]; rfl, by rw [HE.out]; exact rf, HW.out.trans kf⟩
      | 2, _ =>
        go_wp2_with fail
        all_goals
          refine (failD b _ _ _ fv iv fs ids HR.out).mono ?_
          rintro e wf ⟨rfl, rf, kf⟩
          go_wp2_with fail
          go_ret
          exact ⟨_, _, rfl, by rw [HE.out]; rfl, by rw [HE.out]; exact rf, HW.out.trans kf⟩
      | 3, _ =>
        go_wp2_with fail
        all_goals
          refine (failD b _ _ _ fv iv fs ids HR.out).mono ?_
          rintro e wf ⟨rfl, rf, kf⟩
          go_wp2_with fail
          go_ret
          exact ⟨_, _, rfl, by rw [HE.out]; rfl, by rw [HE.out]; exact rf, HW.out.trans kf⟩
    | cons x r =>
      have hσ : σ' = some (x :: r) := by
        cases σ' with
        | none => cases hrest
        | some l => exact congrArg some hrest
      subst hσ
      have x0' : wr.cell? ⟨b, 0, none⟩ = some (.slice ao (r.length + 1) cap) := x0
      obtain rfl := hao (by show 0 < r.length + 1; omega)
      have hgb' : g ≠ b := Nat.ne_of_lt (hgb (by show 0 < r.length + 1; omega))
      have hc1' : r.length + 1 ≤ cap := hc1
      have hll' : r.length + 1 ≤ 140737488355328 := hll
      have c0 : wr.cell? ⟨g, o, none⟩ = some (.int .u8 x.toNat) := hcc 0 x rfl
      obtain ⟨ad, had⟩ : ∃ ad, (if cap = 1 then some (⟨g, o, none⟩ : Addr) else some ⟨g, o + 1, none⟩) = ad := ⟨_, rfl⟩
      have HT : Hid (BRowN b wr (.slice ad r.length (cap - 1)) r) := by rw [← had]; exact brown_tail HR.out.rest
      have ha := and127 x
      have hx8 : x.toNat < 256 := x.toNat_lt
      obtain ⟨y, hy⟩ : ∃ y : Nat, x.toNat % 128 = y := ⟨_, rfl⟩
      rw [hy] at ha
      have hy8 : y < 128 := by omega
      have HN2 := HN.out
      have HN3 : Kp.numR most j n (x :: r) = Kp.numS most σ := HN2
      rw [Kp.numR, hy] at HN3
      have HY := hideT hy
      clear HN2 hao hgb hc1 hll hcc x0 hrest hy
      match j, hj with
      | 0, _ =>
        rw [if_pos (.inl rfl)] at HN3
        obtain ⟨z, hz⟩ : ∃ z : Int, n + (y : Int) * 128 ^ 0 = z := ⟨_, rfl⟩
        rw [hz] at HN3
        have hzz : z = n + (y : Int) * 1 := by rw [← hz]; rfl
        have hn1' : n < 1 := hn1
        have hor : bits .or .i64 n (y : Int) = z := by rw [or_low 0 n (y : Int) hn0 hn1 (by omega) (by omega) (by omega) (by omega)]; omega
        have hz0 : 0 ≤ z ∧ z < 128 := by omega
        clear hz hzz hn1 hn1'
        by_cases hx1 : 128 ≤ x.toNat
        · rw [if_pos hx1] at HN3
          have HE := hideT HN3
          clear HN3
          go_wp2_with fail
          exact ⟨⟨z, 1, some r, _, rfl, rfl, by decide, hz0.1, hz0.2, HR.out.but (But.set b wr 0 _) (HR.out.lies.set 0 _) HT.out, HW.out.trans (But.set b wr 0 _), HE⟩, by simp [intOf]⟩
        · rw [if_neg hx1] at HN3
          by_cases hm : most < z
          · rw [if_pos hm] at HN3
            have HE : Hid (Kp.numS most σ = (0, none)) := HN3.symm
            clear HN3
            go_wp2_with fail
            all_goals
              refine (failD b _ _ _ fv iv fs ids (HR.out.but (σ' := some r) (But.set b wr 0 _) (HR.out.lies.set 0 _) HT.out)).mono ?_
              rintro e wf ⟨rfl, rf, kf⟩
              go_wp2_with fail
              go_ret
              exact ⟨_, _, rfl, by rw [HE.out]; rfl, by rw [HE.out]; exact rf, (HW.out.trans (But.set b wr 0 _)).trans kf⟩
          · rw [if_neg hm] at HN3
            have HE : Hid (Kp.numS most σ = (z, some r)) := HN3.symm
            clear HN3
            go_wp2_with fail
            go_ret
            exact ⟨_, _, rfl, by rw [HE.out]; rfl, by rw [HE.out]; exact HR.out.but (σ' := some r) (But.set b wr 0 _) (HR.out.lies.set 0 _) HT.out, HW.out.trans (But.set b wr 0 _)⟩
      | 1, _ =>
        by_cases hq : 0 < most / 128
        rotate_left
        · rw [if_neg (by omega)] at HN3
          have HE : Hid (Kp.numS most σ = (0, none)) := HN3.symm
          clear HN3
          go_wp2_with fail
          all_goals
            refine (failD b _ _ _ fv iv fs ids HR.out).mono ?_
            rintro e wf ⟨rfl, rf, kf⟩
            go_wp2_with fail
            go_ret
            exact ⟨_, _, rfl, by rw [HE.out]; rfl, by rw [HE.out]; exact rf, HW.out.trans kf⟩
        rw [if_pos (by omega)] at HN3
        obtain ⟨z, hz⟩ : ∃ z : Int, n + (y : Int) * 128 ^ 1 = z := ⟨_, rfl⟩
        rw [hz] at HN3
        have hzz : z = n + (y : Int) * 128 := by rw [← hz]; rfl
        have hn1' : n < 128 := hn1
        have hor : bits .or .i64 n ((y : Int) * 128) = z := by rw [or_low 7 n ((y : Int) * 128) hn0 hn1 (by omega) (by omega) (by omega) (by omega)]; omega
        have hz0 : 0 ≤ z ∧ z < 16384 := by omega
        clear hz hzz hn1 hn1'
        by_cases hx1 : 128 ≤ x.toNat
        · rw [if_pos hx1] at HN3
          have HE := hideT HN3
          clear HN3
          go_wp2_with fail
          exact ⟨⟨z, 2, some r, _, rfl, rfl, by decide, hz0.1, hz0.2, HR.out.but (But.set b wr 0 _) (HR.out.lies.set 0 _) HT.out, HW.out.trans (But.set b wr 0 _), HE⟩, by simp [intOf]⟩
        · rw [if_neg hx1] at HN3
          by_cases hm : most < z
          · rw [if_pos hm] at HN3
            have HE : Hid (Kp.numS most σ = (0, none)) := HN3.symm
            clear HN3
            go_wp2_with fail
            all_goals
              refine (failD b _ _ _ fv iv fs ids (HR.out.but (σ' := some r) (But.set b wr 0 _) (HR.out.lies.set 0 _) HT.out)).mono ?_
              rintro e wf ⟨rfl, rf, kf⟩
              go_wp2_with fail
              go_ret
              exact ⟨_, _, rfl, by rw [HE.out]; rfl, by rw [HE.out]; exact rf, (HW.out.trans (But.set b wr 0 _)).trans kf⟩
          · rw [if_neg hm] at HN3
            have HE : Hid (Kp.numS most σ = (z, some r)) := HN3.symm
            clear HN3
            go_wp2_with fail
            go_ret
            exact ⟨_, _, rfl, by rw [HE.out]; rfl, by rw [HE.out]; exact HR.out.but (σ' := some r) (But.set b wr 0 _) (HR.out.lies.set 0 _) HT.out, HW.out.trans (But.set b wr 0 _)⟩
      | 2, _ =>
        by_cases hq : 0 < most / 16384
        rotate_left
        · rw [if_neg (by omega)] at HN3
          have HE : Hid (Kp.numS most σ = (0, none)) := HN3.symm
          clear HN3
          go_wp2_with fail
          all_goals
            refine (failD b _ _ _ fv iv fs ids HR.out).mono ?_
            rintro e wf ⟨rfl, rf, kf⟩
            go_wp2_with fail
            go_ret
            exact ⟨_, _, rfl, by rw [HE.out]; rfl, by rw [HE.out]; exact rf, HW.out.trans kf⟩
        rw [if_pos (by omega)] at HN3
        obtain ⟨z, hz⟩ : ∃ z : Int, n + (y : Int) * 128 ^ 2 = z := ⟨_, rfl⟩
        rw [hz] at HN3
        have hzz : z = n + (y : Int) * 16384 := by rw [← hz]; rfl
        have hn1' : n < 16384 := hn1
        have hor : bits .or .i64 n ((y : Int) * 16384) = z := by rw [or_low 14 n ((y : Int) * 16384) hn0 hn1 (by omega) (by omega) (by omega) (by omega)]; omega
        have hz0 : 0 ≤ z ∧ z < 2097152 := by omega
        clear hz hzz hn1 hn1'
        by_cases hx1 : 128 ≤ x.toNat
        · rw [if_pos hx1] at HN3
          have HE := hideT HN3
          clear HN3
          go_wp2_with fail
          exact ⟨⟨z, 3, some r, _, rfl, rfl, by decide, hz0.1, hz0.2, HR.out.but (But.set b wr 0 _) (HR.out.lies.set 0 _) HT.out, HW.out.trans (But.set b wr 0 _), HE⟩, by simp [intOf]⟩
        · rw [if_neg hx1] at HN3
          by_cases hm : most < z
          · rw [if_pos hm] at HN3
            have HE : Hid (Kp.numS most σ = (0, none)) := HN3.symm
            clear HN3
            go_wp2_with fail
            all_goals
              refine (failD b _ _ _ fv iv fs ids (HR.out.but (σ' := some r) (But.set b wr 0 _) (HR.out.lies.set 0 _) HT.out)).mono ?_
              rintro e wf ⟨rfl, rf, kf⟩
              go_wp2_with fail
              go_ret
              exact ⟨_, _, rfl, by rw [HE.out]; rfl, by rw [HE.out]; exact rf, (HW.out.trans (But.set b wr 0 _)).trans kf⟩
          · rw [if_neg hm] at HN3
            have HE : Hid (Kp.numS most σ = (z, some r)) := HN3.symm
            clear HN3
            go_wp2_with fail
            go_ret
            exact ⟨_, _, rfl, by rw [HE.out]; rfl, by rw [HE.out]; exact HR.out.but (σ' := some r) (But.set b wr 0 _) (HR.out.lies.set 0 _) HT.out, HW.out.trans (But.set b wr 0 _)⟩
      | 3, _ =>
        rw [if_neg (by omega)] at HN3
        have HE : Hid (Kp.numS most σ = (0, none)) := HN3.symm
        have hq : ¬ 0 < most / 2097152 := by omega
        clear HN3
        go_wp2_with fail
        all_goals
          refine (failD b _ _ _ fv iv fs ids HR.out).mono ?_
          rintro e wf ⟨rfl, rf, kf⟩
          go_wp2_with fail
          go_ret
          exact ⟨_, _, rfl, by rw [HE.out]; rfl, by rw [HE.out]; exact rf, HW.out.trans kf⟩
end Go.Proofs.Ytcfalhgcdffjoaa
/-
  The reader: a text, one of some texts.
-/
set_option linter.unusedSimpArgs false
set_option linter.unusedVariables false
namespace Go.Proofs.Ytcfalhgcdffjoaa
open Go.RowKit
set_option maxRecDepth 100000
theorem BRowN.plain {b : Nat} {w : World} {v : Value} {l : List UInt8} (h : BRowN b w v l) : BRow w v l := by
  obtain ⟨g, o, ao, cap, h1, h2, h2', h3, h3', h4, h5⟩ := h
  exact ⟨g, o, ao, cap, h1, h2, h3, h4, h5⟩
theorem brown_take {b : Nat} {w : World} {ao : Option Addr} {n cap : Nat} {l : List UInt8} (h : BRowN b w (.slice ao n cap) l) (k : Nat) (hk : k ≤ l.length) : BRowN b w (.slice ao k cap) (l.take k) := by
  obtain ⟨g, o, ao', cap', h1, h2, h2', h3, h3', h4, h5⟩ := h
  cases h1
  have hl : (l.take k).length = k := by rw [List.length_take]; omega
  refine ⟨g, o, ao, cap, by rw [hl], by omega, h2', fun h0 => h3 (by omega), fun h0 => h3' (by omega), by omega, fun i x hx => ?_⟩
  rw [List.getElem?_take] at hx
  split at hx
  · exact h5 i x hx
  · cases hx
theorem brown_drop {b : Nat} {w : World} {ao ao' : Option Addr} {n cap cap' : Nat} {l : List UInt8} (h : BRowN b w (.slice ao n cap) l) (k : Nat) (hc : l.length - k ≤ cap') (hm : cap' ≤ maxLen) (ha : ∀ a, ao = some a → 0 < l.length - k → ao' = some (a.add k)) {q : Nat} (hq : q = l.length - k) : BRowN b w (.slice ao' q cap') (l.drop k) := by
  subst hq
  obtain ⟨g, o, ao1, cap1, h1, h2, h2', h3, h3', h4, h5⟩ := h
  cases h1
  have hl : (l.drop k).length = l.length - k := List.length_drop
  refine ⟨g, o + k, ao', cap', by rw [hl], by omega, hm, fun h0 => ?_, fun h0 => h3' (by omega), by omega, fun i x hx => ?_⟩
  · have := ha _ (h3 (by omega)) (by omega)
    rw [this]
    unfold Addr.add
    split <;> simp_all
  · rw [List.getElem?_drop] at hx
    have := h5 (k + i) x hx
    rw [show o + k + i = o + (k + i) by omega]
    exact this
theorem rest_map (σ : Kp.St) (k : Nat) : Kp.rest (σ.map (List.drop k)) = (Kp.rest σ).drop k := by
  cases σ with
  | none => simp [Kp.rest]
  | some l => rfl
theorem none_map (σ : Kp.St) (k : Nat) : (σ.map (List.drop k)).isNone = σ.isNone := by cases σ <;> rfl
theorem RSt.drop {b : Nat} {w : World} {σ : Kp.St} {rv rv' fv iv : Value} {fs ids : List ByteArray} (h : RSt b w σ rv fv iv fs ids) (k : Nat) (hr : BRowN b w rv' ((Kp.rest σ).drop k)) : RSt b (w.setCell ⟨b, 0, none⟩ rv') (σ.map (List.drop k)) rv' fv iv fs ids := by
  refine h.but (But.set b w 0 _) ?_ (by rw [rest_map]; exact hr)
  rw [none_map]
  exact h.lies.set 0 _
set_option maxHeartbeats 4000000 in
theorem textR (b : Nat) (w : World) (σ : Kp.St) (rv fv iv : Value) (fs ids : List ByteArray) (h : RSt b w σ rv fv iv fs ids) :
    Calls Try.prog 43 #[.pointer (some ⟨b, 0, none⟩)] w (RPost b fv iv fs ids (fun _ r => r = .string (Kp.textS σ).1) (Kp.textS σ).2 w) := by
  have HI := hideT h
  have hle := Kp.numS_le (most := 12) (by decide) σ
  obtain ⟨n, σ1, E1⟩ : ∃ n σ1, Kp.numS 12 σ = (n, σ1) := ⟨_, _, rfl⟩
  rw [E1] at hle
  obtain ⟨k, rfl⟩ : ∃ k : Nat, n = k := ⟨n.toNat, by have := hle.1; dsimp only at this; omega⟩
  have hk12 : k ≤ 12 := by have := hle.2; dsimp only at this; omega
  have HT : Hid (Kp.textS σ = if (Kp.rest σ1).length < k then (Mp.e0, none) else (⟨((Kp.rest σ1).take k).toArray⟩, σ1.map (List.drop k))) := by
    show _ = _
    unfold Kp.textS
    rw [E1]
    simp only [Int.toNat_natCast]
  have HE1 := hideT E1
  clear h hle E1
  go_enter Try.func43, Try.ntmps43
  go_wp2_with fail
  refine (numberR b w σ rv fv iv fs ids HI.out 12 (by decide) (by decide)).mono ?_
  rintro e w1 ⟨_, rv1, rfl, rfl, r1, k1⟩
  rw [HE1.out] at r1
  have hv : (Kp.numS 12 σ).1 = (k : Int) := by rw [HE1.out]
  rw [hv]
  dsimp only at r1
  have HR := hideT r1
  have HW := hideT k1
  obtain ⟨x0, x1, x2, x3, f0, f1⟩ := r1.cells
  have hlt := r1.lies.lt
  obtain ⟨g, o, ao, cap, hrv, hc1, hc2, hao, hgb, hll, hcc⟩ := r1.rest
  subst hrv
  obtain ⟨l, EL⟩ : ∃ l, Kp.rest σ1 = l := ⟨_, rfl⟩
  rw [EL] at x0 hc1 hao hgb hll hcc
  have HB : Hid (BRowN b w1 (.slice ao l.length cap) l) := by have := r1.rest; rw [EL] at this; exact this
  have HEL := hideT EL
  have HTL := HT.out
  rw [EL] at HTL
  have HRL : Hid (RSt b w1 σ1 (.slice ao l.length cap) fv iv fs ids) := by have := HR.out; rw [EL] at this; exact this
  clear r1 k1 hv EL HR HT hcc
  by_cases hgt : l.length < k
  · rw [if_pos hgt] at HTL
    have HT2 := hideT HTL
    clear HTL
    go_wp2_with fail
    refine (failD b _ _ _ fv iv fs ids HRL.out).mono ?_
    rintro e wf ⟨rfl, rf, kf⟩
    go_wp2_with fail
    go_ret
    exact ⟨_, _, rfl, by rw [HT2.out]; rfl, by rw [HT2.out]; exact rf, HW.out.trans kf⟩
  · rw [if_neg hgt] at HTL
    have HT2 := hideT HTL
    have hcv := conv_str w1 (.slice ao k cap) (l.take k) (brown_take HB.out k (by omega)).plain
    obtain ⟨s, ES⟩ : ∃ s : ByteArray, (⟨(l.take k).toArray⟩ : ByteArray) = s := ⟨_, rfl⟩
    rw [ES] at hcv
    have HES := hideT ES
    clear HTL ES
    cases ao with
    | none =>
      have hl0 : l.length = 0 := by
        rcases Nat.eq_zero_or_pos l.length with h | h
        · exact h
        · cases hao h
      go_wp2_with fail
      go_ret
      exact ⟨_, _, rfl, by rw [HT2.out, ← HES.out]; rfl, by rw [HT2.out]; exact HRL.out.drop k (by rw [HEL.out]; exact brown_drop HB.out k (by omega) (by omega) (fun a h => by cases h) (by omega)), HW.out.trans (But.set b w1 0 _)⟩
    | some ad =>
      go_wp2_with fail
      · go_ret
        exact ⟨_, _, rfl, by rw [HT2.out, ← HES.out]; rfl, by rw [HT2.out]; exact HRL.out.drop k (by rw [HEL.out]; exact brown_drop HB.out k (by omega) (by omega) (fun a h h0 => by omega) rfl), HW.out.trans (But.set b w1 0 _)⟩
      · go_ret
        exact ⟨_, _, rfl, by rw [HT2.out, ← HES.out]; rfl, by rw [HT2.out]; exact HRL.out.drop k (by rw [HEL.out]; exact brown_drop HB.out k (by omega) (by omega) (fun a h h0 => by rw [Option.some.inj h]) rfl), HW.out.trans (But.set b w1 0 _)⟩
theorem oneS_none {l : List ByteArray} {σ : Kp.St} {n : Int} (h : Kp.numS ((l.length : Int) - 1) σ = (n, none)) : Kp.oneS l σ = (Mp.e0, none) := by
  unfold Kp.oneS
  rw [h]
theorem oneS_some {l : List ByteArray} {σ : Kp.St} {n : Int} {r : List UInt8} (h : Kp.numS ((l.length : Int) - 1) σ = (n, some r)) : Kp.oneS l σ = (l.getD n.toNat Mp.e0, some r) := by
  unfold Kp.oneS
  rw [h]
theorem numR_some {most : Int} : ∀ (l : List UInt8) (j : Nat) (n a : Int) (r : List UInt8), 0 ≤ n → Kp.numR most j n l = (a, some r) → 0 ≤ a ∧ a ≤ most
  | [], j, n, a, r, hn, h => by cases congrArg Prod.snd h
  | x :: l, j, n, a, r, hn, h => by
    rw [Kp.numR] at h
    have hp : (0 : Int) ≤ ((x.toNat % 128 : Nat) : Int) * 128 ^ j := Int.mul_nonneg (by omega) (Int.pow_nonneg (by decide))
    split at h
    · split at h
      · exact numR_some l _ _ a r (by omega) h
      · split at h
        · cases congrArg Prod.snd h
        · have := congrArg Prod.fst h
          dsimp only at this
          omega
    · cases congrArg Prod.snd h
theorem oneS_lt {most : Int} {σ : Kp.St} {n : Int} {r : List UInt8} (h : Kp.numS most σ = (n, some r)) : 0 ≤ n ∧ n ≤ most := numR_some _ 0 0 n r (Int.le_refl _) h
set_option maxHeartbeats 4000000 in
theorem oneR (b : Nat) (w : World) (σ : Kp.St) (rv fv iv : Value) (fs ids : List ByteArray) (h : RSt b w σ rv fv iv fs ids) (ta : Option Addr) (tc : Nat) (l : List ByteArray) (hl : FRow w (.slice ta l.length tc) l) (hlb : ∀ a, ta = some a → 0 < l.length → a.block ≠ b) (hn : l.length ≤ 1000) :
    Calls Try.prog 91 #[.pointer (some ⟨b, 0, none⟩), .slice ta l.length tc] w (RPost b fv iv fs ids (fun _ r => r = .string (Kp.oneS l σ).1) (Kp.oneS l σ).2 w) := by
  have HI := hideT h
  obtain ⟨_, _, htc, g, o, ha, hc⟩ := frow_at hl
  have HA := hideT ha
  have HC := hideT hc
  have HLB := hideT hlb
  obtain ⟨n, σ1, E1⟩ : ∃ n σ1, Kp.numS ((l.length : Int) - 1) σ = (n, σ1) := ⟨_, _, rfl⟩
  have HE1 := hideT E1
  clear h ha hc hl hlb E1
  go_enter Try.func91, Try.ntmps91
  go_wp2_with fail
  refine (numberR b w σ rv fv iv fs ids HI.out ((l.length : Int) - 1) (by omega) (by omega)).mono ?_
  rintro e w1 ⟨_, rv1, rfl, rfl, r1, k1⟩
  have hv : (Kp.numS ((l.length : Int) - 1) σ).1 = n := by rw [HE1.out]
  rw [HE1.out] at r1
  rw [hv]
  dsimp only at r1
  have HR := hideT r1
  have HW := hideT k1
  obtain ⟨x0, x1, x2, x3, f0, f1⟩ := r1.cells
  clear r1 k1
  cases σ1 with
  | none =>
    have HT2 := hideT (oneS_none HE1.out)
    clear hv
    go_wp2_with fail
    go_ret
    exact ⟨_, _, rfl, by rw [HT2.out]; rfl, by rw [HT2.out]; exact HR.out, HW.out⟩
  | some r =>
    have HT2 := hideT (oneS_some HE1.out)
    have hb := oneS_lt HE1.out
    obtain ⟨k, rfl⟩ : ∃ k : Nat, n = k := ⟨n.toNat, by omega⟩
    obtain ⟨s, hs⟩ := Mp.at_lt (l := l) (k := k) (by omega)
    obtain ⟨hz, c0⟩ := HC.out k s hs
    have hgd : Hid (l.getD (k : Int).toNat Mp.e0 = s) := by
      show _ = _
      rw [Int.toNat_natCast, List.getD_eq_getElem?_getD, hs]
      rfl
    obtain rfl := HA.out (by omega)
    have c1 := But.cell HW.out c0 (HLB.out ⟨g, o, none⟩ rfl (by omega))
    clear c0 hs hv
    go_wp2_with fail
    go_ret
    exact ⟨_, _, rfl, by rw [HT2.out]; exact congrArg Value.string hgd.out.symm, by rw [HT2.out]; exact HR.out, HW.out⟩
end Go.Proofs.Ytcfalhgcdffjoaa
/-
  What the reader makes: rows, sentries, items in blocks that are not its own.
-/
set_option linter.unusedSimpArgs false
set_option linter.unusedVariables false
namespace Go.Proofs.Ytcfalhgcdffjoaa
open Go.RowKit
set_option maxRecDepth 100000
/-- A row of kind e grew: all else is as it was. -/
structure Grow (b e : Nat) (w w' : World) : Prop where
  below : Below b w w'
  calm : ∀ g t C, Lies w g t C → g ≠ b → t ≠ e → Lies w' g t C
  own : ∀ C, Lies w b 57 C → Lies w' b 57 C
theorem RSt.grow {b e : Nat} {w w' : World} {σ : Kp.St} {rv fv iv : Value} {fs ids : List ByteArray} (h : RSt b w σ rv fv iv fs ids) (hg : Grow b e w w') (he : e ≠ 9 ∨ (fs = [] ∧ ids = [])) : RSt b w' σ rv fv iv fs ids := by
  refine ⟨hg.own _ h.lies, ?_, ?_, ?_⟩
  · obtain ⟨g, o, ao, cap, h1, h2, h2', h3, h3', h4, h5⟩ := h.rest
    refine ⟨g, o, ao, cap, h1, h2, h2', h3, h3', h4, fun i x hx => ?_⟩
    have h0 : 0 < (Kp.rest σ).length := Nat.lt_of_le_of_lt (Nat.zero_le _) (List.getElem?_eq_some_iff.1 hx).1
    rw [hg.below.cell (h3' h0)]
    exact h5 i x hx
  · rcases he with he | ⟨rfl, rfl⟩
    · exact h.files.turn (fun _ _ _ h => h) (fun g C hb hC => hg.calm g _ C hC hb (fun e => he e.symm))
    · obtain ⟨g, o, h1, hq, h2, h3⟩ := h.files
      exact ⟨g, o, h1, fun h => absurd h (Nat.lt_irrefl 0), h2, fun i x hx => by simp at hx⟩
  · rcases he with he | ⟨rfl, rfl⟩
    · exact h.ids.turn (fun _ _ _ h => h) (fun g C hb hC => hg.calm g _ C hC hb (fun e => he e.symm))
    · obtain ⟨g, o, h1, hq, h2, h3⟩ := h.ids
      exact ⟨g, o, h1, fun h => absurd h (Nat.lt_irrefl 0), h2, fun i x hx => by simp at hx⟩
def SentN (b : Nat) (w : World) (cs : List Value) (x : Mp.Sent) : Prop := ∃ v1 v2, cs = [v1, v2] ∧ RowN b 87 2 onR w v1 x.1 ∧ RowN b 43 3 condR w v2 x.2
theorem SentN.turn {b : Nat} {w w' : World} {cs : List Value} {x : Mp.Sent} (h : SentN b w cs x) (hk : ∀ g t C, t = 87 ∨ t = 43 → g ≠ b → Lies w g t C → Lies w' g t C) : SentN b w' cs x := by
  obtain ⟨v1, v2, e, h1, h2⟩ := h
  exact ⟨v1, v2, e, h1.turn (fun _ _ _ h => h) (fun g C hb hC => hk g _ C (.inl rfl) hb hC), h2.turn (fun _ _ _ h => h) (fun g C hb hC => hk g _ C (.inr rfl) hb hC)⟩
theorem SentN.plain {b : Nat} {w : World} {cs : List Value} {x : Mp.Sent} (h : SentN b w cs x) : sentR w cs x := by
  obtain ⟨v1, v2, e, h1, h2⟩ := h
  exact ⟨v1, v2, e, h1.plain (fun _ _ h => h), h2.plain (fun _ _ h => h)⟩
def itemN (b : Nat) (w : World) (cs : List Value) (x : Mp.Item) : Prop :=
  ∃ v5 v6, cs = itemC x v5 v6 ∧ (x.id.size ≤ 140737488355328 ∧ x.parent.size ≤ 140737488355328) ∧ RowN b 47 2 (SentN b) w v5 x.entry ∧ RowN b 47 2 (SentN b) w v6 x.exit
theorem itemN.turn {b : Nat} {w w' : World} {cs : List Value} {x : Mp.Item} (h : itemN b w cs x) (hk : ∀ g t C, t = 87 ∨ t = 43 ∨ t = 47 → g ≠ b → Lies w g t C → Lies w' g t C) : itemN b w' cs x := by
  obtain ⟨v5, v6, e, hz, h1, h2⟩ := h
  have hs : ∀ cs x, SentN b w cs x → SentN b w' cs x := fun cs x h => h.turn (fun g t C ht hb hC => hk g t C (ht.imp id Or.inl) hb hC)
  exact ⟨v5, v6, e, hz, h1.turn (fun cs x _ h => hs cs x h) (fun g C hb hC => hk g _ C (.inr (.inr rfl)) hb hC), h2.turn (fun cs x _ h => hs cs x h) (fun g C hb hC => hk g _ C (.inr (.inr rfl)) hb hC)⟩
theorem itemN.plain {b : Nat} {w : World} {cs : List Value} {x : Mp.Item} (h : itemN b w cs x) : itemR w cs x := by
  obtain ⟨v5, v6, e, hz, h1, h2⟩ := h
  exact ⟨v5, v6, e, hz, h1.plain (fun _ _ h => h.plain), h2.plain (fun _ _ h => h.plain)⟩
/-- A row that is being made. -/
structure Made {α : Type} (H T z : Nat) (R : World → List Value → α → Prop) (w : World) (v : Value) (l : List α) (C : List (List Value)) : Prop where
  own : w.ownsRow H T z v l.length C.flatten
  len : C.length = l.length
  cs : ∀ x ∈ C, x.length = z
  each : ∀ (i : Nat) x c, l[i]? = some x → C[i]? = some c → R w c x
theorem Made.nil {α : Type} {H T z : Nat} {R : World → List Value → α → Prop} (w : World) : Made H T z R w nilS ([] : List α) [] := ⟨World.ownsRow_nil _ _ _ _, rfl, fun _ h => by simp at h, fun i x c h => by simp at h⟩
theorem Made.row {α : Type} {b H T z : Nat} {R : World → List Value → α → Prop} {w : World} {v : Value} {l : List α} {C : List (List Value)} (h : Made H T z R w v l C) (hb : b < H) (hl : l.length ≤ 10000000000000) : RowN b T z R w v l := by
  rcases h.own.2 with ⟨rfl, h0⟩ | ⟨g, cap, cur, rfl, g1, g2, g3, g4, g5, g6⟩
  · have : l = [] := List.eq_nil_of_length_eq_zero h0
    subst this
    exact RowN.nil w
  · refine ⟨g, 0, ⟨_, cap, rfl, g3, g4, fun _ => rfl⟩, fun _ => ⟨by omega, cur, g2⟩, hl, fun i x hx => ?_⟩
    have hi := (List.getElem?_eq_some_iff.1 hx).1
    have hiC : i < C.length := by rw [h.len]; exact hi
    have hC : C[i]? = some C[i] := List.getElem?_eq_getElem hiC
    refine ⟨C[i], h.cs _ (List.getElem_mem hiC), h.each i x _ hx hC, fun j c hj => ?_⟩
    rw [Nat.zero_add]
    exact own_cell h.own (flatten_get h.cs hC hj)
theorem get_snoc {α : Type} {l : List α} {x y : α} {j : Nat} (h : (l ++ [x])[j]? = some y) : l[j]? = some y ∨ (j = l.length ∧ y = x) := by
  by_cases hj : j < l.length
  · rw [List.getElem?_append_left hj] at h
    exact .inl h
  · rw [List.getElem?_append_right (by omega)] at h
    have h1 := (List.getElem?_eq_some_iff.1 h).1
    simp only [List.length_singleton] at h1
    have hj' : j - l.length = 0 := by omega
    rw [hj'] at h
    simp only [List.getElem?_cons_zero, Option.some.injEq] at h
    exact .inr ⟨by omega, h.symm⟩
/-- One more. -/
theorem Made.push {α : Type} {H T z : Nat} {R : World → List Value → α → Prop} {w w' : World} {v v' : Value} {l : List α} {C : List (List Value)} {x : α} {c : List Value} {n : Nat} (h : Made H T z R w v l C) (hR : ∀ c x, R w c x → R w' c x) (ho : w'.ownsRow H T z v' n (C.flatten ++ c)) (hn : n = l.length + 1) (hz : c.length = z) (hx : R w' c x) : Made H T z R w' v' (l ++ [x]) (C ++ [c]) := by
  refine ⟨?_, by simp [h.len], fun y hy => ?_, fun i y d hy hd => ?_⟩
  · rw [List.flatten_append, List.length_append]
    subst hn
    simpa using ho
  · rcases List.mem_append.1 hy with hy | hy
    · exact h.cs y hy
    · rw [List.mem_singleton.1 hy]
      exact hz
  · rcases get_snoc hy with hy | ⟨hi, rfl⟩
    · have hi := (List.getElem?_eq_some_iff.1 hy).1
      rw [List.getElem?_append_left (by rw [h.len]; exact hi)] at hd
      exact hR _ _ (h.each i y d hy hd)
    · rw [hi, ← h.len, List.getElem?_append_right (Nat.le_refl _), Nat.sub_self] at hd
      simp only [List.getElem?_cons_zero, Option.some.injEq] at hd
      rw [← hd]
      exact hx
theorem Made.but {α : Type} {b H T z : Nat} {R : World → List Value → α → Prop} {w w' : World} {v : Value} {l : List α} {C : List (List Value)} (h : Made H T z R w v l C) (hk : But b w w') (hb : b < H) (hR : ∀ c x, R w c x → R w' c x) : Made H T z R w' v l C :=
  ⟨own_keep h.own fun g hv => hk.block g (own_lt h.own hv).1 (fun e => by have := (own_lt h.own hv).2; omega), h.len, h.cs, fun i x c h1 h2 => hR _ _ (h.each i x c h1 h2)⟩
/-- An append to it: all else is as it was. -/
theorem grow_of {b H T z n : Nat} {w W w3 : World} {v : Value} {xs : List Value} (ho : w.ownsRow H T z v n xs) (hb : b < H) (hT : T ≠ 57) (hH : H ≤ w.heap.size) (hB : Below w.heap.size w W) (hg : W.grownBy w3 v.ownBlock) : Grow b T w w3 ∧ Below H w w3 := by
  have hl : ∀ g t C, Lies w g t C → t ≠ T → Lies w3 g t C := fun g t C hC ht => (hC.below hB).keep (Keep.grown hg) (fun e => own_ne (own_below ho hB) (hC.below hB) ht e)
  have hbl : Below H w w3 := ⟨hg.os.trans hB.os, hg.tape.trans hB.tape, hg.output.trans hB.output, Nat.le_trans hB.size hg.size, fun k hk => (hg.block k (by have := hB.size; omega) (fun e => by have := (own_lt ho e.symm).2; omega)).trans (hB.block k (by omega))⟩
  exact ⟨⟨hbl.mono (by omega), fun g t C hC _ ht => hl g t C hC ht, fun C hC => hl b _ C hC (fun e => hT e.symm)⟩, hbl⟩
theorem But.of_low {b H : Nat} {w w' : World} (h : Below H w w') (hH : w.heap.size ≤ H) : But b w w' := ⟨h.os, h.tape, h.output, h.size, fun k hk _ => h.block k (by omega)⟩
end Go.Proofs.Ytcfalhgcdffjoaa
/-
  The reader: a row of texts.
-/
set_option linter.unusedSimpArgs false
set_option linter.unusedVariables false
namespace Go.Proofs.Ytcfalhgcdffjoaa
open Go.RowKit
set_option maxRecDepth 100000
theorem But.low {b : Nat} {w w2 w3 : World} (h : But b w w2) (hl : Below w.heap.size w2 w3) : But b w w3 := ⟨hl.os.trans h.os, hl.tape.trans h.tape, hl.output.trans h.output, Nat.le_trans h.size hl.size, fun k hk hs => (hl.block k hk).trans (h.block k hk hs)⟩
theorem textS_size (σ : Kp.St) : (Kp.textS σ).1.size ≤ 140737488355328 := by
  have hle := (Kp.numS_le (most := 12) (by decide) σ).2
  unfold Kp.textS
  split
  · exact (by decide : (0 : Nat) ≤ 140737488355328)
  · show (List.take _ _).toArray.size ≤ _
    rw [List.size_toArray, List.length_take]
    omega
theorem textV (b : Nat) (w : World) (σ : Kp.St) (rv fv iv : Value) (fs ids : List ByteArray) (h : RSt b w σ rv fv iv fs ids) :
    Calls Try.prog 43 #[.pointer (some ⟨b, 0, none⟩)] w (RPost b fv iv fs ids (fun _ r => r = .string (Kp.textS σ).1 ∧ (Kp.textS σ).1.size ≤ 140737488355328) (Kp.textS σ).2 w) :=
  (textR b w σ rv fv iv fs ids h).mono fun e w' ⟨r, rv', h1, h2, h3, h4⟩ => ⟨r, rv', h1, ⟨h2, textS_size σ⟩, h3, h4⟩
set_option maxHeartbeats 4000000 in
theorem rowText (b : Nat) (w : World) (σ : Kp.St) (rv fv iv : Value) (h : RSt b w σ rv fv iv [] []) (most : Int) (h0 : 0 ≤ most) (hm : most ≤ 1000) :
    Calls Try.prog 42 #[.pointer (some ⟨b, 0, none⟩), .int .i64 most, .func (.func 43) #[.pointer (some ⟨b, 0, none⟩)] #[]] w (RPost b fv iv [] [] (fun w' r => RowN b 9 1 strR w' r (Kp.rowS most Kp.textS σ).1) (Kp.rowS most Kp.textS σ).2 w) := by
  have HI := hideT h
  have hbw := h.lies.lt
  have hle := Kp.numS_le h0 σ
  obtain ⟨n, σ1, E1⟩ : ∃ n σ1, Kp.numS most σ = (n, σ1) := ⟨_, _, rfl⟩
  rw [E1] at hle
  dsimp only at hle
  obtain ⟨N, rfl⟩ : ∃ k : Nat, n = k := ⟨n.toNat, by omega⟩
  have hN : N ≤ 1000 := by omega
  have HRW : Hid (Kp.rowS most Kp.textS σ = Kp.repS Kp.textS N [] σ1) := by
    show _ = _
    unfold Kp.rowS
    rw [E1, Int.toNat_natCast]
  have HE1 := hideT E1
  obtain ⟨i0, hi0, hz0, hz1, hz2⟩ := info_parts infoS
  clear h hle E1
  go_enter Try.func42, Try.ntmps42
  go_wp2_with fail
  refine (numberR b w σ rv fv iv [] [] HI.out most (by omega) (by omega)).mono ?_
  rintro e w1 ⟨_, rv1, rfl, rfl, r1, k1⟩
  have hv : (Kp.numS most σ).1 = (N : Int) := by rw [HE1.out]
  rw [HE1.out] at r1
  rw [hv]
  dsimp only at r1
  have R1 := hideT r1
  have K1 := hideT k1
  clear r1 k1 hv
  go_wp2_with fail
  go_loopw [7, 11] (fun v i wr => ∃ (k : Nat) (acc : List (ByteArray)) (C : List (List Value)) (σ' : Kp.St) (rv' : Value), k ≤ N ∧ i = .int .i64 k ∧ acc.length = k ∧ Hid (Made w.heap.size 9 1 strR wr v acc C) ∧ Hid (RSt b wr σ' rv' fv iv [] []) ∧ Hid (But b w wr) ∧ Hid (Kp.repS Kp.textS (N - k) acc σ' = Kp.rowS most Kp.textS σ)) (fun _ i _ => N - (intOf i).toNat)
  case atStart => exact ⟨0, [], [], σ1, rv1, Nat.zero_le _, rfl, rfl, Made.nil _, R1, K1, HRW.out.symm⟩
  case round =>
    obtain ⟨k, acc, C, σ', rv', hk, rfl, rfl, HM, HR, HW, HS⟩ := hrel
    obtain ⟨va, vc, hva⟩ := slice_form HM.out.own
    subst hva
    have hsz := HW.out.size
    by_cases hlt : acc.length < N
    · have HS2 := HS.out
      rw [show N - acc.length = (N - (acc.length + 1)) + 1 by omega, Kp.repS] at HS2
      go_wp2_with fail
      refine (textV b wr σ' rv' fv iv [] [] HR.out).mono ?_
      rintro e w2 ⟨_, rv2, rfl, ⟨rfl, hz⟩, r2, k2⟩
      have M2 := hideT (HM.out.but k2 hbw (fun c x h => h))
      have R2 := hideT r2
      have K2 := hideT k2
      have hsz2 := k2.size
      obtain ⟨s, ES⟩ : ∃ s, (Kp.textS σ').1 = s := ⟨_, rfl⟩
      rw [ES] at hz HS2 ⊢
      have HS3 := hideT HS2
      clear r2 k2 HS2
      go_wp2_with (first | (at_builtin; refine wpList_append_lies _ (by rfl) _ _ _ (by rfl) w.heap.size 9 i0 _ 1 16 Try.underlying22 hi0 hz0 hz1 hz2 rfl (by omega) (.slice va acc.length vc) acc.length C.flatten (by rfl) (M2.out.own.alloc _) ⟨w2.heap.size, 0, none⟩ 1 1 [.string s] (by rfl) (by rfl) (news1 w2 #[.string s] 9) (by simp [Value.oneCell']) (by omega) (by unfold maxLen; omega) (by omega) (by simp; omega) (w2.heap.size + 1) (by simp) ?_; intro gb cap2 w3 hown hgrow hat hlt3) | fail)
      obtain ⟨G3, BL3⟩ := grow_of (b := b) M2.out.own hbw (by decide) (by omega) ((Below.refl _ w2).alloc (Nat.le_refl _) _) hgrow
      have M3 := hideT (M2.out.push (w' := w3) (x := s) (fun c x h => h) hown rfl rfl ⟨rfl, hz⟩)
      have R3 := hideT (R2.out.grow G3 (.inr ⟨rfl, rfl⟩))
      have K3 := hideT (But.low (HW.out.trans K2.out) BL3)
      refine ⟨⟨acc.length + 1, _, _, _, _, by omega, by go_num, by rw [List.length_append]; rfl, M3, R3, K3, HS3⟩, ?_⟩
      first | omega | (simp [intOf]; omega)
    · have hkN : acc.length = N := by omega
      have HS2 : Hid ((acc, σ') = Kp.rowS most Kp.textS σ) := by
        have := HS.out
        rw [hkN, Nat.sub_self] at this
        exact this
      clear hkN
      go_wp2_with fail
      go_ret
      exact ⟨_, _, rfl, by rw [← HS2.out]; exact HM.out.row hbw (by omega), by rw [← HS2.out]; exact HR.out, HW.out⟩
end Go.Proofs.Ytcfalhgcdffjoaa
/-
  The reader: an event.
-/
set_option linter.unusedSimpArgs false
set_option linter.unusedVariables false
namespace Go.Proofs.Ytcfalhgcdffjoaa
open Go.RowKit
set_option maxRecDepth 100000
theorem rown_away {α : Type} {b T z : Nat} {R : World → List Value → α → Prop} {w : World} {ao : Option Addr} {n cap : Nat} {l : List α} (h : RowN b T z R w (.slice ao n cap) l) : n = l.length ∧ l.length ≤ cap ∧ cap ≤ maxLen ∧ ∀ a, ao = some a → 0 < l.length → a.block ≠ b := by
  obtain ⟨g, o, ⟨ao', cap', e, h1, h2, h3⟩, hq, _⟩ := h
  cases e
  refine ⟨rfl, h1, h2, fun a ha h0 => ?_⟩
  rw [h3 h0] at ha
  rw [← Option.some.inj ha]
  exact (hq h0).1
theorem rown_form {α : Type} {b T z : Nat} {R : World → List Value → α → Prop} {w : World} {v : Value} {l : List α} (h : RowN b T z R w v l) : ∃ ao cap, v = .slice ao l.length cap := by
  obtain ⟨g, o, ⟨ao', cap', e, h1, h2, h3⟩, hq, _⟩ := h
  exact ⟨_, _, e⟩
theorem oneS_size {l : List ByteArray} (h : ∀ s ∈ l, s.size ≤ 140737488355328) (σ : Kp.St) : (Kp.oneS l σ).1.size ≤ 140737488355328 := by
  unfold Kp.oneS
  split
  · exact (by decide : (0 : Nat) ≤ 140737488355328)
  · rw [List.getD_eq_getElem?_getD]
    cases e : l[(Kp.numS ((l.length : Int) - 1) σ).1.toNat]? with
    | none => exact (by decide : (0 : Nat) ≤ 140737488355328)
    | some s => exact h s (List.mem_of_getElem? e)
theorem rown_small {b T : Nat} {w : World} {v : Value} {l : List ByteArray} (h : RowN b T 1 strR w v l) : ∀ s ∈ l, s.size ≤ 140737488355328 := by
  intro s hs
  obtain ⟨g, o, _, _, _, h4⟩ := h
  obtain ⟨i, hi⟩ := List.getElem?_of_mem hs
  obtain ⟨cs, _, ⟨_, hz⟩, _⟩ := h4 i s hi
  exact hz
/-- Blocks that are made behind w are nobody's. -/
theorem But.fresh {b : Nat} {w w1 w2 : World} (h : But b w w1) (k : But b w1 w2) : But b w w2 := h.trans k
theorem But.setNew {b : Nat} {w w1 : World} (h : But b w w1) (g k : Nat) (u : Value) (hg : w.heap.size ≤ g) : But b w (w1.setCell ⟨g, k, none⟩ u) :=
  h.on (Keep.set (S := fun k => k = g) w1 ⟨g, k, none⟩ u rfl) (fun i hi e => by omega)
/-- A store into a block that was made meanwhile, of another kind. -/
theorem RSt.off {b : Nat} {w : World} {σ : Kp.St} {rv fv iv : Value} {fs ids : List ByteArray} (h : RSt b w σ rv fv iv fs ids) {g : Nat} {t : TypeId} {C : Array Value} (hl : Lies w g t C) (hg : b < g) (ht : t ≠ 9) (k : Nat) (u : Value) : RSt b (w.setCell ⟨g, k, none⟩ u) σ rv fv iv fs ids := by
  have hne : ∀ k' t' C', Lies w k' t' C' → t' ≠ t → Lies (w.setCell ⟨g, k, none⟩ u) k' t' C' := fun k' t' C' h' ht' => h'.off _ _ (fun e => by
    have e' : k' = g := e
    subst e'
    unfold Lies at h' hl
    rw [hl] at h'
    simp only [Option.some.injEq, Obj.cells.injEq] at h'
    exact ht' h'.2.1.symm)
  refine ⟨h.lies.off _ _ (by show b ≠ g; omega), ?_, h.files.turn (fun _ _ _ h => h) (fun g' C' hb hC => hne g' _ C' hC (fun e => ht e.symm)), h.ids.turn (fun _ _ _ h => h) (fun g' C' hb hC => hne g' _ C' hC (fun e => ht e.symm))⟩
  obtain ⟨g', o, ao, cap, h1, h2, h2', h3, h3', h4, h5⟩ := h.rest
  refine ⟨g', o, ao, cap, h1, h2, h2', h3, h3', h4, fun i x hx => ?_⟩
  have h0 : 0 < (Kp.rest σ).length := Nat.lt_of_le_of_lt (Nat.zero_le _) (List.getElem?_eq_some_iff.1 hx).1
  have := h3' h0
  rw [Keep.cell (Keep.set (S := fun k => k = g) w ⟨g, k, none⟩ u rfl) (cell_lt (h5 i x hx)) (by show g' ≠ g; omega)]
  exact h5 i x hx
/-- A part of the reader at work: its result and its variable, each in a block of its own. -/
structure Loc (b T : Nat) (w X : World) (A B : Array Value) (σ : Kp.St) (rv fv iv : Value) (fs ids : List ByteArray) : Prop where
  a : Lies X w.heap.size T A
  v : Lies X (w.heap.size + 1) T B
  st : RSt b X σ rv fv iv fs ids
  but : But b w X
  bw : b < w.heap.size
theorem Loc.new {b T : Nat} {w W1 W2 : World} {A B : Array Value} {σ : Kp.St} {rv fv iv : Value} {fs ids : List ByteArray} (h : RSt b w σ rv fv iv fs ids) (h1 : w.alloc (.cells A T) = W1) (h2 : W1.alloc (.cells B T) = W2) : Loc b T w W2 A B σ rv fv iv fs ids := by
  obtain ⟨B1, L1, z1⟩ := of_alloc h1
  obtain ⟨B2, L2, z2⟩ := of_alloc h2
  rw [z1] at L2
  exact ⟨L1.below B2, L2, h.below (B1.trans (B2.mono B1.size)), Keep.of_below (B1.trans (B2.mono B1.size)), h.lies.lt⟩
theorem Loc.call {b T : Nat} {w X w2 : World} {A B : Array Value} {σ σ2 : Kp.St} {rv rv2 fv iv : Value} {fs ids : List ByteArray} (h : Loc b T w X A B σ rv fv iv fs ids) (r : RSt b w2 σ2 rv2 fv iv fs ids) (k : But b X w2) : Loc b T w w2 A B σ2 rv2 fv iv fs ids :=
  ⟨k.lies h.a (by have := h.bw; omega), k.lies h.v (by have := h.bw; omega), r, h.but.trans k, h.bw⟩
theorem Loc.put {b T : Nat} {w X : World} {A B : Array Value} {σ : Kp.St} {rv fv iv : Value} {fs ids : List ByteArray} (h : Loc b T w X A B σ rv fv iv fs ids) (hT : T ≠ 9) (k : Nat) (u : Value) : Loc b T w (X.setCell ⟨w.heap.size + 1, k, none⟩ u) A (B.setIfInBounds k u) σ rv fv iv fs ids :=
  ⟨h.a.off _ _ (by show w.heap.size ≠ w.heap.size + 1; omega), h.v.set k u, h.st.off h.v (by have := h.bw; omega) hT k u, But.setNew h.but _ k u (by omega), h.bw⟩
theorem Loc.res {b T : Nat} {w X : World} {A B : Array Value} {σ : Kp.St} {rv fv iv : Value} {fs ids : List ByteArray} (h : Loc b T w X A B σ rv fv iv fs ids) (hT : T ≠ 9) (k : Nat) (u : Value) : Loc b T w (X.setCell ⟨w.heap.size, k, none⟩ u) (A.setIfInBounds k u) B σ rv fv iv fs ids :=
  ⟨h.a.set k u, h.v.off _ _ (by show w.heap.size + 1 ≠ w.heap.size; omega), h.st.off h.a h.bw hT k u, But.setNew h.but _ k u (Nat.le_refl _), h.bw⟩
theorem Loc.bx {b T : Nat} {w X : World} {A B : Array Value} {σ : Kp.St} {rv fv iv : Value} {fs ids : List ByteArray} (h : Loc b T w X A B σ rv fv iv fs ids) : w.heap.size + 1 < X.heap.size := h.v.lt
set_option maxHeartbeats 4000000 in
theorem onRd (b : Nat) (w : World) (σ : Kp.St) (rv fv iv : Value) (fs ids : List ByteArray) (h : RSt b w σ rv fv iv fs ids) (hids : ids.length ≤ 1000) :
    Calls Try.prog 77 #[.pointer (some ⟨b, 0, none⟩)] w (RPost b fv iv fs ids (fun _ r => r = .agg #[.string (Kp.onS ids σ).1.1, .int .i64 (Kp.onS ids σ).1.2] ∧ (Kp.onS ids σ).1.1.size ≤ 140737488355328) (Kp.onS ids σ).2 w) := by
  have hsm := oneS_size (rown_small h.ids) σ
  obtain ⟨s, σ1, E1⟩ : ∃ s σ1, Kp.oneS ids σ = (s, σ1) := ⟨_, _, rfl⟩
  obtain ⟨q, σ2, E2⟩ : ∃ q σ2, Kp.numS 5 σ1 = (q, σ2) := ⟨_, _, rfl⟩
  rw [E1] at hsm
  dsimp only at hsm
  have HT : Hid (Kp.onS ids σ = ((s, q), σ2)) := by
    show _ = _
    unfold Kp.onS
    rw [E1]
    dsimp only
    rw [E2]
  have HE1 := hideT E1
  have HE2 := hideT E2
  have hbw := h.lies.lt
  obtain ⟨ta, tc, rfl⟩ := rown_form h.ids
  have HAW := hideT (rown_away h.ids).2.2.2
  obtain ⟨W1, hW1⟩ : ∃ W1, w.alloc (.cells #[.string ⟨#[]⟩, .int .i64 0] 87) = W1 := ⟨_, rfl⟩
  obtain ⟨W2, hW2⟩ : ∃ W2, W1.alloc (.cells #[.string ⟨#[]⟩, .int .i64 0] 87) = W2 := ⟨_, rfl⟩
  have LO := hideT (Loc.new h hW1 hW2)
  have x3 : w.cell? ⟨b, 3, none⟩ = some (.slice ta ids.length tc) := h.cells.2.2.2.1
  have HW1 := hideT hW1
  have HW2 := hideT hW2
  clear h hW1 hW2 E1 E2
  go_enter Try.func77, Try.ntmps77
  go_wp2_with fail
  rw [HW1.out, HW2.out]
  refine (oneR b W2 σ rv fv _ fs ids LO.out.st ta tc ids (LO.out.st.ids.plain (fun _ _ h => h)) HAW.out hids).mono ?_
  rintro e w1 ⟨_, rv1, rfl, rfl, r1, k1⟩
  have hv : (Kp.oneS ids σ).1 = s := by rw [HE1.out]
  rw [HE1.out] at r1
  rw [hv]
  dsimp only at r1
  have l1 := LO.out.call r1 k1
  have L1 := hideT (l1.put (by decide) 0 (.string s))
  have y0 : w1.cell? ⟨w.heap.size + 1, 0, none⟩ = some (.string ⟨#[]⟩) := l1.v.cell 0
  have y0' : w1.frozen? ⟨w.heap.size + 1, 0, none⟩ = false := l1.v.free 0
  have hlt1 := l1.bx
  obtain ⟨X1, hX1⟩ : ∃ X1, w1.setCell ⟨w.heap.size + 1, 0, none⟩ (.string s) = X1 := ⟨_, rfl⟩
  rw [hX1] at L1
  have HX1 := hideT hX1
  clear r1 k1 hv x3 hX1 l1
  go_wp2_with fail
  rw [HX1.out]
  refine (numberR b X1 σ1 rv1 fv _ fs ids L1.out.st 5 (by decide) (by decide)).mono ?_
  rintro e w2 ⟨_, rv2, rfl, rfl, r2, k2⟩
  have hv : (Kp.numS 5 σ1).1 = q := by rw [HE2.out]
  rw [HE2.out] at r2
  rw [hv]
  dsimp only at r2
  have l2 := L1.out.call r2 k2
  have L2 := hideT (((l2.put (by decide) 1 (.int .i64 q)).res (by decide) 0 (.string s)).res (by decide) 1 (.int .i64 q))
  have u0 : w2.cell? ⟨w.heap.size + 1, 0, none⟩ = some (.string s) := l2.v.cell 0
  have u1 : w2.cell? ⟨w.heap.size + 1, 1, none⟩ = some (.int .i64 0) := l2.v.cell 1
  have u1' : w2.frozen? ⟨w.heap.size + 1, 1, none⟩ = false := l2.v.free 1
  have t0 : w2.cell? ⟨w.heap.size, 0, none⟩ = some (.string ⟨#[]⟩) := l2.a.cell 0
  have t1 : w2.cell? ⟨w.heap.size, 1, none⟩ = some (.int .i64 0) := l2.a.cell 1
  have t0' : w2.frozen? ⟨w.heap.size, 0, none⟩ = false := l2.a.free 0
  have t1' : w2.frozen? ⟨w.heap.size, 1, none⟩ = false := l2.a.free 1
  have hlt2 := l2.bx
  clear r2 k2 hv l2
  go_wp2_with fail
  have r0 := L2.out.a.cell 0
  have r1 := L2.out.a.cell 1
  simp only [List.getElem?_toArray, List.getElem?_cons_zero, List.getElem?_cons_succ, List.setIfInBounds_toArray, List.set_cons_zero, List.set_cons_succ] at r0 r1
  refine bodyPost_ret (v := .agg #[.string s, .int .i64 q]) (by simp [results, Try.results77, go_sem, r0, r1]) rfl ⟨_, _, rfl, ⟨by rw [HT.out], by rw [HT.out]; exact hsm⟩, by rw [HT.out]; exact L2.out.st, L2.out.but⟩
end Go.Proofs.Ytcfalhgcdffjoaa
/-
  The reader: a row of events.
-/
set_option linter.unusedSimpArgs false
set_option linter.unusedVariables false
namespace Go.Proofs.Ytcfalhgcdffjoaa
open Go.RowKit
set_option maxRecDepth 100000
theorem infoKOn : (Try.prog.info? 87).map (fun i => (i.zero, i.size, i.bytes)) = some (some (.agg #[.string ⟨#[]⟩, .int .i64 0]), 2, 24) := by kernel_rfl
set_option maxHeartbeats 4000000 in
theorem rowOn (b : Nat) (w : World) (σ : Kp.St) (rv fv iv : Value) (fs ids : List ByteArray) (h : RSt b w σ rv fv iv fs ids) (hids : ids.length ≤ 1000) (most : Int) (h0 : 0 ≤ most) (hm : most ≤ 1000) :
    Calls Try.prog 76 #[.pointer (some ⟨b, 0, none⟩), .int .i64 most, .func (.func 77) #[.pointer (some ⟨b, 0, none⟩)] #[]] w (RPost b fv iv fs ids (fun w' r => RowN b 87 2 onR w' r (Kp.rowS most (Kp.onS ids) σ).1) (Kp.rowS most (Kp.onS ids) σ).2 w) := by
  have HI := hideT h
  have hbw := h.lies.lt
  have hle := Kp.numS_le h0 σ
  obtain ⟨n, σ1, E1⟩ : ∃ n σ1, Kp.numS most σ = (n, σ1) := ⟨_, _, rfl⟩
  rw [E1] at hle
  dsimp only at hle
  obtain ⟨N, rfl⟩ : ∃ k : Nat, n = k := ⟨n.toNat, by omega⟩
  have hN : N ≤ 1000 := by omega
  have HRW : Hid (Kp.rowS most (Kp.onS ids) σ = Kp.repS (Kp.onS ids) N [] σ1) := by
    show _ = _
    unfold Kp.rowS
    rw [E1, Int.toNat_natCast]
  have HE1 := hideT E1
  obtain ⟨i0, hi0, hz0, hz1, hz2⟩ := info_parts infoKOn
  clear h hle E1
  go_enter Try.func76, Try.ntmps76
  go_wp2_with fail
  refine (numberR b w σ rv fv iv fs ids HI.out most (by omega) (by omega)).mono ?_
  rintro e w1 ⟨_, rv1, rfl, rfl, r1, k1⟩
  have hv : (Kp.numS most σ).1 = (N : Int) := by rw [HE1.out]
  rw [HE1.out] at r1
  rw [hv]
  dsimp only at r1
  have R1 := hideT r1
  have K1 := hideT k1
  clear r1 k1 hv
  go_wp2_with fail
  go_loopw [7, 11] (fun v i wr => ∃ (k : Nat) (acc : List (Mp.On)) (C : List (List Value)) (σ' : Kp.St) (rv' : Value), k ≤ N ∧ i = .int .i64 k ∧ acc.length = k ∧ Hid (Made w.heap.size 87 2 onR wr v acc C) ∧ Hid (RSt b wr σ' rv' fv iv fs ids) ∧ Hid (But b w wr) ∧ Hid (Kp.repS (Kp.onS ids) (N - k) acc σ' = Kp.rowS most (Kp.onS ids) σ)) (fun _ i _ => N - (intOf i).toNat)
  case atStart => exact ⟨0, [], [], σ1, rv1, Nat.zero_le _, rfl, rfl, Made.nil _, R1, K1, HRW.out.symm⟩
  case round =>
    obtain ⟨k, acc, C, σ', rv', hk, rfl, rfl, HM, HR, HW, HS⟩ := hrel
    obtain ⟨va, vc, hva⟩ := slice_form HM.out.own
    subst hva
    have hsz := HW.out.size
    by_cases hlt : acc.length < N
    · have HS2 := HS.out
      rw [show N - acc.length = (N - (acc.length + 1)) + 1 by omega, Kp.repS] at HS2
      go_wp2_with fail
      refine (onRd b wr σ' rv' fv iv fs ids HR.out hids).mono ?_
      rintro e w2 ⟨_, rv2, rfl, ⟨rfl, hz⟩, r2, k2⟩
      have M2 := hideT (HM.out.but k2 hbw (fun c x h => h))
      have R2 := hideT r2
      have K2 := hideT k2
      have hsz2 := k2.size
      obtain ⟨⟨s, q⟩, ES⟩ : ∃ p, (Kp.onS ids σ').1 = p := ⟨_, rfl⟩
      rw [ES] at hz HS2 ⊢
      dsimp only at hz ⊢
      have HS3 := hideT HS2
      clear r2 k2 HS2
      go_wp2_with (first | (at_builtin; refine wpList_append_lies _ (by rfl) _ _ _ (by rfl) w.heap.size 87 i0 _ 2 24 Try.underlying45 hi0 hz0 hz1 hz2 rfl (by omega) (.slice va acc.length vc) acc.length C.flatten (by rfl) (M2.out.own.alloc _) ⟨w2.heap.size, 0, none⟩ 1 1 [.string s, .int .i64 q] (by rfl) (by rfl) (news1 w2 #[.string s, .int .i64 q] 87) (by simp [Value.oneCell']) (by omega) (by unfold maxLen; omega) (by omega) (by simp; omega) (w2.heap.size + 1) (by simp) ?_; intro gb cap2 w3 hown hgrow hat hlt3) | fail)
      obtain ⟨G3, BL3⟩ := grow_of (b := b) M2.out.own hbw (by decide) (by omega) ((Below.refl _ w2).alloc (Nat.le_refl _) _) hgrow
      have M3 := hideT (M2.out.push (w' := w3) (x := (s, q)) (fun c x h => h) hown rfl rfl ⟨rfl, hz⟩)
      have R3 := hideT (R2.out.grow G3 (.inl (by decide)))
      have K3 := hideT (But.low (HW.out.trans K2.out) BL3)
      refine ⟨⟨acc.length + 1, _, _, _, _, by omega, by go_num, by rw [List.length_append]; rfl, M3, R3, K3, HS3⟩, ?_⟩
      first | omega | (simp [intOf]; omega)
    · have hkN : acc.length = N := by omega
      have HS2 : Hid ((acc, σ') = Kp.rowS most (Kp.onS ids) σ) := by
        have := HS.out
        rw [hkN, Nat.sub_self] at this
        exact this
      clear hkN
      go_wp2_with fail
      go_ret
      exact ⟨_, _, rfl, by rw [← HS2.out]; exact HM.out.row hbw (by omega), by rw [← HS2.out]; exact HR.out, HW.out⟩
end Go.Proofs.Ytcfalhgcdffjoaa
/-
  The reader: a condition.
-/
set_option linter.unusedSimpArgs false
set_option linter.unusedVariables false
namespace Go.Proofs.Ytcfalhgcdffjoaa
open Go.RowKit
set_option maxRecDepth 100000
theorem opsN (w : World) : Calls Try.prog 89 #[] w fun e w' => ∃ g, e = .returned (.slice (some ⟨g, 0, none⟩) 6 6) ∧ FRow w' (.slice (some ⟨g, 0, none⟩) 6 6) Kp.opsL ∧ w.heap.size ≤ g ∧ Below w.heap.size w w' := by
  go_enter Try.func89, Try.ntmps89
  go_wp2_with fail
  generalize hW1 : w.alloc _ = W1
  obtain ⟨B1, L1, z1⟩ := of_alloc hW1
  go_ret
  exact ⟨_, rfl, frow_of_own (H := 0) (own_of_lies (z := 1) (n := 6) L1 (Nat.zero_le _) rfl (by decide)) rfl (by decide) (fun s hs => by
    unfold Kp.opsL at hs
    simp only [List.mem_cons, List.mem_nil_iff, or_false] at hs
    rcases hs with rfl | rfl | rfl | rfl | rfl | rfl <;> decide), Nat.le_refl _, B1⟩
theorem ops_small : ∀ s ∈ Kp.opsL, s.size ≤ 140737488355328 := by
  intro s hs
  unfold Kp.opsL at hs
  simp only [List.mem_cons, List.mem_nil_iff, or_false] at hs
  rcases hs with rfl | rfl | rfl | rfl | rfl | rfl <;> decide
set_option maxHeartbeats 4000000 in
theorem condRd (b : Nat) (w : World) (σ : Kp.St) (rv fv iv : Value) (fs ids : List ByteArray) (h : RSt b w σ rv fv iv fs ids) (hfs : fs.length ≤ 1000) :
    Calls Try.prog 79 #[.pointer (some ⟨b, 0, none⟩)] w (RPost b fv iv fs ids (fun _ r => r = .agg #[.string (Kp.condS fs σ).1.1, .string (Kp.condS fs σ).1.2.1, .int .i64 (Kp.condS fs σ).1.2.2] ∧ (Kp.condS fs σ).1.1.size ≤ 140737488355328 ∧ (Kp.condS fs σ).1.2.1.size ≤ 140737488355328) (Kp.condS fs σ).2 w) := by
  have hsm := oneS_size (rown_small h.files) σ
  obtain ⟨s, σ1, E1⟩ : ∃ s σ1, Kp.oneS fs σ = (s, σ1) := ⟨_, _, rfl⟩
  have hsm2 := oneS_size ops_small σ1
  obtain ⟨t, σ2, E2⟩ : ∃ t σ2, Kp.oneS Kp.opsL σ1 = (t, σ2) := ⟨_, _, rfl⟩
  have hle := Kp.numS_le (most := 2000000) (by decide) σ2
  obtain ⟨q, σ3, E3⟩ : ∃ q σ3, Kp.numS 2000000 σ2 = (q, σ3) := ⟨_, _, rfl⟩
  obtain ⟨z, EZ⟩ : ∃ z, Hid (Kp.unfold q = z) := ⟨_, rfl⟩
  rw [E1] at hsm
  rw [E2] at hsm2
  rw [E3] at hle
  dsimp only at hsm hsm2 hle
  obtain ⟨hq0, hq1⟩ := hle
  have HT : Hid (Kp.condS fs σ = ((s, t, z), σ3)) := by
    show _ = _
    unfold Kp.condS
    rw [E1]
    dsimp only
    rw [E2]
    dsimp only
    rw [E3, EZ.out]
  have HE1 := hideT E1
  have HE2 := hideT E2
  have HE3 := hideT E3
  have hbw := h.lies.lt
  obtain ⟨ta, tc, rfl⟩ := rown_form h.files
  have HAW := hideT (rown_away h.files).2.2.2
  obtain ⟨W1, hW1⟩ : ∃ W1, w.alloc (.cells #[.string ⟨#[]⟩, .string ⟨#[]⟩, .int .i64 0] 43) = W1 := ⟨_, rfl⟩
  obtain ⟨W2, hW2⟩ : ∃ W2, W1.alloc (.cells #[.string ⟨#[]⟩, .string ⟨#[]⟩, .int .i64 0] 43) = W2 := ⟨_, rfl⟩
  have LO := hideT (Loc.new h hW1 hW2)
  have x3 : w.cell? ⟨b, 2, none⟩ = some (.slice ta fs.length tc) := h.cells.2.2.1
  have HW1 := hideT hW1
  have HW2 := hideT hW2
  clear h hW1 hW2 E1 E2 E3
  go_enter Try.func79, Try.ntmps79
  go_wp2_with fail
  rw [HW1.out, HW2.out]
  refine (oneR b W2 σ rv _ iv fs ids LO.out.st ta tc fs (LO.out.st.files.plain (fun _ _ h => h)) HAW.out hfs).mono ?_
  rintro e w1 ⟨_, rv1, rfl, rfl, r1, k1⟩
  have hv : (Kp.oneS fs σ).1 = s := by rw [HE1.out]
  rw [HE1.out] at r1
  rw [hv]
  dsimp only at r1
  have l1 := LO.out.call r1 k1
  have L1 := hideT (l1.put (by decide) 0 (.string s))
  have y0 : w1.cell? ⟨w.heap.size + 1, 0, none⟩ = some (.string ⟨#[]⟩) := l1.v.cell 0
  have y0' : w1.frozen? ⟨w.heap.size + 1, 0, none⟩ = false := l1.v.free 0
  have hlt1 := l1.bx
  obtain ⟨X1, hX1⟩ : ∃ X1, w1.setCell ⟨w.heap.size + 1, 0, none⟩ (.string s) = X1 := ⟨_, rfl⟩
  rw [hX1] at L1
  have HX1 := hideT hX1
  clear r1 k1 hv x3 hX1 l1
  go_wp2_with fail
  rw [HX1.out]
  refine (opsN X1).mono ?_
  rintro e w2 ⟨og, rfl, of2, hog, b2⟩
  have L2 := hideT (L1.out.call (L1.out.st.below b2) (Keep.of_below b2))
  have hlt1' := L1.out.bx
  have OF2 := hideT of2
  have hogb : og ≠ b := by omega
  clear of2 b2 y0 y0'
  go_wp2_with fail
  refine (oneR b w2 σ1 rv1 _ iv fs ids L2.out.st (some ⟨og, 0, none⟩) 6 Kp.opsL OF2.out (fun a ha _ => by rw [← Option.some.inj ha]; exact hogb) (by decide)).mono ?_
  rintro e w3 ⟨_, rv3, rfl, rfl, r3, k3⟩
  have hv : (Kp.oneS Kp.opsL σ1).1 = t := by rw [HE2.out]
  rw [HE2.out] at r3
  rw [hv]
  dsimp only at r3
  have l3 := L2.out.call r3 k3
  have L3 := hideT (l3.put (by decide) 1 (.string t))
  have y1 : w3.cell? ⟨w.heap.size + 1, 1, none⟩ = some (.string ⟨#[]⟩) := l3.v.cell 1
  have y1' : w3.frozen? ⟨w.heap.size + 1, 1, none⟩ = false := l3.v.free 1
  have hlt3 := l3.bx
  obtain ⟨X3, hX3⟩ : ∃ X3, w3.setCell ⟨w.heap.size + 1, 1, none⟩ (.string t) = X3 := ⟨_, rfl⟩
  rw [hX3] at L3
  have HX3 := hideT hX3
  clear r3 k3 hv hX3 l3
  go_wp2_with fail
  rw [HX3.out]
  refine (foldD 1000000 X3 (by decide) 2000000 (by show _ = _; decide)).mono ?_
  rintro e w4 ⟨rfl, rfl⟩
  go_wp2_with fail
  refine (numberR b _ σ2 rv3 _ iv fs ids L3.out.st 2000000 (by decide) (by decide)).mono ?_
  rintro e w5 ⟨_, rv5, rfl, rfl, r5, k5⟩
  have hv : (Kp.numS 2000000 σ2).1 = q := by rw [HE3.out]
  rw [HE3.out] at r5
  rw [hv]
  dsimp only at r5
  have l5 := L3.out.call r5 k5
  have u0 : w5.cell? ⟨w.heap.size + 1, 0, none⟩ = some (.string s) := l5.v.cell 0
  have u1 : w5.cell? ⟨w.heap.size + 1, 1, none⟩ = some (.string t) := l5.v.cell 1
  have u2 : w5.cell? ⟨w.heap.size + 1, 2, none⟩ = some (.int .i64 0) := l5.v.cell 2
  have u2' : w5.frozen? ⟨w.heap.size + 1, 2, none⟩ = false := l5.v.free 2
  have t0 : w5.cell? ⟨w.heap.size, 0, none⟩ = some (.string ⟨#[]⟩) := l5.a.cell 0
  have t1 : w5.cell? ⟨w.heap.size, 1, none⟩ = some (.string ⟨#[]⟩) := l5.a.cell 1
  have t2 : w5.cell? ⟨w.heap.size, 2, none⟩ = some (.int .i64 0) := l5.a.cell 2
  have t0' : w5.frozen? ⟨w.heap.size, 0, none⟩ = false := l5.a.free 0
  have t1' : w5.frozen? ⟨w.heap.size, 1, none⟩ = false := l5.a.free 1
  have t2' : w5.frozen? ⟨w.heap.size, 2, none⟩ = false := l5.a.free 2
  have hlt5 := l5.bx
  have L5 := hideT ((((l5.put (by decide) 2 (.int .i64 z)).res (by decide) 0 (.string s)).res (by decide) 1 (.string t)).res (by decide) 2 (.int .i64 z))
  clear r5 k5 hv l5 y1 y1'
  go_wp2_with fail
  refine (unfoldD q w5 ⟨hq0, by omega⟩ z EZ).mono ?_
  rintro e w6 ⟨rfl, rfl⟩
  go_wp2_with fail
  have r0 := L5.out.a.cell 0
  have r1 := L5.out.a.cell 1
  have r2 := L5.out.a.cell 2
  simp only [List.getElem?_toArray, List.getElem?_cons_zero, List.getElem?_cons_succ, List.setIfInBounds_toArray, List.set_cons_zero, List.set_cons_succ] at r0 r1 r2
  refine bodyPost_ret (v := .agg #[.string s, .string t, .int .i64 z]) (by simp [results, Try.results79, go_sem, r0, r1, r2]) rfl ⟨_, _, rfl, ⟨by rw [HT.out], by rw [HT.out]; exact ⟨hsm, hsm2⟩⟩, by rw [HT.out]; exact L5.out.st, L5.out.but⟩
end Go.Proofs.Ytcfalhgcdffjoaa
/-
  The reader: a row of conditions.
-/
set_option linter.unusedSimpArgs false
set_option linter.unusedVariables false
namespace Go.Proofs.Ytcfalhgcdffjoaa
open Go.RowKit
set_option maxRecDepth 100000
theorem infoKCond : (Try.prog.info? 43).map (fun i => (i.zero, i.size, i.bytes)) = some (some (.agg #[.string ⟨#[]⟩, .string ⟨#[]⟩, .int .i64 0]), 3, 40) := by kernel_rfl
set_option maxHeartbeats 4000000 in
theorem rowCond (b : Nat) (w : World) (σ : Kp.St) (rv fv iv : Value) (fs ids : List ByteArray) (h : RSt b w σ rv fv iv fs ids) (hfs : fs.length ≤ 1000) (most : Int) (h0 : 0 ≤ most) (hm : most ≤ 1000) :
    Calls Try.prog 78 #[.pointer (some ⟨b, 0, none⟩), .int .i64 most, .func (.func 79) #[.pointer (some ⟨b, 0, none⟩)] #[]] w (RPost b fv iv fs ids (fun w' r => RowN b 43 3 condR w' r (Kp.rowS most (Kp.condS fs) σ).1) (Kp.rowS most (Kp.condS fs) σ).2 w) := by
  have HI := hideT h
  have hbw := h.lies.lt
  have hle := Kp.numS_le h0 σ
  obtain ⟨n, σ1, E1⟩ : ∃ n σ1, Kp.numS most σ = (n, σ1) := ⟨_, _, rfl⟩
  rw [E1] at hle
  dsimp only at hle
  obtain ⟨N, rfl⟩ : ∃ k : Nat, n = k := ⟨n.toNat, by omega⟩
  have hN : N ≤ 1000 := by omega
  have HRW : Hid (Kp.rowS most (Kp.condS fs) σ = Kp.repS (Kp.condS fs) N [] σ1) := by
    show _ = _
    unfold Kp.rowS
    rw [E1, Int.toNat_natCast]
  have HE1 := hideT E1
  obtain ⟨i0, hi0, hz0, hz1, hz2⟩ := info_parts infoKCond
  clear h hle E1
  go_enter Try.func78, Try.ntmps78
  go_wp2_with fail
  refine (numberR b w σ rv fv iv fs ids HI.out most (by omega) (by omega)).mono ?_
  rintro e w1 ⟨_, rv1, rfl, rfl, r1, k1⟩
  have hv : (Kp.numS most σ).1 = (N : Int) := by rw [HE1.out]
  rw [HE1.out] at r1
  rw [hv]
  dsimp only at r1
  have R1 := hideT r1
  have K1 := hideT k1
  clear r1 k1 hv
  go_wp2_with fail
  go_loopw [7, 11] (fun v i wr => ∃ (k : Nat) (acc : List (Mp.Cond)) (C : List (List Value)) (σ' : Kp.St) (rv' : Value), k ≤ N ∧ i = .int .i64 k ∧ acc.length = k ∧ Hid (Made w.heap.size 43 3 condR wr v acc C) ∧ Hid (RSt b wr σ' rv' fv iv fs ids) ∧ Hid (But b w wr) ∧ Hid (Kp.repS (Kp.condS fs) (N - k) acc σ' = Kp.rowS most (Kp.condS fs) σ)) (fun _ i _ => N - (intOf i).toNat)
  case atStart => exact ⟨0, [], [], σ1, rv1, Nat.zero_le _, rfl, rfl, Made.nil _, R1, K1, HRW.out.symm⟩
  case round =>
    obtain ⟨k, acc, C, σ', rv', hk, rfl, rfl, HM, HR, HW, HS⟩ := hrel
    obtain ⟨va, vc, hva⟩ := slice_form HM.out.own
    subst hva
    have hsz := HW.out.size
    by_cases hlt : acc.length < N
    · have HS2 := HS.out
      rw [show N - acc.length = (N - (acc.length + 1)) + 1 by omega, Kp.repS] at HS2
      go_wp2_with fail
      refine (condRd b wr σ' rv' fv iv fs ids HR.out hfs).mono ?_
      rintro e w2 ⟨_, rv2, rfl, ⟨rfl, hz⟩, r2, k2⟩
      have M2 := hideT (HM.out.but k2 hbw (fun c x h => h))
      have R2 := hideT r2
      have K2 := hideT k2
      have hsz2 := k2.size
      obtain ⟨⟨s, q, m⟩, ES⟩ : ∃ p, (Kp.condS fs σ').1 = p := ⟨_, rfl⟩
      rw [ES] at hz HS2 ⊢
      dsimp only at hz ⊢
      have HS3 := hideT HS2
      clear r2 k2 HS2
      go_wp2_with (first | (at_builtin; refine wpList_append_lies _ (by rfl) _ _ _ (by rfl) w.heap.size 43 i0 _ 3 40 Try.underlying44 hi0 hz0 hz1 hz2 rfl (by omega) (.slice va acc.length vc) acc.length C.flatten (by rfl) (M2.out.own.alloc _) ⟨w2.heap.size, 0, none⟩ 1 1 [.string s, .string q, .int .i64 m] (by rfl) (by rfl) (news1 w2 #[.string s, .string q, .int .i64 m] 43) (by simp [Value.oneCell']) (by omega) (by unfold maxLen; omega) (by omega) (by simp; omega) (w2.heap.size + 1) (by simp) ?_; intro gb cap2 w3 hown hgrow hat hlt3) | fail)
      obtain ⟨G3, BL3⟩ := grow_of (b := b) M2.out.own hbw (by decide) (by omega) ((Below.refl _ w2).alloc (Nat.le_refl _) _) hgrow
      have M3 := hideT (M2.out.push (w' := w3) (x := (s, q, m)) (fun c x h => h) hown rfl rfl ⟨rfl, hz⟩)
      have R3 := hideT (R2.out.grow G3 (.inl (by decide)))
      have K3 := hideT (But.low (HW.out.trans K2.out) BL3)
      refine ⟨⟨acc.length + 1, _, _, _, _, by omega, by go_num, by rw [List.length_append]; rfl, M3, R3, K3, HS3⟩, ?_⟩
      first | omega | (simp [intOf]; omega)
    · have hkN : acc.length = N := by omega
      have HS2 : Hid ((acc, σ') = Kp.rowS most (Kp.condS fs) σ) := by
        have := HS.out
        rw [hkN, Nat.sub_self] at this
        exact this
      clear hkN
      go_wp2_with fail
      go_ret
      exact ⟨_, _, rfl, by rw [← HS2.out]; exact HM.out.row hbw (by omega), by rw [← HS2.out]; exact HR.out, HW.out⟩
end Go.Proofs.Ytcfalhgcdffjoaa
/-
  The reader: a sentry.
-/
set_option linter.unusedSimpArgs false
set_option linter.unusedVariables false
namespace Go.Proofs.Ytcfalhgcdffjoaa
open Go.RowKit
set_option maxRecDepth 100000
theorem Lies.offT {w : World} {g k : Nat} {t t' : TypeId} {C C' : Array Value} (h : Lies w g t C) (h' : Lies w k t' C') (ht : t ≠ t') (j : Nat) (u : Value) : Lies (w.setCell ⟨k, j, none⟩ u) g t C := h.off _ _ (fun e => by
  have e' : g = k := e
  subst e'
  unfold Lies at h h'
  rw [h] at h'
  simp only [Option.some.injEq, Obj.cells.injEq] at h'
  exact ht h'.2.1)
set_option maxHeartbeats 4000000 in
theorem sentRd (b : Nat) (w : World) (σ : Kp.St) (rv fv iv : Value) (fs ids : List ByteArray) (h : RSt b w σ rv fv iv fs ids) (hfs : fs.length ≤ 1000) (hids : ids.length ≤ 1000) :
    Calls Try.prog 64 #[.pointer (some ⟨b, 0, none⟩)] w (RPost b fv iv fs ids (fun w' r => ∃ a1 p1 a2 p2, r = .agg #[.slice a1 (Kp.sentS fs ids σ).1.1.length p1, .slice a2 (Kp.sentS fs ids σ).1.2.length p2] ∧ SentN b w' [.slice a1 (Kp.sentS fs ids σ).1.1.length p1, .slice a2 (Kp.sentS fs ids σ).1.2.length p2] (Kp.sentS fs ids σ).1) (Kp.sentS fs ids σ).2 w) := by
  obtain ⟨s, σ1, E1⟩ : ∃ s σ1, Kp.rowS 3 (Kp.onS ids) σ = (s, σ1) := ⟨_, _, rfl⟩
  obtain ⟨t, σ2, E2⟩ : ∃ t σ2, Kp.rowS 2 (Kp.condS fs) σ1 = (t, σ2) := ⟨_, _, rfl⟩
  have HT : Hid (Kp.sentS fs ids σ = ((s, t), σ2)) := by
    show _ = _
    unfold Kp.sentS
    rw [E1]
    dsimp only
    rw [E2]
  have HE1 := hideT E1
  have HE2 := hideT E2
  have hbw := h.lies.lt
  obtain ⟨W1, hW1⟩ : ∃ W1, w.alloc (.cells #[.slice none 0 0, .slice none 0 0] 47) = W1 := ⟨_, rfl⟩
  obtain ⟨W2, hW2⟩ : ∃ W2, W1.alloc (.cells #[.slice none 0 0, .slice none 0 0] 47) = W2 := ⟨_, rfl⟩
  have LO := hideT (Loc.new h hW1 hW2)
  have HW1 := hideT hW1
  have HW2 := hideT hW2
  clear h hW1 hW2 E1 E2
  go_enter Try.func64, Try.ntmps64
  go_wp2_with fail
  rw [HW1.out, HW2.out]
  refine (rowOn b W2 σ rv fv iv fs ids LO.out.st hids 3 (by decide) (by decide)).mono ?_
  rintro e w1 ⟨v1, rv1, rfl, n1, r1, k1⟩
  rw [HE1.out] at n1 r1
  dsimp only at n1 r1
  obtain ⟨a1, p1, hv1⟩ := rown_form n1
  subst hv1
  have l1 := LO.out.call r1 k1
  have L1 := hideT (l1.put (by decide) 0 (.slice a1 s.length p1))
  have N1 := hideT (n1.turn (R' := onR) (w' := w1.setCell ⟨w.heap.size + 1, 0, none⟩ (.slice a1 s.length p1)) (fun _ _ _ h => h) (fun g C hb hC => hC.offT l1.v (by decide) 0 _))
  have y0 : w1.cell? ⟨w.heap.size + 1, 0, none⟩ = some (.slice none 0 0) := l1.v.cell 0
  have y0' : w1.frozen? ⟨w.heap.size + 1, 0, none⟩ = false := l1.v.free 0
  have hlt1 := l1.bx
  obtain ⟨X1, hX1⟩ : ∃ X1, w1.setCell ⟨w.heap.size + 1, 0, none⟩ (.slice a1 s.length p1) = X1 := ⟨_, rfl⟩
  rw [hX1] at L1 N1
  have HX1 := hideT hX1
  clear r1 k1 hX1 l1 n1
  go_wp2_with fail
  rw [HX1.out]
  refine (rowCond b X1 σ1 rv1 fv iv fs ids L1.out.st hfs 2 (by decide) (by decide)).mono ?_
  rintro e w2 ⟨v2, rv2, rfl, n2, r2, k2⟩
  rw [HE2.out] at n2 r2
  dsimp only at n2 r2
  obtain ⟨a2, p2, hv2⟩ := rown_form n2
  subst hv2
  have l2 := L1.out.call r2 k2
  have l3 := l2.put (by decide) 1 (.slice a2 t.length p2)
  have l4 := l3.res (by decide) 0 (.slice a1 s.length p1)
  have L5 := hideT (l4.res (by decide) 1 (.slice a2 t.length p2))
  have N5 : Hid (RowN b 87 2 onR (((w2.setCell ⟨w.heap.size + 1, 1, none⟩ (.slice a2 t.length p2)).setCell ⟨w.heap.size, 0, none⟩ (.slice a1 s.length p1)).setCell ⟨w.heap.size, 1, none⟩ (.slice a2 t.length p2)) (.slice a1 s.length p1) s) := N1.out.turn (fun _ _ _ h => h) (fun g C hb hC => (((k2.lies hC hb).offT l2.v (by decide) 1 _).offT l3.a (by decide) 0 _).offT l4.a (by decide) 1 _)
  have M5 : Hid (RowN b 43 3 condR (((w2.setCell ⟨w.heap.size + 1, 1, none⟩ (.slice a2 t.length p2)).setCell ⟨w.heap.size, 0, none⟩ (.slice a1 s.length p1)).setCell ⟨w.heap.size, 1, none⟩ (.slice a2 t.length p2)) (.slice a2 t.length p2) t) := n2.turn (fun _ _ _ h => h) (fun g C hb hC => ((hC.offT l2.v (by decide) 1 _).offT l3.a (by decide) 0 _).offT l4.a (by decide) 1 _)
  have u0 : w2.cell? ⟨w.heap.size + 1, 0, none⟩ = some (.slice a1 s.length p1) := l2.v.cell 0
  have u1 : w2.cell? ⟨w.heap.size + 1, 1, none⟩ = some (.slice none 0 0) := l2.v.cell 1
  have u1' : w2.frozen? ⟨w.heap.size + 1, 1, none⟩ = false := l2.v.free 1
  have t0 : w2.cell? ⟨w.heap.size, 0, none⟩ = some (.slice none 0 0) := l2.a.cell 0
  have t1 : w2.cell? ⟨w.heap.size, 1, none⟩ = some (.slice none 0 0) := l2.a.cell 1
  have t0' : w2.frozen? ⟨w.heap.size, 0, none⟩ = false := l2.a.free 0
  have t1' : w2.frozen? ⟨w.heap.size, 1, none⟩ = false := l2.a.free 1
  have hlt2 := l2.bx
  clear r2 k2 l2 l3 l4 n2 y0 y0'
  go_wp2_with fail
  have r0 := L5.out.a.cell 0
  have r1 := L5.out.a.cell 1
  simp only [List.getElem?_toArray, List.getElem?_cons_zero, List.getElem?_cons_succ, List.setIfInBounds_toArray, List.set_cons_zero, List.set_cons_succ] at r0 r1
  refine bodyPost_ret (v := .agg #[.slice a1 s.length p1, .slice a2 t.length p2]) (by simp [results, Try.results64, go_sem, r0, r1]) rfl ⟨_, _, rfl, ⟨a1, p1, a2, p2, by rw [HT.out], by rw [HT.out]; exact ⟨_, _, rfl, N5.out, M5.out⟩⟩, by rw [HT.out]; exact L5.out.st, L5.out.but⟩
end Go.Proofs.Ytcfalhgcdffjoaa
/-
  The reader: a row of sentries.
-/
set_option linter.unusedSimpArgs false
set_option linter.unusedVariables false
namespace Go.Proofs.Ytcfalhgcdffjoaa
open Go.RowKit
set_option maxRecDepth 100000
theorem infoKSent : (Try.prog.info? 47).map (fun i => (i.zero, i.size, i.bytes)) = some (some (.agg #[.slice none 0 0, .slice none 0 0]), 2, 48) := by kernel_rfl
set_option maxHeartbeats 4000000 in
theorem rowSent (b : Nat) (w : World) (σ : Kp.St) (rv fv iv : Value) (fs ids : List ByteArray) (h : RSt b w σ rv fv iv fs ids) (hfs : fs.length ≤ 1000) (hids : ids.length ≤ 1000) (most : Int) (h0 : 0 ≤ most) (hm : most ≤ 1000) :
    Calls Try.prog 63 #[.pointer (some ⟨b, 0, none⟩), .int .i64 most, .func (.func 64) #[.pointer (some ⟨b, 0, none⟩)] #[]] w (RPost b fv iv fs ids (fun w' r => RowN b 47 2 (SentN b) w' r (Kp.rowS most (Kp.sentS fs ids) σ).1) (Kp.rowS most (Kp.sentS fs ids) σ).2 w) := by
  have HI := hideT h
  have hbw := h.lies.lt
  have hle := Kp.numS_le h0 σ
  obtain ⟨n, σ1, E1⟩ : ∃ n σ1, Kp.numS most σ = (n, σ1) := ⟨_, _, rfl⟩
  rw [E1] at hle
  dsimp only at hle
  obtain ⟨N, rfl⟩ : ∃ k : Nat, n = k := ⟨n.toNat, by omega⟩
  have hN : N ≤ 1000 := by omega
  have HRW : Hid (Kp.rowS most (Kp.sentS fs ids) σ = Kp.repS (Kp.sentS fs ids) N [] σ1) := by
    show _ = _
    unfold Kp.rowS
    rw [E1, Int.toNat_natCast]
  have HE1 := hideT E1
  obtain ⟨i0, hi0, hz0, hz1, hz2⟩ := info_parts infoKSent
  clear h hle E1
  go_enter Try.func63, Try.ntmps63
  go_wp2_with fail
  refine (numberR b w σ rv fv iv fs ids HI.out most (by omega) (by omega)).mono ?_
  rintro e w1 ⟨_, rv1, rfl, rfl, r1, k1⟩
  have hv : (Kp.numS most σ).1 = (N : Int) := by rw [HE1.out]
  rw [HE1.out] at r1
  rw [hv]
  dsimp only at r1
  have R1 := hideT r1
  have K1 := hideT k1
  clear r1 k1 hv
  go_wp2_with fail
  go_loopw [7, 11] (fun v i wr => ∃ (k : Nat) (acc : List (Mp.Sent)) (C : List (List Value)) (σ' : Kp.St) (rv' : Value), k ≤ N ∧ i = .int .i64 k ∧ acc.length = k ∧ Hid (Made w.heap.size 47 2 (SentN b) wr v acc C) ∧ Hid (RSt b wr σ' rv' fv iv fs ids) ∧ Hid (But b w wr) ∧ Hid (Kp.repS (Kp.sentS fs ids) (N - k) acc σ' = Kp.rowS most (Kp.sentS fs ids) σ)) (fun _ i _ => N - (intOf i).toNat)
  case atStart => exact ⟨0, [], [], σ1, rv1, Nat.zero_le _, rfl, rfl, Made.nil _, R1, K1, HRW.out.symm⟩
  case round =>
    obtain ⟨k, acc, C, σ', rv', hk, rfl, rfl, HM, HR, HW, HS⟩ := hrel
    obtain ⟨va, vc, hva⟩ := slice_form HM.out.own
    subst hva
    have hsz := HW.out.size
    by_cases hlt : acc.length < N
    · have HS2 := HS.out
      rw [show N - acc.length = (N - (acc.length + 1)) + 1 by omega, Kp.repS] at HS2
      go_wp2_with fail
      refine (sentRd b wr σ' rv' fv iv fs ids HR.out hfs hids).mono ?_
      rintro e w2 ⟨_, rv2, rfl, ⟨a1, p1, a2, p2, rfl, hz⟩, r2, k2⟩
      have M2 := hideT (HM.out.but k2 hbw (fun c x h => h.turn (fun g t C _ hb hC => k2.lies hC hb)))
      have R2 := hideT r2
      have K2 := hideT k2
      have hsz2 := k2.size
      obtain ⟨⟨s, q⟩, ES⟩ : ∃ p, (Kp.sentS fs ids σ').1 = p := ⟨_, rfl⟩
      rw [ES] at hz HS2 ⊢
      dsimp only at hz ⊢
      have HZ := hideT hz
      clear hz
      have HS3 := hideT HS2
      clear r2 k2 HS2
      go_wp2_with (first | (at_builtin; refine wpList_append_lies _ (by rfl) _ _ _ (by rfl) w.heap.size 47 i0 _ 2 48 Try.underlying39 hi0 hz0 hz1 hz2 rfl (by omega) (.slice va acc.length vc) acc.length C.flatten (by rfl) (M2.out.own.alloc _) ⟨w2.heap.size, 0, none⟩ 1 1 [.slice a1 s.length p1, .slice a2 q.length p2] (by rfl) (by rfl) (news1 w2 #[.slice a1 s.length p1, .slice a2 q.length p2] 47) (by simp [Value.oneCell']) (by omega) (by unfold maxLen; omega) (by omega) (by simp; omega) (w2.heap.size + 1) (by simp) ?_; intro gb cap2 w3 hown hgrow hat hlt3) | fail)
      obtain ⟨G3, BL3⟩ := grow_of (b := b) M2.out.own hbw (by decide) (by omega) ((Below.refl _ w2).alloc (Nat.le_refl _) _) hgrow
      have M3 := hideT (M2.out.push (w' := w3) (x := (s, q)) (fun c x h => h.turn (fun g t C ht hb hC => G3.calm g t C hC hb (by rcases ht with rfl | rfl <;> decide))) hown rfl rfl (HZ.out.turn (fun g t C ht hb hC => G3.calm g t C hC hb (by rcases ht with rfl | rfl <;> decide))))
      have R3 := hideT (R2.out.grow G3 (.inl (by decide)))
      have K3 := hideT (But.low (HW.out.trans K2.out) BL3)
      refine ⟨⟨acc.length + 1, _, _, _, _, by omega, by go_num, by rw [List.length_append]; rfl, M3, R3, K3, HS3⟩, ?_⟩
      first | omega | (simp [intOf]; omega)
    · have hkN : acc.length = N := by omega
      have HS2 : Hid ((acc, σ') = Kp.rowS most (Kp.sentS fs ids) σ) := by
        have := HS.out
        rw [hkN, Nat.sub_self] at this
        exact this
      clear hkN
      go_wp2_with fail
      go_ret
      exact ⟨_, _, rfl, by rw [← HS2.out]; exact HM.out.row hbw (by omega), by rw [← HS2.out]; exact HR.out, HW.out⟩
end Go.Proofs.Ytcfalhgcdffjoaa
/-
  The reader: a parent, an item.
-/
set_option linter.unusedSimpArgs false
set_option linter.unusedVariables false
namespace Go.Proofs.Ytcfalhgcdffjoaa
open Go.RowKit
set_option maxRecDepth 100000
theorem parS_size {l : List ByteArray} (h : ∀ s ∈ l, s.size ≤ 140737488355328) (σ : Kp.St) : (Kp.parS l σ).1.size ≤ 140737488355328 := by
  unfold Kp.parS
  dsimp only
  split
  · exact (by decide : (0 : Nat) ≤ 140737488355328)
  · rw [List.getD_eq_getElem?_getD]
    cases e : l[((Kp.numS (l.length : Int) σ).1 - 1).toNat]? with
    | none => exact (by decide : (0 : Nat) ≤ 140737488355328)
    | some s => exact h s (List.mem_of_getElem? e)
set_option maxHeartbeats 4000000 in
theorem parentR (b : Nat) (w : World) (σ : Kp.St) (rv fv iv : Value) (fs ids : List ByteArray) (h : RSt b w σ rv fv iv fs ids) (hids : ids.length ≤ 1000) :
    Calls Try.prog 62 #[.pointer (some ⟨b, 0, none⟩)] w (RPost b fv iv fs ids (fun _ r => r = .string (Kp.parS ids σ).1) (Kp.parS ids σ).2 w) := by
  obtain ⟨ta, tc, rfl⟩ := rown_form h.ids
  have HI := hideT h
  obtain ⟨_, _, htc, g, o, ha, hc⟩ := frow_at (h.ids.plain (fun _ _ h => h))
  have HA := hideT ha
  have HC := hideT hc
  have HAW := hideT (rown_away h.ids).2.2.2
  have x3 : w.cell? ⟨b, 3, none⟩ = some (.slice ta ids.length tc) := h.cells.2.2.2.1
  have hle := Kp.numS_le (most := (ids.length : Int)) (by omega) σ
  obtain ⟨n, σ1, E1⟩ : ∃ n σ1, Kp.numS (ids.length : Int) σ = (n, σ1) := ⟨_, _, rfl⟩
  rw [E1] at hle
  dsimp only at hle
  obtain ⟨k, rfl⟩ : ∃ k : Nat, n = k := ⟨n.toNat, by omega⟩
  have hk : k ≤ ids.length := by omega
  have HT : Hid (Kp.parS ids σ = (if (k : Int) = 0 then Mp.e0 else ids.getD ((k : Int) - 1).toNat Mp.e0, σ1)) := by
    show _ = _
    unfold Kp.parS
    rw [E1]
  have HE1 := hideT E1
  clear h ha hc hle E1
  go_enter Try.func62, Try.ntmps62
  go_wp2_with fail
  refine (numberR b w σ rv fv _ fs ids HI.out (ids.length : Int) (by omega) (by omega)).mono ?_
  rintro e w1 ⟨_, rv1, rfl, rfl, r1, k1⟩
  have hv : (Kp.numS (ids.length : Int) σ).1 = (k : Int) := by rw [HE1.out]
  rw [HE1.out] at r1
  rw [hv]
  dsimp only at r1
  have R1 := hideT r1
  have K1 := hideT k1
  have y3 : w1.cell? ⟨b, 3, none⟩ = some (.slice ta ids.length tc) := r1.cells.2.2.2.1
  clear r1 k1 hv x3
  by_cases h0 : (k : Int) = 0
  · have HT2 := HT.out
    rw [if_pos h0] at HT2
    have HT3 := hideT HT2
    clear HT2
    go_wp2_with fail
    go_ret
    exact ⟨_, _, rfl, by rw [HT3.out]; rfl, by rw [HT3.out]; exact R1.out, K1.out⟩
  · have HT2 := HT.out
    rw [if_neg h0] at HT2
    obtain ⟨j, rfl⟩ : ∃ j, k = j + 1 := ⟨k - 1, by omega⟩
    obtain ⟨s, hs⟩ := Mp.at_lt (l := ids) (k := j) (by omega)
    obtain ⟨hz, c0⟩ := HC.out j s hs
    rw [show (((j + 1 : Nat) : Int) - 1).toNat = j by omega, List.getD_eq_getElem?_getD, hs] at HT2
    have HT3 : Hid (Kp.parS ids σ = (s, σ1)) := HT2
    obtain rfl := HA.out (by omega)
    have c1 := But.cell K1.out c0 (HAW.out ⟨g, o, none⟩ rfl (by omega))
    have hj : ((j + 1 : Nat) : Int) - 1 = j := by omega
    clear c0 hs HT2
    go_wp2_with fail
    go_ret
    exact ⟨_, _, rfl, by rw [HT3.out]; rfl, by rw [HT3.out]; exact R1.out, K1.out⟩
set_option maxHeartbeats 8000000 in
theorem itemRd (b : Nat) (w : World) (σ : Kp.St) (rv fv iv : Value) (fs ids : List ByteArray) (h : RSt b w σ rv fv iv fs ids) (hfs : fs.length ≤ 1000) (hids : ids.length ≤ 1000) (id : ByteArray) (hid : id.size ≤ 140737488355328) :
    Calls Try.prog 45 #[.pointer (some ⟨b, 0, none⟩), .string id] w (RPost b fv iv fs ids (fun w' r => ∃ a5 p5 a6 p6, r = .agg #[.string (Kp.itemS fs ids id σ).1.id, .int .i64 (Kp.itemS fs ids id σ).1.kind, .string (Kp.itemS fs ids id σ).1.parent, .bool (Kp.itemS fs ids id σ).1.req, .int .i64 (Kp.itemS fs ids id σ).1.ticks, .slice a5 (Kp.itemS fs ids id σ).1.entry.length p5, .slice a6 (Kp.itemS fs ids id σ).1.exit.length p6] ∧ itemN b w' (itemC (Kp.itemS fs ids id σ).1 (.slice a5 (Kp.itemS fs ids id σ).1.entry.length p5) (.slice a6 (Kp.itemS fs ids id σ).1.exit.length p6)) (Kp.itemS fs ids id σ).1) (Kp.itemS fs ids id σ).2 w) := by
  obtain ⟨n1, σ1, E1⟩ : ∃ n σ1, Kp.numS 5 σ = (n, σ1) := ⟨_, _, rfl⟩
  have hpz := parS_size (rown_small h.ids) σ1
  obtain ⟨n2, σ2, E2⟩ : ∃ n σ2, Kp.parS ids σ1 = (n, σ2) := ⟨_, _, rfl⟩
  obtain ⟨n3, σ3, E3⟩ : ∃ n σ3, Kp.numS 1 σ2 = (n, σ3) := ⟨_, _, rfl⟩
  obtain ⟨n4, σ4, E4⟩ : ∃ n σ4, Kp.numS 100 σ3 = (n, σ4) := ⟨_, _, rfl⟩
  obtain ⟨n5, σ5, E5⟩ : ∃ n σ5, Kp.rowS 3 (Kp.sentS fs ids) σ4 = (n, σ5) := ⟨_, _, rfl⟩
  obtain ⟨n6, σ6, E6⟩ : ∃ n σ6, Kp.rowS 3 (Kp.sentS fs ids) σ5 = (n, σ6) := ⟨_, _, rfl⟩
  rw [E2] at hpz
  dsimp only at hpz
  obtain ⟨rq, ERQ⟩ : ∃ rq, Hid (decide (n3 = 1) = rq) := ⟨_, rfl⟩
  have HT : Hid (Kp.itemS fs ids id σ = (⟨id, n1, n2, rq, n4, n5, n6⟩, σ6)) := by
    show _ = _
    unfold Kp.itemS
    rw [E1]
    dsimp only
    rw [E2]
    dsimp only
    rw [E3]
    dsimp only
    rw [E4]
    dsimp only
    rw [E5]
    dsimp only
    rw [E6, ERQ.out]
  have HE1 := hideT E1
  have HE2 := hideT E2
  have HE3 := hideT E3
  have HE4 := hideT E4
  have HE5 := hideT E5
  have HE6 := hideT E6
  have hbw := h.lies.lt
  obtain ⟨W1, hW1⟩ : ∃ W1, w.alloc (.cells #[.string ⟨#[]⟩, .int .i64 0, .string ⟨#[]⟩, .bool false, .int .i64 0, .slice none 0 0, .slice none 0 0] 41) = W1 := ⟨_, rfl⟩
  obtain ⟨W2, hW2⟩ : ∃ W2, W1.alloc (.cells #[.string id, .int .i64 0, .string ⟨#[]⟩, .bool false, .int .i64 0, .slice none 0 0, .slice none 0 0] 41) = W2 := ⟨_, rfl⟩
  have LO := hideT (Loc.new h hW1 hW2)
  have HW1 := hideT hW1
  have HW2 := hideT hW2
  clear h hW1 hW2 E1 E2 E3 E4 E5 E6
  go_enter Try.func45, Try.ntmps45
  go_wp2_with fail
  rw [HW1.out, HW2.out]
  refine (numberR b W2 σ rv fv iv fs ids LO.out.st 5 (by decide) (by decide)).mono ?_
  rintro e w1 ⟨_, rv1, rfl, rfl, r, k⟩
  have hv : (Kp.numS 5 σ).1 = n1 := by rw [HE1.out]
  rw [HE1.out] at r
  rw [hv]
  dsimp only at r
  have l := LO.out.call r k
  have L1 := hideT (l.put (by decide) 1 (.int .i64 n1))
  have y : w1.cell? ⟨w.heap.size + 1, 1, none⟩ = some (.int .i64 0) := l.v.cell 1
  have y' : w1.frozen? ⟨w.heap.size + 1, 1, none⟩ = false := l.v.free 1
  have hlt1 := l.bx
  obtain ⟨X1, hX⟩ : ∃ X, w1.setCell ⟨w.heap.size + 1, 1, none⟩ (.int .i64 n1) = X := ⟨_, rfl⟩
  rw [hX] at L1
  have HX1 := hideT hX
  clear r k hX l hv
  go_wp2_with fail
  rw [HX1.out]
  clear y y'
  refine (parentR b X1 σ1 rv1 fv iv fs ids L1.out.st hids).mono ?_
  rintro e w2 ⟨_, rv2, rfl, rfl, r, k⟩
  have hv : (Kp.parS ids σ1).1 = n2 := by rw [HE2.out]
  rw [HE2.out] at r
  rw [hv]
  dsimp only at r
  have l := L1.out.call r k
  have L2 := hideT (l.put (by decide) 2 (.string n2))
  have y : w2.cell? ⟨w.heap.size + 1, 2, none⟩ = some (.string ⟨#[]⟩) := l.v.cell 2
  have y' : w2.frozen? ⟨w.heap.size + 1, 2, none⟩ = false := l.v.free 2
  have hlt2 := l.bx
  obtain ⟨X2, hX⟩ : ∃ X, w2.setCell ⟨w.heap.size + 1, 2, none⟩ (.string n2) = X := ⟨_, rfl⟩
  rw [hX] at L2
  have HX2 := hideT hX
  clear r k hX l hv
  go_wp2_with fail
  rw [HX2.out]
  clear y y'
  refine (numberR b X2 σ2 rv2 fv iv fs ids L2.out.st 1 (by decide) (by decide)).mono ?_
  rintro e w3 ⟨_, rv3, rfl, rfl, r, k⟩
  have hv : (Kp.numS 1 σ2).1 = n3 := by rw [HE3.out]
  rw [HE3.out] at r
  rw [hv]
  dsimp only at r
  have l := L2.out.call r k
  have L3 := hideT (l.put (by decide) 3 (.bool rq))
  have y : w3.cell? ⟨w.heap.size + 1, 3, none⟩ = some (.bool false) := l.v.cell 3
  have y' : w3.frozen? ⟨w.heap.size + 1, 3, none⟩ = false := l.v.free 3
  have hlt3 := l.bx
  obtain ⟨X3, hX⟩ : ∃ X, w3.setCell ⟨w.heap.size + 1, 3, none⟩ (.bool rq) = X := ⟨_, rfl⟩
  rw [hX] at L3
  have HX3 := hideT hX
  have erq : (n3 == 1) = rq := by rw [← ERQ.out]; rfl
  clear r k hX l hv
  go_wp2_with fail
  rw [HX3.out]
  clear y y' erq
  refine (numberR b X3 σ3 rv3 fv iv fs ids L3.out.st 100 (by decide) (by decide)).mono ?_
  rintro e w4 ⟨_, rv4, rfl, rfl, r, k⟩
  have hv : (Kp.numS 100 σ3).1 = n4 := by rw [HE4.out]
  rw [HE4.out] at r
  rw [hv]
  dsimp only at r
  have l := L3.out.call r k
  have L4 := hideT (l.put (by decide) 4 (.int .i64 n4))
  have y : w4.cell? ⟨w.heap.size + 1, 4, none⟩ = some (.int .i64 0) := l.v.cell 4
  have y' : w4.frozen? ⟨w.heap.size + 1, 4, none⟩ = false := l.v.free 4
  have hlt4 := l.bx
  obtain ⟨X4, hX⟩ : ∃ X, w4.setCell ⟨w.heap.size + 1, 4, none⟩ (.int .i64 n4) = X := ⟨_, rfl⟩
  rw [hX] at L4
  have HX4 := hideT hX
  clear r k hX l hv
  go_wp2_with fail
  rw [HX4.out]
  clear y y'
  refine (rowSent b X4 σ4 rv4 fv iv fs ids L4.out.st hfs hids 3 (by decide) (by decide)).mono ?_
  rintro e w5 ⟨v5, rv5, rfl, m5, r, k⟩
  rw [HE5.out] at m5 r
  dsimp only at m5 r
  obtain ⟨a5, p5, hv5⟩ := rown_form m5
  subst hv5
  have l := L4.out.call r k
  have L5 := hideT (l.put (by decide) 5 (.slice a5 n5.length p5))
  have M5 := hideT (m5.turn (R' := SentN b) (w' := w5.setCell ⟨w.heap.size + 1, 5, none⟩ (.slice a5 n5.length p5)) (fun cs x _ h => h.turn (fun g t C ht hb hC => hC.offT l.v (by rcases ht with rfl | rfl <;> decide) 5 _)) (fun g C hb hC => hC.offT l.v (by decide) 5 _))
  have y : w5.cell? ⟨w.heap.size + 1, 5, none⟩ = some (.slice none 0 0) := l.v.cell 5
  have y' : w5.frozen? ⟨w.heap.size + 1, 5, none⟩ = false := l.v.free 5
  have hlt5 := l.bx
  obtain ⟨X5, hX⟩ : ∃ X, w5.setCell ⟨w.heap.size + 1, 5, none⟩ (.slice a5 n5.length p5) = X := ⟨_, rfl⟩
  rw [hX] at L5 M5
  have HX5 := hideT hX
  clear r k hX l m5
  go_wp2_with fail
  rw [HX5.out]
  clear y y'
  refine (rowSent b X5 σ5 rv5 fv iv fs ids L5.out.st hfs hids 3 (by decide) (by decide)).mono ?_
  rintro e w6 ⟨v6, rv6, rfl, m6, r, k⟩
  rw [HE6.out] at m6 r
  dsimp only at m6 r
  obtain ⟨a6, p6, hv6⟩ := rown_form m6
  subst hv6
  have q0 := L5.out.call r k
  have q1 := q0.put (by decide) 6 (.slice a6 n6.length p6)
  have q2 := q1.res (by decide) 0 (.string id)
  have q3 := q2.res (by decide) 1 (.int .i64 n1)
  have q4 := q3.res (by decide) 2 (.string n2)
  have q5 := q4.res (by decide) 3 (.bool rq)
  have q6 := q5.res (by decide) 4 (.int .i64 n4)
  have q7 := q6.res (by decide) 5 (.slice a5 n5.length p5)
  have q8 := q7.res (by decide) 6 (.slice a6 n6.length p6)
  have Q8 := hideT q8
  have M6 : Hid (RowN b 47 2 (SentN b) ((((((((w6.setCell ⟨w.heap.size + 1, 6, none⟩ (.slice a6 n6.length p6)).setCell ⟨w.heap.size, 0, none⟩ (.string id)).setCell ⟨w.heap.size, 1, none⟩ (.int .i64 n1)).setCell ⟨w.heap.size, 2, none⟩ (.string n2)).setCell ⟨w.heap.size, 3, none⟩ (.bool rq)).setCell ⟨w.heap.size, 4, none⟩ (.int .i64 n4)).setCell ⟨w.heap.size, 5, none⟩ (.slice a5 n5.length p5)).setCell ⟨w.heap.size, 6, none⟩ (.slice a6 n6.length p6)) (.slice a6 n6.length p6) n6) := m6.turn (fun cs x _ h => h.turn (fun g t C ht hb hC => ((((((((hC.offT q0.v (by rcases ht with rfl | rfl <;> decide) 6 _).offT q1.a (by rcases ht with rfl | rfl <;> decide) 0 _).offT q2.a (by rcases ht with rfl | rfl <;> decide) 1 _).offT q3.a (by rcases ht with rfl | rfl <;> decide) 2 _).offT q4.a (by rcases ht with rfl | rfl <;> decide) 3 _).offT q5.a (by rcases ht with rfl | rfl <;> decide) 4 _).offT q6.a (by rcases ht with rfl | rfl <;> decide) 5 _).offT q7.a (by rcases ht with rfl | rfl <;> decide) 6 _))) (fun g C hb hC => ((((((((hC.offT q0.v (by decide) 6 _).offT q1.a (by decide) 0 _).offT q2.a (by decide) 1 _).offT q3.a (by decide) 2 _).offT q4.a (by decide) 3 _).offT q5.a (by decide) 4 _).offT q6.a (by decide) 5 _).offT q7.a (by decide) 6 _))
  have M5' : Hid (RowN b 47 2 (SentN b) ((((((((w6.setCell ⟨w.heap.size + 1, 6, none⟩ (.slice a6 n6.length p6)).setCell ⟨w.heap.size, 0, none⟩ (.string id)).setCell ⟨w.heap.size, 1, none⟩ (.int .i64 n1)).setCell ⟨w.heap.size, 2, none⟩ (.string n2)).setCell ⟨w.heap.size, 3, none⟩ (.bool rq)).setCell ⟨w.heap.size, 4, none⟩ (.int .i64 n4)).setCell ⟨w.heap.size, 5, none⟩ (.slice a5 n5.length p5)).setCell ⟨w.heap.size, 6, none⟩ (.slice a6 n6.length p6)) (.slice a5 n5.length p5) n5) := M5.out.turn (fun cs x _ h => h.turn (fun g t C ht hb hC => (((((((((k.lies hC hb).offT q0.v (by rcases ht with rfl | rfl <;> decide) 6 _).offT q1.a (by rcases ht with rfl | rfl <;> decide) 0 _).offT q2.a (by rcases ht with rfl | rfl <;> decide) 1 _).offT q3.a (by rcases ht with rfl | rfl <;> decide) 2 _).offT q4.a (by rcases ht with rfl | rfl <;> decide) 3 _).offT q5.a (by rcases ht with rfl | rfl <;> decide) 4 _).offT q6.a (by rcases ht with rfl | rfl <;> decide) 5 _).offT q7.a (by rcases ht with rfl | rfl <;> decide) 6 _))) (fun g C hb hC => (((((((((k.lies hC hb).offT q0.v (by decide) 6 _).offT q1.a (by decide) 0 _).offT q2.a (by decide) 1 _).offT q3.a (by decide) 2 _).offT q4.a (by decide) 3 _).offT q5.a (by decide) 4 _).offT q6.a (by decide) 5 _).offT q7.a (by decide) 6 _))
  have u0 : w6.cell? ⟨w.heap.size + 1, 0, none⟩ = some (.string id) := q0.v.cell 0
  have u1 : w6.cell? ⟨w.heap.size + 1, 1, none⟩ = some (.int .i64 n1) := q0.v.cell 1
  have u2 : w6.cell? ⟨w.heap.size + 1, 2, none⟩ = some (.string n2) := q0.v.cell 2
  have u3 : w6.cell? ⟨w.heap.size + 1, 3, none⟩ = some (.bool rq) := q0.v.cell 3
  have u4 : w6.cell? ⟨w.heap.size + 1, 4, none⟩ = some (.int .i64 n4) := q0.v.cell 4
  have u5 : w6.cell? ⟨w.heap.size + 1, 5, none⟩ = some (.slice a5 n5.length p5) := q0.v.cell 5
  have u6 : w6.cell? ⟨w.heap.size + 1, 6, none⟩ = some (.slice none 0 0) := q0.v.cell 6
  have u6' : w6.frozen? ⟨w.heap.size + 1, 6, none⟩ = false := q0.v.free 6
  have t0 : w6.cell? ⟨w.heap.size, 0, none⟩ = some (.string ⟨#[]⟩) := q0.a.cell 0
  have t0' : w6.frozen? ⟨w.heap.size, 0, none⟩ = false := q0.a.free 0
  have t1 : w6.cell? ⟨w.heap.size, 1, none⟩ = some (.int .i64 0) := q0.a.cell 1
  have t1' : w6.frozen? ⟨w.heap.size, 1, none⟩ = false := q0.a.free 1
  have t2 : w6.cell? ⟨w.heap.size, 2, none⟩ = some (.string ⟨#[]⟩) := q0.a.cell 2
  have t2' : w6.frozen? ⟨w.heap.size, 2, none⟩ = false := q0.a.free 2
  have t3 : w6.cell? ⟨w.heap.size, 3, none⟩ = some (.bool false) := q0.a.cell 3
  have t3' : w6.frozen? ⟨w.heap.size, 3, none⟩ = false := q0.a.free 3
  have t4 : w6.cell? ⟨w.heap.size, 4, none⟩ = some (.int .i64 0) := q0.a.cell 4
  have t4' : w6.frozen? ⟨w.heap.size, 4, none⟩ = false := q0.a.free 4
  have t5 : w6.cell? ⟨w.heap.size, 5, none⟩ = some (.slice none 0 0) := q0.a.cell 5
  have t5' : w6.frozen? ⟨w.heap.size, 5, none⟩ = false := q0.a.free 5
  have t6 : w6.cell? ⟨w.heap.size, 6, none⟩ = some (.slice none 0 0) := q0.a.cell 6
  have t6' : w6.frozen? ⟨w.heap.size, 6, none⟩ = false := q0.a.free 6
  have hlt6 := q0.bx
  clear r k m6 M5 q0 q1 q2 q3 q4 q5 q6 q7 q8
  go_wp2_with fail
  have r0 := Q8.out.a.cell 0
  have r1 := Q8.out.a.cell 1
  have r2 := Q8.out.a.cell 2
  have r3 := Q8.out.a.cell 3
  have r4 := Q8.out.a.cell 4
  have r5 := Q8.out.a.cell 5
  have r6 := Q8.out.a.cell 6
  simp only [List.getElem?_toArray, List.getElem?_cons_zero, List.getElem?_cons_succ, List.setIfInBounds_toArray, List.set_cons_zero, List.set_cons_succ] at r0 r1 r2 r3 r4 r5 r6
  refine bodyPost_ret (v := .agg #[.string id, .int .i64 n1, .string n2, .bool rq, .int .i64 n4, .slice a5 n5.length p5, .slice a6 n6.length p6]) (by simp [results, Try.results45, go_sem, r0, r1, r2, r3, r4, r5, r6]) rfl ⟨_, _, rfl, ⟨a5, p5, a6, p6, by rw [HT.out], by rw [HT.out]; exact ⟨_, _, rfl, ⟨hid, hpz⟩, M5'.out, M6.out⟩⟩, by rw [HT.out]; exact Q8.out.st, Q8.out.but⟩
end Go.Proofs.Ytcfalhgcdffjoaa
/-
  The reader: a whole model.
-/
set_option linter.unusedSimpArgs false
set_option linter.unusedVariables false
namespace Go.Proofs.Ytcfalhgcdffjoaa
open Go.RowKit
set_option maxRecDepth 100000
theorem repS_len {α : Type} (one : Kp.St → α × Kp.St) : ∀ (n : Nat) (acc : List α) (σ : Kp.St), (Kp.repS one n acc σ).1.length = acc.length + n
  | 0, acc, σ => rfl
  | n + 1, acc, σ => by
    rw [Kp.repS, repS_len one n, List.length_append, List.length_singleton]
    omega
theorem rowS_len {α : Type} (one : Kp.St → α × Kp.St) {most : Int} (h : 0 ≤ most) (σ : Kp.St) : ((Kp.rowS most one σ).1.length : Int) ≤ most := by
  have := Kp.numS_le h σ
  unfold Kp.rowS
  rw [repS_len, List.length_nil]
  omega
theorem rown_take {α : Type} {b T z : Nat} {R : World → List Value → α → Prop} {w : World} {ao : Option Addr} {n cap : Nat} {l : List α} (h : RowN b T z R w (.slice ao n cap) l) (k : Nat) (hk : k ≤ l.length) : RowN b T z R w (.slice ao k cap) (l.take k) := by
  obtain ⟨g, o, ⟨ao', cap', e, h1, h2, h3⟩, hq, h4, h5⟩ := h
  cases e
  have hl : (l.take k).length = k := by rw [List.length_take]; omega
  refine ⟨g, o, ⟨ao, cap, by rw [hl], by omega, h2, fun h0 => h3 (by omega)⟩, fun h0 => hq (by omega), by omega, fun i x hx => ?_⟩
  rw [List.getElem?_take] at hx
  split at hx
  · exact h5 i x hx
  · cases hx
theorem rown_drop {α : Type} {b T : Nat} {R : World → List Value → α → Prop} {w : World} {ao ao' : Option Addr} {n cap cap' : Nat} {l : List α} (h : RowN b T 1 R w (.slice ao n cap) l) (k : Nat) (hc : l.length - k ≤ cap') (hm : cap' ≤ maxLen) (ha : ∀ a, ao = some a → 0 < l.length - k → ao' = some (a.add k)) {q : Nat} (hq : q = l.length - k) : RowN b T 1 R w (.slice ao' q cap') (l.drop k) := by
  subst hq
  obtain ⟨g, o, ⟨ao1, cap1, e, h1, h2, h3⟩, hq, h4, h5⟩ := h
  cases e
  have hl : (l.drop k).length = l.length - k := List.length_drop
  refine ⟨g, o + k, ⟨ao', cap', by rw [hl], by omega, hm, fun h0 => ?_⟩, fun h0 => hq (by omega), by omega, fun i x hx => ?_⟩
  · have := ha _ (h3 (by omega)) (by omega)
    rw [this]
    unfold Addr.add
    split <;> simp_all
  · rw [List.getElem?_drop] at hx
    obtain ⟨cs, k1, k2, k3⟩ := h5 (k + i) x hx
    refine ⟨cs, k1, k2, fun j c hj => ?_⟩
    have := k3 j c hj
    rw [show o + k + i * 1 + j = o + (k + i) * 1 + j by omega]
    exact this
theorem itemV (b : Nat) (w : World) (σ : Kp.St) (rv fv iv : Value) (fs ids : List ByteArray) (h : RSt b w σ rv fv iv fs ids) (hfs : fs.length ≤ 1000) (hids : ids.length ≤ 1000) (id : ByteArray) (hid : id.size ≤ 140737488355328) {x : Mp.Item} {σ' : Kp.St} (hx : Kp.itemS fs ids id σ = (x, σ')) :
    Calls Try.prog 45 #[.pointer (some ⟨b, 0, none⟩), .string id] w (RPost b fv iv fs ids (fun w' r => ∃ a5 p5 a6 p6, r = .agg #[.string x.id, .int .i64 x.kind, .string x.parent, .bool x.req, .int .i64 x.ticks, .slice a5 x.entry.length p5, .slice a6 x.exit.length p6] ∧ itemN b w' (itemC x (.slice a5 x.entry.length p5) (.slice a6 x.exit.length p6)) x) σ' w) := by
  have := itemRd b w σ rv fv iv fs ids h hfs hids id hid
  rw [hx] at this
  exact this
theorem Made.off {α : Type} {H T z : Nat} {R : World → List Value → α → Prop} {w : World} {v : Value} {l : List α} {C : List (List Value)} (h : Made H T z R w v l C) {g : Nat} {t : TypeId} {D : Array Value} (hl : Lies w g t D) (ht : t ≠ T) (k : Nat) (u : Value) (hR : ∀ c x, R w c x → R (w.setCell ⟨g, k, none⟩ u) c x) : Made H T z R (w.setCell ⟨g, k, none⟩ u) v l C :=
  ⟨own_off h.own hl ht k u, h.len, h.cs, fun i x c h1 h2 => hR _ _ (h.each i x c h1 h2)⟩
set_option maxHeartbeats 8000000 in
theorem allRd (b : Nat) (w : World) (σ : Kp.St) (rv : Value) (h : RSt b w σ rv (.slice none 0 0) (.slice none 0 0) [] []) :
    Calls Try.prog 23 #[.pointer (some ⟨b, 0, none⟩)] w fun e w' => ∃ fa fc ia ic rv' fv iv, e = .returned (.agg #[.slice fa (Kp.allS σ).1.files.length fc, .slice ia (Kp.allS σ).1.items.length ic]) ∧ ModelAt w' fa fc ia ic (Kp.allS σ).1 ∧ Lies w' b 57 #[rv', .bool (Kp.allS σ).2.isNone, fv, iv] ∧ But b w w' := by
  have hbw := h.lies.lt
  have hln := rowS_len Kp.textS (most := 22) (by decide) σ
  obtain ⟨tx, σ1, E1⟩ : ∃ n σ1, Kp.rowS 22 Kp.textS σ = (n, σ1) := ⟨_, _, rfl⟩
  rw [E1] at hln
  dsimp only at hln
  have hle := Kp.numS_le (most := (tx.length : Int)) (by omega) σ1
  obtain ⟨n, σ2, E2⟩ : ∃ n σ2, Kp.numS (tx.length : Int) σ1 = (n, σ2) := ⟨_, _, rfl⟩
  rw [E2] at hle
  dsimp only at hle
  obtain ⟨k, rfl⟩ : ∃ k : Nat, n = k := ⟨n.toNat, by omega⟩
  have hk : k ≤ tx.length := by omega
  have htx : tx.length ≤ 22 := by omega
  obtain ⟨its, σ3, E3⟩ : ∃ n σ3, Kp.itemsS (tx.take k) (tx.drop k) (tx.drop k) [] σ2 = (n, σ3) := ⟨_, _, rfl⟩
  have HT : Hid (Kp.allS σ = (⟨tx.take k, its⟩, σ3)) := by
    show _ = _
    unfold Kp.allS
    rw [E1]
    dsimp only
    rw [E2]
    dsimp only
    rw [Int.toNat_natCast, E3]
  have HE1 := hideT E1
  have HE2 := hideT E2
  have HE3 := hideT E3
  have HI := hideT h
  obtain ⟨W1, hW1⟩ : ∃ W1, w.alloc (.cells #[.slice none 0 0, .slice none 0 0] 25) = W1 := ⟨_, rfl⟩
  obtain ⟨B1, L1, z1⟩ := of_alloc hW1
  have HB1 := hideT B1
  have HL1 := hideT L1
  have HW1 := hideT hW1
  clear h hW1 B1 L1 E1 E2 E3 hle hln
  go_enter Try.func23, Try.ntmps23
  go_wp2_with fail
  rw [HW1.out]
  refine (rowText b W1 σ rv _ _ (HI.out.below HB1.out) 22 (by decide) (by decide)).mono ?_
  rintro e w1 ⟨v1, rv1, rfl, m1, r1, k1⟩
  rw [HE1.out] at m1 r1
  dsimp only at m1 r1
  obtain ⟨ta, tc, hv1⟩ := rown_form m1
  subst hv1
  have M1 := hideT m1
  have R1 := hideT r1
  have K1 : Hid (But b w w1) := (Keep.of_below HB1.out).trans k1
  have LA1 := hideT (k1.lies HL1.out (by omega))
  clear m1 r1 k1
  go_wp2_with fail
  refine (numberR b w1 σ1 rv1 _ _ [] [] R1.out (tx.length : Int) (by omega) (by omega)).mono ?_
  rintro e w2 ⟨_, rv2, rfl, rfl, r2, k2⟩
  have hv : (Kp.numS (tx.length : Int) σ1).1 = (k : Int) := by rw [HE2.out]
  rw [HE2.out] at r2
  rw [hv]
  dsimp only at r2
  have R2 := hideT r2
  have K2 : Hid (But b w w2) := K1.out.trans k2
  have M2 := hideT (M1.out.turn (R' := strR) (w' := w2) (fun _ _ _ h => h) (fun g C hb hC => k2.lies hC hb))
  have LA2 := hideT (k2.lies LA1.out (by omega))
  obtain ⟨x0, x1, x2, x3, f0, f1⟩ := r2.cells
  have f2 : w2.frozen? ⟨b, 2, none⟩ = false := r2.lies.free 2
  have f3 : w2.frozen? ⟨b, 3, none⟩ = false := r2.lies.free 3
  have hlt := r2.lies.lt
  obtain ⟨_, hc1, hc2, haw⟩ := rown_away M2.out
  clear r2 k2 hv haw
  obtain ⟨N, hN⟩ : ∃ N, tx.length - k = N := ⟨_, rfl⟩
  have hdl : (tx.drop k).length = N := by rw [List.length_drop, hN]
  cases ta with
  | none =>
    go_wp2_with fail
    go_region
    have htx0 : tx.length = 0 := by
      rcases Nat.eq_zero_or_pos tx.length with h | h
      · exact h
      · obtain ⟨_, _, _, _, _, ha, _⟩ := frow_at (M2.out.plain (R' := strR) (fun _ _ h => h))
        cases ha h
    have N2 : Hid (RowN b 9 1 strR w2 (.slice none N (tc - k)) (tx.drop k)) := rown_drop M2.out k (by omega) (by omega) (fun a h => by cases h) hN.symm
    have HTX := hideT htx0
    clear htx0
    have N1 := hideT (rown_take M2.out k hk)
    obtain ⟨X3, hX3⟩ : ∃ X3, ((w2.setCell ⟨b, 2, none⟩ (.slice none k tc)).setCell ⟨b, 3, none⟩ (.slice none N (tc - k))).drew = X3 := ⟨_, rfl⟩
    have K3' : But b w2 X3 := by rw [← hX3]; exact ((But.set b w2 2 _).trans (But.set b _ 3 _)).trans (Keep.of_below (Below.refl _ _).drew)
    have l3 : Lies X3 b 57 #[rv2, .bool σ2.isNone, .slice none k tc, .slice none N (tc - k)] := by rw [← hX3]; exact (R2.out.lies.set 2 _).set 3 _
    have R3 : Hid (RSt b X3 σ2 rv2 (.slice none k tc) (.slice none N (tc - k)) (tx.take k) (tx.drop k)) := ⟨l3, R2.out.rest.turn K3', N1.out.turn (fun _ _ _ h => h) (fun g C hb hC => K3'.lies hC hb), N2.out.turn (fun _ _ _ h => h) (fun g C hb hC => K3'.lies hC hb)⟩
    have K3 : Hid (But b w X3) := K2.out.trans K3'
    have LA3 := hideT (K3'.lies LA2.out (by omega))
    have hX3z : w.heap.size < X3.heap.size := LA3.out.lt
    have y2 : X3.cell? ⟨b, 2, none⟩ = some (.slice none k tc) := l3.cell 2
    have y3 : X3.cell? ⟨b, 3, none⟩ = some (.slice none N (tc - k)) := l3.cell 3
    have hlt3 := l3.lt
    have HX3 := hideT hX3
    clear K3' l3 hX3 x0 x1 x2 x3 f0 f1 f2 f3 hlt
    rw [HX3.out]
    obtain ⟨V, hV⟩ : ∃ V, X3.alloc (.cells #[.slice none k tc, .slice none 0 0] 25) = V := ⟨_, rfl⟩
    obtain ⟨BV, LV, zV⟩ := of_alloc hV
    have RV := hideT (R3.out.below BV)
    have KV : Hid (But b w V) := K3.out.trans (Keep.of_below BV)
    have LAV := hideT (LA3.out.below BV)
    have HLV := hideT LV
    have HVq := hideT hV
    clear hV BV LV
    go_wp2_with fail
    first | rw [HVq.out] | skip
    go_loopw [38] (fun i wr => ∃ (j : Nat) (acc : List Mp.Item) (C : List (List Value)) (σ' : Kp.St) (rv' ivv : Value), j ≤ N ∧ i = .int .i64 j ∧ acc.length = j ∧ Hid (RSt b wr σ' rv' (.slice none k tc) (.slice none N (tc - k)) (tx.take k) (tx.drop k)) ∧ Hid (Made (X3.heap.size + 1) 41 7 (itemN b) wr ivv acc C) ∧ Hid (Lies wr X3.heap.size 25 #[.slice none k tc, ivv]) ∧ Hid (Lies wr w.heap.size 25 #[.slice none 0 0, .slice none 0 0]) ∧ Hid (But b w wr) ∧ Hid (Kp.itemsS (tx.take k) (tx.drop k) ((tx.drop k).drop j) acc σ' = (its, σ3))) (fun i _ => N - (intOf i).toNat)
    case atStart => exact ⟨0, [], [], σ2, rv2, .slice none 0 0, Nat.zero_le _, rfl, rfl, RV, Made.nil _, HLV, LAV, KV, HE3⟩
    case round =>
      obtain ⟨j, acc, C, σ', rv', ivv, hj, rfl, rfl, HR, HM, HP, HA, HW, HS⟩ := hrel
      obtain ⟨va, vc, hva⟩ := slice_form HM.out.own
      subst hva
      have hsz := HW.out.size
      have hpz := HP.out.lt
      obtain ⟨i0, hi0, hz0, hz1, hz2⟩ := info_parts infoI
      have hlt0 : ¬ acc.length < N := by have := HTX.out; omega
      have hdd : (tx.drop k).drop acc.length = [] := List.drop_of_length_le (by rw [hdl]; omega)
      have HS2 := HS.out
      rw [hdd, Kp.itemsS] at HS2
      have e1 : Hid (acc = its) := congrArg Prod.fst HS2
      have e2 : Hid (σ' = σ3) := congrArg Prod.snd HS2
      have z0 : wr.cell? ⟨X3.heap.size, 0, none⟩ = some (.slice none k tc) := HP.out.cell 0
      have z1 : wr.cell? ⟨X3.heap.size, 1, none⟩ = some (.slice va acc.length vc) := HP.out.cell 1
      have t0 : wr.cell? ⟨w.heap.size, 0, none⟩ = some (.slice none 0 0) := HA.out.cell 0
      have t1 : wr.cell? ⟨w.heap.size, 1, none⟩ = some (.slice none 0 0) := HA.out.cell 1
      have t0' : wr.frozen? ⟨w.heap.size, 0, none⟩ = false := HA.out.free 0
      have t1' : wr.frozen? ⟨w.heap.size, 1, none⟩ = false := HA.out.free 1
      have hAl := HA.out.lt
      obtain ⟨Z, hZ⟩ : ∃ Z, (wr.setCell ⟨w.heap.size, 0, none⟩ (.slice none k tc)).setCell ⟨w.heap.size, 1, none⟩ (.slice va acc.length vc) = Z := ⟨_, rfl⟩
      have a1 := HA.out.set 0 (.slice none k tc)
      have A2 := hideT (a1.set 1 (.slice va acc.length vc))
      have lo : ∀ g t C, t ≠ 25 → Lies wr g t C → Lies Z g t C := fun g t C ht hC => by rw [← hZ]; exact (hC.offT HA.out ht 0 _).offT a1 ht 1 _
      have F2 := hideT (HR.out.files.turn (R' := strR) (w' := Z) (fun _ _ _ h => h) (fun g C hb hC => lo g _ C (by decide) hC))
      have I2 := hideT ((HM.out.row (b := b) (by omega) (by omega)).turn (R' := itemN b) (w' := Z) (fun cs x _ h => h.turn (fun g t C ht hb hC => lo g t C (by rcases ht with rfl | rfl | rfl <;> decide) hC)) (fun g C hb hC => lo g _ C (by decide) hC))
      have B2 := hideT (lo b _ _ (by decide) HR.out.lies)
      rw [hZ] at A2
      have K9 := hideT (But.setNew (But.setNew HW.out w.heap.size 0 (.slice none k tc) (Nat.le_refl _)) w.heap.size 1 (.slice va acc.length vc) (Nat.le_refl _))
      rw [hZ] at K9
      have HZ := hideT hZ
      clear HS2 hdd a1 lo hZ
      go_wp2_with fail
      rw [HZ.out]
      have r0 := A2.out.cell 0
      have r1 := A2.out.cell 1
      simp only [List.getElem?_toArray, List.getElem?_cons_zero, List.getElem?_cons_succ, List.setIfInBounds_toArray, List.set_cons_zero, List.set_cons_succ] at r0 r1
      have htl : (tx.take k).length = k := by rw [List.length_take]; omega
      refine bodyPost_ret (v := .agg #[.slice none k tc, .slice va acc.length vc]) (by simp [results, Try.results23, go_sem, r0, r1]) rfl ?_
      refine ⟨none, tc, va, vc, rv', .slice none k tc, .slice none N (tc - k), ?_, ?_, ?_, K9.out⟩
      · rw [HT.out, ← e1.out]
        dsimp only
        rw [htl]
      · rw [HT.out, ← e1.out]
        exact ⟨by dsimp only; rw [htl]; exact F2.out.plain (fun _ _ h => h), I2.out.plain (fun _ _ h => h.plain)⟩
      · rw [HT.out, ← e2.out]
        exact B2.out
  | some ad =>
    go_wp2_with fail
    go_region
    obtain ⟨iad, hia⟩ : ∃ iad, (if tc = k then some ad else some (ad.add k)) = iad := ⟨_, rfl⟩
    have N2 : Hid (RowN b 9 1 strR w2 (.slice iad N (tc - k)) (tx.drop k)) := rown_drop M2.out k (by omega) (by omega) (fun a h h0 => by rw [← hia, if_neg (by omega), Option.some.inj h]) hN.symm
    have N1 := hideT (rown_take M2.out k hk)
    obtain ⟨X3, hX3⟩ : ∃ X3, ((w2.setCell ⟨b, 2, none⟩ (.slice (some ad) k tc)).setCell ⟨b, 3, none⟩ (.slice iad N (tc - k))).drew = X3 := ⟨_, rfl⟩
    have K3' : But b w2 X3 := by rw [← hX3]; exact ((But.set b w2 2 _).trans (But.set b _ 3 _)).trans (Keep.of_below (Below.refl _ _).drew)
    have l3 : Lies X3 b 57 #[rv2, .bool σ2.isNone, .slice (some ad) k tc, .slice iad N (tc - k)] := by rw [← hX3]; exact (R2.out.lies.set 2 _).set 3 _
    have R3 : Hid (RSt b X3 σ2 rv2 (.slice (some ad) k tc) (.slice iad N (tc - k)) (tx.take k) (tx.drop k)) := ⟨l3, R2.out.rest.turn K3', N1.out.turn (fun _ _ _ h => h) (fun g C hb hC => K3'.lies hC hb), N2.out.turn (fun _ _ _ h => h) (fun g C hb hC => K3'.lies hC hb)⟩
    have K3 : Hid (But b w X3) := K2.out.trans K3'
    have LA3 := hideT (K3'.lies LA2.out (by omega))
    have hX3z : w.heap.size < X3.heap.size := LA3.out.lt
    have y2 : X3.cell? ⟨b, 2, none⟩ = some (.slice (some ad) k tc) := l3.cell 2
    have y3 : X3.cell? ⟨b, 3, none⟩ = some (.slice iad N (tc - k)) := l3.cell 3
    have hlt3 := l3.lt
    have HX3 := hideT hX3
    clear K3' l3 hX3 x0 x1 x2 x3 f0 f1 f2 f3 hlt
    rw [hia]
    rw [HX3.out]
    obtain ⟨V, hV⟩ : ∃ V, X3.alloc (.cells #[.slice (some ad) k tc, .slice none 0 0] 25) = V := ⟨_, rfl⟩
    obtain ⟨BV, LV, zV⟩ := of_alloc hV
    have RV := hideT (R3.out.below BV)
    have KV : Hid (But b w V) := K3.out.trans (Keep.of_below BV)
    have LAV := hideT (LA3.out.below BV)
    have HLV := hideT LV
    have HVq := hideT hV
    clear hV BV LV
    go_wp2_with fail
    first | rw [HVq.out] | skip
    go_loopw [38] (fun i wr => ∃ (j : Nat) (acc : List Mp.Item) (C : List (List Value)) (σ' : Kp.St) (rv' ivv : Value), j ≤ N ∧ i = .int .i64 j ∧ acc.length = j ∧ Hid (RSt b wr σ' rv' (.slice (some ad) k tc) (.slice iad N (tc - k)) (tx.take k) (tx.drop k)) ∧ Hid (Made (X3.heap.size + 1) 41 7 (itemN b) wr ivv acc C) ∧ Hid (Lies wr X3.heap.size 25 #[.slice (some ad) k tc, ivv]) ∧ Hid (Lies wr w.heap.size 25 #[.slice none 0 0, .slice none 0 0]) ∧ Hid (But b w wr) ∧ Hid (Kp.itemsS (tx.take k) (tx.drop k) ((tx.drop k).drop j) acc σ' = (its, σ3))) (fun i _ => N - (intOf i).toNat)
    case atStart => exact ⟨0, [], [], σ2, rv2, .slice none 0 0, Nat.zero_le _, rfl, rfl, RV, Made.nil _, HLV, LAV, KV, HE3⟩
    case round =>
      obtain ⟨j, acc, C, σ', rv', ivv, hj, rfl, rfl, HR, HM, HP, HA, HW, HS⟩ := hrel
      obtain ⟨va, vc, hva⟩ := slice_form HM.out.own
      subst hva
      have hsz := HW.out.size
      have hpz := HP.out.lt
      obtain ⟨i0, hi0, hz0, hz1, hz2⟩ := info_parts infoI
      by_cases hlt : acc.length < N
      · obtain ⟨hnl, _, hic, g, o, ha, hc⟩ := frow_at (HR.out.ids.plain (R' := strR) (fun _ _ h => h))
        obtain ⟨s, hs⟩ := Mp.at_lt (l := tx.drop k) (k := acc.length) (by rw [hdl]; exact hlt)
        obtain ⟨hsz1, c0⟩ := hc acc.length s hs
        obtain rfl := ha (by omega)
        have HS2 := HS.out
        rw [Mp.drop_at hs, Kp.itemsS] at HS2
        have HS3 := hideT HS2
        have z0 : wr.cell? ⟨X3.heap.size, 1, none⟩ = some (.slice va acc.length vc) := HP.out.cell 1
        have z0' : wr.frozen? ⟨X3.heap.size, 1, none⟩ = false := HP.out.free 1
        obtain ⟨⟨xid, xk, xp, xr, xt, xe, xx⟩, σ4, E4⟩ : ∃ x σ4, Kp.itemS (tx.take k) (tx.drop k) s σ' = (x, σ4) := ⟨_, _, rfl⟩
        rw [E4] at HS3
        have HE4 := hideT E4
        clear hc ha hs HS2 E4 hia hnl
        go_wp2_with fail
        go_region_law (first | (refine step_append_lies _ (by rfl) _ _ _ (by rfl) (X3.heap.size + 1) 41 i0 _ 7 104 Try.underlying23 hi0 hz0 hz1 hz2 rfl (by omega) (.slice va acc.length vc) acc.length C.flatten (by rfl) (M2.out.own.alloc _) ⟨w2.heap.size, 0, none⟩ 1 1 [.string xid, .int .i64 xk, .string xp, .bool xr, .int .i64 xt, .slice a5 xe.length p5, .slice a6 xx.length p6] (by rfl) (by rfl) (World.news_of_block (cs := #[.string xid, .int .i64 xk, .string xp, .bool xr, .int .i64 xt, .slice a5 xe.length p5, .slice a6 xx.length p6]) (t := 41) (fr := (0, 0)) (heap_alloc_new w2 _)) (by simp [Value.oneCell']) (by omega) (by unfold maxLen; omega) (by omega) (by first | (simp; done) | (simp; omega)) (w2.heap.size + 1) (by simp) ?_; intro gb cap2 w3 hown hgrow hat hlt3'; obtain ⟨G3, BL3⟩ := grow_of (b := b) M2.out.own (by omega) (by decide) (by omega) ((Below.refl _ w2).alloc (Nat.le_refl _) _) hgrow; have P3 := G3.calm _ _ _ P2.out (by omega) (by decide); have q1 : w3.cell? ⟨X3.heap.size, 1, none⟩ = some (.slice va acc.length vc) := P3.cell 1; have q1' : w3.frozen? ⟨X3.heap.size, 1, none⟩ = false := P3.free 1; have q2 := P3.lt) | (go_simp; go_at_call 45; refine (itemV b _ σ' rv' _ _ _ _ (HR.out.below (Below.refl _ wr).drew) (by rw [List.length_take]; omega) (by rw [hdl]; omega) s hsz1 HE4.out).mono ?_; rintro e w2 ⟨_, rv2, rfl, ⟨a5, p5, a6, p6, rfl, hit⟩, r2, k2⟩; have KK : But b wr w2 := (Keep.of_below (Below.refl _ wr).drew).trans k2; have M2 := hideT (HM.out.but KK (by omega) (fun c x h => h.turn (fun g t C _ hb hC => KK.lies hC hb))); have P2 := hideT (KK.lies HP.out (by omega)); have A2 := hideT (KK.lies HA.out (by omega)); have z2 : w2.cell? ⟨X3.heap.size, 1, none⟩ = some (.slice va acc.length vc) := P2.out.cell 1; have z2' : w2.frozen? ⟨X3.heap.size, 1, none⟩ = false := P2.out.free 1; have hsz2 := KK.size; have hp2 := P2.out.lt))
        all_goals
          obtain ⟨W4, hW4⟩ : ∃ W4, w3.setCell ⟨X3.heap.size, 1, none⟩ (.slice (some ⟨gb, 0, none⟩) (acc.length + 1) cap2) = W4 := ⟨_, rfl⟩
          have M3 := M2.out.push (w' := w3) (x := ⟨xid, xk, xp, xr, xt, xe, xx⟩) (fun c x h => h.turn (fun g t C ht hb hC => G3.calm g t C hC hb (by rcases ht with rfl | rfl | rfl <;> decide))) hown rfl rfl (hit.turn (fun g t C ht hb hC => G3.calm g t C hC hb (by rcases ht with rfl | rfl | rfl <;> decide)))
          have A3 := G3.calm _ _ _ A2.out (by omega) (by decide)
          have M4 : Hid (Made (X3.heap.size + 1) 41 7 (itemN b) W4 (.slice (some ⟨gb, 0, none⟩) (acc.length + 1) cap2) (acc ++ [⟨xid, xk, xp, xr, xt, xe, xx⟩]) (C ++ [[.string xid, .int .i64 xk, .string xp, .bool xr, .int .i64 xt, .slice a5 xe.length p5, .slice a6 xx.length p6]])) := by rw [← hW4]; exact M3.off P3 (by decide) 1 _ (fun c x h => h.turn (fun g t C ht hb hC => hC.offT P3 (by rcases ht with rfl | rfl | rfl <;> decide) 1 _))
          have R4 : Hid (RSt b W4 σ4 rv2 (.slice (some ad) k tc) (.slice (some ⟨g, o, none⟩) N (tc - k)) (tx.take k) (tx.drop k)) := by rw [← hW4]; exact (r2.grow G3 (.inl (by decide))).off P3 (by omega) (by decide) 1 _
          have P4 : Hid (Lies W4 X3.heap.size 25 #[.slice (some ad) k tc, .slice (some ⟨gb, 0, none⟩) (acc.length + 1) cap2]) := by rw [← hW4]; exact P3.set 1 _
          have A4 : Hid (Lies W4 w.heap.size 25 #[.slice none 0 0, .slice none 0 0]) := by rw [← hW4]; exact A3.off _ _ (fun e => by have : w.heap.size = X3.heap.size := e; omega)
          have K4 : Hid (But b w W4) := by rw [← hW4]; exact But.setNew (But.low (HW.out.trans KK) (BL3.mono (by omega))) _ 1 _ (by omega)
          have HW4 := hideT hW4
          clear hown hgrow hat hlt3' G3 BL3 P3 q1 q1' q2 M2 P2 A2 z2 z2' hsz2 hp2 KK r2 k2 hit M3 A3 z0 z0' hW4
          go_wp2_with fail
          first | rw [HW4.out] | skip
          go_roundw
          case rel => exact ⟨acc.length + 1, _, _, _, _, _, by omega, by go_num, by rw [List.length_append]; rfl, R4, M4, P4, A4, K4, HS3⟩
          case measure => simp [intOf]; omega
      · have hlt0 := hlt
        have hdd : (tx.drop k).drop acc.length = [] := List.drop_of_length_le (by rw [hdl]; omega)
        have HS2 := HS.out
        rw [hdd, Kp.itemsS] at HS2
        have e1 : Hid (acc = its) := congrArg Prod.fst HS2
        have e2 : Hid (σ' = σ3) := congrArg Prod.snd HS2
        have z0 : wr.cell? ⟨X3.heap.size, 0, none⟩ = some (.slice (some ad) k tc) := HP.out.cell 0
        have z1 : wr.cell? ⟨X3.heap.size, 1, none⟩ = some (.slice va acc.length vc) := HP.out.cell 1
        have t0 : wr.cell? ⟨w.heap.size, 0, none⟩ = some (.slice none 0 0) := HA.out.cell 0
        have t1 : wr.cell? ⟨w.heap.size, 1, none⟩ = some (.slice none 0 0) := HA.out.cell 1
        have t0' : wr.frozen? ⟨w.heap.size, 0, none⟩ = false := HA.out.free 0
        have t1' : wr.frozen? ⟨w.heap.size, 1, none⟩ = false := HA.out.free 1
        have hAl := HA.out.lt
        obtain ⟨Z, hZ⟩ : ∃ Z, (wr.setCell ⟨w.heap.size, 0, none⟩ (.slice (some ad) k tc)).setCell ⟨w.heap.size, 1, none⟩ (.slice va acc.length vc) = Z := ⟨_, rfl⟩
        have a1 := HA.out.set 0 (.slice (some ad) k tc)
        have A2 := hideT (a1.set 1 (.slice va acc.length vc))
        have lo : ∀ g t C, t ≠ 25 → Lies wr g t C → Lies Z g t C := fun g t C ht hC => by rw [← hZ]; exact (hC.offT HA.out ht 0 _).offT a1 ht 1 _
        have F2 := hideT (HR.out.files.turn (R' := strR) (w' := Z) (fun _ _ _ h => h) (fun g C hb hC => lo g _ C (by decide) hC))
        have I2 := hideT ((HM.out.row (b := b) (by omega) (by omega)).turn (R' := itemN b) (w' := Z) (fun cs x _ h => h.turn (fun g t C ht hb hC => lo g t C (by rcases ht with rfl | rfl | rfl <;> decide) hC)) (fun g C hb hC => lo g _ C (by decide) hC))
        have B2 := hideT (lo b _ _ (by decide) HR.out.lies)
        rw [hZ] at A2
        have K9 := hideT (But.setNew (But.setNew HW.out w.heap.size 0 (.slice (some ad) k tc) (Nat.le_refl _)) w.heap.size 1 (.slice va acc.length vc) (Nat.le_refl _))
        rw [hZ] at K9
        have HZ := hideT hZ
        clear HS2 hdd a1 lo hZ
        go_wp2_with fail
        rw [HZ.out]
        have r0 := A2.out.cell 0
        have r1 := A2.out.cell 1
        simp only [List.getElem?_toArray, List.getElem?_cons_zero, List.getElem?_cons_succ, List.setIfInBounds_toArray, List.set_cons_zero, List.set_cons_succ] at r0 r1
        have htl : (tx.take k).length = k := by rw [List.length_take]; omega
        refine bodyPost_ret (v := .agg #[.slice (some ad) k tc, .slice va acc.length vc]) (by simp [results, Try.results23, go_sem, r0, r1]) rfl ?_
        refine ⟨(some ad), tc, va, vc, rv', .slice (some ad) k tc, .slice iad N (tc - k), ?_, ?_, ?_, K9.out⟩
        · rw [HT.out, ← e1.out]
          dsimp only
          rw [htl]
        · rw [HT.out, ← e1.out]
          exact ⟨by dsimp only; rw [htl]; exact F2.out.plain (fun _ _ h => h), I2.out.plain (fun _ _ h => h.plain)⟩
        · rw [HT.out, ← e2.out]
          exact B2.out
end Go.Proofs.Ytcfalhgcdffjoaa
/-
  Unpack.
-/
set_option linter.unusedSimpArgs false
set_option linter.unusedVariables false
namespace Go.Proofs.Ytcfalhgcdffjoaa
open Go.RowKit
set_option maxRecDepth 100000
theorem light_of {m : Mp.Model} (G : Kp.Good m) : light m := by
  have hs : ∀ l, Mp.sentsB m l = true → l.length < 400 ∧ ∀ s ∈ l, lightS s := fun l h => by
    unfold Mp.sentsB at h
    simp only [Bool.and_eq_true, decide_eq_true_eq] at h
    refine ⟨by omega, fun s hs => ?_⟩
    have h2 := List.all_eq_true.1 h.2 s hs
    unfold Mp.sentB Mp.onB Mp.ifB at h2
    simp only [Bool.and_eq_true, decide_eq_true_eq] at h2
    exact ⟨by omega, by omega⟩
  refine ⟨by have := G.files; omega, by have := G.items; omega, fun x hx => ?_⟩
  have F := G.fine x hx
  exact ⟨(hs _ F.entry).1, (hs _ F.exit).1, (hs _ F.entry).2, (hs _ F.exit).2⟩
theorem equalD (w : World) (va vb : Value) (la lb : List UInt8) (ha : BRow w va la) (hb : BRow w vb lb) (b : Bool) (h : Hid (decide (la = lb) = b)) :
    Calls Try.prog 24 #[va, vb] w fun e w' => e = .returned (.bool b) ∧ w' = w := by
  obtain ⟨s1, E1⟩ : ∃ s1 : ByteArray, Hid (⟨la.toArray⟩ = s1) := ⟨_, rfl⟩
  obtain ⟨s2, E2⟩ : ∃ s2 : ByteArray, Hid (⟨lb.toArray⟩ = s2) := ⟨_, rfl⟩
  have c1 := conv_str w va la ha
  have c2 := conv_str w vb lb hb
  rw [E1.out] at c1
  rw [E2.out] at c2
  have e12 : (s1.toList == s2.toList) = b := by
    rw [← h.out, ← E1.out, ← E2.out]
    by_cases e : la = lb
    · rw [decide_eq_true e, e]
      exact beq_self_eq_true _
    · rw [decide_eq_false e]
      refine beq_eq_false_iff_ne.2 fun h => e ?_
      have h1 := toList_inj h
      have h2 : la.toArray = lb.toArray := congrArg ByteArray.data h1
      simpa using congrArg Array.toList h2
  obtain ⟨_, _, a1, k1, rfl, _⟩ := ha
  obtain ⟨_, _, a2, k2, rfl, _⟩ := hb
  go_enter Try.func24, Try.ntmps24
  go_wp2_with fail
  go_ret
  exact ⟨rfl, rfl⟩
/-- What Unpack answers. -/
def UPost (l : List UInt8) (w : World) (e : Ending) (w' : World) : Prop := Below w.heap.size w w' ∧ match Kp.unpack l with
  | none => e = .returned (.tuple #[.agg #[.slice none 0 0, .slice none 0 0], .int .i64 2])
  | some m => ∃ af cf ai ci, e = .returned (.tuple #[.agg #[.slice af m.files.length cf, .slice ai m.items.length ci], .int .i64 0]) ∧ NewR w.heap.size (fun w => ModelAt w af cf ai ci m) w'
theorem UPost.no {l : List UInt8} {w w' : World} (h : Kp.unpack l = none) (hb : Below w.heap.size w w') : UPost l w (.returned (.tuple #[.agg #[.slice none 0 0, .slice none 0 0], .int .i64 2])) w' := by
  refine ⟨hb, ?_⟩
  rw [h]
theorem UPost.yes {l : List UInt8} {w w' : World} {m : Mp.Model} {af ai : Option Addr} {cf ci : Nat} (h : Kp.unpack l = some m) (hb : Below w.heap.size w w') (hn : NewR w.heap.size (fun w => ModelAt w af cf ai ci m) w') : UPost l w (.returned (.tuple #[.agg #[.slice af m.files.length cf, .slice ai m.items.length ci], .int .i64 0])) w' := by
  refine ⟨hb, ?_⟩
  rw [h]
  exact ⟨af, cf, ai, ci, rfl, hn⟩
theorem unpack_short {l : List UInt8} (h : l.length < 8) : Kp.unpack l = none := by
  unfold Kp.unpack
  rw [if_pos h]
theorem unpack_fault {l : List UInt8} (h : ¬ l.length < 8) {m : Mp.Model} (e : Kp.allS (some (l.drop 8)) = (m, none)) : Kp.unpack l = none := by
  unfold Kp.unpack
  rw [if_neg h, e]
theorem unpack_not {l : List UInt8} (h : ¬ l.length < 8) {m : Mp.Model} {r : List UInt8} (e : Kp.allS (some (l.drop 8)) = (m, some r)) (hn : ¬ (Mp.isB m = true ∧ Kp.pack m = l)) : Kp.unpack l = none := by
  unfold Kp.unpack
  rw [if_neg h, e]
  dsimp only
  rw [if_neg hn]
theorem unpack_yes {l : List UInt8} (h : ¬ l.length < 8) {m : Mp.Model} {r : List UInt8} (e : Kp.allS (some (l.drop 8)) = (m, some r)) (hy : Mp.isB m = true ∧ Kp.pack m = l) : Kp.unpack l = some m := by
  unfold Kp.unpack
  rw [if_neg h, e]
  dsimp only
  rw [if_pos hy]
/-- The empty answer stored once more. -/
theorem empty_stored {H h : Nat} {w X : World} (hl : Lies X h 25 #[.slice none 0 0, .slice none 0 0]) (hb : Below H w X) (hh : H ≤ h) : Lies ((X.setCell ⟨h, 0, none⟩ (.slice none 0 0)).setCell ⟨h, 1, none⟩ (.slice none 0 0)) h 25 #[.slice none 0 0, .slice none 0 0] ∧ Below H w ((X.setCell ⟨h, 0, none⟩ (.slice none 0 0)).setCell ⟨h, 1, none⟩ (.slice none 0 0)) :=
  ⟨(hl.set 0 _).set 1 _, (hb.setCell hh _).setCell hh _⟩
set_option maxHeartbeats 8000000 in
theorem unpackD (w : World) (ao : Option Addr) (cap : Nat) (l : List UInt8) (hv : BRow w (.slice ao l.length cap) l) (hcap : cap ≤ maxLen) :
    Calls Try.prog 12 #[.slice ao l.length cap] w (UPost l w) := by
  obtain ⟨W1, hW1⟩ : ∃ W1, w.alloc (.cells #[.slice none 0 0, .slice none 0 0] 25) = W1 := ⟨_, rfl⟩
  obtain ⟨B1, L1, z1⟩ := of_alloc hW1
  have HV := hideT hv
  have HB1 := hideT B1
  have HL1 := hideT L1
  have HW1 := hideT hW1
  clear B1 L1 hW1
  by_cases h8 : l.length < 8
  · have HU := hideT (unpack_short h8)
    have t0 : W1.cell? ⟨w.heap.size, 0, none⟩ = some (.slice none 0 0) := HL1.out.cell 0
    have t1 : W1.cell? ⟨w.heap.size, 1, none⟩ = some (.slice none 0 0) := HL1.out.cell 1
    clear hv
    go_enter Try.func12, Try.ntmps12
    go_wp2_with fail
    rw [HW1.out]
    refine bodyPost_ret (v := .tuple #[.agg #[.slice none 0 0, .slice none 0 0], .int .i64 2]) (by simp [results, Try.results12, go_sem, t0, t1]) rfl (UPost.no HU.out HB1.out)
  · obtain ⟨g, o, ao', cap', e', g2, g3, g4, g5⟩ := id hv
    simp only [Value.slice.injEq, true_and] at e'
    obtain ⟨rfl, rfl⟩ := e'
    obtain rfl := g3 (by omega)
    have hg : g < w.heap.size := by
      obtain ⟨x, hx⟩ := Mp.at_lt (l := l) (k := 0) (by omega)
      exact cell_lt (g5 0 x hx)
    obtain ⟨ad, had⟩ : ∃ ad, (if cap = 8 then some (⟨g, o, none⟩ : Addr) else some ⟨g, o + 8, none⟩) = ad := ⟨_, rfl⟩
    obtain ⟨N, hN⟩ : ∃ N, l.length - 8 = N := ⟨_, rfl⟩
    have hl8 : l.length = N + 8 := by omega
    obtain ⟨W2, hW2⟩ : ∃ W2, W1.alloc (.cells #[.slice ad N (cap - 8), .bool false, .slice none 0 0, .slice none 0 0] 57) = W2 := ⟨_, rfl⟩
    obtain ⟨B2, L2, z2⟩ := of_alloc hW2
    rw [z1] at L2 z2
    have B12 := HB1.out.trans (B2.mono HB1.out.size)
    have hbn : BRowN (w.heap.size + 1) w (.slice (some ⟨g, o, none⟩) l.length cap) l := ⟨g, o, _, cap, rfl, g2, hcap, fun _ => rfl, fun _ => by omega, g4, g5⟩
    have hb2 : BRowN (w.heap.size + 1) W2 (.slice ad N (cap - 8)) (l.drop 8) := by
      have h := brown_drop (ao' := ad) (cap' := cap - 8) hbn 8 (by omega) (by omega) (fun a ha h0 => by
        rw [← had, if_neg (by omega), ← Option.some.inj ha]
        unfold Addr.add
        split <;> simp_all) (q := N) (by omega)
      exact h.turn (Keep.of_below B12)
    have R2 : Hid (RSt (w.heap.size + 1) W2 (some (l.drop 8)) (.slice ad N (cap - 8)) (.slice none 0 0) (.slice none 0 0) [] []) := ⟨L2, hb2, RowN.nil _, RowN.nil _⟩
    have LA2 := hideT (HL1.out.below B2)
    have HB2 := hideT B12
    have HW2 := hideT hW2
    obtain ⟨m, σ, E⟩ : ∃ m σ, Kp.allS (some (l.drop 8)) = (m, σ) := ⟨_, _, rfl⟩
    have HE := hideT E
    have HH8 := hideT h8
    have hq8 : 8 ≤ l.length := by omega
    clear hv g5 hbn hb2 B12 B2 L2 hW2 E h8 g3 hl8
    go_enter Try.func12, Try.ntmps12
    go_wp2_with fail
    rw [HW1.out, HW2.out]
    refine (allRd (w.heap.size + 1) W2 (some (l.drop 8)) _ R2.out).mono ?_
    rintro e w3 ⟨fa, fc, ia, ic, rv3, fv3, iv3, rfl, mm, l3, k3⟩
    rw [HE.out] at mm l3 ⊢
    dsimp only at mm l3 ⊢
    have hsz3 := k3.size
    have B3 : Hid (Below w.heap.size w w3) := ⟨k3.os.trans HB2.out.os, k3.tape.trans HB2.out.tape, k3.output.trans HB2.out.output, by omega, fun i hi => (k3.block i (by omega) (by omega)).trans (HB2.out.block i hi)⟩
    have LA3 := hideT (k3.lies LA2.out (by omega))
    obtain ⟨W4, hW4⟩ : ∃ W4, w3.alloc (.cells #[.slice fa m.files.length fc, .slice ia m.items.length ic] 25) = W4 := ⟨_, rfl⟩
    obtain ⟨B4', L4, z4⟩ := of_alloc hW4
    have B4 := hideT (B3.out.trans (B4'.mono B3.out.size))
    have LA4 := hideT (LA3.out.below B4')
    have LR4 := hideT (l3.below B4')
    have LM4 := hideT L4
    have M4 := hideT (mm.below B4')
    have HW4 := hideT hW4
    have LR3 := hideT l3
    have h3a : w.heap.size < w3.heap.size := by omega
    have h3b : w.heap.size + 1 < w3.heap.size := by omega
    clear mm l3 k3 hW4 L4 B4'
    cases σ with
    | none =>
      have HU := hideT (unpack_fault HH8.out HE.out)
      have x1 : w3.cell? ⟨w.heap.size + 1, 1, none⟩ = some (.bool true) := LR3.out.cell 1
      have t0 : w3.cell? ⟨w.heap.size, 0, none⟩ = some (.slice none 0 0) := LA3.out.cell 0
      have t0' : w3.frozen? ⟨w.heap.size, 0, none⟩ = false := LA3.out.free 0
      have t1 : w3.cell? ⟨w.heap.size, 1, none⟩ = some (.slice none 0 0) := LA3.out.cell 1
      have t1' : w3.frozen? ⟨w.heap.size, 1, none⟩ = false := LA3.out.free 1
      go_wp2_with fail
      obtain ⟨l9, b9⟩ := empty_stored LA3.out B3.out (Nat.le_refl _)
      obtain ⟨Z, hZ⟩ : ∃ Z, ((w3.setCell ⟨w.heap.size, 0, none⟩ (.slice none 0 0)).setCell ⟨w.heap.size, 1, none⟩ (.slice none 0 0)).alloc (.cells #[.slice fa m.files.length fc, .slice ia m.items.length ic] 25) = Z := ⟨_, rfl⟩
      have bz := (of_alloc hZ).1
      replace l9 := l9.below bz
      replace b9 := b9.trans (bz.mono b9.size)
      rw [hZ]
      have q0 := l9.cell 0
      have q1 := l9.cell 1
      simp only [List.getElem?_toArray, List.getElem?_cons_zero, List.getElem?_cons_succ] at q0 q1
      refine bodyPost_ret (v := .tuple #[.agg #[.slice none 0 0, .slice none 0 0], .int .i64 2]) (by simp [results, Try.results12, go_sem, q0, q1]) rfl (UPost.no HU.out b9)
    | some r =>
      have x1 : w3.cell? ⟨w.heap.size + 1, 1, none⟩ = some (.bool false) := LR3.out.cell 1
      by_cases hb : Mp.isB m = true
      · have HBt := hideT hb
        have G := Kp.good_of hb
        have HG := hideT G
        have hbl := body_len G
        clear hb G
        go_wp2_with fail
        rw [HW4.out]
        refine (packD W4 m fa ia fc ic M4.out HBt.out).mono ?_
        rintro e w5 ⟨v5, rfl, o5, b5⟩
        have hpl : (Kp.pack m).length ≤ 40000 := by
          show (Kp.sealed (Kp.body m)).length ≤ _
          rw [sealed_len]
          omega
        have hpp : 0 < (Kp.pack m).length := by show 0 < (Kp.sealed (Kp.body m)).length; rw [sealed_len]; omega
        obtain ⟨g1, k1, hv1⟩ := own_form o5 hpp
        subst hv1
        have R5 := hideT (brow_own o5 (by omega))
        have B5 := hideT (B4.out.trans (b5.mono B4.out.size))
        have LA5 := hideT (LA4.out.below b5)
        have LM5 := hideT (LM4.out.below b5)
        have M5 := hideT (M4.out.below b5)
        have V5 := hideT (brow_below HV.out B5.out)
        obtain ⟨bb, EB⟩ : ∃ bb, Hid (decide (Kp.pack m = l) = bb) := ⟨_, rfl⟩
        clear o5 b5 x1 hpp hpl
        go_wp2_with fail
        refine (equalD w5 _ _ (Kp.pack m) l R5.out V5.out bb EB).mono ?_
        rintro e w6 ⟨rfl, rfl⟩
        cases bb
        · have HU := hideT (unpack_not HH8.out HE.out (fun h => by have := EB.out; rw [decide_eq_true h.2] at this; cases this))
          have t0 : w6.cell? ⟨w.heap.size, 0, none⟩ = some (.slice none 0 0) := LA5.out.cell 0
          have t0' : w6.frozen? ⟨w.heap.size, 0, none⟩ = false := LA5.out.free 0
          have t1 : w6.cell? ⟨w.heap.size, 1, none⟩ = some (.slice none 0 0) := LA5.out.cell 1
          have t1' : w6.frozen? ⟨w.heap.size, 1, none⟩ = false := LA5.out.free 1
          go_wp2_with fail
          obtain ⟨l9, b9⟩ := empty_stored LA5.out B5.out (Nat.le_refl _)
          have q0 := l9.cell 0
          have q1 := l9.cell 1
          simp only [List.getElem?_toArray, List.getElem?_cons_zero, List.getElem?_cons_succ] at q0 q1
          refine bodyPost_ret (v := .tuple #[.agg #[.slice none 0 0, .slice none 0 0], .int .i64 2]) (by simp [results, Try.results12, go_sem, q0, q1]) rfl (UPost.no HU.out b9)
        · have HU := hideT (unpack_yes HH8.out HE.out ⟨HBt.out, of_decide_eq_true EB.out⟩)
          have u0 : w6.cell? ⟨w3.heap.size, 0, none⟩ = some (.slice fa m.files.length fc) := LM5.out.cell 0
          have u1 : w6.cell? ⟨w3.heap.size, 1, none⟩ = some (.slice ia m.items.length ic) := LM5.out.cell 1
          obtain ⟨s1, s2⟩ := m
          go_wp2_with fail
          refine (copyD fa ia fc ic s1 s2 w6 M5.out.files M5.out.items (light_of HG.out)).mono ?_
          rintro e w7 ⟨qa, qc, ra, rc, rfl, n7, b7⟩
          have LA7 := hideT (LA5.out.below b7)
          have N7 := hideT n7
          have B7 := hideT (B5.out.trans (b7.mono B5.out.size))
          have hs7 := b7.size
          have hs5 := B5.out.size
          have t0 : w7.cell? ⟨w.heap.size, 0, none⟩ = some (.slice none 0 0) := LA7.out.cell 0
          have t0' : w7.frozen? ⟨w.heap.size, 0, none⟩ = false := LA7.out.free 0
          have t1 : w7.cell? ⟨w.heap.size, 1, none⟩ = some (.slice none 0 0) := LA7.out.cell 1
          have t1' : w7.frozen? ⟨w.heap.size, 1, none⟩ = false := LA7.out.free 1
          have hl7 := LA7.out.lt
          clear n7 b7 u0 u1
          dsimp only at N7 ⊢
          go_wp2_with fail
          have l9 := (LA7.out.set 0 (.slice qa s1.length qc)).set 1 (.slice ra s2.length rc)
          have q0 := l9.cell 0
          have q1 := l9.cell 1
          simp only [List.getElem?_toArray, List.getElem?_cons_zero, List.getElem?_cons_succ, List.setIfInBounds_toArray, List.set_cons_zero, List.set_cons_succ] at q0 q1
          have kX : KeepBut w.heap.size w7 ((w7.setCell ⟨w.heap.size, 0, none⟩ (.slice qa s1.length qc)).setCell ⟨w.heap.size, 1, none⟩ (.slice ra s2.length rc)) := keep_set (keep_set (keep_refl _ _) 0 _) 1 _
          refine bodyPost_ret (v := .tuple #[.agg #[.slice qa s1.length qc, .slice ra s2.length rc], .int .i64 0]) (by simp [results, Try.results12, go_sem, q0, q1]) rfl (UPost.yes (m := ⟨s1, s2⟩) HU.out ((B7.out.setCell (Nat.le_refl _) _).setCell (Nat.le_refl _) _) ?_)
          exact (N7.out.step (fun a c ha hc => kX a c (by omega) hc)).low (by omega)
      · have HBf : Hid (Mp.isB m = false) := by show _ = _; cases h : Mp.isB m; rfl; exact absurd h hb
        have HU := hideT (unpack_not HH8.out HE.out (fun h => hb h.1))
        clear hb
        go_wp2_with fail
        rw [HW4.out]
        refine (packNo W4 m fa ia fc ic M4.out HBf.out).mono ?_
        rintro e w5 ⟨rfl, b5⟩
        have LA5 := hideT (LA4.out.below b5)
        have B5 := hideT (B4.out.trans (b5.mono B4.out.size))
        have t0 : w5.cell? ⟨w.heap.size, 0, none⟩ = some (.slice none 0 0) := LA5.out.cell 0
        have t0' : w5.frozen? ⟨w.heap.size, 0, none⟩ = false := LA5.out.free 0
        have t1 : w5.cell? ⟨w.heap.size, 1, none⟩ = some (.slice none 0 0) := LA5.out.cell 1
        have t1' : w5.frozen? ⟨w.heap.size, 1, none⟩ = false := LA5.out.free 1
        clear b5 x1
        go_wp2_with fail
        obtain ⟨l9, b9⟩ := empty_stored LA5.out B5.out (Nat.le_refl _)
        have q0 := l9.cell 0
        have q1 := l9.cell 1
        simp only [List.getElem?_toArray, List.getElem?_cons_zero, List.getElem?_cons_succ] at q0 q1
        refine bodyPost_ret (v := .tuple #[.agg #[.slice none 0 0, .slice none 0 0], .int .i64 2]) (by simp [results, Try.results12, go_sem, q0, q1]) rfl (UPost.no HU.out b9)
end Go.Proofs.Ytcfalhgcdffjoaa
/-
  Bytes that are turned, cut short, or have more behind, are no model's.
-/
set_option linter.unusedVariables false
namespace Go.Proofs.Ytcfalhgcdffjoaa.Kp
theorem head_inj {s t : Nat} (hs : s < 4294967296) (ht : t < 4294967296) (h : head s = head t) : s = t := by
  unfold head at h
  simp only [List.cons.injEq, true_and, and_true] at h
  obtain ⟨h1, h2, h3, h4⟩ := h
  have e1 := congrArg UInt8.toNat h1
  have e2 := congrArg UInt8.toNat h2
  have e3 := congrArg UInt8.toNat h3
  have e4 := congrArg UInt8.toNat h4
  rw [UInt8.toNat_ofNat', UInt8.toNat_ofNat'] at e1 e2 e3 e4
  omega
theorem pack_eq (m : Mp.Model) : pack m = head (sum (body m)) ++ body m := rfl
theorem pack_len (m : Mp.Model) : (pack m).length = 8 + (body m).length := by
  rw [pack_eq, List.length_append, head_len]
theorem turned_none {m : Mp.Model} (hm : Mp.isB m = true) {k : Nat} {x y : UInt8} (hk : (pack m)[k]? = some y) (hx : x ≠ y) : unpack ((pack m).set k x) = none := by
  cases hu : unpack ((pack m).set k x) with
  | none => rfl
  | some m' =>
    exfalso
    obtain ⟨hb, he⟩ := unpack_some hu
    have hkl := (List.getElem?_eq_some_iff.1 hk).1
    by_cases h8 : k < 8
    · have h1 : (pack m').drop 8 = (pack m).drop 8 := by rw [he, List.drop_set_of_lt h8]
      rw [pack_drop, pack_drop] at h1
      obtain ⟨e, _⟩ := body_inj (r := []) hb hm (by rw [List.append_nil]; exact h1)
      rw [e] at he
      have h2 := congrArg (fun l => l[k]?) he
      rw [hk, List.getElem?_set_self hkl] at h2
      exact hx (Option.some.inj h2).symm
    · have h1 : (pack m').drop 8 = (body m).set (k - 8) x := by
        rw [he, List.drop_set, if_neg h8, pack_drop]
      rw [pack_drop] at h1
      have h2 : (pack m').take 8 = (pack m).take 8 := by
        rw [he, List.take_set_of_le (by omega)]
      rw [pack_eq, pack_eq, List.take_left' (head_len _), List.take_left' (head_len _)] at h2
      have h3 := head_inj (sum_lt _) (sum_lt _) h2
      rw [h1] at h3
      refine sum_set (y := y) ?_ hx h3
      rw [← pack_drop, List.getElem?_drop, show 8 + (k - 8) = k by omega]
      exact hk
theorem cut_none {m : Mp.Model} (hm : Mp.isB m = true) {k : Nat} (hk : k < (pack m).length) : unpack ((pack m).take k) = none := by
  cases hu : unpack ((pack m).take k) with
  | none => rfl
  | some m' =>
    exfalso
    obtain ⟨hb, he⟩ := unpack_some hu
    have hl := congrArg List.length he
    rw [pack_len, List.length_take] at hl
    have h1 : (pack m').drop 8 = (body m).take (k - 8) := by
      rw [he, List.drop_take, pack_drop]
    rw [pack_drop] at h1
    obtain ⟨_, e⟩ := body_inj (r := (body m).drop (k - 8)) hb hm (by rw [h1, List.take_append_drop])
    have h2 := congrArg List.length e
    rw [List.length_drop, List.length_nil] at h2
    rw [pack_len] at hk
    omega
theorem more_none {m : Mp.Model} (hm : Mp.isB m = true) (x : UInt8) : unpack (pack m ++ [x]) = none := by
  cases hu : unpack (pack m ++ [x]) with
  | none => rfl
  | some m' =>
    exfalso
    obtain ⟨hb, he⟩ := unpack_some hu
    have h1 : (pack m').drop 8 = body m ++ [x] := by
      rw [he, pack_eq, List.append_assoc]
      exact List.drop_left' (head_len _)
    rw [pack_drop] at h1
    obtain ⟨_, e⟩ := body_inj (r := [x]) hm hb h1.symm
    cases e
end Go.Proofs.Ytcfalhgcdffjoaa.Kp
