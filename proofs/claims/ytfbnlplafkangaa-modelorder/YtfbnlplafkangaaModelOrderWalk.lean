/-
  ModelOrder: what stands in a stage stands behind it, together; so deep, and no deeper.
-/
import Derived.Test.YtfbnlplafkangaaMBuild
import Derived.OpenShut
import Derived.Lib.SmallJoins
set_option linter.unusedSimpArgs false
set_option linter.unusedVariables false
namespace Go.Proofs.Ytfbnlplafkangaa
open Go.RowKit
theorem cat_ba (a b : Array UInt8) : (⟨a⟩ : ByteArray) ++ ⟨b⟩ = ⟨a ++ b⟩ := by
  apply toList_inj
  rw [ByteArray.toList_eq, ByteArray.toList_eq, Go.Joins.data_append]
  simp
def sId (k : Nat) : ByteArray := ⟨#[115, UInt8.ofNat (48 + k)]⟩
def lastId : Nat → ByteArray
  | 0 => ⟨#[112]⟩
  | k + 1 => sId k
def sI (k : Nat) : Mp.Item := ⟨sId k, 1, lastId k, false, 0, [], []⟩
def ordL : Nat → List Mp.Item
  | 0 => [pI]
  | k + 1 => ordL k ++ [sI k]
def tI (i p : ByteArray) : Mp.Item := ⟨i, 2, p, false, 0, [], []⟩
theorem ordL_len (k : Nat) : (ordL k).length = k + 1 := by
  induction k with
  | zero => rfl
  | succ k ih => rw [ordL, List.length_append, ih]; rfl
theorem ordL_fine (k : Nat) : ∀ x ∈ ordL k, x.id.size ≤ 1000 ∧ x.parent.size ≤ 1000 ∧ x.entry = [] ∧ x.exit = [] := by
  induction k with
  | zero => intro x hx; rw [List.mem_singleton.1 hx]; exact ⟨by decide, by decide, rfl, rfl⟩
  | succ k ih =>
    intro x hx
    rcases List.mem_append.1 hx with hx | hx
    · exact ih x hx
    · rw [List.mem_singleton.1 hx]
      refine ⟨show 2 ≤ 1000 by decide, ?_, rfl, rfl⟩
      cases k with
      | zero => exact (show 1 ≤ 1000 by decide)
      | succ k => exact (show 2 ≤ 1000 by decide)
theorem two_fine {L : List Mp.Item} (h : ∀ x ∈ L, x.id.size ≤ 1000 ∧ x.parent.size ≤ 1000 ∧ x.entry = [] ∧ x.exit = []) {a b c d : ByteArray} (ha : a.size ≤ 1000 := by decide) (hb : b.size ≤ 1000 := by decide) (hc : c.size ≤ 1000 := by decide) (hd : d.size ≤ 1000 := by decide) : ∀ x ∈ L ++ [tI a b, tI c d], x.id.size ≤ 1000 ∧ x.parent.size ≤ 1000 ∧ x.entry = [] ∧ x.exit = [] := by
  intro x hx
  rcases List.mem_append.1 hx with hx | hx
  · exact h x hx
  · simp only [List.mem_cons, List.mem_nil_iff, or_false] at hx
    rcases hx with rfl | rfl
    · exact ⟨ha, hb, rfl, rfl⟩
    · exact ⟨hc, hd, rfl, rfl⟩
theorem ord0A : (List.range 8).all (fun i => Mp.isB ⟨fF, ordL (i + 1)⟩ == decide (i + 1 ≤ 5)) = true := by kernel_rfl
theorem ord0 (n : Nat) (h1 : 1 ≤ n) (h2 : n ≤ 8) : Mp.isB ⟨fF, ordL n⟩ = decide (n ≤ 5) := by
  have := List.all_eq_true.1 ord0A (n - 1) (List.mem_range.2 (by omega))
  rw [show n - 1 + 1 = n by omega] at this
  exact beq_iff_eq.1 this
theorem ord1A : (List.range 8).all (fun i => Mp.isB ⟨fF, ordL (i + 1) ++ [tI ⟨#[116]⟩ ⟨#[112]⟩, tI ⟨#[117]⟩ ⟨#[115, 48]⟩]⟩ == false) = true := by kernel_rfl
theorem ord1 (n : Nat) (h1 : 1 ≤ n) (h2 : n ≤ 8) : Mp.isB ⟨fF, ordL n ++ [tI ⟨#[116]⟩ ⟨#[112]⟩, tI ⟨#[117]⟩ ⟨#[115, 48]⟩]⟩ = false := by
  have := List.all_eq_true.1 ord1A (n - 1) (List.mem_range.2 (by omega))
  rw [show n - 1 + 1 = n by omega] at this
  exact beq_iff_eq.1 this
theorem ord2A : (List.range 8).all (fun i => Mp.isB ⟨fF, ordL (i + 1) ++ [tI ⟨#[116]⟩ ⟨#[115, 48]⟩, tI ⟨#[117]⟩ ⟨#[112]⟩]⟩ == decide (i + 1 ≤ 5)) = true := by kernel_rfl
theorem ord2 (n : Nat) (h1 : 1 ≤ n) (h2 : n ≤ 8) : Mp.isB ⟨fF, ordL n ++ [tI ⟨#[116]⟩ ⟨#[115, 48]⟩, tI ⟨#[117]⟩ ⟨#[112]⟩]⟩ = decide (n ≤ 5) := by
  have := List.all_eq_true.1 ord2A (n - 1) (List.mem_range.2 (by omega))
  rw [show n - 1 + 1 = n by omega] at this
  exact beq_iff_eq.1 this
/-- 'string([]byte{c})'. -/
theorem conv_byteZ (z : Int) (c : UInt8) (h : z = c.toNat) (w : World) : (convert 52 9 (.slice (some ⟨w.heap.size, 0, none⟩) 1 1)).run Try.prog (w.alloc (.cells #[.int .u8 z] 5)) = .ok (.string ⟨#[c]⟩) (w.alloc (.cells #[.int .u8 z] 5)) := by
  subst h
  refine run_convert_bytes_back (P := Try.prog) (w.alloc (.cells #[.int .u8 c.toNat] 5)) 52 9 5 ⟨w.heap.size, 0, none⟩ 1 [c] Try.underlying52 Try.underlying5 Try.underlying9 ?_
  intro j hj
  obtain rfl : j = 0 := by simpa using hj
  show (w.alloc (.cells #[.int .u8 c.toNat] 5)).cell? ⟨w.heap.size, 0, none⟩ = _
  rw [cell_new]
  rfl
set_option maxHeartbeats 8000000 in
theorem modelOrder_walk (n : Int) (hn : (Lit.int .i64 n).wf = true) (way : Int) (hw : (Lit.int .i64 way).wf = true) (w : World) :
    Calls Try.prog 8 #[.int .i64 n, .int .i64 way] w fun e w' => e = .returned (.bool true) ∧ Below w.heap.size w w' := by
  clear hn hw
  by_cases hr : n < 1 ∨ 8 < n ∨ way < 0 ∨ 2 < way
  · go_enter Try.func8, Try.ntmps8
    go_wp2_with (go_at_call 28; exfalso; omega)
    all_goals go_ret
    all_goals exact ⟨rfl, Below.refl _ _⟩
  obtain ⟨nn, rfl⟩ : ∃ k : Nat, n = k := ⟨n.toNat, by omega⟩
  have h1 : 1 ≤ (nn : Int) := by omega
  have h2 : (nn : Int) ≤ 8 := by omega
  have h3 : 0 ≤ way := by omega
  have h4 : way ≤ 2 := by omega
  clear hr
  go_enter Try.func8, Try.ntmps8
  go_wp2_with fail
  refine (plan0D w).mono ?_
  rintro e w1 ⟨p1, fb, ib, rfl, OF, OI⟩
  have B1 := hideT (p1.alloc p1.size (.cells #[.slice (some ⟨fb, 0, none⟩) 1 1, .slice (some ⟨ib, 0, none⟩) 1 1] 25))
  have M1 : Hid (MB (w1.alloc (.cells #[.slice (some ⟨fb, 0, none⟩) 1 1, .slice (some ⟨ib, 0, none⟩) 1 1] 25)) w.heap.size w1.heap.size (.slice (some ⟨fb, 0, none⟩) 1 1) (.slice (some ⟨ib, 0, none⟩) 1 1) fF (ordL 0)) := ⟨Lies.new _ _ _, OF.alloc _, OI.alloc _⟩
  have hB := p1.size
  clear OF OI p1
  obtain ⟨i0, hi0, hz0, hz1, hz2⟩ := info_parts infoI
  go_wp2_with fail
  go_loopw [6, 7] (fun t i wr => ∃ (k : Nat) (iv : Value), k ≤ nn ∧ i = .int .i64 k ∧ t = .string (lastId k) ∧ Hid (Below w.heap.size w wr) ∧ Hid (MB wr w.heap.size w1.heap.size (.slice (some ⟨fb, 0, none⟩) 1 1) iv fF (ordL k))) (fun _ i _ => nn - (intOf i).toNat)
  case atStart => exact ⟨0, _, by omega, rfl, rfl, B1, M1⟩
  case round =>
    obtain ⟨k, iv, hk, rfl, rfl, HW, HM⟩ := hrel
    obtain ⟨ia, ic, hiv⟩ := slice_form HM.out.items
    rw [ordL_len] at hiv
    subst hiv
    obtain ⟨x0, x1, f0, f1⟩ := HM.out.c0
    have hBl := HM.out.lies.lt
    by_cases hlt : k < nn
    · obtain ⟨c, HC⟩ : ∃ c : UInt8, Hid (c = UInt8.ofNat (48 + k)) := ⟨_, rfl⟩
      have hcv := conv_byteZ (48 + (k : Int)) c (by rw [HC.out]; simp only [UInt8.toNat_ofNat']; omega) wr
      obtain ⟨id, HI⟩ : ∃ id : ByteArray, Hid ((⟨#[115]⟩ : ByteArray) ++ ⟨#[c]⟩ = id) := ⟨_, rfl⟩
      have HID : Hid (id = sId k) := by show _ = _; rw [← HI.out, cat_ba, HC.out]; rfl
      have hib := HI.out
      have hnx : Hid (flatI (ordL (k + 1)) = flatI (ordL k) ++ [.string id, .int .i64 1, .string (lastId k), .bool false, .int .i64 0, .slice none 0 0, .slice none 0 0]) := by
        show _ = _
        rw [ordL, flatI_app, HID.out]
        rfl
      have BA := hideT ((Below.refl wr.heap.size wr).alloc (Nat.le_refl _) (.cells #[.int .u8 (48 + (k : Int))] 5))
      have BA2 := hideT (BA.out.alloc (by simp) (.cells #[.string id, .int .i64 1, .string (lastId k), .bool false, .int .i64 0, .slice none 0 0, .slice none 0 0] 30))
      go_wp2_with (first | (at_builtin; refine wpList_append_lies _ (by rfl) _ _ _ (by rfl) w.heap.size 30 i0 _ 7 104 Try.underlying23 hi0 hz0 hz1 hz2 rfl (by omega) (.slice ia (k + 1) ic) (k + 1) (flatI (ordL k)) (by rfl) (by have := (HM.out.items.alloc (.cells #[.int .u8 (48 + (k : Int))] 5)).alloc (.cells #[.string id, .int .i64 1, .string (lastId k), .bool false, .int .i64 0, .slice none 0 0, .slice none 0 0] 30); rw [ordL_len] at this; exact this) ⟨wr.heap.size + 1, 0, none⟩ 1 1 [.string id, .int .i64 1, .string (lastId k), .bool false, .int .i64 0, .slice none 0 0, .slice none 0 0] (by rfl) (by rfl) (news2 wr _ #[.string id, .int .i64 1, .string (lastId k), .bool false, .int .i64 0, .slice none 0 0, .slice none 0 0] 30) (by simp [Value.oneCell']) (by omega) (by unfold maxLen; omega) (by omega) (by have := HW.out.size; simp; omega) (wr.heap.size + 2) (by simp) ?_; intro gb cap2 w3 hown hgrow hat hlt3; obtain ⟨G1, G2⟩ := HM.out.grewI BA2.out hgrow; have y1 : w3.cell? ⟨w1.heap.size, 1, none⟩ = some (.slice ia (k + 1) ic) := G1.cell 1; have y2 : w3.frozen? ⟨w1.heap.size, 1, none⟩ = false := G1.free 1) | fail)
      have hb3 : Below w.heap.size w w3 := Keep.below (HW.out.trans (BA2.out.mono HW.out.size)) (Keep.grown hgrow) (fun i hi e => by have := (own_lt HM.out.items e).2; omega)
      refine ⟨⟨k + 1, _, by omega, by go_num, by rw [HID.out]; rfl, hb3.setCell (by exact hB) _, MB.putI G1 G2 hown (by rw [ordL_len]) hnx.out.symm⟩, ?_⟩
      first | omega | (simp [intOf]; omega)
    · obtain rfl : k = nn := by omega
      clear hlt
      have hway : way = 0 ∨ way = 1 ∨ way = 2 := by omega
      have hbool := ord0 k (by omega) (by omega)
      have hbool2 := ord2 k (by omega) (by omega)
      have hbool1 := ord1 k (by omega) (by omega)
      have HB0 := hideT hbool
      have HB1 := hideT hbool1
      have HB2 := hideT hbool2
      have t5 : decide ((k : Int) ≤ 5) = decide (k ≤ 5) := by rw [Bool.eq_iff_iff]; simp only [decide_eq_true_eq]; omega
      have HT5 := hideT t5
      clear hbool hbool1 hbool2 t5
      rcases hway with rfl | rfl | rfl
      · obtain ⟨e1, e2, A4⟩ := HM.out.at (by decide) (by rw [ordL_len]; omega) (fun s hs => by rw [List.mem_singleton.1 hs]; decide) (ordL_fine k)
        have E1 := hideT e1
        have E2 := hideT e2
        clear e1 e2
        go_wp2_with fail
        refine (isVV _ _ _ _ _ _ _ _ A4 E1.out.symm E2.out.symm (decide (k ≤ 5)) HB0).mono ?_
        rintro e w5 ⟨rfl, p5⟩
        rw [← HT5.out]
        have B5 := hideT (HW.out.trans (p5.mono HW.out.size))
        clear p5 A4
        go_wp2_with fail
        refine (knownD _).mono ?_
        rintro e w6 ⟨rfl, p6⟩
        go_wp2_with fail
        go_ret
        exact ⟨rfl, B5.out.trans (p6.mono B5.out.size)⟩
      · obtain ⟨nn, hnn⟩ : ∃ nn, nn = k := ⟨k, rfl⟩
        subst hnn
        go_wp2_with (first | (at_builtin; refine wpList_append_lies _ (by rfl) _ _ _ (by rfl) w.heap.size 30 i0 _ 7 104 Try.underlying23 hi0 hz0 hz1 hz2 rfl (by omega) (.slice ia (nn + 1) ic) (nn + 1) (flatI (ordL nn)) (by rfl) (by have := HM.out.items.alloc (.cells #[.string ⟨#[116]⟩, .int .i64 2, .string ⟨#[112]⟩, .bool false, .int .i64 0, .slice none 0 0, .slice none 0 0, .string ⟨#[117]⟩, .int .i64 2, .string ⟨#[115, 48]⟩, .bool false, .int .i64 0, .slice none 0 0, .slice none 0 0] 30); rw [ordL_len] at this; exact this) ⟨wr.heap.size, 0, none⟩ 2 2 [.string ⟨#[116]⟩, .int .i64 2, .string ⟨#[112]⟩, .bool false, .int .i64 0, .slice none 0 0, .slice none 0 0, .string ⟨#[117]⟩, .int .i64 2, .string ⟨#[115, 48]⟩, .bool false, .int .i64 0, .slice none 0 0, .slice none 0 0] (by rfl) (by rfl) (news1 wr #[.string ⟨#[116]⟩, .int .i64 2, .string ⟨#[112]⟩, .bool false, .int .i64 0, .slice none 0 0, .slice none 0 0, .string ⟨#[117]⟩, .int .i64 2, .string ⟨#[115, 48]⟩, .bool false, .int .i64 0, .slice none 0 0, .slice none 0 0] 30) (by simp [Value.oneCell']) (by omega) (by unfold maxLen; omega) (by omega) (by have := HW.out.size; simp; omega) (wr.heap.size + 1) (by simp) ?_; intro gb cap2 w3 hown hgrow hat hlt3; obtain ⟨G1, G2⟩ := HM.out.grewI ((Below.refl wr.heap.size wr).alloc (Nat.le_refl _) (.cells #[.string ⟨#[116]⟩, .int .i64 2, .string ⟨#[112]⟩, .bool false, .int .i64 0, .slice none 0 0, .slice none 0 0, .string ⟨#[117]⟩, .int .i64 2, .string ⟨#[115, 48]⟩, .bool false, .int .i64 0, .slice none 0 0, .slice none 0 0] 30)) hgrow; have y0 : w3.cell? ⟨w1.heap.size, 0, none⟩ = some (.slice (some ⟨fb, 0, none⟩) 1 1) := G1.cell 0; have y1 : w3.cell? ⟨w1.heap.size, 1, none⟩ = some (.slice ia (nn + 1) ic) := G1.cell 1; have y2 : w3.frozen? ⟨w1.heap.size, 1, none⟩ = false := G1.free 1) | fail)
        have hb3 : Below w.heap.size w w3 := Keep.below (HW.out.trans (((Below.refl wr.heap.size wr).alloc (Nat.le_refl _) (.cells #[.string ⟨#[116]⟩, .int .i64 2, .string ⟨#[112]⟩, .bool false, .int .i64 0, .slice none 0 0, .slice none 0 0, .string ⟨#[117]⟩, .int .i64 2, .string ⟨#[115, 48]⟩, .bool false, .int .i64 0, .slice none 0 0, .slice none 0 0] 30)).mono HW.out.size)) (Keep.grown hgrow) (fun i hi e => by have := (own_lt HM.out.items e).2; omega)
        have B4 : Hid (Below w.heap.size w (w3.setCell ⟨w1.heap.size, 1, none⟩ (.slice (some ⟨gb, 0, none⟩) (nn + 1 + 2) cap2))) := hb3.setCell (by exact hB) _
        have M4 := hideT (MB.putI (L' := ordL nn ++ [tI ⟨#[116]⟩ ⟨#[112]⟩, tI ⟨#[117]⟩ ⟨#[115, 48]⟩]) G1 G2 hown (by rw [List.length_append, ordL_len]; rfl) (by rw [flatI_app]; rfl))
        obtain ⟨e1, e2, A4⟩ := M4.out.at (by decide) (by rw [List.length_append, ordL_len]; simp only [List.length_cons, List.length_nil]; omega) (fun s hs => by rw [List.mem_singleton.1 hs]; decide) (two_fine (ordL_fine nn))
        clear y0 y1 y2 G1 G2
        refine (isVV _ _ _ _ _ _ _ _ A4 e1.symm e2.symm false HB1).mono ?_
        rintro e w5 ⟨rfl, p5⟩
        have B5 := hideT (B4.out.trans (p5.mono B4.out.size))
        clear p5 A4 e1 e2
        go_wp2_with fail
        refine (knownD _).mono ?_
        rintro e w6 ⟨rfl, p6⟩
        go_wp2_with fail
        go_ret
        exact ⟨rfl, B5.out.trans (p6.mono B5.out.size)⟩
      · obtain ⟨nn, hnn⟩ : ∃ nn, nn = k := ⟨k, rfl⟩
        subst hnn
        go_wp2_with (first | (at_builtin; refine wpList_append_lies _ (by rfl) _ _ _ (by rfl) w.heap.size 30 i0 _ 7 104 Try.underlying23 hi0 hz0 hz1 hz2 rfl (by omega) (.slice ia (nn + 1) ic) (nn + 1) (flatI (ordL nn)) (by rfl) (by have := HM.out.items.alloc (.cells #[.string ⟨#[116]⟩, .int .i64 2, .string ⟨#[115, 48]⟩, .bool false, .int .i64 0, .slice none 0 0, .slice none 0 0, .string ⟨#[117]⟩, .int .i64 2, .string ⟨#[112]⟩, .bool false, .int .i64 0, .slice none 0 0, .slice none 0 0] 30); rw [ordL_len] at this; exact this) ⟨wr.heap.size, 0, none⟩ 2 2 [.string ⟨#[116]⟩, .int .i64 2, .string ⟨#[115, 48]⟩, .bool false, .int .i64 0, .slice none 0 0, .slice none 0 0, .string ⟨#[117]⟩, .int .i64 2, .string ⟨#[112]⟩, .bool false, .int .i64 0, .slice none 0 0, .slice none 0 0] (by rfl) (by rfl) (news1 wr #[.string ⟨#[116]⟩, .int .i64 2, .string ⟨#[115, 48]⟩, .bool false, .int .i64 0, .slice none 0 0, .slice none 0 0, .string ⟨#[117]⟩, .int .i64 2, .string ⟨#[112]⟩, .bool false, .int .i64 0, .slice none 0 0, .slice none 0 0] 30) (by simp [Value.oneCell']) (by omega) (by unfold maxLen; omega) (by omega) (by have := HW.out.size; simp; omega) (wr.heap.size + 1) (by simp) ?_; intro gb cap2 w3 hown hgrow hat hlt3; obtain ⟨G1, G2⟩ := HM.out.grewI ((Below.refl wr.heap.size wr).alloc (Nat.le_refl _) (.cells #[.string ⟨#[116]⟩, .int .i64 2, .string ⟨#[115, 48]⟩, .bool false, .int .i64 0, .slice none 0 0, .slice none 0 0, .string ⟨#[117]⟩, .int .i64 2, .string ⟨#[112]⟩, .bool false, .int .i64 0, .slice none 0 0, .slice none 0 0] 30)) hgrow; have y0 : w3.cell? ⟨w1.heap.size, 0, none⟩ = some (.slice (some ⟨fb, 0, none⟩) 1 1) := G1.cell 0; have y1 : w3.cell? ⟨w1.heap.size, 1, none⟩ = some (.slice ia (nn + 1) ic) := G1.cell 1; have y2 : w3.frozen? ⟨w1.heap.size, 1, none⟩ = false := G1.free 1) | fail)
        have hb3 : Below w.heap.size w w3 := Keep.below (HW.out.trans (((Below.refl wr.heap.size wr).alloc (Nat.le_refl _) (.cells #[.string ⟨#[116]⟩, .int .i64 2, .string ⟨#[115, 48]⟩, .bool false, .int .i64 0, .slice none 0 0, .slice none 0 0, .string ⟨#[117]⟩, .int .i64 2, .string ⟨#[112]⟩, .bool false, .int .i64 0, .slice none 0 0, .slice none 0 0] 30)).mono HW.out.size)) (Keep.grown hgrow) (fun i hi e => by have := (own_lt HM.out.items e).2; omega)
        have B4 : Hid (Below w.heap.size w (w3.setCell ⟨w1.heap.size, 1, none⟩ (.slice (some ⟨gb, 0, none⟩) (nn + 1 + 2) cap2))) := hb3.setCell (by exact hB) _
        have M4 := hideT (MB.putI (L' := ordL nn ++ [tI ⟨#[116]⟩ ⟨#[115, 48]⟩, tI ⟨#[117]⟩ ⟨#[112]⟩]) G1 G2 hown (by rw [List.length_append, ordL_len]; rfl) (by rw [flatI_app]; rfl))
        obtain ⟨e1, e2, A4⟩ := M4.out.at (by decide) (by rw [List.length_append, ordL_len]; simp only [List.length_cons, List.length_nil]; omega) (fun s hs => by rw [List.mem_singleton.1 hs]; decide) (two_fine (ordL_fine nn))
        clear y0 y1 y2 G1 G2
        refine (isVV _ _ _ _ _ _ _ _ A4 e1.symm e2.symm (decide (nn ≤ 5)) HB2).mono ?_
        rintro e w5 ⟨rfl, p5⟩
        have B5 := hideT (B4.out.trans (p5.mono B4.out.size))
        rw [← HT5.out]
        clear p5 A4 e1 e2
        go_wp2_with fail
        refine (knownD _).mono ?_
        rintro e w6 ⟨rfl, p6⟩
        go_wp2_with fail
        go_ret
        exact ⟨rfl, B5.out.trans (p6.mono B5.out.size)⟩
end Go.Proofs.Ytfbnlplafkangaa
