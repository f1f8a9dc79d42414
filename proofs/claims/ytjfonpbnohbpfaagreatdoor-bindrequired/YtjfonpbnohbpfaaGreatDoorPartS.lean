/-
  Several texts in one: each opens with its own word.
-/
import Derived.Test.YtjfonpbnohbpfaaGreatDoorPartE
import Derived.Test.YtjfonpbnohbpfaaGreatDoorPartC
import Derived.Deep.AppendLies
import Derived.Maps.OwnOps
import Derived.Maps.Views
import Derived.Test.YtjfonpbnohbpfaaGreatDoorShelf
import Derived.Test.YtjfonpbnohbpfaaGreatDoorShelfT
import Derived.Test.YtjfonpbnohbpfaaGreatDoorPartA
import Derived.Deep.RegionHeld3
import Derived.Deep.RegionWith
/-
  Rows that the program owns; attributes whose blocks are named.
-/
set_option linter.unusedSimpArgs false
set_option linter.unusedVariables false
namespace Go.Proofs.YtjfonpbnohbpfaaGreatDoor
open Go.RowKit
theorem below_drewN {B : Nat} {a w : World} (h : Below B a w) (n : Nat) : Below B a (w.drewN n) := h.trans ⟨rfl, rfl, rfl, Nat.le_refl _, fun _ _ => rfl⟩
/-! ### Rows -/
/-! ### Trees whose blocks are named -/
end Go.Proofs.YtjfonpbnohbpfaaGreatDoor
/-
  The map of spaces: what it holds, as a function; look-up and store.
-/
set_option linter.unusedSimpArgs false
set_option linter.unusedVariables false
namespace Go.Proofs.YtjfonpbnohbpfaaGreatDoor
open Go.RowKit Go.Maps
abbrev Bind := ByteArray × Bool
abbrev Env := ByteArray → Bind
abbrev e0 : ByteArray := ⟨#[]⟩
def bindV (x : Bind) : Value := .agg #[.string x.1, .bool x.2]
def bindD (x : Bind) : Tr := .agg [.lit (.string x.1.data.toList), .lit (.bool x.2)]
def bindR : Value → Option (Tr × List MemPlace)
  | .agg ⟨[.string s, .bool b]⟩ => some (bindD (s, b), [])
  | _ => none
theorem bindR_mk (x : Bind) : bindR (bindV x) = some (bindD x, []) := rfl
theorem bindR_inv {v : Value} {ps : List MemPlace} {x : Bind} (h : bindR v = some (bindD x, ps)) : v = bindV x := by
  unfold bindR at h
  split at h
  · rename_i s b
    simp only [Option.some.injEq, Prod.mk.injEq, bindD, DataW.agg.injEq, List.cons.injEq, DataW.lit.injEq, Lit.string.injEq, Lit.bool.injEq, and_true] at h
    obtain ⟨⟨h1, h2⟩, _⟩ := h
    obtain ⟨x1, x2⟩ := x
    have := Xp.ba_inj h1
    subst this
    subst h2
    rfl
  · cases h
def upd (G : Env) (k : ByteArray) (x : Bind) : Env := fun j => if j = k then x else G j
theorem upd_same (G : Env) (k : ByteArray) (x : Bind) : upd G k x k = x := if_pos rfl
theorem upd_other (G : Env) {k j : ByteArray} (x : Bind) (h : j ≠ k) : upd G k x j = G j := if_neg h
theorem upd_back (G : Env) (k : ByteArray) (x : Bind) : upd (upd G k x) k (G k) = G := by
  funext j
  by_cases h : j = k
  · rw [h, upd_same]
  · rw [upd_other _ _ h, upd_other _ _ h]
/-- Block b is a map of at most n entries that holds G. -/
def MIn (w : World) (b n : Nat) (G : Env) : Prop :=
  ∃ D : Tr, w.ownsMap Tryz.prog 9 bindR b n D ∧ ∀ k : ByteArray, D.atKey (.string k.data.toList) (bindD (e0, false)) = bindD (G k)
theorem MIn.lt {w : World} {b n : Nat} {G : Env} (h : MIn w b n G) : b < w.heap.size := by
  obtain ⟨D, h, _⟩ := h
  exact h.lt
theorem MIn.keep {w w' : World} {b n : Nat} {G : Env} (h : MIn w b n G) (hk : w'.heap[b]? = w.heap[b]?) : MIn w' b n G := by
  obtain ⟨D, ⟨es, clock, hb, F, hs, hD⟩, hG⟩ := h
  exact ⟨D, ⟨es, clock, hk.trans hb, F, hs, hD⟩, hG⟩
theorem MIn.ne {w : World} {b n : Nat} {G : Env} {k : Nat} {t : TypeId} {C : Array Value} (h : MIn w b n G) (hl : Lies w k t C) : k ≠ b := by
  rintro rfl
  obtain ⟨D, ⟨es, clock, hb, _⟩, _⟩ := h
  unfold Lies at hl
  rw [hl] at hb
  cases hb
theorem MIn.ne_own {w : World} {b n : Nat} {G : Env} {H : Nat} {e : TypeId} {z : Nat} {v : Value} {m : Nat} {xs : List Value} (h : MIn w b n G) (ho : w.ownsRow H e z v m xs) : v.ownBlock ≠ some b := by
  intro hv
  obtain ⟨_, cur, _, _, h2, _⟩ := own_heap ho hv
  exact h.ne (k := b) (C := cur) (t := e) h2 rfl
theorem keyS : Keyed Tryz.prog 9 := string_keyed Tryz.underlying9
theorem zeroB (w : World) : (zeroValue 110).run Tryz.prog w = .ok (bindV (e0, false)) w := by kernel_rfl
theorem MIn.look {w : World} {b n : Nat} {G : Env} (h : MIn w b n G) (k : ByteArray) (hk : k.size ≤ 1000000) :
    (Instr.lookup 111 (.map (some b)) (.string k) false).run Tryz.prog w = .ok (bindV (G k)) w := by
  obtain ⟨D, ho, hG⟩ := h
  obtain ⟨v, ps, hr, hv⟩ := ho.lookup (t := 111) keyS Tryz.underlying111 (zeroB w) (bindR_mk (e0, false)) (WideMaps.keyOf_string_mk Tryz.underlying9 (s := k) (by unfold maxLen; omega))
  rw [hG k] at hv
  rw [hr, bindR_inv hv]
theorem own_isMap {w : World} {P : Program} {k : TypeId} {R : Value → Option (Tr × List MemPlace)} {b n : Nat} {D : Tr} (h : w.ownsMap P k R b n D) : IsMap D := by
  obtain ⟨es, clock, _, _, _, hD⟩ := h
  exact ⟨_, hD⟩
theorem MIn.store {w : World} {b n : Nat} {G : Env} (h : MIn w b n G) (hn : n ≤ 1000000000) (k : ByteArray) (hk : k.size ≤ 1000000) (x : Bind) :
    ∃ w', (Instr.mapUpdate 111 (.map (some b)) (.string k) (.agg #[.string x.1, .bool x.2])).run Tryz.prog w = .ok () w' ∧ MIn w' b (n + 1) (upd G k x) ∧ w.grownBy w' (some b) := by
  obtain ⟨D, ho, hG⟩ := h
  obtain ⟨w', hr, h1, h2⟩ := ho.update (t := 111) (n := n) keyS Tryz.underlying111 (by unfold maxLen; omega) (WideMaps.keyOf_string_mk Tryz.underlying9 (s := k) (by unfold maxLen; omega)) (bindR_mk x)
  refine ⟨w', hr, ⟨_, h1, fun j => ?_⟩, h2⟩
  by_cases hj : j = k
  · rw [hj, upd_same, atKey_put_same (own_isMap ho) (by trivial)]
  · rw [upd_other _ _ hj, atKey_put_other (fun e => hj (Xp.ba_inj (by simpa using e))), hG j]
end Go.Proofs.YtjfonpbnohbpfaaGreatDoor
/-
  Small parts of package space: a copy of a text, an attribute, which prefixes may be; name.Split.
-/
set_option linter.unusedSimpArgs false
set_option linter.unusedVariables false
namespace Go.Proofs.YtjfonpbnohbpfaaGreatDoor
open Go.RowKit
/-- What the library's variable holds: whatever number internal/bytealg.MaxLen is. -/
def OkS (w : World) : Prop := ∃ m, w.cell? ⟨6, 0, none⟩ = some (.int .i64 m)
theorem OkS.lt {w : World} (h : OkS w) : 6 < w.heap.size := by
  obtain ⟨m, h⟩ := h
  exact cell_lt h
theorem OkS.below {w w' : World} {B : Nat} (h : OkS w) (hb : Below B w w') (hB : 6 < B) : OkS w' := by
  obtain ⟨m, h⟩ := h
  exact ⟨m, by rw [hb.cell hB]; exact h⟩
theorem cloneS (s : ByteArray) (w : World) (hs : s.size ≤ 140000000000000) :
    Calls Tryz.prog 53 #[.string s] w fun e w' => e = .returned (.string s) ∧ Below w.heap.size w w' := by
  go_enter Tryz.func53, Tryz.ntmps53
  go_wp2_with fail
  refine (Tryz.stringslite_Clone s _ (by omega)).mono ?_
  rintro e w1 ⟨rfl, b1⟩
  go_wp2_with fail
  go_ret
  exact ⟨rfl, b1⟩
theorem newAttrD (a b : ByteArray) (w : World) (ha : a.size ≤ 140000000000000) (hb : b.size ≤ 140000000000000) :
    Calls Tryz.prog 106 #[.string a, .string b] w fun e w' => e = .returned (.agg #[.string a, .string b]) ∧ Below w.heap.size w w' := by
  go_enter Tryz.func106, Tryz.ntmps106
  go_wp2_with fail
  refine (cloneS a _ ha).mono ?_
  rintro e w1 ⟨rfl, b1⟩
  have z1 : w.heap.size < w1.heap.size := by have := b1.size; simp at this; omega
  have B1 : Hid (Below w.heap.size w w1) := ((Below.refl _ w).alloc (Nat.le_refl _) _).trans (b1.mono (by simp))
  have L1 : Hid (Lies w1 w.heap.size 66 #[.string ⟨#[]⟩, .string ⟨#[]⟩]) := (Lies.new w 66 #[.string ⟨#[]⟩, .string ⟨#[]⟩]).below b1
  clear b1
  go_wp2_with fail
  refine (cloneS b _ hb).mono ?_
  rintro e w2 ⟨rfl, b2⟩
  have z2 : w.heap.size < w2.heap.size := by have := b2.size; omega
  have B2 : Hid (Below w.heap.size w w2) := B1.out.trans (b2.mono (by omega))
  have L2 := hideT (L1.out.below b2)
  have x0 : w2.cell? ⟨w.heap.size, 0, none⟩ = some (.string ⟨#[]⟩) := L2.out.cell 0
  have x1 : w2.cell? ⟨w.heap.size, 1, none⟩ = some (.string ⟨#[]⟩) := L2.out.cell 1
  have f0 : w2.frozen? ⟨w.heap.size, 0, none⟩ = false := L2.out.free 0
  have f1 : w2.frozen? ⟨w.heap.size, 1, none⟩ = false := L2.out.free 1
  clear b2
  obtain ⟨X, hX, bX, lX⟩ : ∃ X, (w2.setCell ⟨w.heap.size, 0, none⟩ (.string a)).setCell ⟨w.heap.size, 1, none⟩ (.string b) = X ∧ Below w.heap.size w X ∧ Lies X w.heap.size 66 #[.string a, .string b] :=
    ⟨_, rfl, (B2.out.setCell (Nat.le_refl _) _).setCell (Nat.le_refl _) _, (L2.out.set 0 _).set 1 _⟩
  go_wp2_with fail
  try rw [hX]
  have r0 : X.cell? ⟨w.heap.size, 0, none⟩ = some (.string a) := lX.cell 0
  have r1 : X.cell? ⟨w.heap.size, 1, none⟩ = some (.string b) := lX.cell 1
  refine bodyPost_ret (v := .agg #[.string a, .string b]) (by simp [results, Tryz.results106, go_sem, r0, r1]) rfl ⟨rfl, bX⟩
theorem toList_inj {a b : ByteArray} (h : a.toList = b.toList) : a = b := by
  rw [Lib.toList_data, Lib.toList_data] at h
  exact Xp.ba_inj h
theorem tl_ne {a : ByteArray} (b : ByteArray) (l : List UInt8) (h : a ≠ b) (hb : b.data.toList = l) : ¬ a.toList = l := fun e => h (Xp.ba_inj (by rw [hb, ← e, Lib.toList_data]))
theorem tl_beq {a : ByteArray} (b : ByteArray) (l : List UInt8) (h : a ≠ b) (hb : b.data.toList = l) : (a.toList == l) = false := beq_eq_false_iff_ne.2 (tl_ne b l h hb)
theorem tl_empty {a : ByteArray} (h : a ≠ e0) : ¬ a.toList = [] ∧ a.toList.isEmpty = false := by
  have h1 : ¬ a.toList = [] := tl_ne e0 [] h rfl
  exact ⟨h1, by cases h2 : a.toList with | nil => exact absurd h2 h1 | cons _ _ => rfl⟩
abbrev xmlB : ByteArray := ⟨#[120, 109, 108]⟩
abbrev xmlnsB : ByteArray := ⟨#[120, 109, 108, 110, 115]⟩
def mayB (p s : ByteArray) : Bool := !decide (s = e0) && !decide (p = xmlB) && !decide (p = xmlnsB)
theorem mayD (p s : ByteArray) (w : World) :
    Calls Tryz.prog 107 #[.string p, .string s] w fun e w' => e = .returned (.bool (mayB p s)) ∧ w' = w := by
  by_cases h1 : s = e0
  · have HM : Hid (mayB p s = false) := by show _ = _; simp [mayB, h1]
    subst h1
    go_enter Tryz.func107, Tryz.ntmps107
    go_wp2_with fail
    go_ret
    exact ⟨ret_b HM.out.symm, rfl⟩
  by_cases h2 : p = xmlB
  · have HM : Hid (mayB p s = false) := by show _ = _; simp [mayB, h2]
    obtain ⟨t1, t2⟩ := tl_empty h1
    clear h1
    subst h2
    go_enter Tryz.func107, Tryz.ntmps107
    go_wp2_with fail
    go_ret
    exact ⟨ret_b HM.out.symm, rfl⟩
  by_cases h3 : p = xmlnsB
  · have HM : Hid (mayB p s = false) := by show _ = _; simp [mayB, h3]
    obtain ⟨t1, t2⟩ := tl_empty h1
    clear h1 h2
    subst h3
    go_enter Tryz.func107, Tryz.ntmps107
    go_wp2_with fail
    go_ret
    exact ⟨ret_b HM.out.symm, rfl⟩
  have HM : Hid (mayB p s = true) := by show _ = _; simp [mayB, h1, h2, h3]
  obtain ⟨t1, t2⟩ := tl_empty h1
  have u1 : ¬ p.toList = [120, 109, 108] := tl_ne xmlB _ h2 rfl
  have u2 : (p.toList == [120, 109, 108]) = false := tl_beq xmlB _ h2 rfl
  have v1 : ¬ p.toList = [120, 109, 108, 110, 115] := tl_ne xmlnsB _ h3 rfl
  have v2 : (p.toList == [120, 109, 108, 110, 115]) = false := tl_beq xmlnsB _ h3 rfl
  clear h1 h2 h3
  go_enter Tryz.func107, Tryz.ntmps107
  go_wp2_with fail
  go_ret
  refine ⟨ret_b ?_, rfl⟩
  try rw [HM.out]
  try first | rfl | (simp [t1, t2, u1, u2, v1, v2]; done)
/-- name.Split. -/
def splitB (s : ByteArray) : ByteArray × ByteArray := (⟨(Sp.splitL s.data.toList).1.toArray⟩, ⟨(Sp.splitL s.data.toList).2.toArray⟩)
theorem cut_yesS (s : ByteArray) (w : World) (hs : s.size ≤ 1000000) (hw : OkS w) (n : Nat) (h : Hid (Lib.indexByte s.data.toList 58 = n)) (p q : ByteArray) (hp : Hid (p = ⟨(s.data.toList.take n).toArray⟩)) (hq : Hid (q = ⟨(s.data.toList.drop (n + 1)).toArray⟩)) :
    Calls Tryz.prog 108 #[.string s, .string ⟨#[58]⟩] w fun e w' => e = .returned (.tuple #[.string p, .string q, .bool true]) ∧ Below w.heap.size w w' := by
  obtain ⟨m, hm⟩ := hw
  have := Tryz.strings_Cut s ⟨#[58]⟩ m w (by omega) hm
  rw [show (⟨#[58]⟩ : ByteArray).data.toList = [58] from rfl, Sp.cut_found _ n h.out, ← hp.out, ← hq.out] at this
  refine this.mono ?_
  rintro e w' ⟨rfl, k, rfl⟩
  exact ⟨rfl, below_drewN (Below.refl _ _) k⟩
theorem cut_noS (s : ByteArray) (w : World) (hs : s.size ≤ 1000000) (hw : OkS w) (h : Hid (Lib.indexByte s.data.toList 58 < 0)) :
    Calls Tryz.prog 108 #[.string s, .string ⟨#[58]⟩] w fun e w' => e = .returned (.tuple #[.string s, .string ⟨#[]⟩, .bool false]) ∧ Below w.heap.size w w' := by
  obtain ⟨m, hm⟩ := hw
  have := Tryz.strings_Cut s ⟨#[58]⟩ m w (by omega) hm
  rw [show (⟨#[58]⟩ : ByteArray).data.toList = [58] from rfl, Sp.cut_none _ h.out] at this
  refine this.mono ?_
  rintro e w' ⟨rfl, k, rfl⟩
  exact ⟨rfl, below_drewN (Below.refl _ _) k⟩
theorem split_any0 (s : ByteArray) (w : World) (hs : s.size ≤ 1000000) (hw : OkS w) :
    Calls Tryz.prog 69 #[.string s] w fun e w' => e = .returned (Sp.twoV (Sp.splitL s.data.toList)) ∧ Below w.heap.size w w' := by
  have HW : Hid (OkS w) := hw
  clear hw
  by_cases hneg : Lib.indexByte s.data.toList 58 < 0
  · have HN : Hid (Lib.indexByte s.data.toList 58 < 0) := hneg
    have HF : Hid (Ending.returned (.tuple #[.string ⟨#[]⟩, .string s]) = .returned (Sp.twoV (Sp.splitL s.data.toList))) := by
      show Ending.returned (.tuple #[.string ⟨#[]⟩, .string s]) = .returned (Sp.twoV (Sp.splitL s.data.toList))
      rw [Sp.splitL_none _ hneg]
      rfl
    clear hneg
    go_enter Tryz.func69, Tryz.ntmps69
    go_wp2_with fail
    refine (cut_noS s _ hs HW.out HN).mono ?_
    rintro e w1 ⟨rfl, hb1⟩
    go_wp2_with fail
    go_ret2
    exact ⟨HF.out, hb1⟩
  · obtain ⟨n, hn⟩ := Int.eq_ofNat_of_zero_le (show 0 ≤ Lib.indexByte s.data.toList 58 by omega)
    have HN : Hid (Lib.indexByte s.data.toList 58 = n) := hn
    obtain ⟨p, HP⟩ : ∃ p : ByteArray, Hid (p = ⟨(s.data.toList.take n).toArray⟩) := ⟨(⟨(s.data.toList.take n).toArray⟩ : ByteArray), rfl⟩
    obtain ⟨q, HQ⟩ : ∃ q : ByteArray, Hid (q = ⟨(s.data.toList.drop (n + 1)).toArray⟩) := ⟨(⟨(s.data.toList.drop (n + 1)).toArray⟩ : ByteArray), rfl⟩
    have HF : Hid (Ending.returned (.tuple #[.string p, .string q]) = .returned (Sp.twoV (Sp.splitL s.data.toList))) := by
      show Ending.returned (.tuple #[.string p, .string q]) = .returned (Sp.twoV (Sp.splitL s.data.toList))
      rw [Sp.splitL_found _ n hn, HP.out, HQ.out]
      rfl
    clear hneg hn
    go_enter Tryz.func69, Tryz.ntmps69
    go_wp2_with fail
    refine (cut_yesS s _ hs HW.out n HN p q HP HQ).mono ?_
    rintro e w1 ⟨rfl, hb1⟩
    go_wp2_with fail
    go_ret2
    exact ⟨HF.out, hb1⟩

theorem splitD (s : ByteArray) (w : World) (hs : s.size ≤ 1000000) (hw : OkS w) (p q : ByteArray) (h : Hid (splitB s = (p, q))) :
    Calls Tryz.prog 69 #[.string s] w fun e w' => e = .returned (.tuple #[.string p, .string q]) ∧ Below w.heap.size w w' := by
  have h1 := h.out
  simp only [splitB, Prod.mk.injEq] at h1
  have := split_any0 s w hs hw
  unfold Sp.twoV at this
  rw [h1.1, h1.2] at this
  exact this
end Go.Proofs.YtjfonpbnohbpfaaGreatDoor
/-
  A scope in memory: its map, and what is hidden; outside, declare.
-/
set_option linter.unusedSimpArgs false
set_option linter.unusedVariables false
namespace Go.Proofs.YtjfonpbnohbpfaaGreatDoor
open Go.RowKit
abbrev Hide := ByteArray × Bind
def flatH (L : List Hide) : List Value := L.flatMap fun h => [.string h.1, .string h.2.1, .bool h.2.2]
theorem flatH_cons (h : Hide) (L : List Hide) : flatH (h :: L) = .string h.1 :: .string h.2.1 :: .bool h.2.2 :: flatH L := rfl
theorem flatH_app (L M : List Hide) : flatH (L ++ M) = flatH L ++ flatH M := by unfold flatH; exact List.flatMap_append
theorem flatH_len (L : List Hide) : (flatH L).length = L.length * 3 := by
  induction L with
  | nil => rfl
  | cons q L ih => rw [flatH_cons]; simp only [List.length_cons, ih]; omega
structure SIn (w : World) (B sb mb n : Nat) (hv : Value) (L : List Hide) (G : Env) : Prop where
  lies : Lies w sb 114 #[.map (some mb), hv]
  row : w.ownsRow B 154 3 hv L.length (flatH L)
  map : MIn w mb n G
  sB : B ≤ sb
  mB : B ≤ mb
  small : ∀ h ∈ L, h.1.size ≤ 1000000
/-- What a scope's calls may turn. -/
def SS (sb mb : Nat) (hv : Value) (k : Nat) : Prop := k = sb ∨ k = mb ∨ hv.ownBlock = some k
theorem SIn.keep {w w' : World} {B sb mb n : Nat} {hv : Value} {L : List Hide} {G : Env} (h : SIn w B sb mb n hv L G) (hk : ∀ k, SS sb mb hv k → w'.heap[k]? = w.heap[k]?) : SIn w' B sb mb n hv L G := by
  obtain ⟨h1, h2, h3, h4, h5, h6⟩ := h
  refine ⟨?_, own_keep h2 (fun g hg => hk g (.inr (.inr hg))), h3.keep (hk mb (.inr (.inl rfl))), h4, h5, h6⟩
  unfold Lies at *
  rw [hk sb (.inl rfl), h1]
theorem SIn.old {w : World} {B sb mb n : Nat} {hv : Value} {L : List Hide} {G : Env} (h : SIn w B sb mb n hv L G) : ∀ k, SS sb mb hv k → k < w.heap.size ∧ B ≤ k := by
  rintro k (rfl | rfl | e)
  · exact ⟨h.lies.lt, h.sB⟩
  · exact ⟨h.map.lt, h.mB⟩
  · exact own_lt h.row e
theorem SIn.below {w w' : World} {B sb mb n : Nat} {hv : Value} {L : List Hide} {G : Env} (h : SIn w B sb mb n hv L G) (hb : Below w.heap.size w w') : SIn w' B sb mb n hv L G := h.keep (fun k hk => hb.block k (h.old k hk).1)
/-- A block of another kind is none of the scope's. -/
theorem SIn.off {w : World} {B sb mb n : Nat} {hv : Value} {L : List Hide} {G : Env} (h : SIn w B sb mb n hv L G) {k : Nat} {t : TypeId} {C : Array Value} (hl : Lies w k t C) (h1 : t ≠ 114) (h2 : t ≠ 154) : ¬ SS sb mb hv k := by
  rintro (rfl | rfl | e)
  · have h3 := h.lies
    unfold Lies at h3 hl
    rw [hl] at h3
    simp only [Option.some.injEq, Obj.cells.injEq] at h3
    exact h1 h3.2.1
  · exact h.map.ne hl rfl
  · exact own_ne h.row hl h2 e
theorem SIn.base {w0 w w' : World} {B sb mb n : Nat} {hv : Value} {L : List Hide} {G : Env} (h : SIn w B sb mb n hv L G) (hb : Below B w0 w) (hk : Keep (SS sb mb hv) w w') : Below B w0 w' :=
  ⟨hk.os.trans hb.os, hk.tape.trans hb.tape, hk.output.trans hb.output, Nat.le_trans hb.size hk.size, fun i hi => by
    rw [hk.block i (Nat.lt_of_lt_of_le hi (Nat.le_trans h.sB (Nat.le_of_lt h.lies.lt))) (fun e => by have := (h.old i e).2; omega)]
    exact hb.block i hi⟩
theorem SS_grew {w : World} {sb mb : Nat} {hv hv' : Value} (g : Grew w hv hv') : ∀ i, i < w.heap.size → SS sb mb hv' i → SS sb mb hv i := by
  rintro i hi (e | e | e)
  · exact .inl e
  · exact .inr (.inl e)
  · rcases g with g | ⟨k, g, hk⟩
    · exact .inr (.inr (by rw [← g]; exact e))
    · rw [g] at e
      have := Option.some.inj e
      omega
def G0 : Env := upd (fun _ => (e0, false)) e0 (e0, true)
theorem MIn.made (w : World) : MIn (w.alloc (.map #[] 0)) w.heap.size 0 (fun _ => (e0, false)) := ⟨.map [], World.ownsMap_made w _ _ _, fun _ => rfl⟩
theorem infoH : (Tryz.prog.info? 154).map (fun i => (i.zero, i.size, i.bytes)) = some (some (.agg #[.string ⟨#[]⟩, .string ⟨#[]⟩, .bool false]), 3, 40) := by kernel_rfl
theorem outsideD (w : World) :
    Calls Tryz.prog 30 #[] w fun e w' => ∃ sb, e = .returned (.pointer (some ⟨sb, 0, none⟩)) ∧ Below w.heap.size w w' ∧ ∃ mb, SIn w' w.heap.size sb mb 1 nilS [] G0 := by
  have hmm := @run_makeMap Tryz.prog
  obtain ⟨w1, hup, M1, gr1⟩ := (MIn.made w).store (by omega) e0 (by decide) (e0, true)
  go_enter Tryz.func30, Tryz.ntmps30
  go_wp2_with fail
  go_ret
  have bM : Below w.heap.size w (w.alloc (.map #[] 0)) := (Below.refl _ w).alloc (Nat.le_refl _) _
  have b1 : Below w.heap.size w w1 := Keep.below bM (Keep.grown gr1) (fun i hi e => by have := Option.some.inj e; omega)
  have b2 := (Below.refl w1.heap.size w1).alloc (Nat.le_refl _) (.cells #[.map (some w.heap.size), .slice none 0 0] 114)
  exact ⟨w1.heap.size, rfl, b1.alloc b1.size _, w.heap.size, ⟨Lies.new w1 _ _, World.ownsRow_nil _ _ _ _, M1.keep (b2.block _ M1.lt), b1.size, Nat.le_refl _, fun h e => by cases e⟩⟩
theorem slice_form {w : World} {H : Nat} {e : TypeId} {z : Nat} {v : Value} {n : Nat} {xs : List Value} (h : w.ownsRow H e z v n xs) : ∃ ad cap, v = .slice ad n cap := by
  rcases h.2 with ⟨rfl, h0⟩ | ⟨g, cap, cur, rfl, _⟩
  · exact ⟨none, 0, by rw [h0]⟩
  · exact ⟨_, _, rfl⟩
/-- Behind the append of what is hidden: the scope stands as it was. -/
theorem hid_grown {W W' w3 : World} {B sb mb n : Nat} {hv : Value} {L : List Hide} {G : Env} (h : SIn W B sb mb n hv L G) (hgrow : W'.grownBy w3 hv.ownBlock) (hB : Below W.heap.size W W') :
    Lies w3 sb 114 #[.map (some mb), hv] ∧ MIn w3 mb n G ∧ w3.cell? ⟨sb, 1, none⟩ = some hv ∧ w3.frozen? ⟨sb, 1, none⟩ = false := by
  have h' := h.below hB
  have h1 : Lies w3 sb 114 #[.map (some mb), hv] := by
    have := hgrow.block sb h'.lies.lt (fun e => own_ne h'.row h'.lies (by decide) e.symm)
    unfold Lies
    rw [this, h'.lies]
  have h2 : MIn w3 mb n G := h'.map.keep (hgrow.block mb h'.map.lt (fun e => h'.map.ne_own h'.row e.symm))
  exact ⟨h1, h2, h1.cell 1, h1.free 1⟩
theorem hid_named {w W' w7 : World} {B sb mb n : Nat} {hv : Value} {L : List Hide} {G : Env} {x : Hide} {gb cap2 m : Nat} (h : SIn w B sb mb n hv L G) (hB : Below w.heap.size w W') (hown1 : w7.ownsRow B 154 3 (.slice (some ⟨gb, 0, none⟩) (L.length + 1) cap2) (L.length + 1) (flatH L ++ [.string x.1, .string x.2.1, .bool x.2.2]))
    (hgrow : W'.grownBy w7 hv.ownBlock) (hat : hv.ownBlock = some gb ∨ gb = w.heap.size + 1) (hx : x.1.size ≤ 1000000) :
    ∃ X, w7.setCell ⟨sb, 1, none⟩ (.slice (some ⟨gb, 0, none⟩) (L.length + 1) cap2) = X ∧ Keep (SS sb mb hv) w X ∧ SIn X B sb mb n (.slice (some ⟨gb, 0, none⟩) (L.length + 1) cap2) (L ++ [x]) G ∧ Grew w hv (.slice (some ⟨gb, 0, none⟩) (L.length + 1) cap2) := by
  obtain ⟨l7, m7, _, _⟩ := hid_grown h hgrow hB
  have k7 : Keep (SS sb mb hv) w w7 := (Keep.of_below hB).on (Keep.grown hgrow) (fun i _ e => .inr (.inr e))
  have hne : gb ≠ sb := fun e => own_ne hown1 l7 (by decide) (by rw [e]; rfl)
  refine ⟨_, rfl, k7.trans (Keep.set _ ⟨sb, 1, none⟩ _ (.inl rfl)), ⟨l7.set 1 _, ?_, m7.keep (Below.heap_setCell _ _ _ _ (fun e => m7.ne l7 e.symm)), h.sB, h.mB, fun y hy => ?_⟩, grew_of hat (Nat.le_refl _)⟩
  · rw [flatH_app, List.length_append]
    exact own_keep hown1 (fun g hg => Below.heap_setCell _ _ _ _ (fun e => hne ((Option.some.inj hg).trans e)))
  · rcases List.mem_append.1 hy with hy | hy
    · exact h.small y hy
    · rw [List.mem_singleton.1 hy]
      exact hx
theorem store_named {W W2 : World} {B sb mb n : Nat} {hv : Value} {L : List Hide} {G G' : Env} (h : SIn W B sb mb n hv L G) (hM : MIn W2 mb (n + 1) G') (hg : W.grownBy W2 (some mb)) : SIn W2 B sb mb (n + 1) hv L G' ∧ Keep (· = mb) W W2 := by
  have hk := (Keep.grown hg).wide (R := (· = mb)) (fun k _ e => (Option.some.inj e).symm)
  have hl := h.lies.keep hk (fun e => h.map.ne h.lies e)
  exact ⟨⟨hl, own_keep h.row (fun g hg' => hk.block g (own_lt h.row hg').1 (fun e => h.map.ne_own h.row (by rw [hg', e]))), hM, h.sB, h.mB, h.small⟩, hk⟩
set_option maxHeartbeats 4000000 in
theorem declareD (w : World) (B sb mb n : Nat) (hv : Value) (L : List Hide) (G : Env) (pre sp : ByteArray) (h : SIn w B sb mb n hv L G) (hp : pre.size ≤ 1000000) (hs : sp.size ≤ 140000000000000) (hn : n ≤ 1000000000) (hL : L.length ≤ 1000000000) :
    Calls Tryz.prog 105 #[.pointer (some ⟨sb, 0, none⟩), .string pre, .string sp] w fun e w' => e = .returned (.tuple #[]) ∧ Keep (SS sb mb hv) w w' ∧
      ∃ hv', SIn w' B sb mb (n + 1) hv' (L ++ [(pre, G pre)]) (upd G pre (sp, true)) ∧ Grew w hv hv' := by
  obtain ⟨g1, g2, hg⟩ : ∃ g1 g2, G pre = (g1, g2) := ⟨_, _, rfl⟩
  have HS := hideT h
  have HG := hideT hg
  obtain ⟨ad, cap, hf⟩ := slice_form h.row
  subst hf
  have x0 : w.cell? ⟨sb, 0, none⟩ = some (.map (some mb)) := h.lies.cell 0
  have x1 : w.cell? ⟨sb, 1, none⟩ = some (.slice ad L.length cap) := h.lies.cell 1
  have f1 : w.frozen? ⟨sb, 1, none⟩ = false := h.lies.free 1
  have hlk : (Instr.lookup 111 (.map (some mb)) (.string pre) false).run Tryz.prog w.drew = .ok (.agg #[.string g1, .bool g2]) w.drew := by
    have := (h.below (Below.refl _ w).drew).map.look pre hp
    rw [hg] at this
    exact this
  have hlk0 : (Instr.lookup 111 (.map (some mb)) (.string pre) false).run Tryz.prog w = .ok (.agg #[.string g1, .bool g2]) w := by
    have := h.map.look pre hp
    rw [hg] at this
    exact this
  have x1a : (w.alloc (.cells #[.string pre, .string g1, .bool g2] 154)).cell? ⟨sb, 1, none⟩ = some (.slice ad L.length cap) := by rw [cell_old _ _ _ h.lies.lt]; exact x1
  obtain ⟨i0, hi0, hz0, hz1, hz2⟩ := info_parts infoH
  have R1 := hideT h.row
  have hBw : B ≤ w.heap.size := Nat.le_trans h.sB (Nat.le_of_lt h.lies.lt)
  clear h hg
  go_enter Tryz.func105, Tryz.ntmps105
  go_wp2_with fail
  go_region_law
    ((refine step_append_lies _ (by rfl) _ _ _ (by rfl) B 154 i0 _ 3 40 Tryz.underlying112 hi0 hz0 hz1 hz2 rfl (by omega) (.slice ad L.length cap) L.length (flatH L) (by rfl) ((R1.out.alloc _).drew)
        ⟨w.heap.size, 0, none⟩ 1 1 [.string pre, .string g1, .bool g2] (by rfl) (by rfl) (World.news_of_block (cs := #[.string pre, .string g1, .bool g2]) (t := 154) (fr := (0, 0)) (heap_alloc_new w _)) (by simp [Value.oneCell'])
        (by omega) (by unfold maxLen; omega) (by omega) (by first | (simp; done) | (simp; omega)) (w.heap.size + 1) (by simp) ?_; intro gb cap2 w7 hown1 hgrow hat hlt; obtain ⟨L7, M7, y7, f7⟩ := hid_grown HS.out hgrow (((Below.refl _ w).alloc (Nat.le_refl _) _).drew)))
  all_goals obtain ⟨X, eX, kX, sX, gX⟩ := hid_named (x := (pre, g1, g2)) (m := 0) HS.out (((Below.refl _ w).alloc (Nat.le_refl _) _).drew) hown1 hgrow hat hp
  all_goals have KX := hideT kX
  all_goals have SX := hideT sX
  all_goals have GX := hideT gX
  all_goals have z0 : X.cell? ⟨sb, 0, none⟩ = some (.map (some mb)) := sX.lies.cell 0
  all_goals clear L7 M7 y7 f7 hown1 hgrow hat hlt kX sX gX hlk hlk0 x0 x1 f1 x1a
  all_goals try rw [eX]
  all_goals clear eX
  all_goals go_wp2_with fail
  all_goals go_region_held3 (fun w' => w'.cell? ⟨sb, 0, none⟩ = some (.map (some mb))) (go_keep) ((go_at_call 53; refine (cloneS sp _ hs).mono ?_; rintro e w8 ⟨rfl, b8⟩; have y8 : w8.cell? ⟨sb, 0, none⟩ = some (.map (some mb)) := ((SX.out.below (Below.refl _ X).drew).below b8).lies.cell 0; obtain ⟨w9, hup, M9, gr9⟩ := ((SX.out.below (Below.refl _ X).drew).below b8).map.store hn pre hp (sp, true); obtain ⟨S9, K9⟩ := store_named ((SX.out.below (Below.refl _ X).drew).below b8) M9 gr9; have y9 : w9.cell? ⟨sb, 0, none⟩ = some (.map (some mb)) := S9.lies.cell 0))
  all_goals have S9 := hideT S9
  all_goals have K9 : Hid (Keep (SS sb mb (.slice ad L.length cap)) w w9) := (by show Keep _ _ _; exact (KX.out.trans (Keep.of_below ((Below.refl _ X).drew.trans b8))).on K9 (fun i _ e => .inr (.inl e)))
  all_goals clear b8 y8 hup M9 gr9 y9
  all_goals go_wp2_with fail
  all_goals first | go_end0 | refine bodyPost_ret (results_none rfl _ _ _) rfl ?_
  all_goals refine ⟨rfl, K9.out, _, ?_, GX.out⟩
  all_goals rw [HG.out]
  all_goals exact S9.out
end Go.Proofs.YtjfonpbnohbpfaaGreatDoor
/-
  PLAIN: what attributes declare; what is taken back; what an element is resolved to.
-/
set_option linter.unusedSimpArgs false
set_option linter.unusedVariables false
namespace Go.Proofs.YtjfonpbnohbpfaaGreatDoor
open Go.RowKit
abbrev Att := ByteArray × ByteArray
abbrev St := Env × List Hide × List Att
def stepP (s : St) (a : Att) : Option St :=
  if a.1 = xmlnsB then some (upd s.1 e0 (a.2, true), s.2.1 ++ [(e0, s.1 e0)], s.2.2)
  else if (splitB a.1).1 = e0 then some (s.1, s.2.1, s.2.2 ++ [a])
  else if (splitB a.1).1 = xmlnsB ∧ mayB (splitB a.1).2 a.2 = true then some (upd s.1 (splitB a.1).2 (a.2, true), s.2.1 ++ [((splitB a.1).2, s.1 (splitB a.1).2)], s.2.2)
  else none
def enterP : St → List Att → Option St
  | s, [] => some s
  | s, a :: l => match stepP s a with
    | none => none
    | some s' => enterP s' l
theorem enter_step {s s' : St} {a : Att} (l : List Att) (h : stepP s a = some s') : enterP s (a :: l) = enterP s' l := by
  simp only [enterP, h]
theorem enter_stop {s : St} {a : Att} (l : List Att) (h : stepP s a = none) : enterP s (a :: l) = none := by
  simp only [enterP, h]
def undo : List Hide → Env → Env
  | [], G => G
  | h :: L, G => upd (undo L G) h.1 h.2
theorem undo_snoc (h : Hide) : ∀ (L : List Hide) (G : Env), undo (L ++ [h]) G = undo L (upd G h.1 h.2)
  | [], G => rfl
  | a :: L, G => by
    show upd (undo (L ++ [h]) G) a.1 a.2 = upd (undo L (upd G h.1 h.2)) a.1 a.2
    rw [undo_snoc h L G]
theorem step_undo {s s' : St} {a : Att} (h : stepP s a = some s') : undo s'.2.1 s'.1 = undo s.2.1 s.1 := by
  unfold stepP at h
  split at h
  · cases h
    rw [undo_snoc, upd_back]
  · split at h
    · cases h
      rfl
    · split at h
      · cases h
        rw [undo_snoc, upd_back]
      · cases h
theorem step_len {s s' : St} {a : Att} (h : stepP s a = some s') : s'.2.1.length + s'.2.2.length = s.2.1.length + s.2.2.length + 1 := by
  unfold stepP at h
  split at h
  · cases h
    simp only [List.length_append, List.length_singleton]
    omega
  · split at h
    · cases h
      simp only [List.length_append, List.length_singleton]
      omega
    · split at h
      · cases h
        simp only [List.length_append, List.length_singleton]
        omega
      · cases h
theorem enter_undo : ∀ {l : List Att} {s s' : St}, enterP s l = some s' → undo s'.2.1 s'.1 = undo s.2.1 s.1
  | [], s, s', h => by cases h; rfl
  | a :: l, s, s', h => by
    cases hs : stepP s a with
    | none => rw [enter_stop l hs] at h; cases h
    | some t =>
      rw [enter_step l hs] at h
      rw [enter_undo h, step_undo hs]
theorem enter_len : ∀ {l : List Att} {s s' : St}, enterP s l = some s' → s'.2.1.length + s'.2.2.length = s.2.1.length + s.2.2.length + l.length
  | [], s, s', h => by cases h; rfl
  | a :: l, s, s', h => by
    cases hs : stepP s a with
    | none => rw [enter_stop l hs] at h; cases h
    | some t =>
      rw [enter_step l hs] at h
      have h1 := enter_len h
      have h2 := step_len hs
      simp only [List.length_cons]
      omega
/-- A resolved element. -/
def mkN (sp lo : ByteArray) (l : List Att) (ks : List Tr) (p : Int) : Tr := .agg [.lit (.string sp.data.toList), .lit (.string lo.data.toList), .slice (l.map Xp.pairD) [], .slice ks [], .lit (.int .i64 p)]
def ofB (l : List UInt8) : ByteArray := ⟨l.toArray⟩
theorem ofB_data (s : ByteArray) : ofB s.data.toList = s := by
  obtain ⟨⟨x⟩⟩ := s
  rfl
def unpair : Tr → Att
  | .agg [.lit (.string a), .lit (.string b)] => (ofB a, ofB b)
  | _ => (e0, e0)
theorem unpair_mk (p : Att) : unpair (Xp.pairD p) = p := by
  show (ofB p.1.data.toList, ofB p.2.data.toList) = p
  rw [ofB_data, ofB_data]
theorem unpairs : ∀ l : List Att, (l.map Xp.pairD).map unpair = l
  | [] => rfl
  | a :: l => by simp only [List.map_cons, unpair_mk, unpairs l]
/-- Each kid by f; the first that errs. -/
def kidsP (f : Tr → Except Int Tr) : List Tr → Except Int (List Tr)
  | [] => .ok []
  | a :: l => match f a with
    | .error e => .error e
    | .ok x => match kidsP f l with
      | .error e => .error e
      | .ok xs => .ok (x :: xs)
def resT (f : Env → Tr → Except Int Tr) (G : Env) (nm : ByteArray) (l : List Att) (ks : List Tr) (p : Int) : Except Int Tr :=
  match enterP (G, [], []) l with
  | none => .error p
  | some s => if (s.1 (splitB nm).1).2 = true then
      (match kidsP (f s.1) ks with
        | .error e => .error e
        | .ok xs => .ok (mkN (s.1 (splitB nm).1).1 (splitB nm).2 s.2.2 xs p))
    else .error p
def resP : Nat → Env → Tr → Except Int Tr
  | 0, _, _ => .error 0
  | d + 1, G, T => resT (resP d) G (ofB (Xp.nmT T)) ((Xp.asT T).map unpair) (Xp.ksT T) (Xp.atT T)
theorem resP_mk (d : Nat) (G : Env) (nm : ByteArray) (l : List Att) (ks : List Tr) (p : Int) : resP (d + 1) G (Xp.mkT nm l ks p) = resT (resP d) G nm l ks p := by
  show resT (resP d) G (ofB nm.data.toList) ((l.map Xp.pairD).map unpair) ks p = _
  rw [unpairs, ofB_data]
end Go.Proofs.YtjfonpbnohbpfaaGreatDoor
/-
  The program's enter: what an element's attributes declare.
-/
set_option linter.unusedSimpArgs false
set_option linter.unusedVariables false
namespace Go.Proofs.YtjfonpbnohbpfaaGreatDoor
open Go.RowKit
theorem SIn.rowOff {w : World} {B sb mb n : Nat} {hv : Value} {L : List Hide} {G : Env} (h : SIn w B sb mb n hv L G) {H : Nat} {t : TypeId} {z : Nat} {v : Value} {m : Nat} {xs : List Value} (ho : w.ownsRow H t z v m xs) (h1 : t ≠ 114) (h2 : t ≠ 154) : ∀ g, v.ownBlock = some g → ¬ SS sb mb hv g := by
  intro g hg
  obtain ⟨_, cur, _, _, hl, _⟩ := own_heap ho hg
  exact h.off (C := cur) (t := t) hl h1 h2
theorem SIn.rowKeep {w w' : World} {B sb mb n : Nat} {hv : Value} {L : List Hide} {G : Env} (h : SIn w B sb mb n hv L G) {H : Nat} {t : TypeId} {z : Nat} {v : Value} {m : Nat} {xs : List Value} (ho : w.ownsRow H t z v m xs) (h1 : t ≠ 114) (h2 : t ≠ 154) (k : Keep (SS sb mb hv) w w') : w'.ownsRow H t z v m xs :=
  own_keep ho (fun g hg => k.block g (own_lt ho hg).1 (h.rowOff ho h1 h2 g hg))
theorem SIn.grown {w w' : World} {B sb mb n : Nat} {hv : Value} {L : List Hide} {G : Env} (h : SIn w B sb mb n hv L G) {H : Nat} {t : TypeId} {z : Nat} {v : Value} {m : Nat} {xs : List Value} (ho : w.ownsRow H t z v m xs) (h1 : t ≠ 114) (h2 : t ≠ 154) (hg : w.grownBy w' v.ownBlock) : SIn w' B sb mb n hv L G :=
  h.keep (fun k hk => hg.block k (h.old k hk).1 (fun e => h.rowOff ho h1 h2 k e.symm hk))
theorem drop_at {α : Type} : ∀ {l : List α} {k : Nat} {a : α}, l[k]? = some a → l.drop k = a :: l.drop (k + 1)
  | [], k, a, h => by simp at h
  | b :: l, 0, a, h => by
    simp only [List.getElem?_cons_zero, Option.some.injEq] at h
    subst h
    rfl
  | b :: l, k + 1, a, h => by
    rw [List.getElem?_cons_succ] at h
    rw [List.drop_succ_cons, List.drop_succ_cons]
    exact drop_at h
theorem split_size {s p q : ByteArray} (h : splitB s = (p, q)) : p.size ≤ s.size ∧ q.size ≤ s.size := by
  have h1 : p = ⟨(Sp.splitL s.data.toList).1.toArray⟩ := by rw [← (Prod.mk.inj h).1]
  have h2 : q = ⟨(Sp.splitL s.data.toList).2.toArray⟩ := by rw [← (Prod.mk.inj h).2]
  have hs : s.data.toList.length = s.size := Array.length_toList
  have e1 : p.size = (Sp.splitL s.data.toList).1.length := by rw [h1]; rfl
  have e2 : q.size = (Sp.splitL s.data.toList).2.length := by rw [h2]; rfl
  rw [e1, e2, ← hs]
  unfold Sp.splitL
  split
  · simp only [List.length_take, List.length_drop]
    omega
  · simp
theorem snoc_in {w : World} {B sb mb n : Nat} {hv : Value} {L P : List Hide} {G : Env} {x : Hide} (h : SIn w B sb mb (n + P.length + 1) hv (L ++ P ++ [x]) G) : SIn w B sb mb (n + (P ++ [x]).length) hv (L ++ (P ++ [x])) G := by
  rw [List.length_append, ← List.append_assoc]
  exact h
set_option maxHeartbeats 4000000 in
theorem enterD (w0 w : World) (B sb mb n : Nat) (hv av : Value) (L : List Hide) (G : Env) (l : List Att) (hw0 : w0.heap.size = B) (hB : Below B w0 w) (hok : OkS w0) (h : SIn w B sb mb n hv L G) (ha : ARow w0 av l)
    (hl : l.length ≤ 100000000) (hz : ∀ p ∈ l, p.1.size ≤ 1000000 ∧ p.2.size ≤ 140000000000000) (hn : n + l.length ≤ 100000000) (hL : L.length + l.length ≤ 100000000) :
    Calls Tryz.prog 68 #[.pointer (some ⟨sb, 0, none⟩), av] w fun e w' => Keep (SS sb mb hv) w w' ∧
      (enterP (G, [], []) l = none → e = .returned (.tuple #[nilS, .bool false]) ∧ ∃ n' hv' L' G', SIn w' B sb mb n' hv' L' G') ∧
      (∀ s, enterP (G, [], []) l = some s → ∃ ov hv', e = .returned (.tuple #[ov, .bool true]) ∧ SIn w' B sb mb (n + s.2.1.length) hv' (L ++ s.2.1) s.1 ∧ Grew w hv hv' ∧ w'.ownsRow w.heap.size 66 2 ov s.2.2.length (flatA s.2.2)) := by
  obtain ⟨ab, ao, ⟨aad, acap, rfl, haad⟩, _, hc⟩ := ha
  have HB := hideT hB
  have HK := hideT hok
  have HS := hideT h
  have HC := hideT hc
  have HAD := hideT haad
  obtain ⟨i0, hi0, hz0, hz1, hz2⟩ := info_parts infoA
  have hBw : B ≤ w.heap.size := Nat.le_trans h.sB (Nat.le_of_lt h.lies.lt)
  obtain ⟨m, hm⟩ : ∃ m, m = l.length := ⟨_, rfl⟩
  have HM := hideT hm
  rw [← hm] at hl hn hL ⊢
  have HZ := hideT hz
  clear hB hok h hc haad hm hz
  go_enter Tryz.func68, Tryz.ntmps68
  go_wp2_with fail
  go_loopw [13, 6] (fun i o wr => ∃ k : Nat, k ≤ m ∧ i = .int .i64 k ∧ ∃ (s : St) (hv' : Value), Hid (enterP (G, [], []) l = enterP s (l.drop k)) ∧ Hid (Keep (SS sb mb hv) w wr) ∧ Hid (SIn wr B sb mb (n + s.2.1.length) hv' (L ++ s.2.1) s.1) ∧ Hid (Grew w hv hv') ∧ Hid (wr.ownsRow w.heap.size 66 2 o s.2.2.length (flatA s.2.2)) ∧ s.2.1.length + s.2.2.length = k) (fun i _ _ => m - (intOf i).toNat)
  case atStart => exact ⟨0, by omega, rfl, (G, [], []), hv, rfl, Keep.refl _ _, by show SIn w B sb mb (n + 0) hv (L ++ []) G; rw [List.append_nil]; exact HS.out, Grew.refl _ _, World.ownsRow_nil _ _ _ _, rfl⟩
  case round =>
    obtain ⟨k, hk, rfl, s, hv', E1, K1, S1, G1, O1, hln⟩ := hrel
    obtain ⟨oad, ocap, ho⟩ := slice_form O1.out
    subst ho
    by_cases hlt : k < m
    · obtain ⟨⟨nm, vl⟩, ha⟩ : ∃ a, l[k]? = some a := ⟨l[k]'(by have := HM.out; omega), List.getElem?_eq_getElem _⟩
      have HA := hideT ha
      obtain rfl := HAD.out (by have := HM.out; omega)
      have BR := hideT (HS.out.base HB.out K1.out)
      obtain ⟨hzn, hzv⟩ := HZ.out (nm, vl) (List.mem_of_getElem? ha)
      obtain ⟨q0, q1⟩ := HC.out k (nm, vl) ha
      rw [← BR.out.cell (p := ⟨ab, ao + 2 * k, none⟩) (by rw [← hw0]; exact cell_lt q0), Nat.mul_comm] at q0
      rw [← BR.out.cell (p := ⟨ab, ao + 2 * k + 1, none⟩) (by rw [← hw0]; exact cell_lt q1), Nat.mul_comm] at q1
      have HD := hideT (drop_at ha)
      obtain ⟨pre, loc, hsp⟩ : ∃ pre loc, splitB nm = (pre, loc) := ⟨_, _, rfl⟩
      have HSP := hideT hsp
      obtain ⟨hzp, hzl⟩ := split_size hsp
      obtain ⟨V, hV, BV, LV⟩ : ∃ V, wr.alloc (.cells #[.string nm, .string vl] 66) = V ∧ Below wr.heap.size wr V ∧ Lies V wr.heap.size 66 #[.string nm, .string vl] := ⟨_, rfl, (Below.refl _ wr).alloc (Nat.le_refl _) _, Lies.new wr _ _⟩
      have okV := hideT (HK.out.below (B := B) (BR.out.trans (BV.mono (by have := BR.out.size; omega))) (by have := HK.out.lt; omega))
      have HVq := hideT hV
      clear ha hsp hV
      go_wp2_with fail
      rw [HVq.out]
      refine (splitD nm _ hzn okV.out pre loc HSP).mono ?_
      rintro e w1 ⟨rfl, b1⟩
      have B1 := hideT (BV.trans (b1.mono BV.size))
      have S2 := hideT (S1.out.below B1.out)
      have K2 := hideT (K1.out.trans (Keep.of_below B1.out))
      have O2 := hideT (own_keep (w' := w1) O1.out (fun g hg => B1.out.block g (own_lt O1.out hg).1))
      have L2 := hideT (LV.below b1)
      have hzw : w.heap.size ≤ w1.heap.size := K2.out.size
      have y0 : w1.cell? ⟨wr.heap.size, 0, none⟩ = some (.string nm) := L2.out.cell 0
      have y1 : w1.cell? ⟨wr.heap.size, 1, none⟩ = some (.string vl) := L2.out.cell 1
      clear BV LV b1 q0 q1 B1
      by_cases hA : nm = xmlnsB
      · have ES : Hid (stepP s (nm, vl) = some (upd s.1 e0 (vl, true), s.2.1 ++ [(e0, s.1 e0)], s.2.2)) := by
          show _ = _
          unfold stepP
          rw [if_pos hA]
        have EE : Hid (enterP (G, [], []) l = enterP (upd s.1 e0 (vl, true), s.2.1 ++ [(e0, s.1 e0)], s.2.2) (l.drop (k + 1))) := by
          show _ = _
          rw [E1.out, HD.out, enter_step _ ES.out]
        subst hA
        go_wp2_with fail
        refine (declareD w1 B sb mb _ hv' _ s.1 e0 vl S2.out (by decide) hzv (by omega) (by rw [List.length_append]; omega)).mono ?_
        rintro e w2 ⟨rfl, k3, hv'', s3, g3⟩
        have S3 := hideT (snoc_in s3)
        have K3 := hideT (K2.out.on k3 (SS_grew G1.out))
        have G3 := hideT (G1.out.trans K2.out.size g3)
        have O3 := hideT (S2.out.rowKeep O2.out (by decide) (by decide) k3)
        clear k3 s3 g3 y0 y1
        go_wp2_with fail
        go_roundw
        case rel => exact ⟨k + 1, by omega, by go_num, _, hv'', EE, K3, S3, G3, O3, by simp only [List.length_append, List.length_singleton]; omega⟩
        case measure => simp [intOf]; omega
      have t1 : ¬ nm.toList = [120, 109, 108, 110, 115] := tl_ne xmlnsB _ hA rfl
      have t2 : (nm.toList == [120, 109, 108, 110, 115]) = false := tl_beq xmlnsB _ hA rfl
      have HNA := hideT hA
      clear hA
      by_cases hP : pre = e0
      · have ES : Hid (stepP s (nm, vl) = some (s.1, s.2.1, s.2.2 ++ [(nm, vl)])) := by
          show _ = _
          unfold stepP
          rw [if_neg HNA.out, HSP.out, if_pos hP]
        have EE : Hid (enterP (G, [], []) l = enterP (s.1, s.2.1, s.2.2 ++ [(nm, vl)]) (l.drop (k + 1))) := by
          show _ = _
          rw [E1.out, HD.out, enter_step _ ES.out]
        subst hP
        go_wp2_with fail
        refine (newAttrD nm vl w1 (by omega) hzv).mono ?_
        rintro e w2 ⟨rfl, b2⟩
        have S3 := hideT (S2.out.below b2)
        have K3 := hideT (K2.out.trans (Keep.of_below b2))
        have O3 := hideT (own_keep (w' := w2) O2.out (fun g hg => b2.block g (own_lt O2.out hg).1))
        have hzw2 : w.heap.size ≤ w2.heap.size := K3.out.size
        have hos : s.2.2.length ≤ 100000000 := by omega
        clear b2 y0 y1
        go_wp2_with (first | (at_builtin; refine wpList_append_lies _ (by rfl) _ _ _ (by rfl) w.heap.size 66 i0 _ 2 32 Tryz.underlying42 hi0 hz0 hz1 hz2 rfl (by omega) (.slice oad s.2.2.length ocap) s.2.2.length (flatA s.2.2) (by rfl) (O3.out.alloc _) ⟨w2.heap.size, 0, none⟩ 1 1 [.string nm, .string vl] (by rfl) (by rfl) (World.news_of_block (cs := #[.string nm, .string vl]) (t := 66) (fr := (0, 0)) (heap_alloc_new w2 _)) (by simp [Value.oneCell']) (by omega) (by unfold maxLen; omega) (by omega) (by first | (simp; done) | (simp; omega)) (w2.heap.size + 1) (by simp) ?_; intro gb cap2 w3 hown hgrow hat hlt3) | fail)
        have bA := (Below.refl w2.heap.size w2).alloc (Nat.le_refl _) (.cells #[.string nm, .string vl] 66)
        have S4 := hideT ((S3.out.below bA).grown (O3.out.alloc _) (by decide) (by decide) hgrow)
        have K4 : Hid (Keep (SS sb mb hv) w w3) := (K3.out.trans (Keep.of_below bA)).on (Keep.grown hgrow) (fun i hi e => by have := (own_lt O3.out e).2; omega)
        have O4 : Hid (w3.ownsRow w.heap.size 66 2 (.slice (some ⟨gb, 0, none⟩) (s.2.2.length + 1) cap2) (s.2.2 ++ [(nm, vl)]).length (flatA (s.2.2 ++ [(nm, vl)]))) := by
          show World.ownsRow _ _ _ _ _ _ _
          rw [flatA_app, List.length_append]
          exact hown
        refine ⟨⟨k + 1, by omega, by go_num, (s.1, s.2.1, s.2.2 ++ [(nm, vl)]), hv', EE, K4, S4, G1, O4, by simp only [List.length_append, List.length_singleton]; omega⟩, ?_⟩
        first | omega | (simp [intOf]; omega)
      have u1 : ¬ pre.toList = [] := (tl_empty hP).1
      have u2 : pre.toList.isEmpty = false := (tl_empty hP).2
      have HNP := hideT hP
      clear hP
      by_cases hX : pre = xmlnsB
      · obtain ⟨v, hv0⟩ : ∃ v, mayB loc vl = v := ⟨_, rfl⟩
        have HMV := hideT hv0
        have HX := hideT hX
        clear hv0
        subst hX
        cases v with
        | true =>
          have ES : Hid (stepP s (nm, vl) = some (upd s.1 loc (vl, true), s.2.1 ++ [(loc, s.1 loc)], s.2.2)) := by
            show _ = _
            unfold stepP
            rw [if_neg HNA.out, HSP.out, if_neg HNP.out, if_pos ⟨rfl, HMV.out⟩]
          have EE : Hid (enterP (G, [], []) l = enterP (upd s.1 loc (vl, true), s.2.1 ++ [(loc, s.1 loc)], s.2.2) (l.drop (k + 1))) := by
            show _ = _
            rw [E1.out, HD.out, enter_step _ ES.out]
          go_wp2_with fail
          refine (mayD loc vl w1).mono ?_
          rw [HMV.out]
          rintro e w2 ⟨rfl, rfl⟩
          go_wp2_with fail
          refine (declareD _ B sb mb _ hv' _ s.1 loc vl S2.out (by omega) hzv (by omega) (by rw [List.length_append]; omega)).mono ?_
          rintro e w3 ⟨rfl, k3, hv'', s3, g3⟩
          have S3 := hideT (snoc_in s3)
          have K3 := hideT (K2.out.on k3 (SS_grew G1.out))
          have G3 := hideT (G1.out.trans K2.out.size g3)
          have O3 := hideT (S2.out.rowKeep O2.out (by decide) (by decide) k3)
          clear k3 s3 g3 y0 y1
          go_wp2_with fail
          go_roundw
          case rel => exact ⟨k + 1, by omega, by go_num, _, hv'', EE, K3, S3, G3, O3, by simp only [List.length_append, List.length_singleton]; omega⟩
          case measure => simp [intOf]; omega
        | false =>
          have EE : Hid (enterP (G, [], []) l = none) := by
            show _ = _
            rw [E1.out, HD.out]
            refine enter_stop _ ?_
            unfold stepP
            rw [if_neg HNA.out, HSP.out, if_neg HNP.out, if_neg (fun e => by have := e.2; rw [HMV.out] at this; cases this)]
          go_wp2_with fail
          refine (mayD loc vl w1).mono ?_
          rw [HMV.out]
          rintro e w2 ⟨rfl, rfl⟩
          go_wp2_with fail
          go_ret2
          exact ⟨K2.out, fun _ => ⟨rfl, _, _, _, _, S2.out⟩, fun s h => by rw [EE.out] at h; cases h⟩
      · have EE : Hid (enterP (G, [], []) l = none) := by
          show _ = _
          rw [E1.out, HD.out]
          refine enter_stop _ ?_
          unfold stepP
          rw [if_neg HNA.out, HSP.out, if_neg HNP.out, if_neg (fun e => hX e.1)]
        have v1 : ¬ pre.toList = [120, 109, 108, 110, 115] := tl_ne xmlnsB _ hX rfl
        have v2 : (pre.toList == [120, 109, 108, 110, 115]) = false := tl_beq xmlnsB _ hX rfl
        go_wp2_with fail
        go_ret2
        exact ⟨K2.out, fun _ => ⟨rfl, _, _, _, _, S2.out⟩, fun s h => by rw [EE.out] at h; cases h⟩
    · have EE : Hid (enterP (G, [], []) l = some s) := by
        show _ = _
        rw [E1.out, List.drop_eq_nil_of_le (by have := HM.out; omega)]
        rfl
      go_wp2_with fail
      go_ret2
      refine ⟨K1.out, fun h => (by rw [EE.out] at h; cases h), fun s' h => ?_⟩
      rw [EE.out] at h
      cases h
      exact ⟨_, hv', rfl, S1.out, G1.out, O1.out⟩
end Go.Proofs.YtjfonpbnohbpfaaGreatDoor
/-
  The program's leave: what was declared is taken back, the last first.
-/
set_option linter.unusedSimpArgs false
set_option linter.unusedVariables false
namespace Go.Proofs.YtjfonpbnohbpfaaGreatDoor
open Go.RowKit
theorem flatH_last (L : List Hide) (x : Hide) : (flatH (L ++ [x]))[L.length * 3]? = some (.string x.1) ∧ (flatH (L ++ [x]))[L.length * 3 + 1]? = some (.string x.2.1) ∧ (flatH (L ++ [x]))[L.length * 3 + 2]? = some (.bool x.2.2) := by
  rw [flatH_app, ← flatH_len L]
  refine ⟨?_, ?_, ?_⟩
  · rw [List.getElem?_append_right (by omega), Nat.sub_self]; rfl
  · rw [List.getElem?_append_right (by omega), Nat.add_sub_cancel_left]; rfl
  · rw [List.getElem?_append_right (by omega), Nat.add_sub_cancel_left]; rfl
theorem own_shrinkH {w : World} {H g cap : Nat} {L : List Hide} {x : Hide} (h : w.ownsRow H 154 3 (.slice (some ⟨g, 0, none⟩) (L.length + 1) cap) (L.length + 1) (flatH (L ++ [x]))) : w.ownsRow H 154 3 (.slice (some ⟨g, 0, none⟩) L.length cap) L.length (flatH L) := by
  obtain ⟨cap', cur, hv, h1, h2, h3, h5, h6, h4⟩ := own_heap h rfl
  simp only [Value.slice.injEq, true_and] at hv
  subst hv
  refine ⟨by rw [flatH_len], .inr ⟨g, cap, cur, rfl, h1, h2, by omega, h5, h6, ?_⟩⟩
  have h7 : List.take (L.length * 3) (cur.toList.take ((L.length + 1) * 3)) = List.take (L.length * 3) (flatH (L ++ [x])) := by rw [h4]
  rw [List.take_take, Nat.min_eq_left (by omega)] at h7
  rw [h7, flatH_app, ← flatH_len L, List.take_left]
theorem snoc_cases {α : Type} (Q : List α) : Q = [] ∨ ∃ Q' x, Q = Q' ++ [x] := by
  rcases List.eq_nil_or_concat Q with h | ⟨Q', x, h⟩
  · exact .inl h
  · exact .inr ⟨Q', x, by rw [h, List.concat_eq_append]⟩
def lenAt (w : World) (sb : Nat) : Nat := match w.cell? ⟨sb, 1, none⟩ with
  | some (.slice _ n _) => n
  | _ => 0
theorem lenAt_of {w : World} {B sb mb n : Nat} {ad : Option Addr} {m cap : Nat} {L : List Hide} {G : Env} (h : SIn w B sb mb n (.slice ad m cap) L G) : lenAt w sb = m := by
  unfold lenAt
  rw [h.lies.cell 1]
  rfl
set_option maxHeartbeats 4000000 in
theorem leaveD (w : World) (B sb mb n : Nat) (hv : Value) (L P : List Hide) (G : Env) (h : SIn w B sb mb n hv (L ++ P) G) (hn : n + P.length ≤ 1000000000) (hL : L.length + P.length ≤ 1000000000) :
    Calls Tryz.prog 70 #[.pointer (some ⟨sb, 0, none⟩), .int .i64 L.length] w fun e w' => e = .returned (.tuple #[]) ∧ Keep (SS sb mb hv) w w' ∧
      ∃ hv', SIn w' B sb mb (n + P.length) hv' L (undo P G) ∧ Grew w hv hv' := by
  obtain ⟨ad, cap, hf⟩ := slice_form h.row
  subst hf
  have HS := hideT h
  clear h
  go_enter Tryz.func70, Tryz.ntmps70
  go_wp2_with fail
  go_loopw [] (fun wr => ∃ (Q : List Hide) (G' : Env) (m c : Nat), Hid (SIn wr B sb mb m (.slice ad (L ++ Q).length c) (L ++ Q) G') ∧ Hid (undo Q G' = undo P G) ∧ m + Q.length = n + P.length ∧ Q.length ≤ P.length ∧ Hid (Keep (SS sb mb (.slice ad (L ++ P).length cap)) w wr)) (fun wr => lenAt wr sb)
  case atStart => exact ⟨P, G, n, cap, HS, rfl, rfl, Nat.le_refl _, Keep.refl _ _⟩
  case round =>
    obtain ⟨Q, G', m, c, S1, U1, hm, hq, K1⟩ := hrel
    have x0 : wr.cell? ⟨sb, 0, none⟩ = some (.map (some mb)) := S1.out.lies.cell 0
    have x1 : wr.cell? ⟨sb, 1, none⟩ = some (.slice ad (L ++ Q).length c) := S1.out.lies.cell 1
    have f1 : wr.frozen? ⟨sb, 1, none⟩ = false := S1.out.lies.free 1
    rcases snoc_cases Q with rfl | ⟨Q', x, rfl⟩
    · have hll : (L ++ ([] : List Hide)).length = L.length := by rw [List.append_nil]
      rw [hll] at x1
      go_wp2_with fail
      first | go_end0 | refine bodyPost_ret (results_none rfl _ _ _) rfl ?_
      have S2 := S1.out
      rw [List.append_nil, show m = n + P.length from hm, show G' = undo P G from U1.out] at S2
      exact ⟨rfl, K1.out, _, S2, .inl (by cases ad <;> rfl)⟩
    · obtain ⟨g, hg⟩ : ∃ g, ad = some ⟨g, 0, none⟩ := by
        rcases S1.out.row.2 with ⟨h1, h2⟩ | ⟨g, cap', cur, h1, _⟩
        · simp at h2
        · simp only [Value.slice.injEq] at h1
          exact ⟨g, h1.1⟩
      subst hg
      obtain ⟨xk, xs, xb⟩ := x
      have hll : (L ++ (Q' ++ [(xk, xs, xb)])).length = (L ++ Q').length + 1 := by simp; omega
      have R1 := S1.out.row
      rw [← List.append_assoc] at R1
      rw [hll] at x1
      obtain ⟨N, hN⟩ : ∃ N, N = (L ++ Q').length := ⟨_, rfl⟩
      have hN2 : N = L.length + Q'.length := by rw [hN, List.length_append]
      obtain ⟨c0, c1, c2⟩ := flatH_last (L ++ Q') (xk, xs, xb)
      have R2 : Hid (wr.ownsRow B 154 3 (.slice (some ⟨g, 0, none⟩) (N + 1) c) (N + 1) (flatH ((L ++ Q') ++ [(xk, xs, xb)]))) := by
        have e : (L ++ Q' ++ [(xk, xs, xb)]).length = N + 1 := by rw [hN, List.length_append]; rfl
        rw [e] at R1
        exact R1
      have y0 := own_cell R2.out c0
      have y1 := own_cell R2.out c1
      have y2 := own_cell R2.out c2
      rw [← hN] at x1 y0 y1 y2
      obtain ⟨M, hM⟩ : ∃ M, M = N + 1 := ⟨_, rfl⟩
      rw [← hM] at x1
      have HMm := hideT hM
      have HN := hideT hN
      have HN2 := hideT hN2
      have hNb : N ≤ 1000000000 := by simp at hq; omega
      have hMb : M ≤ 1000000001 := by omega
      have hgt : (L.length : Int) < (M : Int) := by omega
      have t1 : IntKind.i64.wrap ((M : Int) - 1) = (N : Int) := by rw [IntKind.wrap_i64]; omega
      have t2 : (0 : Int) ≤ (N : Int) := by omega
      have t3 : (N : Int) < (M : Int) := by omega
      have t4 : (N : Int) ≤ (c : Int) := by
        rcases R2.out.2 with ⟨h1, _⟩ | ⟨g', cap', cur, h1, _, _, h3, _⟩
        · cases h1
        · simp only [Value.slice.injEq] at h1
          omega
      have e0' := World.new_ne wr ⟨sb, 1, none⟩ x1
      have e1' := World.new_ne wr _ y0
      have e2' := World.new_ne wr _ y1
      have e3' := World.new_ne wr _ y2
      clear R1 c0 c1 c2 hN hN2 hll hM
      obtain ⟨W, hW, BW, LW⟩ : ∃ W, (wr.alloc (.cells #[.string xk, .string xs, .bool xb] 154)).drew = W ∧ Below wr.heap.size wr W ∧ Lies W wr.heap.size 154 #[.string xk, .string xs, .bool xb] :=
        ⟨_, rfl, ((Below.refl _ wr).alloc (Nat.le_refl _) _).drew, Lies.new wr _ _⟩
      have HWq := hideT hW
      have BW := hideT BW
      have LW := hideT LW
      have SW := hideT (S1.out.below BW.out)
      clear hW
      go_wp2_with fail
      go_region_held3 (fun w' => w'.cell? ⟨sb, 1, none⟩ = some (.slice (some ⟨g, 0, none⟩) M c) ∧ w'.cell? ⟨g, N * 3, none⟩ = some (.string xk) ∧ w'.cell? ⟨g, N * 3 + 1, none⟩ = some (.string xs) ∧ w'.cell? ⟨g, N * 3 + 2, none⟩ = some (.bool xb)) (go_keep) (fail)
      rw [HWq.out]
      clear x0 x1 f1 y0 y1 y2 e0' e1' e2' e3'
      have x1 : W.cell? ⟨sb, 1, none⟩ = some (.slice (some ⟨g, 0, none⟩) M c) := by
        have := SW.out.lies.cell 1
        rw [show (L ++ (Q' ++ [(xk, xs, xb)])).length = M from (by rw [HMm.out, HN.out]; simp; omega)] at this
        exact this
      have f1 : W.frozen? ⟨sb, 1, none⟩ = false := SW.out.lies.free 1
      obtain ⟨X, hX, KX, SX, LX⟩ : ∃ X, (W.setCell ⟨sb, 1, none⟩ (.slice (some ⟨g, 0, none⟩) N c)).drew = X ∧ Keep (SS sb mb (.slice (some ⟨g, 0, none⟩) (L ++ P).length cap)) w X ∧ SIn X B sb mb m (.slice (some ⟨g, 0, none⟩) N c) (L ++ Q') G' ∧ Lies X wr.heap.size 154 #[.string xk, .string xs, .bool xb] := by
        have hsw : sb < wr.heap.size := S1.out.lies.lt
        have hgs : g ≠ sb := fun e => own_ne R2.out S1.out.lies (by decide) (by rw [e]; rfl)
        have r1 : W.ownsRow B 154 3 (.slice (some ⟨g, 0, none⟩) N c) N (flatH (L ++ Q')) := by
          have r0 := R2.out
          rw [HN.out] at r0 ⊢
          exact own_keep (w' := W) (own_shrinkH r0) (fun g' hg' => BW.out.block g' (own_lt (own_shrinkH r0) hg').1)
        refine ⟨_, rfl, ((K1.out.trans (Keep.of_below BW.out)).trans (Keep.set _ ⟨sb, 1, none⟩ _ (.inl rfl))).trans (Keep.of_below (Below.refl _ _).drew), ⟨SW.out.lies.set 1 _, ?_, ?_, SW.out.sB, SW.out.mB, fun h hh => SW.out.small h (by rcases List.mem_append.1 hh with hh | hh; exact List.mem_append_left _ hh; exact List.mem_append_right _ (List.mem_append_left _ hh))⟩, LW.out.off _ _ (by show wr.heap.size ≠ sb; omega)⟩
        · rw [← HN.out]
          exact own_keep r1 (fun g' hg' => Below.heap_setCell _ _ _ _ (fun e => hgs ((Option.some.inj hg').trans e)))
        · exact SW.out.map.keep (Below.heap_setCell _ _ _ _ (fun e => SW.out.map.ne SW.out.lies e.symm))
      have HXq := hideT hX
      have KX := hideT KX
      have SX := hideT SX
      have LX := hideT LX
      clear hX
      go_wp2_with fail
      go_region
      rw [HXq.out]
      clear x1 f1
      have x0 : X.cell? ⟨sb, 0, none⟩ = some (.map (some mb)) := SX.out.lies.cell 0
      have l0 : X.cell? ⟨wr.heap.size, 0, none⟩ = some (.string xk) := LX.out.cell 0
      have l1 : X.cell? ⟨wr.heap.size, 1, none⟩ = some (.string xs) := LX.out.cell 1
      have l2 : X.cell? ⟨wr.heap.size, 2, none⟩ = some (.bool xb) := LX.out.cell 2
      have hxk : xk.size ≤ 1000000 := S1.out.small (xk, xs, xb) (by simp)
      have hmm : m ≤ 1000000000 := by omega
      obtain ⟨w9, hup, M9, gr9⟩ := (SX.out.below (Below.refl _ X).drew).map.store hmm xk hxk (xs, xb)
      obtain ⟨S9, K9⟩ := store_named (SX.out.below (Below.refl _ X).drew) M9 gr9
      have S9 := hideT S9
      have K9 : Hid (Keep (SS sb mb (.slice (some ⟨g, 0, none⟩) (L ++ P).length cap)) w w9) := (KX.out.trans (Keep.of_below (Below.refl _ X).drew)).on K9 (fun i _ e => .inr (.inl e))
      clear M9 gr9
      go_wp2_with fail
      go_region
      go_wp2_with fail
      go_roundw
      case rel =>
        have S10 := S9.out
        rw [HN.out] at S10
        refine ⟨Q', _, m + 1, c, S10, (by show _ = _; rw [← U1.out, undo_snoc]), (by simp at hm; omega), (by simp at hq; omega), K9⟩
      case measure =>
        have S10 := S9.out
        rw [lenAt_of S10, lenAt_of S1.out, HN.out]
        simp
end Go.Proofs.YtjfonpbnohbpfaaGreatDoor
/-
  Resolved elements in memory, as trees.
-/
set_option linter.unusedSimpArgs false
set_option linter.unusedVariables false
namespace Go.Proofs.YtjfonpbnohbpfaaGreatDoor
open Go.RowKit
/-- Five cells of a resolved element. -/
def Five (w : World) (b o : Nat) (c0 c1 c2 c3 c4 : Value) : Prop :=
  w.cell? ⟨b, o, none⟩ = some c0 ∧ w.cell? ⟨b, o + 1, none⟩ = some c1 ∧ w.cell? ⟨b, o + 2, none⟩ = some c2 ∧ w.cell? ⟨b, o + 3, none⟩ = some c3 ∧ w.cell? ⟨b, o + 4, none⟩ = some c4
def NInR (w : World) (R : Nat → Prop) : Nat → Value → Value → Value → Value → Value → Tr → Prop
  | 0, _, _, _, _, _, _ => False
  | n + 1, c0, c1, c2, c3, c4, T => ∃ (sp lo : ByteArray) (p : Int) (l : List Att) (ks : List Tr), c0 = .string sp ∧ c1 = .string lo ∧ c4 = .int .i64 p ∧ T = mkN sp lo l ks p ∧ ARowR w R c2 l ∧
      ∃ b o, Row c3 ks.length b o ∧ (0 < ks.length → R b) ∧ ks.length ≤ 1000000000000 ∧ ∀ i K, ks[i]? = some K → ∃ d0 d1 d2 d3 d4, Five w b (o + 5 * i) d0 d1 d2 d3 d4 ∧ NInR w R n d0 d1 d2 d3 d4 K
theorem NInR.turn {w w' : World} {R R' : Nat → Prop} (hk' : ∀ k, R k → w'.heap[k]? = w.heap[k]?) (hR : ∀ k, R k → R' k) : ∀ {n : Nat} {c0 c1 c2 c3 c4 : Value} {T : Tr}, NInR w R n c0 c1 c2 c3 c4 T → NInR w' R' n c0 c1 c2 c3 c4 T
  | 0, _, _, _, _, _, _, h => h
  | n + 1, _, _, _, _, _, _, ⟨sp, lo, p, l, ks, h0, h1, h3, hT, ha, b, o, hr, hb, hl, hk⟩ => by
    refine ⟨sp, lo, p, l, ks, h0, h1, h3, hT, ha.turn hk' hR, b, o, hr, fun h => hR _ (hb h), hl, fun i K hK => ?_⟩
    obtain ⟨d0, d1, d2, d3, d4, ⟨f0, f1, f2, f3, f4⟩, he⟩ := hk i K hK
    have h0 : 0 < ks.length := Nat.lt_of_le_of_lt (Nat.zero_le _) (List.getElem?_eq_some_iff.1 hK).1
    have hbb := hk' b (hb h0)
    refine ⟨d0, d1, d2, d3, d4, ⟨?_, ?_, ?_, ?_, ?_⟩, NInR.turn hk' hR he⟩
    · rw [World.cell?_of_block (w := w) (w' := w') (a := ⟨b, o + 5 * i, none⟩) hbb]; exact f0
    · rw [World.cell?_of_block (w := w) (w' := w') (a := ⟨b, o + 5 * i + 1, none⟩) hbb]; exact f1
    · rw [World.cell?_of_block (w := w) (w' := w') (a := ⟨b, o + 5 * i + 2, none⟩) hbb]; exact f2
    · rw [World.cell?_of_block (w := w) (w' := w') (a := ⟨b, o + 5 * i + 3, none⟩) hbb]; exact f3
    · rw [World.cell?_of_block (w := w) (w' := w') (a := ⟨b, o + 5 * i + 4, none⟩) hbb]; exact f4
theorem NInR.below {w w' : World} {n : Nat} {c0 c1 c2 c3 c4 : Value} {T : Tr} (h : NInR w (· < w.heap.size) n c0 c1 c2 c3 c4 T) (hb : Below w.heap.size w w') : NInR w' (· < w'.heap.size) n c0 c1 c2 c3 c4 T :=
  h.turn (fun k hk => hb.block k hk) (fun k hk => Nat.lt_of_lt_of_le hk hb.size)
abbrev Quint := Value × Value × Value × Value × Value
def flatN (L : List Quint) : List Value := L.flatMap fun q => [q.1, q.2.1, q.2.2.1, q.2.2.2.1, q.2.2.2.2]
theorem flatN_cons (q : Quint) (L : List Quint) : flatN (q :: L) = q.1 :: q.2.1 :: q.2.2.1 :: q.2.2.2.1 :: q.2.2.2.2 :: flatN L := rfl
theorem flatN_app (L M : List Quint) : flatN (L ++ M) = flatN L ++ flatN M := by unfold flatN; exact List.flatMap_append
theorem flatN_len (L : List Quint) : (flatN L).length = L.length * 5 := by
  induction L with
  | nil => rfl
  | cons q L ih => rw [flatN_cons]; simp only [List.length_cons, ih]; omega
theorem flatN_get : ∀ {L : List Quint} {i : Nat} {q : Quint}, L[i]? = some q → (flatN L)[5 * i]? = some q.1 ∧ (flatN L)[5 * i + 1]? = some q.2.1 ∧ (flatN L)[5 * i + 2]? = some q.2.2.1 ∧ (flatN L)[5 * i + 3]? = some q.2.2.2.1 ∧ (flatN L)[5 * i + 4]? = some q.2.2.2.2
  | [], i, q, h => by simp at h
  | a :: L, 0, q, h => by
    simp only [List.getElem?_cons_zero, Option.some.injEq] at h
    subst h
    exact ⟨rfl, rfl, rfl, rfl, rfl⟩
  | a :: L, i + 1, q, h => by
    rw [List.getElem?_cons_succ] at h
    obtain ⟨h0, h1, h2, h3, h4⟩ := flatN_get h
    rw [flatN_cons]
    exact ⟨h0, h1, h2, h3, h4⟩
theorem infoN : (Tryz.prog.info? 45).map (fun i => (i.zero, i.size, i.bytes)) = some (some (.agg #[.string ⟨#[]⟩, .string ⟨#[]⟩, .slice none 0 0, .slice none 0 0, .int .i64 0]), 5, 88) := by kernel_rfl
/-- Kids that lie in a row of the program's own. -/
def NRow (w : World) (H : Nat) (R : Nat → Prop) (n : Nat) (kv : Value) (ks : List Tr) : Prop :=
  ∃ qs : List Quint, w.ownsRow H 45 5 kv ks.length (flatN qs) ∧ qs.length = ks.length ∧ ∀ (i : Nat) (q : Quint) (K : Tr), qs[i]? = some q → ks[i]? = some K → NInR w R n q.1 q.2.1 q.2.2.1 q.2.2.2.1 q.2.2.2.2 K
theorem attrs_of {w : World} {H : Nat} {R : Nat → Prop} {av : Value} {l : List Att} (h : w.ownsRow H 66 2 av l.length (flatA l)) (hl : l.length ≤ 1000000000000) (hz : ∀ p ∈ l, p.1.size ≤ 140737488355328 ∧ p.2.size ≤ 140737488355328) (hR : ∀ g, av.ownBlock = some g → R g) : ARowR w R av l := by
  rcases h.2 with ⟨rfl, h0⟩ | ⟨g, cap, cur, hv, h1, h2, h3⟩
  · have : l = [] := List.eq_nil_of_length_eq_zero h0
    subst this
    exact ⟨0, 0, ⟨none, 0, rfl, fun h => absurd h (by decide)⟩, fun h => absurd h (by decide), ⟨hl, hz⟩, fun i p hp => by simp at hp⟩
  · subst hv
    refine ⟨g, 0, ⟨_, _, rfl, fun _ => rfl⟩, fun _ => hR g rfl, ⟨hl, hz⟩, fun i p hp => ?_⟩
    obtain ⟨e0, e1⟩ := flatA_get hp
    simp only [Nat.zero_add]
    exact ⟨own_cell h e0, own_cell h e1⟩
/-- An element whose kids all are resolved: a tree. -/
theorem named_of {w : World} {H : Nat} {R : Nat → Prop} {n : Nat} {sp lo : ByteArray} {av kv : Value} {p : Int} {l : List Att} {ks : List Tr} (ha : ARowR w R av l) (hk : NRow w H R n kv ks) (h2 : ∀ g, kv.ownBlock = some g → R g) (hl : ks.length ≤ 1000000000000) : NInR w R (n + 1) (.string sp) (.string lo) av kv (.int .i64 p) (mkN sp lo l ks p) := by
  obtain ⟨qs, ho, hq, he⟩ := hk
  refine ⟨sp, lo, p, l, ks, rfl, rfl, rfl, rfl, ha, ?_⟩
  rcases ho.2 with ⟨rfl, h0⟩ | ⟨g, cap, cur, hv, _⟩
  · have : ks = [] := List.eq_nil_of_length_eq_zero (by omega)
    subst this
    exact ⟨0, 0, ⟨none, 0, rfl, fun h => absurd h (by decide)⟩, fun h => absurd h (by decide), by simp, fun i p hp => by simp at hp⟩
  · subst hv
    refine ⟨g, 0, ⟨_, _, rfl, fun _ => rfl⟩, fun _ => h2 g rfl, hl, fun i K hK => ?_⟩
    obtain ⟨q, hqi⟩ : ∃ q, qs[i]? = some q := ⟨qs[i]'(by have := (List.getElem?_eq_some_iff.1 hK).1; omega), List.getElem?_eq_getElem _⟩
    obtain ⟨e0, e1, e2, e3, e4⟩ := flatN_get hqi
    simp only [Nat.zero_add]
    exact ⟨q.1, q.2.1, q.2.2.1, q.2.2.2.1, q.2.2.2.2, ⟨own_cell ho e0, own_cell ho e1, own_cell ho e2, own_cell ho e3, own_cell ho e4⟩, he i q K hqi hK⟩
theorem NRow.snoc {w w' : World} {H : Nat} {R R' : Nat → Prop} {n : Nat} {kv kv' : Value} {ks : List Tr} {q : Quint} {K : Tr} {qs : List Quint} (hq : qs.length = ks.length) (he : ∀ (i : Nat) (q : Quint) (K : Tr), qs[i]? = some q → ks[i]? = some K → NInR w' R' n q.1 q.2.1 q.2.2.1 q.2.2.2.1 q.2.2.2.2 K)
    (ho : w'.ownsRow H 45 5 kv' (ks.length + 1) (flatN qs ++ [q.1, q.2.1, q.2.2.1, q.2.2.2.1, q.2.2.2.2])) (hK : NInR w' R' n q.1 q.2.1 q.2.2.1 q.2.2.2.1 q.2.2.2.2 K) : NRow w' H R' n kv' (ks ++ [K]) := by
  refine ⟨qs ++ [q], ?_, by simp [hq], fun i q' K' h1 h2 => ?_⟩
  · rw [flatN_app, List.length_append]
    exact ho
  · rcases Nat.lt_or_ge i qs.length with hi | hi
    · rw [List.getElem?_append_left hi] at h1
      rw [List.getElem?_append_left (by omega)] at h2
      exact he i q' K' h1 h2
    · rw [List.getElem?_append_right hi] at h1
      rw [List.getElem?_append_right (by omega)] at h2
      have hi0 : i - qs.length = 0 := by
        have := (List.getElem?_eq_some_iff.1 h1).1
        simp at this
        omega
      rw [hi0] at h1
      rw [show i - ks.length = 0 by omega] at h2
      simp only [List.getElem?_cons_zero, Option.some.injEq] at h1 h2
      subst h1
      subst h2
      exact hK
end Go.Proofs.YtjfonpbnohbpfaaGreatDoor
/-
  Trees that are done, while others are made: what stays.
-/
set_option linter.unusedSimpArgs false
set_option linter.unusedVariables false
namespace Go.Proofs.YtjfonpbnohbpfaaGreatDoor
open Go.RowKit
theorem step_sub {s s' : St} {a : Att} (h : stepP s a = some s') : ∀ p ∈ s'.2.2, p ∈ s.2.2 ∨ p = a := by
  unfold stepP at h
  split at h
  · cases h
    exact fun p hp => .inl hp
  · split at h
    · cases h
      intro p hp
      rcases List.mem_append.1 hp with hp | hp
      · exact .inl hp
      · exact .inr (List.mem_singleton.1 hp)
    · split at h
      · cases h
        exact fun p hp => .inl hp
      · cases h
theorem enter_sub : ∀ {l : List Att} {s s' : St}, enterP s l = some s' → ∀ p ∈ s'.2.2, p ∈ s.2.2 ∨ p ∈ l
  | [], s, s', h => by cases h; exact fun p hp => .inl hp
  | a :: l, s, s', h => by
    cases hs : stepP s a with
    | none => rw [enter_stop l hs] at h; cases h
    | some t =>
      rw [enter_step l hs] at h
      intro p hp
      rcases enter_sub h p hp with h1 | h1
      · rcases step_sub hs p h1 with h2 | h2
        · exact .inl h2
        · exact .inr (by rw [h2]; exact List.mem_cons_self)
      · exact .inr (List.mem_cons_of_mem _ h1)
theorem kids_snoc (f : Tr → Except Int Tr) (K : Tr) : ∀ (l : List Tr) (xs : List Tr), kidsP f l = .ok xs → ∀ N, f K = .ok N → kidsP f (l ++ [K]) = .ok (xs ++ [N])
  | [], xs, h, N, hN => by
    cases h
    simp only [List.nil_append, kidsP, hN]
  | a :: l, xs, h, N, hN => by
    simp only [kidsP] at h
    cases ha : f a with
    | error e => rw [ha] at h; cases h
    | ok x =>
      rw [ha] at h
      cases hl : kidsP f l with
      | error e => rw [hl] at h; cases h
      | ok ys =>
        rw [hl] at h
        cases h
        simp only [List.cons_append, kidsP, ha, kids_snoc f K l ys hl N hN]
theorem kids_err (f : Tr → Except Int Tr) (K : Tr) (q : Int) (hK : f K = .error q) (r : List Tr) : ∀ (l : List Tr) (xs : List Tr), kidsP f l = .ok xs → kidsP f (l ++ K :: r) = .error q
  | [], xs, h => by simp only [List.nil_append, kidsP, hK]
  | a :: l, xs, h => by
    simp only [kidsP] at h
    cases ha : f a with
    | error e => rw [ha] at h; cases h
    | ok x =>
      rw [ha] at h
      cases hl : kidsP f l with
      | error e => rw [hl] at h; cases h
      | ok ys => simp only [List.cons_append, kidsP, ha, kids_err f K q hK r l ys hl]
theorem take_snoc {α : Type} {l : List α} {j : Nat} {a : α} (h : l[j]? = some a) : l.take (j + 1) = l.take j ++ [a] := by
  rw [List.take_add_one, h]
  rfl
theorem take_drop_at {α : Type} {l : List α} {j : Nat} {a : α} (h : l[j]? = some a) : l = l.take j ++ a :: l.drop (j + 1) := by
  rw [← drop_at h, List.take_append_drop]
theorem NRow.turn {w w' : World} {H : Nat} {R R' : Nat → Prop} {n : Nat} {kv : Value} {ks : List Tr} (h : NRow w H R n kv ks) (ho : ∀ g, kv.ownBlock = some g → w'.heap[g]? = w.heap[g]?) (hk : ∀ k, R k → w'.heap[k]? = w.heap[k]?) (hR : ∀ k, R k → R' k) : NRow w' H R' n kv ks := by
  obtain ⟨qs, h1, h2, h3⟩ := h
  exact ⟨qs, own_keep h1 ho, h2, fun i q K e1 e2 => (h3 i q K e1 e2).turn hk hR⟩
/-- Blocks of trees that are done: new since w, and none of the rows' that still grow, nor the answer's. -/
def DoneK (w wr : World) (hv kv : Value) (nb : Nat) (k : Nat) : Prop := w.heap.size + 2 ≤ k ∧ k < wr.heap.size ∧ hv.ownBlock ≠ some k ∧ kv.ownBlock ≠ some k ∧ k ≠ nb
theorem Grew.other {w : World} {v v' : Value} (h : Grew w v v') {k : Nat} (hk : k < w.heap.size) (hv : v.ownBlock ≠ some k) : v'.ownBlock ≠ some k := by
  rcases h with h | ⟨g, h, hg⟩
  · rw [h]; exact hv
  · rw [h]
    intro e
    have := Option.some.inj e
    omega
theorem doneK_call {w wr U w4 : World} {sb mb : Nat} {hv hv' kv : Value} {nb : Nat} (hU : Below wr.heap.size wr U) (k4 : Keep (SS sb mb hv) U w4) (g : Grew U hv hv') (hs : sb < w.heap.size) (hm : mb < w.heap.size) {k : Nat} (h : DoneK w wr hv kv nb k) : w4.heap[k]? = wr.heap[k]? ∧ DoneK w w4 hv' kv nb k := by
  obtain ⟨h1, h2, h3, h4, h5⟩ := h
  have hkU : k < U.heap.size := Nat.lt_of_lt_of_le h2 hU.size
  refine ⟨?_, h1, Nat.lt_of_lt_of_le hkU k4.size, g.other hkU h3, h4, h5⟩
  rw [k4.block k hkU (by rintro (e | e | e); omega; omega; exact h3 e), hU.block k h2]
theorem doneK_append {w w4 w6 w7 X : World} {hv kv kv' : Value} {nb g : Nat} (hB : Below w4.heap.size w4 w6) (hgrow : w6.grownBy w7 kv.ownBlock) (hat : kv.ownBlock = some g ∨ g = w6.heap.size) (hkv' : kv'.ownBlock = some g) (hX : ∀ k, k ≠ nb → X.heap[k]? = w7.heap[k]?) (hXs : w7.heap.size ≤ X.heap.size) {k : Nat} (h : DoneK w w4 hv kv nb k) : X.heap[k]? = w4.heap[k]? ∧ DoneK w X hv kv' nb k := by
  obtain ⟨h1, h2, h3, h4, h5⟩ := h
  have hk6 : k < w6.heap.size := Nat.lt_of_lt_of_le h2 hB.size
  refine ⟨?_, h1, Nat.lt_of_lt_of_le hk6 (Nat.le_trans hgrow.size hXs), h3, ?_, h5⟩
  · rw [hX k h5, hgrow.block k hk6 (fun e => h4 e.symm), hB.block k h2]
  · rw [hkv']
    intro e
    have e := Option.some.inj e
    rcases hat with h6 | h6
    · rw [h6, e] at h4
      exact h4 rfl
    · omega
theorem EIn.form {w : World} : ∀ {n : Nat} {c0 c1 c2 c3 : Value} {T : Tr}, EIn w n c0 c1 c2 c3 T → ∃ nm a an ac k kn kc p, c0 = .string nm ∧ c1 = .slice a an ac ∧ c2 = .slice k kn kc ∧ c3 = .int .i64 p
  | 0, _, _, _, _, _, h => h.elim
  | n + 1, _, _, _, _, _, ⟨nm, p, l, ks, h0, h3, _, _, ⟨_, _, ⟨a, ac, h1, _⟩, _⟩, _, _, ⟨k, kc, h2, _⟩, _⟩ => ⟨nm, a, _, ac, k, _, kc, p, h0, h1, h2, h3⟩
theorem NInR.form {w : World} {R : Nat → Prop} : ∀ {n : Nat} {c0 c1 c2 c3 c4 : Value} {T : Tr}, NInR w R n c0 c1 c2 c3 c4 T → ∃ sp lo a an ac k kn kc p, c0 = .string sp ∧ c1 = .string lo ∧ c2 = .slice a an ac ∧ c3 = .slice k kn kc ∧ c4 = .int .i64 p
  | 0, _, _, _, _, _, _, h => h.elim
  | n + 1, _, _, _, _, _, _, ⟨sp, lo, p, l, ks, h0, h1, h4, _, ⟨_, _, ⟨a, ac, h2, _⟩, _⟩, _, _, ⟨k, kc, h3, _⟩, _⟩ => ⟨sp, lo, a, _, ac, k, _, kc, p, h0, h1, h2, h3, h4⟩
end Go.Proofs.YtjfonpbnohbpfaaGreatDoor
