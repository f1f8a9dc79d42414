/-
  PLAIN: what attributes declare; what is taken back; what an element is resolved to.
-/
import Derived.Test.YthbkipmimkepkabSScope
set_option linter.unusedSimpArgs false
set_option linter.unusedVariables false
namespace Go.Proofs.Ythbkipmimkepkab
open Go.RowKit
abbrev Att := ByteArray × ByteArray
abbrev St := Env × List Hide × List Att
def stepP (s : St) (a : Att) : Option St :=
  if a.1 = xmlnsB then some (upd s.1 e0 (a.2, true), s.2.1 ++ [(e0, s.1 e0)], s.2.2)
  else if (splitB a.1).1 = e0 then some (s.1, s.2.1, s.2.2 ++ [a])
  else if (splitB a.1).1 = xmlnsB ∧ mayB (splitB a.1).2 a.2 = true then some (upd s.1 (splitB a.1).2 (a.2, true), s.2.1 ++ [((splitB a.1).2, s.1 (splitB a.1).2)], s.2.2)
  else none
def enterP : St → List Att → Option St
  | s, [] => some s
  | s, a :: l => match stepP s a with
    | none => none
    | some s' => enterP s' l
theorem enter_step {s s' : St} {a : Att} (l : List Att) (h : stepP s a = some s') : enterP s (a :: l) = enterP s' l := by
  simp only [enterP, h]
theorem enter_stop {s : St} {a : Att} (l : List Att) (h : stepP s a = none) : enterP s (a :: l) = none := by
  simp only [enterP, h]
def undo : List Hide → Env → Env
  | [], G => G
  | h :: L, G => upd (undo L G) h.1 h.2
theorem undo_snoc (h : Hide) : ∀ (L : List Hide) (G : Env), undo (L ++ [h]) G = undo L (upd G h.1 h.2)
  | [], G => rfl
  | a :: L, G => by
    show upd (undo (L ++ [h]) G) a.1 a.2 = upd (undo L (upd G h.1 h.2)) a.1 a.2
    rw [undo_snoc h L G]
theorem step_undo {s s' : St} {a : Att} (h : stepP s a = some s') : undo s'.2.1 s'.1 = undo s.2.1 s.1 := by
  unfold stepP at h
  split at h
  · cases h
    rw [undo_snoc, upd_back]
  · split at h
    · cases h
      rfl
    · split at h
      · cases h
        rw [undo_snoc, upd_back]
      · cases h
theorem step_len {s s' : St} {a : Att} (h : stepP s a = some s') : s'.2.1.length + s'.2.2.length = s.2.1.length + s.2.2.length + 1 := by
  unfold stepP at h
  split at h
  · cases h
    simp only [List.length_append, List.length_singleton]
    omega
  · split at h
    · cases h
      simp only [List.length_append, List.length_singleton]
      omega
    · split at h
      · cases h
        simp only [List.length_append, List.length_singleton]
        omega
      · cases h
theorem enter_undo : ∀ {l : List Att} {s s' : St}, enterP s l = some s' → undo s'.2.1 s'.1 = undo s.2.1 s.1
  | [], s, s', h => by cases h; rfl
  | a :: l, s, s', h => by
    cases hs : stepP s a with
    | none => rw [enter_stop l hs] at h; cases h
    | some t =>
      rw [enter_step l hs] at h
      rw [enter_undo h, step_undo hs]
theorem enter_len : ∀ {l : List Att} {s s' : St}, enterP s l = some s' → s'.2.1.length + s'.2.2.length = s.2.1.length + s.2.2.length + l.length
  | [], s, s', h => by cases h; rfl
  | a :: l, s, s', h => by
    cases hs : stepP s a with
    | none => rw [enter_stop l hs] at h; cases h
    | some t =>
      rw [enter_step l hs] at h
      have h1 := enter_len h
      have h2 := step_len hs
      simp only [List.length_cons]
      omega
/-- A resolved element. -/
def mkN (sp lo : ByteArray) (l : List Att) (ks : List Tr) (p : Int) : Tr := .agg [.lit (.string sp.data.toList), .lit (.string lo.data.toList), .slice (l.map Xp.pairD) [], .slice ks [], .lit (.int .i64 p)]
def ofB (l : List UInt8) : ByteArray := ⟨l.toArray⟩
theorem ofB_data (s : ByteArray) : ofB s.data.toList = s := by
  obtain ⟨⟨x⟩⟩ := s
  rfl
def unpair : Tr → Att
  | .agg [.lit (.string a), .lit (.string b)] => (ofB a, ofB b)
  | _ => (e0, e0)
theorem unpair_mk (p : Att) : unpair (Xp.pairD p) = p := by
  show (ofB p.1.data.toList, ofB p.2.data.toList) = p
  rw [ofB_data, ofB_data]
theorem unpairs : ∀ l : List Att, (l.map Xp.pairD).map unpair = l
  | [] => rfl
  | a :: l => by simp only [List.map_cons, unpair_mk, unpairs l]
/-- Each kid by f; the first that errs. -/
def kidsP (f : Tr → Except Int Tr) : List Tr → Except Int (List Tr)
  | [] => .ok []
  | a :: l => match f a with
    | .error e => .error e
    | .ok x => match kidsP f l with
      | .error e => .error e
      | .ok xs => .ok (x :: xs)
def resT (f : Env → Tr → Except Int Tr) (G : Env) (nm : ByteArray) (l : List Att) (ks : List Tr) (p : Int) : Except Int Tr :=
  match enterP (G, [], []) l with
  | none => .error p
  | some s => if (s.1 (splitB nm).1).2 = true then
      (match kidsP (f s.1) ks with
        | .error e => .error e
        | .ok xs => .ok (mkN (s.1 (splitB nm).1).1 (splitB nm).2 s.2.2 xs p))
    else .error p
def resP : Nat → Env → Tr → Except Int Tr
  | 0, _, _ => .error 0
  | d + 1, G, T => resT (resP d) G (ofB (Xp.nmT T)) ((Xp.asT T).map unpair) (Xp.ksT T) (Xp.atT T)
theorem resP_mk (d : Nat) (G : Env) (nm : ByteArray) (l : List Att) (ks : List Tr) (p : Int) : resP (d + 1) G (Xp.mkT nm l ks p) = resT (resP d) G nm l ks p := by
  show resT (resP d) G (ofB nm.data.toList) ((l.map Xp.pairD).map unpair) ks p = _
  rw [unpairs, ofB_data]
end Go.Proofs.Ythbkipmimkepkab
