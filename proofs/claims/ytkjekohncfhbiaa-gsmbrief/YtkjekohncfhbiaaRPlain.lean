/-
  Programs as plain data, and when one may be.
-/
import Derived.Test.YtkjekohncfhbiaaPartA
set_option linter.unusedVariables false
namespace Go.Proofs.Ytkjekohncfhbiaa.Rp
abbrev Lit := Int × Bool
abbrev Rule := Int × List Lit × List Mp.Cond × List Lit
abbrev Ctr := Int × Int × Int
abbrev User := ByteArray × Int × List Lit × Int
structure Prog where
  flags : Int
  lasting : Int
  first : List Int
  over : List Int
  frm : Int
  files : List ByteArray
  rules : List Rule
  ctrs : List Ctr
  users : List User
  notes : List Mp.Item
def InP (f n : Int) : Prop := 0 ≤ f ∧ f < n
def PassP (p : Prog) (f : Int) : Prop := p.lasting ≤ f ∧ f < p.flags
/-- Flags below a number, rising, none twice. -/
def RisP (n : Int) (l : List Int) : Prop := ∀ (i : Nat) x, l[i]? = some x → InP x n ∧ ∀ (j : Nat) y, i = j + 1 → l[j]? = some y → y < x
def FlagsP (p : Prog) : Prop := 0 ≤ p.lasting ∧ p.lasting ≤ p.flags ∧ p.flags ≤ 800 ∧ RisP p.lasting p.first ∧ RisP p.lasting p.over
def StratP (n : Int) : Prop := 1 ≤ n ∧ n ≤ 20
def OnceP (l : List ByteArray) : Prop := ∀ (i j : Nat) s, i < j → l[i]? = some s → l[j]? ≠ some s
def FilesP (l : List ByteArray) : Prop := l.length ≤ 6 ∧ OnceP l
def LitsP (l : List Lit) (n : Int) : Prop := ∀ x ∈ l, InP x.1 n
def CondsP (p : Prog) (l : List Mp.Cond) : Prop := ∀ c ∈ l, Mp.has p.files c.1 = true ∧ Mp.opB c.2.1 = true
def RuleP (p : Prog) (r : Rule) : Prop := LitsP r.2.1 p.flags ∧ CondsP p r.2.2.1 ∧ LitsP r.2.2.2 p.flags ∧ 0 < r.2.2.2.length
def RulesP (p : Prog) : Prop := p.rules.length ≤ 1500 ∧ ∀ (i : Nat) r, p.rules[i]? = some r → StratP r.1 ∧ RuleP p r ∧ ∀ (j : Nat) q, i = j + 1 → p.rules[j]? = some q → q.1 ≤ r.1
def CtrP (p : Prog) (c : Ctr) : Prop := InP c.1 p.lasting ∧ 1 ≤ c.2.1 ∧ c.2.1 ≤ 100 ∧ PassP p c.2.2
def CtrsP (p : Prog) : Prop := ∀ c ∈ p.ctrs, CtrP p c
def UserP (p : Prog) (u : User) : Prop := LitsP u.2.2.1 p.lasting ∧ PassP p u.2.2.2
def UsersP (p : Prog) : Prop := ∀ u ∈ p.users, UserP p u
/-- The stratum of the last rule. -/
def lastS (p : Prog) : Int := match p.rules.getLast? with
  | none => 0
  | some r => r.1
/-- A flag that a rule of a stratum writes is written where it may be. -/
def WriteP (p : Prog) (n f : Int) : Prop := (InP f p.lasting → n = lastS p) ∧ (PassP p f → ∀ q ∈ p.rules, ∀ l ∈ q.2.1, l.1 = f → n < q.1)
def StrataP (p : Prog) : Prop := ∀ r ∈ p.rules, ∀ s ∈ r.2.2.2, WriteP p r.1 s.1
def IsP (p : Prog) : Prop := FlagsP p ∧ StratP p.frm ∧ FilesP p.files ∧ RulesP p ∧ CtrsP p ∧ UsersP p ∧ StrataP p
/-- A row that rises and has just these. -/
def Sets (l : List Int) (S : Int → Prop) : Prop := l.Pairwise (· < ·) ∧ ∀ x, x ∈ l ↔ S x
def ReadsS (p : Prog) (f x : Int) : Prop := ∃ r ∈ p.rules, r.1 = x ∧ ∃ l ∈ r.2.1, l.1 = f
def WritesS (p : Prog) (f x : Int) : Prop := ∃ r ∈ p.rules, r.1 = x ∧ ∃ l ∈ r.2.2.2, l.1 = f
theorem sets_one {S : Int → Prop} : ∀ {a b : List Int}, Sets a S → Sets b S → a = b := by
  intro a b h k
  have hm : ∀ x, x ∈ a ↔ x ∈ b := fun x => (h.2 x).trans (k.2 x).symm
  have h1 := h.1
  have k1 := k.1
  clear h k
  induction a generalizing b with
  | nil =>
    cases b with
    | nil => rfl
    | cons y b => exact absurd ((hm y).2 List.mem_cons_self) (by simp)
  | cons x a ih =>
    cases b with
    | nil => exact absurd ((hm x).1 List.mem_cons_self) (by simp)
    | cons y b =>
      rw [List.pairwise_cons] at h1 k1
      have exy : x = y := by
        rcases List.mem_cons.1 ((hm x).1 List.mem_cons_self) with e | e
        · exact e
        · rcases List.mem_cons.1 ((hm y).2 List.mem_cons_self) with e' | e'
          · exact e'.symm
          · have := h1.1 y e'
            have := k1.1 x e
            omega
      subst exy
      rw [ih (b := b) (fun z => ?_) h1.2 k1.2]
      constructor
      · intro hz
        rcases List.mem_cons.1 ((hm z).1 (List.mem_cons_of_mem _ hz)) with e | e
        · have := h1.1 z hz
          omega
        · exact e
      · intro hz
        rcases List.mem_cons.1 ((hm z).2 (List.mem_cons_of_mem _ hz)) with e | e
        · have := k1.1 z hz
          omega
        · exact e
theorem lastS_at {p : Prog} {k : Nat} {r : Rule} (h : p.rules[k]? = some r) (hk : p.rules.length = k + 1) : lastS p = r.1 := by
  unfold lastS
  rw [List.getLast?_eq_getElem?, show p.rules.length - 1 = k by omega, h]
theorem lits_at {l : List Lit} {n : Int} {k : Nat} {x : Lit} (h : l[k]? = some x) (hx : ¬ InP x.1 n) : ¬ LitsP l n := fun H => hx (H x (List.mem_of_getElem? h))
theorem all_of {α : Type} {l : List α} {P : α → Prop} (h : ∀ (j : Nat) x, l[j]? = some x → P x) : ∀ x ∈ l, P x := fun x hx => by
  obtain ⟨j, hj⟩ := List.getElem?_of_mem hx
  exact h j x hj
/-- A step of 'all so far'. -/
theorem all_step {α : Type} {l : List α} {P : Nat → α → Prop} {k : Nat} {x : α} (h : ∀ (j : Nat) y, j < k → l[j]? = some y → P j y) (hx : l[k]? = some x) (hp : P k x) : ∀ (j : Nat) y, j < k + 1 → l[j]? = some y → P j y := by
  intro j y hj hy
  by_cases hjk : j < k
  · exact h j y hjk hy
  · obtain rfl : j = k := by omega
    rw [hx] at hy
    cases hy
    exact hp
theorem all_done {α : Type} {l : List α} {P : Nat → α → Prop} {k : Nat} (h : ∀ (j : Nat) y, j < k → l[j]? = some y → P j y) (hk : l.length ≤ k) : ∀ (j : Nat) y, l[j]? = some y → P j y := fun j y hy => h j y (by have := (List.getElem?_eq_some_iff.1 hy).1; omega) hy
theorem all_none {α : Type} {l : List α} {P : Nat → α → Prop} : ∀ (j : Nat) y, j < 0 → l[j]? = some y → P j y := fun j y hj => absurd hj (by omega)
end Go.Proofs.Ytkjekohncfhbiaa.Rp
