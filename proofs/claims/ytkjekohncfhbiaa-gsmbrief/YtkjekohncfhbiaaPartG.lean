/-
  Several texts in one: each opens with its own word.
-/
import Derived.Test.YtkjekohncfhbiaaRPlain
import Derived.Test.YtkjekohncfhbiaaPartB
import Derived.Test.YtkjekohncfhbiaaPartH
import Derived.Test.YtkjekohncfhbiaaMCopy2
import Derived.Laws.CopyRow
import Derived.Laws.CopyOwn
/-
  A program that goes on, as plain data: what is kept of it, a round, rounds, an act.
-/
set_option linter.unusedVariables false
namespace Go.Proofs.Ytkjekohncfhbiaa.Gp
/-- A condition: the place of its number, what it is held against, whether it holds of one below, the same, above. -/
abbrev KC := Int × Int × Bool × Bool × Bool
abbrev KR := List Rp.Lit × List KC × List Rp.Lit
abbrev KS := Int × List KR
/-- What is kept of a program. -/
structure KP where
  lasting : Int
  over : List Int
  frm : Int
  files : List ByteArray
  strata : List KS
  ctrs : List Rp.Ctr
  users : List Rp.User
/-- How all is: flags, numbers, counts. -/
structure St where
  fl : List Bool
  nums : List Int
  cnts : List Int
def atB (l : List Bool) (f : Int) : Bool := l.getD f.toNat false
def atZ (l : List Int) (i : Int) : Int := l.getD i.toNat 0
def lt : ByteArray := ⟨#[60]⟩
def le : ByteArray := ⟨#[60, 61]⟩
def eq : ByteArray := ⟨#[61]⟩
def ne : ByteArray := ⟨#[33, 61]⟩
def ge : ByteArray := ⟨#[62, 61]⟩
def gt : ByteArray := ⟨#[62]⟩
def condOf (files : List ByteArray) (c : Mp.Cond) : KC :=
  (idxZ files c.1, c.2.2, decide (c.2.1 = lt) || decide (c.2.1 = le) || decide (c.2.1 = ne), decide (c.2.1 = le) || decide (c.2.1 = eq) || decide (c.2.1 = ge), decide (c.2.1 = ne) || decide (c.2.1 = ge) || decide (c.2.1 = gt))
def ruleOf (files : List ByteArray) (r : Rp.Rule) : KR := (r.2.1, r.2.2.1.map (condOf files), r.2.2.2)
/-- One more rule, of the last stratum or of a new one. -/
def addR (files : List ByteArray) (l : List KS) (r : Rp.Rule) : List KS :=
  match l.getLast? with
  | none => l ++ [(r.1, [ruleOf files r])]
  | some x => if x.1 = r.1 then l.dropLast ++ [(x.1, x.2 ++ [ruleOf files r])] else l ++ [(r.1, [ruleOf files r])]
def strataOf (files : List ByteArray) (rs : List Rp.Rule) : List KS := rs.foldl (addR files) []
def kept (p : Rp.Prog) : KP := ⟨p.lasting, p.over, p.frm, p.files, strataOf p.files p.rules, p.ctrs, p.users⟩
def litIs (fl : List Bool) (x : Rp.Lit) : Bool := atB fl x.1 == x.2
def holdL (fl : List Bool) (l : List Rp.Lit) : Bool := !(l.any (litIs fl))
def condH (nums : List Int) (c : KC) : Bool := if atZ nums c.1 < c.2.1 then c.2.2.1 else if atZ nums c.1 = c.2.1 then c.2.2.2.1 else c.2.2.2.2
def condN (nums : List Int) (c : KC) : Bool := !condH nums c
def ruleH (fl : List Bool) (nums : List Int) (r : KR) : Bool := holdL fl r.1 && !(r.2.1.any (condN nums))
def setsOf (fl : List Bool) (nums : List Int) (rs : List KR) : List Rp.Lit := (rs.filter (ruleH fl nums)).flatMap fun r => r.2.2
def putF (fl : List Bool) (x : Rp.Lit) : List Bool := fl.set x.1.toNat x.2
def setS (fl : List Bool) (nums : List Int) (x : KS) : List Bool := (setsOf fl nums x.2).foldl putF fl
def strS (frm : Int) (nums : List Int) (fl : List Bool) (x : KS) : List Bool := if frm ≤ x.1 then setS fl nums x else fl
def clearF (n : Nat) (fl : List Bool) : List Bool := fl.take n ++ List.replicate (fl.length - n) false
def roundS (K : KP) (frm : Int) (nums : List Int) (fl : List Bool) : List Bool := clearF K.lasting.toNat (K.strata.foldl (strS frm nums) fl)
/-- Rounds, until one that turns no flag that lasts. -/
def goOn (K : KP) (nums : List Int) : Nat → List Bool → Option (List Bool)
  | 0, _ => none
  | n + 1, fl => if (roundS K 1 nums fl).take K.lasting.toNat = fl.take K.lasting.toNat then some (roundS K 1 nums fl) else goOn K nums n (roundS K 1 nums fl)
def upF (fl : List Bool) (f : Int) : List Bool := fl.set f.toNat true
def firstF (p : Rp.Prog) : List Bool := p.first.foldl upF (List.replicate p.flags.toNat false)
def newP (p : Rp.Prog) : Option St :=
  match goOn (kept p) (List.replicate p.files.length 0) 100 (firstF p) with
  | some fl => some ⟨fl, List.replicate p.files.length 0, List.replicate p.ctrs.length 0⟩
  | none => none
def restS (K : KP) (s t : St) : Int × St :=
  match goOn K t.nums 100 t.fl with
  | some fl => (0, ⟨fl, t.nums, t.cnts⟩)
  | none => (4, s)
def fromS (K : KP) (s t : St) (fs : List Int) : Int × St := restS K s ⟨roundS K K.frm t.nums (fs.foldl upF t.fl), t.nums, t.cnts⟩
def userT (fl : List Bool) (item : ByteArray) (ev : Int) (u : Rp.User) : Bool := decide (u.1 = item) && decide (u.2.1 = ev) && holdL fl u.2.2.1
def userS (K : KP) (s : St) (item : ByteArray) (ev : Int) : Int × St :=
  match K.users.find? (userT s.fl item ev) with
  | some u => fromS K s s [u.2.2.2]
  | none => (if K.users.any (fun u => decide (u.1 = item)) then 8 else 1, s)
def writeS (K : KP) (s : St) (file : ByteArray) (n : Int) : Int × St :=
  if idxZ K.files file < 0 ∨ n < -1000000 ∨ 1000000 < n then (1, s) else restS K s ⟨s.fl, s.nums.set (idxZ K.files file).toNat n, s.cnts⟩
/-- A counter's count behind a tick. -/
def cntT (fl : List Bool) (c : Rp.Ctr) (n : Int) : Int := if atB fl c.1 then min n c.2.1 + 1 else 0
def cntsT (fl : List Bool) : List Rp.Ctr → List Int → List Int
  | c :: cs, n :: ns => cntT fl c n :: cntsT fl cs ns
  | _, _ => []
def dueT (fl : List Bool) : List Rp.Ctr → List Int → List Int
  | c :: cs, n :: ns => if atB fl c.1 && decide (cntT fl c n = c.2.1) then c.2.2 :: dueT fl cs ns else dueT fl cs ns
  | _, _ => []
def tickS (K : KP) (s : St) : Int × St :=
  if 0 < (dueT s.fl K.ctrs s.cnts).length then fromS K s ⟨s.fl, s.nums, cntsT s.fl K.ctrs s.cnts⟩ (dueT s.fl K.ctrs s.cnts) else restS K s ⟨s.fl, s.nums, cntsT s.fl K.ctrs s.cnts⟩
def overS (K : KP) (s : St) : Bool := K.over.any (atB s.fl)
/-- An act: kind, item, event, file, number. -/
structure Act where
  kind : Int
  item : ByteArray
  event : Int
  file : ByteArray
  n : Int
def doS (K : KP) (s : St) (a : Act) : Int × St :=
  if a.kind < 1 ∨ 3 < a.kind then (1, s)
  else if overS K s then (9, s)
  else if a.kind = 1 then userS K s a.item a.event
  else if a.kind = 2 then writeS K s a.file a.n
  else tickS K s
def fileS (K : KP) (s : St) (name : ByteArray) : Int := if idxZ K.files name < 0 then 0 else atZ s.nums (idxZ K.files name)
/-! ### Lengths and bounds -/
theorem putF_len (l : List Rp.Lit) : ∀ (fl : List Bool), (l.foldl putF fl).length = fl.length := by
  induction l with
  | nil => intro fl; rfl
  | cons a l ih => intro fl; rw [List.foldl_cons, ih]; exact List.length_set
theorem upF_len (l : List Int) : ∀ (fl : List Bool), (l.foldl upF fl).length = fl.length := by
  induction l with
  | nil => intro fl; rfl
  | cons a l ih => intro fl; rw [List.foldl_cons, ih]; exact List.length_set
theorem setS_len (fl : List Bool) (nums : List Int) (x : KS) : (setS fl nums x).length = fl.length := putF_len _ _
theorem strS_len (frm : Int) (nums : List Int) (l : List KS) : ∀ (fl : List Bool), (l.foldl (strS frm nums) fl).length = fl.length := by
  induction l with
  | nil => intro fl; rfl
  | cons a l ih =>
    intro fl
    rw [List.foldl_cons, ih]
    unfold strS
    split
    · exact setS_len _ _ _
    · rfl
theorem clearF_len {n : Nat} {fl : List Bool} (h : n ≤ fl.length) : (clearF n fl).length = fl.length := by
  unfold clearF
  rw [List.length_append, List.length_take, List.length_replicate]
  omega
theorem roundS_len {K : KP} {frm : Int} {nums : List Int} {fl : List Bool} (h : K.lasting.toNat ≤ fl.length) : (roundS K frm nums fl).length = fl.length := by
  unfold roundS
  rw [clearF_len (by rw [strS_len]; exact h), strS_len]
theorem goOn_len {K : KP} {nums : List Int} : ∀ (n : Nat) {fl g : List Bool}, K.lasting.toNat ≤ fl.length → goOn K nums n fl = some g → g.length = fl.length
  | 0, fl, g, _, h => by cases h
  | n + 1, fl, g, hl, h => by
    unfold goOn at h
    split at h
    · cases h
      exact roundS_len hl
    · rw [goOn_len n (by rw [roundS_len hl]; exact hl) h, roundS_len hl]
/-- What a condition, a rule, a stratum, all of it asks is there. -/
def LitsIn (F : Nat) (l : List Rp.Lit) : Prop := ∀ x ∈ l, 0 ≤ x.1 ∧ x.1 < (F : Int)
def KCIn (N : Nat) (l : List KC) : Prop := ∀ c ∈ l, 0 ≤ c.1 ∧ c.1 < (N : Int)
def KRIn (F N : Nat) (r : KR) : Prop := (LitsIn F r.1 ∧ KCIn N r.2.1 ∧ LitsIn F r.2.2) ∧ r.2.2.length ≤ 3000
def KSIn (F N : Nat) (l : List KS) : Prop := ∀ x ∈ l, ∀ r ∈ x.2, KRIn F N r
/-- A program that is no more than is looked at. -/
structure SmallP (p : Rp.Prog) : Prop where
  first : p.first.length ≤ 3000
  over : p.over.length ≤ 3000
  ctrs : p.ctrs.length ≤ 3000
  users : p.users.length ≤ 3000
  rules : ∀ r ∈ p.rules, r.2.1.length ≤ 3000 ∧ r.2.2.1.length ≤ 3000 ∧ r.2.2.2.length ≤ 3000
  whiles : ∀ u ∈ p.users, u.2.2.1.length ≤ 3000
  texts : ∀ s ∈ p.files, s.size ≤ 140737488355328
def numR (l : List KS) : Nat := (l.map fun x => x.2.length).sum
theorem numR_mem {l : List KS} {x : KS} (h : x ∈ l) : x.2.length ≤ numR l := by
  induction l with
  | nil => cases h
  | cons a l ih =>
    show _ ≤ a.2.length + numR l
    rcases List.mem_cons.1 h with rfl | h
    · omega
    · have := ih h
      omega
theorem numR_app (a b : List KS) : numR (a ++ b) = numR a + numR b := by
  unfold numR
  rw [List.map_append, List.sum_append]
structure KOk (K : KP) (F : Nat) : Prop where
  las : 0 ≤ K.lasting ∧ K.lasting ≤ (F : Int)
  few : F ≤ 800
  long : K.over.length ≤ 3000 ∧ K.ctrs.length ≤ 3000 ∧ K.users.length ≤ 3000 ∧ K.strata.length ≤ 1500 ∧ ∀ x ∈ K.strata, x.2.length ≤ 1500
  over : ∀ x ∈ K.over, 0 ≤ x ∧ x < (F : Int)
  strata : KSIn F K.files.length K.strata
  ctrs : ∀ c ∈ K.ctrs, (0 ≤ c.1 ∧ c.1 < (F : Int)) ∧ (1 ≤ c.2.1 ∧ c.2.1 ≤ 100) ∧ 0 ≤ c.2.2 ∧ c.2.2 < (F : Int)
  users : ∀ u ∈ K.users, LitsIn F u.2.2.1 ∧ 0 ≤ u.2.2.2 ∧ u.2.2.2 < (F : Int)
  files : K.files.length ≤ 6
theorem condOf_in {files : List ByteArray} {c : Mp.Cond} (h : Mp.has files c.1 = true) : 0 ≤ (condOf files c).1 ∧ (condOf files c).1 < (files.length : Int) := by
  unfold condOf
  have h1 := idxZ_has files c.1
  rw [h] at h1
  refine ⟨of_decide_eq_true h1, ?_⟩
  show idxZ files c.1 < _
  unfold idxZ
  cases hx : Mp.idx files c.1 with
  | none => show (-1 : Int) < _; omega
  | some k =>
    obtain ⟨x, hx1, _⟩ := Mp.find_some_inv (show files.findIdx? (fun t => decide (t = c.1)) = some k from hx)
    have := (List.getElem?_eq_some_iff.1 hx1).1
    show (k : Int) < _
    omega
theorem rule_in {p : Rp.Prog} {r : Rp.Rule} (h : Rp.RuleP p r) (hf : 0 ≤ p.flags) (hl : r.2.2.2.length ≤ 3000) : KRIn p.flags.toNat p.files.length (ruleOf p.files r) := by
  obtain ⟨h1, h2, h3, _⟩ := h
  refine ⟨⟨fun x hx => ?_, fun c hc => ?_, fun x hx => ?_⟩, hl⟩
  · have := h1 x hx
    exact ⟨this.1, by have := this.2; omega⟩
  · obtain ⟨d, hd, rfl⟩ := List.mem_map.1 hc
    exact condOf_in (h2 d hd).1
  · have := h3 x hx
    exact ⟨this.1, by have := this.2; omega⟩
theorem addR_in {F : Nat} {files : List ByteArray} {l : List KS} {r : Rp.Rule} (h : KSIn F files.length l) (hr : KRIn F files.length (ruleOf files r)) : KSIn F files.length (addR files l r) := by
  unfold addR
  have hn : KSIn F files.length (l ++ [(r.1, [ruleOf files r])]) := by
    intro x hx q hq
    rcases List.mem_append.1 hx with hx | hx
    · exact h x hx q hq
    · rw [List.mem_singleton] at hx
      subst hx
      rw [List.mem_singleton] at hq
      subst hq
      exact hr
  split
  · exact hn
  · rename_i x hx
    split
    · intro y hy q hq
      rcases List.mem_append.1 hy with hy | hy
      · exact h y (List.dropLast_subset _ hy) q hq
      · rw [List.mem_singleton] at hy
        subst hy
        rcases List.mem_append.1 hq with hq | hq
        · exact h x (List.mem_of_getLast? hx) q hq
        · rw [List.mem_singleton] at hq
          subst hq
          exact hr
    · exact hn
theorem strata_in {F : Nat} {files : List ByteArray} : ∀ (rs : List Rp.Rule) (l : List KS), KSIn F files.length l → (∀ r ∈ rs, KRIn F files.length (ruleOf files r)) → KSIn F files.length (rs.foldl (addR files) l)
  | [], l, h, _ => h
  | r :: rs, l, h, hr => strata_in rs _ (addR_in h (hr r List.mem_cons_self)) (fun q hq => hr q (List.mem_cons_of_mem _ hq))
theorem addR_num (files : List ByteArray) (l : List KS) (r : Rp.Rule) : numR (addR files l r) = numR l + 1 ∧ (addR files l r).length ≤ l.length + 1 := by
  have hn : numR (l ++ [(r.1, [ruleOf files r])]) = numR l + 1 ∧ (l ++ [(r.1, [ruleOf files r])]).length ≤ l.length + 1 := by
    rw [numR_app, List.length_append]
    exact ⟨rfl, Nat.le_refl _⟩
  unfold addR
  split
  · exact hn
  · rename_i x hx
    split
    · obtain ⟨a, b⟩ := List.getLast?_eq_some_iff.1 hx
      subst b
      rw [List.dropLast_concat, numR_app, numR_app, List.length_append, List.length_append]
      refine ⟨?_, by simp⟩
      show _ + (((x.2 ++ [ruleOf files r]).length) + 0) = _ + (x.2.length + 0) + 1
      rw [List.length_append]
      rfl
    · exact hn
theorem strata_num (files : List ByteArray) : ∀ (rs : List Rp.Rule) (l : List KS), numR (rs.foldl (addR files) l) = numR l + rs.length ∧ (rs.foldl (addR files) l).length ≤ l.length + rs.length
  | [], l => ⟨rfl, Nat.le_refl _⟩
  | r :: rs, l => by
    have h1 := addR_num files l r
    have h2 := strata_num files rs (addR files l r)
    rw [List.foldl_cons, List.length_cons]
    omega
theorem kept_ok {p : Rp.Prog} (h : Rp.IsP p) (hs : SmallP p) : KOk (kept p) p.flags.toNat := by
  obtain ⟨⟨h1, h2, h3, h4, h5⟩, _, hf, hr, hc, hu, _⟩ := h
  have hp : (p.flags.toNat : Int) = p.flags := Int.toNat_of_nonneg (by omega)
  have hnum := strata_num p.files p.rules []
  have hr15 := hr.1
  refine ⟨⟨h1, by rw [hp]; exact h2⟩, by omega, ⟨hs.over, hs.ctrs, hs.users, ?_, fun x hx => ?_⟩, fun x hx => ?_, ?_, fun c hc' => ?_, fun u hu' => ?_, hf.1⟩
  · have := hnum.2
    simp only [List.length_nil, Nat.zero_add] at this
    exact Nat.le_trans this hr15
  · have h6 := numR_mem hx
    have h7 : numR (kept p).strata = 0 + p.rules.length := hnum.1
    omega
  · obtain ⟨j, hj⟩ := List.getElem?_of_mem hx
    have := (h5 j x hj).1
    exact ⟨this.1, by have := this.2; omega⟩
  · refine strata_in p.rules [] (fun x hx => by cases hx) (fun r hr' => ?_)
    obtain ⟨j, hj⟩ := List.getElem?_of_mem hr'
    exact rule_in (hr.2 j r hj).2.1 (by omega) (hs.rules r hr').2.2
  · obtain ⟨a, b, c1, d⟩ := hc c hc'
    exact ⟨⟨a.1, by have := a.2; omega⟩, ⟨b, c1⟩, by have := d.1; omega, by have := d.2; omega⟩
  · obtain ⟨a, d⟩ := hu u hu'
    exact ⟨fun x hx => ⟨(a x hx).1, by have := (a x hx).2; omega⟩, by have := d.1; omega, by have := d.2; omega⟩
end Go.Proofs.Ytkjekohncfhbiaa.Gp
/-
  What is kept of a program, in memory: rows within rows, and what they hang on.
-/
set_option linter.unusedSimpArgs false
set_option linter.unusedVariables false
namespace Go.Proofs.Ytkjekohncfhbiaa
open Go.RowKit
set_option maxRecDepth 100000
/-! ### What hangs on some blocks -/
def Hang (S : Nat → Prop) (P : World → Prop) (w : World) : Prop := ∀ w', (∀ a c, S a.block → w.cell? a = some c → w'.cell? a = some c) → P w'
section HG
variable {S S' T : Nat → Prop} {P Q : World → Prop} {w w' : World}
theorem Hang.here (h : Hang S P w) : P w := h w fun _ _ _ h => h
theorem Hang.keep (h : Hang S P w) (k : Keep T w w') (hs : ∀ i, i < w.heap.size → S i → ¬ T i) : Hang S P w' := fun w2 h2 => h w2 fun a c h1 hc => h2 a c h1 (by rw [k.cell (cell_lt hc) (hs _ (cell_lt hc) h1)]; exact hc)
theorem Hang.below (h : Hang S P w) (k : Below w.heap.size w w') : Hang S P w' := h.keep (T := fun _ => False) (Keep.of_below k) (fun _ _ _ e => e)
theorem Hang.sub (h : Hang S P w) (hs : ∀ i, i < w.heap.size → S i → S' i) : Hang S' P w := fun w2 h2 => h w2 fun a c h1 hc => h2 a c (hs _ (cell_lt hc) h1) hc
theorem Hang.imp (h : Hang S P w) (hpq : ∀ w, P w → Q w) : Hang S Q w := fun w2 h2 => hpq _ (h w2 h2)
theorem Hang.and (h : Hang S P w) (k : Hang S Q w) : Hang S (fun w => P w ∧ Q w) w := fun w2 h2 => ⟨h w2 h2, k w2 h2⟩
theorem Hang.pure {p : Prop} (h : p) : Hang S (fun _ => p) w := fun _ _ => h
theorem Hang.new {B : Nat} (h : NewR B P w) : Hang (fun k => B ≤ k ∧ k < w.heap.size) P w := fun w2 h2 => h w2 fun a c h1 hc => h2 a c ⟨h1, cell_lt hc⟩ hc
theorem Hang.toNew {B : Nat} (h : Hang S P w) (hs : ∀ i, i < w.heap.size → S i → B ≤ i) : NewR B P w := fun w2 h2 => h w2 fun a c h1 hc => h2 a c (hs _ (cell_lt hc) h1) hc
end HG
/-! ### Rows that are appended to -/
structure AppK (W W' : World) (v v' : Value) : Prop where
  keep : Keep (fun k => v.ownBlock = some k) W W'
  ob : v'.ownBlock = v.ownBlock ∨ v'.ownBlock = some W.heap.size
theorem AppK.old {W W' : World} {v v' : Value} (h : AppK W W' v v') {k : Nat} (hk : k < W.heap.size) (hv : v'.ownBlock = some k) : v.ownBlock = some k := by
  rcases h.ob with e | e
  · rw [← e]; exact hv
  · rw [e] at hv; cases hv; omega
section MadeO
variable {α : Type} {t e : TypeId} {z bytes : Nat} {E : α → List Value}
structure OE (H : Nat) (e : TypeId) (z : Nat) (E : α → List Value) (W : World) (v : Value) (L : List α) : Prop where
  own : W.ownsRow H e z v L.length (L.map E).flatten
  low : H ≤ W.heap.size
theorem OE.keep {H : Nat} {W W' : World} {v : Value} {L : List α} {S : Nat → Prop} (h : OE H e z E W v L) (k : Keep S W W') (hs : ∀ i, v.ownBlock = some i → ¬ S i) : OE H e z E W' v L :=
  ⟨own_keep h.own (fun g hg => k.block g (own_lt h.own hg).1 (hs g hg)), Nat.le_trans h.low k.size⟩
theorem OE.below {H : Nat} {W W' : World} {v : Value} {L : List α} (h : OE H e z E W v L) (k : Below W.heap.size W W') : OE H e z E W' v L := h.keep (Keep.of_below k) (S := fun _ => False) (fun _ _ e => e)
theorem OE.nil {H : Nat} {W : World} (hH : H ≤ W.heap.size) : OE H e z E W (.slice none 0 0) [] := ⟨⟨by simp, .inl ⟨rfl, rfl⟩⟩, hH⟩
theorem OE.lt {H : Nat} {W : World} {v : Value} {L : List α} (h : OE H e z E W v L) {g : Nat} (hg : v.ownBlock = some g) : g < W.heap.size ∧ H ≤ g := own_lt h.own hg
theorem OE.te {H : Nat} {W0 W : World} {v : Value} {L : List α} (h : OE W0.heap.size e z E W v L) (hb : Below W0.heap.size W0 W) : TE e z E W0 W v L := ⟨h.own, hb⟩
theorem OE.form {H : Nat} {W : World} {v : Value} {L : List α} (h : OE H e z E W v L) : ∃ ob oc, v = .slice ob L.length oc ∧ L.length ≤ oc ∧ ∃ g, (0 < L.length → ob = some ⟨g, 0, .none⟩ ∧ v.ownBlock = some g) ∧ ∀ (j : Nat) u, (L.map E).flatten[j]? = some u → H ≤ g ∧ W.cell? ⟨g, j, .none⟩ = some u ∧ W.frozen? ⟨g, j, .none⟩ = false := by
  rcases h.own.2 with ⟨rfl, h0⟩ | ⟨g, cap, cur, rfl, hbg, hg, hnc, hcm, hcs, htake⟩
  · refine ⟨.none, 0, by rw [h0], by omega, 0, fun h => by omega, fun j u hj => ?_⟩
    have h1 := h.own.1
    rw [h0, Nat.zero_mul] at h1
    have := (List.getElem?_eq_some_iff.1 hj).1
    omega
  · refine ⟨_, cap, rfl, hnc, g, fun _ => ⟨rfl, rfl⟩, fun j u hj => ?_⟩
    exact ⟨hbg, own_cell h.own hj, own_free h.own j⟩
theorem run_appO (ht : Try.prog.underlying t = some (.slice e)) {zv : Value} (hi : (Try.prog.info? e).map (fun i => (i.zero, i.size, i.bytes)) = some (some zv, z, bytes)) (hzs : zv.cells.size = z) (hz0 : 0 < z) (hbb : bytes ≤ 1000) (hE : ∀ x, (E x).length = z) (hE1 : ∀ x, ∀ u ∈ E x, u.oneCell' = true)
    {H : Nat} {W : World} {v : Value} {ao : Option Addr} {m c : Nat} {L : List α} (hT : OE H e z E W v L) (news : List α) (hm : news.length = m) (hsrc : 0 < m → ∃ ad, ao = some ad ∧ ∀ (j : Nat) u, (news.map E).flatten[j]? = some u → W.cell? (ad.add j) = some u) (hl : L.length + m ≤ 10000000) (ty : TypeId) :
    ∃ v' w', (Builtin.append_ #[t, t] ty #[v, .slice ao m c]).run Try.prog W = .ok v' w' ∧ OE H e z E w' v' (L ++ news) ∧ AppK W w' v v' := by
  obtain ⟨j0, hj0, jz0, jz1, jz2⟩ := info_parts hi
  by_cases h0 : m = 0
  · subst h0
    obtain rfl := List.eq_nil_of_length_eq_zero hm
    exact ⟨v, W, run_app_noneE ty ht hj0 hT.own ao c, by rw [List.append_nil]; exact hT, Keep.refl _ _, .inl rfl⟩
  · obtain ⟨ad, rfl, hc⟩ := hsrc (by omega)
    obtain ⟨v', w', hr, h2, h3, _, h4⟩ := run_append_own_at (P := Try.prog) W H t ty e j0 _ z bytes ht hj0 jz0 jz1 jz2 hzs hz0 v L.length (L.map E).flatten hT.own ad m c (news.map E).flatten (by rw [flat_len hE, hm]) hc (fun u hu => by
      obtain ⟨q, hq, hu⟩ := List.mem_flatten.1 hu
      obtain ⟨y, _, rfl⟩ := List.mem_map.1 hq
      exact hE1 y u hu) (by unfold maxLen; omega) (Nat.le_trans (Nat.mul_le_mul hl hbb) (by omega)) hT.low
    refine ⟨v', w', hr, ⟨?_, Nat.le_trans hT.low h3.size⟩, Keep.grown h3, h4⟩
    rw [List.length_append, List.map_append, List.flatten_append, hm]
    exact h2
/-- The law: at a step of a region that draws its order. -/
theorem step_appO (ht : Try.prog.underlying t = some (.slice e)) {zv : Value} (hi : (Try.prog.info? e).map (fun i => (i.zero, i.size, i.bytes)) = some (some zv, z, bytes)) (hzs : zv.cells.size = z) (hz0 : 0 < z) (hbb : bytes ≤ 1000) (hE : ∀ x, (E x).length = z) (hE1 : ∀ x, ∀ u ∈ E x, u.oneCell' = true)
    {ops : Array Oper} {o : Oper} {a : Act} {K : Act → World → Prop} {Q : Exit → Act → World → Prop} {F : Prop} (hgd : o.guard = .none) (s x : Operand) (ho : o.op = .call { callee := .builtin .append, args := #[s, x], argTypes := #[t, t] })
    {H : Nat} {W : World} {v : Value} (hs : a.eval s = v) {ao : Option Addr} {m c : Nat} (hx : a.eval x = .slice ao m c) {L : List α} (hT : OE H e z E W v L) (news : List α) (hm : news.length = m) (hsrc : 0 < m → ∃ ad, ao = some ad ∧ ∀ (j : Nat) u, (news.map E).flatten[j]? = some u → W.cell? (ad.add j) = some u) (hl : L.length + m ≤ 10000000)
    (h : ∀ v' w', OE H e z E w' v' (L ++ news) → AppK W w' v v' → K (a.put o.dst v') w') :
    if Region.wanted o (yielded ops a.tmps) = true then Oper.wp Try.prog o a W K Q else F := by
  have hw : Region.wanted o (yielded ops a.tmps) = true := by simp [Region.wanted, hgd]
  rw [if_pos hw]
  obtain ⟨v', w', hr, hT', hG⟩ := run_appO ht hi hzs hz0 hbb hE hE1 hT (c := c) news hm hsrc hl o.type
  unfold Oper.wp execOp
  simp only [ho, resolve, invoke, builtin, Sem.run_bind, Sem.run_pure, Result.andThen_ok, List.map_toArray, List.map_cons, List.map_nil, hs, hx, hr]
  exact h v' w' hT' hG
/-- As step_appO, where the region does not draw. -/
theorem wpList_appO (ht : Try.prog.underlying t = some (.slice e)) {zv : Value} (hi : (Try.prog.info? e).map (fun i => (i.zero, i.size, i.bytes)) = some (some zv, z, bytes)) (hzs : zv.cells.size = z) (hz0 : 0 < z) (hbb : bytes ≤ 1000) (hE : ∀ x, (E x).length = z) (hE1 : ∀ x, ∀ u ∈ E x, u.oneCell' = true)
    {ops : Array Oper} {rest : List Oper} {o : Oper} {a : Act} {Q : Exit → Act → World → Prop} (hgd : o.guard = .none) (s x : Operand) (ho : o.op = .call { callee := .builtin .append, args := #[s, x], argTypes := #[t, t] })
    {H : Nat} {W : World} {v : Value} (hs : a.eval s = v) {ao : Option Addr} {m c : Nat} (hx : a.eval x = .slice ao m c) {L : List α} (hT : OE H e z E W v L) (news : List α) (hm : news.length = m) (hsrc : 0 < m → ∃ ad, ao = some ad ∧ ∀ (j : Nat) u, (news.map E).flatten[j]? = some u → W.cell? (ad.add j) = some u) (hl : L.length + m ≤ 10000000)
    (h : ∀ v' w', OE H e z E w' v' (L ++ news) → AppK W w' v v' → wpList Try.prog ops Q rest (a.put o.dst v') w') : wpList Try.prog ops Q (o :: rest) a W :=
  wpList_plain hgd fun K hK => by
    have h0 := step_appO (F := False) (ops := ops) (K := K) (Q := Q) ht hi hzs hz0 hbb hE hE1 hgd s x ho hs hx hT news hm hsrc hl (fun v' w' h1 h2 => hK _ _ (h v' w' h1 h2))
    rwa [if_pos (by simp [Region.wanted, hgd])] at h0
/-- A row that was appended to is a row of elements, and hangs on its block and on what its elements hang on. -/
theorem OE.row {β : Type} {R : World → List Value → β → Prop} {S : Nat → Prop} {H : Nat} {W : World} {v : Value} {cl : List α} {l : List β} (h : OE H e z E W v cl) (hlen : cl.length = l.length) (hl : l.length ≤ 10000000000000) (hE : ∀ x, (E x).length = z) (hS : ∀ g, v.ownBlock = some g → S g)
    (hR : ∀ (i : Nat) x c, l[i]? = some x → cl[i]? = some c → Hang S (fun w => R w (E c) x) W) : Hang S (fun w => RowR z R w v l) W := by
  obtain ⟨ob, oc, rfl, hoc, g, hg1, hgc⟩ := h.form
  rw [hlen] at hoc hg1 hS
  intro w2 h2
  refine ⟨g, 0, ⟨ob, oc, by rw [hlen], hoc, fun h0 => (hg1 h0).1⟩, hl, fun i x hx => ?_⟩
  have hi : i < cl.length := by have := (List.getElem?_eq_some_iff.1 hx).1; omega
  refine ⟨E cl[i], hE _, hR i x _ hx (List.getElem?_eq_getElem hi) w2 h2, fun j u hu => ?_⟩
  rw [Nat.zero_add]
  have hm : ((cl.map E)).flatten[i * z + j]? = some u := flatten_get (fun y hy => by obtain ⟨q, _, rfl⟩ := List.mem_map.1 hy; exact hE q) (by rw [List.getElem?_map, List.getElem?_eq_getElem hi]; rfl) hu
  refine h2 _ _ (hS g (hg1 (by omega)).2) (hgc _ u hm).2.1
end MadeO
/-! ### What is kept -/
def kcR (w : World) (cs : List Value) (x : Gp.KC) : Prop := cs = [.int .i64 x.1, .int .i64 x.2.1, .bool x.2.2.1, .bool x.2.2.2.1, .bool x.2.2.2.2]
abbrev KCRow := RowR 5 kcR
def krR (w : World) (cs : List Value) (x : Gp.KR) : Prop := ∃ v1 v2 v3, cs = [v1, v2, v3] ∧ LRow w v1 x.1 ∧ KCRow w v2 x.2.1 ∧ LRow w v3 x.2.2
abbrev KRRow := RowR 3 krR
def ksR (w : World) (cs : List Value) (x : Gp.KS) : Prop := ∃ v, cs = [.int .i64 x.1, v] ∧ KRRow w v x.2
abbrev KSRow := RowR 2 ksR
theorem kcrow_turn {w w' : World} {v : Value} {l : List Gp.KC} (h : KCRow w v l) (hc : ∀ a c, w.cell? a = some c → w'.cell? a = some c) : KCRow w' v l := RowR.turn h (fun _ _ _ h => h) hc
theorem krrow_turn {w w' : World} {v : Value} {l : List Gp.KR} (h : KRRow w v l) (hc : ∀ a c, w.cell? a = some c → w'.cell? a = some c) : KRRow w' v l :=
  RowR.turn h (fun cs x _ ⟨v1, v2, v3, e, h1, h2, h3⟩ => ⟨v1, v2, v3, e, lrow_turn h1 hc, kcrow_turn h2 hc, lrow_turn h3 hc⟩) hc
theorem ksrow_turn {w w' : World} {v : Value} {l : List Gp.KS} (h : KSRow w v l) (hc : ∀ a c, w.cell? a = some c → w'.cell? a = some c) : KSRow w' v l :=
  RowR.turn h (fun cs x _ ⟨v1, e, h1⟩ => ⟨v1, e, krrow_turn h1 hc⟩) hc
theorem kcrow_at {w : World} {ao : Option Addr} {n cap : Nat} {l : List Gp.KC} (h : KCRow w (.slice ao n cap) l) : n = l.length ∧ n ≤ 10000000000000 ∧ n ≤ cap ∧ ∃ b o, (0 < n → ao = some ⟨b, o, none⟩) ∧ ∀ (i : Nat) x, l[i]? = some x → w.cell? ⟨b, o + i * 5, none⟩ = some (.int .i64 x.1) ∧ w.cell? ⟨b, o + i * 5 + 1, none⟩ = some (.int .i64 x.2.1) ∧ w.cell? ⟨b, o + i * 5 + 2, none⟩ = some (.bool x.2.2.1) ∧ w.cell? ⟨b, o + i * 5 + 3, none⟩ = some (.bool x.2.2.2.1) ∧ w.cell? ⟨b, o + i * 5 + 4, none⟩ = some (.bool x.2.2.2.2) := by
  obtain ⟨b, o, ⟨a1, c1, e, hcp, ha⟩, h2, h3⟩ := h
  cases e
  refine ⟨rfl, h2, hcp, b, o, ha, fun i s hs => ?_⟩
  obtain ⟨cs, _, rfl, hc⟩ := h3 i s hs
  exact ⟨hc 0 _ rfl, hc 1 _ rfl, hc 2 _ rfl, hc 3 _ rfl, hc 4 _ rfl⟩
structure KRAt (w : World) (b o : Nat) (x : Gp.KR) (a1 : Option Addr) (c1 : Nat) (a2 : Option Addr) (c2 : Nat) (a3 : Option Addr) (c3 : Nat) : Prop where
  lits : LRow w (.slice a1 x.1.length c1) x.1
  conds : KCRow w (.slice a2 x.2.1.length c2) x.2.1
  sets : LRow w (.slice a3 x.2.2.length c3) x.2.2
  d0 : w.cell? ⟨b, o, none⟩ = some (.slice a1 x.1.length c1)
  d1 : w.cell? ⟨b, o + 1, none⟩ = some (.slice a2 x.2.1.length c2)
  d2 : w.cell? ⟨b, o + 2, none⟩ = some (.slice a3 x.2.2.length c3)
theorem KRAt.turn {w w' : World} {b o : Nat} {x : Gp.KR} {a1 a2 a3 : Option Addr} {c1 c2 c3 : Nat} (h : KRAt w b o x a1 c1 a2 c2 a3 c3) (hc : ∀ a c, w.cell? a = some c → w'.cell? a = some c) : KRAt w' b o x a1 c1 a2 c2 a3 c3 :=
  ⟨lrow_turn h.lits hc, kcrow_turn h.conds hc, lrow_turn h.sets hc, hc _ _ h.d0, hc _ _ h.d1, hc _ _ h.d2⟩
theorem krrow_at {w : World} {ao : Option Addr} {n cap : Nat} {l : List Gp.KR} (h : KRRow w (.slice ao n cap) l) : n = l.length ∧ n ≤ 10000000000000 ∧ n ≤ cap ∧ ∃ b o, (0 < n → ao = some ⟨b, o, none⟩) ∧ ∀ (i : Nat) x, l[i]? = some x → ∃ a1 c1 a2 c2 a3 c3, KRAt w b (o + i * 3) x a1 c1 a2 c2 a3 c3 := by
  obtain ⟨b, o, ⟨a1, c1, e, hcp, ha⟩, h2, h3⟩ := h
  cases e
  refine ⟨rfl, h2, hcp, b, o, ha, fun i s hs => ?_⟩
  obtain ⟨cs, _, ⟨v1, v2, v3, rfl, r1, r2, r3⟩, hc⟩ := h3 i s hs
  obtain ⟨a1, c1, rfl⟩ := row_val r1
  obtain ⟨a2, c2, rfl⟩ := row_val r2
  obtain ⟨a3, c3, rfl⟩ := row_val r3
  exact ⟨a1, c1, a2, c2, a3, c3, r1, r2, r3, hc 0 _ rfl, hc 1 _ rfl, hc 2 _ rfl⟩
theorem ksrow_at {w : World} {ao : Option Addr} {n cap : Nat} {l : List Gp.KS} (h : KSRow w (.slice ao n cap) l) : n = l.length ∧ n ≤ 10000000000000 ∧ n ≤ cap ∧ ∃ b o, (0 < n → ao = some ⟨b, o, none⟩) ∧ ∀ (i : Nat) x, l[i]? = some x → ∃ a1 c1, KRRow w (.slice a1 x.2.length c1) x.2 ∧ w.cell? ⟨b, o + i * 2, none⟩ = some (.int .i64 x.1) ∧ w.cell? ⟨b, o + i * 2 + 1, none⟩ = some (.slice a1 x.2.length c1) := by
  obtain ⟨b, o, ⟨a1, c1, e, hcp, ha⟩, h2, h3⟩ := h
  cases e
  refine ⟨rfl, h2, hcp, b, o, ha, fun i s hs => ?_⟩
  obtain ⟨cs, _, ⟨v1, rfl, r1⟩, hc⟩ := h3 i s hs
  obtain ⟨a1, c1, rfl⟩ := row_val r1
  exact ⟨a1, c1, r1, hc 0 _ rfl, hc 1 _ rfl⟩
/-- Where what is kept lies. -/
structure KA where
  a1 : Option Addr
  c1 : Nat
  a3 : Option Addr
  c3 : Nat
  a4 : Option Addr
  c4 : Nat
  a5 : Option Addr
  c5 : Nat
  a6 : Option Addr
  c6 : Nat
structure KeptAt (w : World) (A : KA) (K : Gp.KP) : Prop where
  over : ZRow w (.slice A.a1 K.over.length A.c1) K.over
  files : FRow w (.slice A.a3 K.files.length A.c3) K.files
  strata : KSRow w (.slice A.a4 K.strata.length A.c4) K.strata
  ctrs : TRow w (.slice A.a5 K.ctrs.length A.c5) K.ctrs
  users : URow w (.slice A.a6 K.users.length A.c6) K.users
theorem KeptAt.turn {w w' : World} {A : KA} {K : Gp.KP} (h : KeptAt w A K) (hc : ∀ a c, w.cell? a = some c → w'.cell? a = some c) : KeptAt w' A K :=
  ⟨zrow_turn h.over hc, RowR.turn h.files (fun _ _ _ h => h) hc, ksrow_turn h.strata hc, trow_turn h.ctrs hc, urow_turn h.users hc⟩
theorem KeptAt.below {w w' : World} {A : KA} {K : Gp.KP} (h : KeptAt w A K) (hb : Below w.heap.size w w') : KeptAt w' A K := h.turn (below_cell hb)
/-! ### Rows of a machine's own -/
def FlagR (w : World) (b : Nat) (l : List Bool) : Prop := Lies w b 4 (l.map Value.bool).toArray
def IntR (w : World) (b : Nat) (l : List Int) : Prop := Lies w b 3 (l.map (Value.int .i64)).toArray
theorem FlagR.cell {w : World} {b : Nat} {l : List Bool} (h : FlagR w b l) {i : Nat} {x : Bool} (hi : l[i]? = some x) : w.cell? ⟨b, i, none⟩ = some (.bool x) := by
  rw [Lies.cell h i, List.getElem?_toArray, List.getElem?_map, hi]
  rfl
theorem IntR.cell {w : World} {b : Nat} {l : List Int} (h : IntR w b l) {i : Nat} {x : Int} (hi : l[i]? = some x) : w.cell? ⟨b, i, none⟩ = some (.int .i64 x) := by
  rw [Lies.cell h i, List.getElem?_toArray, List.getElem?_map, hi]
  rfl
theorem FlagR.at {w : World} {b : Nat} {l : List Bool} (h : FlagR w b l) {f : Int} (h0 : 0 ≤ f) (h1 : f < (l.length : Int)) : w.cell? ⟨b, f.toNat, none⟩ = some (.bool (Gp.atB l f)) := by
  refine h.cell ?_
  have hn : f.toNat < l.length := by omega
  unfold Gp.atB
  rw [List.getD_eq_getElem?_getD, List.getElem?_eq_getElem hn]
  rfl
theorem IntR.at {w : World} {b : Nat} {l : List Int} (h : IntR w b l) {f : Int} (h0 : 0 ≤ f) (h1 : f < (l.length : Int)) : w.cell? ⟨b, f.toNat, none⟩ = some (.int .i64 (Gp.atZ l f)) := by
  refine h.cell ?_
  have hn : f.toNat < l.length := by omega
  unfold Gp.atZ
  rw [List.getD_eq_getElem?_getD, List.getElem?_eq_getElem hn]
  rfl
theorem FlagR.set {w : World} {b : Nat} {l : List Bool} (h : FlagR w b l) (i : Nat) (v : Bool) : FlagR (w.setCell ⟨b, i, none⟩ (.bool v)) b (l.set i v) := by
  have := Lies.set h i (.bool v)
  unfold FlagR
  rw [List.map_set]
  rwa [List.setIfInBounds_toArray] at this
theorem IntR.set {w : World} {b : Nat} {l : List Int} (h : IntR w b l) (i : Nat) (v : Int) : IntR (w.setCell ⟨b, i, none⟩ (.int .i64 v)) b (l.set i v) := by
  have := Lies.set h i (.int .i64 v)
  unfold IntR
  rw [List.map_set]
  rwa [List.setIfInBounds_toArray] at this
theorem FlagR.keep {S : Nat → Prop} {w w' : World} {b : Nat} {l : List Bool} (h : FlagR w b l) (k : Keep S w w') (hs : ¬ S b) : FlagR w' b l := Lies.keep h k hs
theorem IntR.keep {S : Nat → Prop} {w w' : World} {b : Nat} {l : List Int} (h : IntR w b l) (k : Keep S w w') (hs : ¬ S b) : IntR w' b l := Lies.keep h k hs
theorem FlagR.below {w w' : World} {b : Nat} {l : List Bool} (h : FlagR w b l) (k : Below w.heap.size w w') : FlagR w' b l := Lies.below h k
theorem IntR.below {w w' : World} {b : Nat} {l : List Int} (h : IntR w b l) (k : Below w.heap.size w w') : IntR w' b l := Lies.below h k
theorem lies_neG {w : World} {b b' : Nat} {t t' : TypeId} {C C' : Array Value} (h : Lies w b t C) (h' : Lies w b' t' C') (ht : t ≠ t') : b ≠ b' := by
  rintro rfl
  unfold Lies at h h'
  rw [h] at h'
  simp only [Option.some.injEq, Obj.cells.injEq] at h'
  exact ht h'.2.1
theorem flag_int_ne {w : World} {b c : Nat} {l : List Bool} {m : List Int} (h : FlagR w b l) (k : IntR w c m) : b ≠ c := by
  rintro rfl
  unfold FlagR Lies at h
  unfold IntR Lies at k
  rw [h] at k
  simp only [Option.some.injEq, Obj.cells.injEq] at k
  exact absurd k.2.1 (by decide)
end Go.Proofs.Ytkjekohncfhbiaa
/-
  A row in memory of its own: copied, at five types. (Written by GCopy.py.)
-/
set_option linter.unusedSimpArgs false
set_option linter.unusedVariables false
namespace Go.Proofs.Ytkjekohncfhbiaa
open Go.RowKit
set_option maxRecDepth 100000
theorem run_copy_all {P : Program} (w : World) (dT sT ty elem : TypeId) (g dCap n z : Nat) (ao : Option Addr) (sCap : Nat) (cur : Array Value) (t : TypeId) (cs : List Value)
    (hu : P.underlying dT = some (.slice elem)) (hs : (P.info? elem).map (·.size) = some z) (hg : w.heap[g]? = some (.cells cur t (0, 0))) (hcs : cs.length = n * z) (hcur : cur.size = n * z)
    (hsrc : 0 < n → ∃ ad, ao = some ad ∧ ∀ (j : Nat) v, cs[j]? = some v → w.cell? (ad.add j) = some v) (h1 : ∀ v ∈ cs, v.oneCell' = true) :
    (Builtin.copy_ #[dT, sT] ty #[.slice (some ⟨g, 0, none⟩) n dCap, .slice ao n sCap]).run P w = .ok (goInt n) (w.setRow g cs.toArray) := by
  have hst := run_storeCells_at P g 0 t cs 0 cur w hg (by simp [hcs, hcur]) h1
  have hfin : (cur.toList.take (0 + 0) ++ cs ++ cur.toList.drop (0 + 0 + cs.length)).toArray = cs.toArray := by
    rw [List.drop_eq_nil_of_le (by simp [hcs, hcur])]
    simp
  rw [hfin] at hst
  cases hq : P.info? elem with
  | none => simp [hq] at hs
  | some i =>
    have hi : i.size = z := by simpa [hq] using hs
    rcases Nat.eq_zero_or_pos n with h0 | h0
    · subst h0
      rw [Nat.zero_mul] at hcs
      obtain rfl := List.eq_nil_of_length_eq_zero hcs
      have hl : ∀ (x : Addr), (loadCells x 0).run P w = .ok #[] w := fun x => by simpa using run_loadCells_list (P := P) w x [] (by simp)
      cases ao <;> simp [Builtin.copy_, run_underlying hu, Builtin.lenOf, Builtin.firstCells, sizeOf, typeInfo, hq, hl, hst]
    · obtain ⟨ad, rfl, hc⟩ := hsrc h0
      have hl := run_loadCells_list (P := P) w ad cs hc
      rw [hcs] at hl
      simp [Builtin.copy_, run_underlying hu, Builtin.lenOf, Builtin.firstCells, sizeOf, typeInfo, hq, hi, hl, hst]
/-- What copied leaves: a block of its own. -/
def CopPost (T : TypeId) (n : Nat) (cs : List Value) (w : World) (e : Ending) (w' : World) : Prop := e = .returned (.slice (some ⟨w.heap.size, 0, none⟩) n n) ∧ Lies w' w.heap.size T cs.toArray ∧ Below w.heap.size w w'
theorem infoC_B : (Try.prog.info? 4).map (fun i => (i.zero, i.size, i.bytes)) = some (some (.bool false), 1, 1) := by kernel_rfl
set_option maxHeartbeats 4000000 in
theorem copiedB (w : World) (ao : Option Addr) (n cap : Nat) (cs : List Value) (hn : n ≤ 100000) (hcs : cs.length = n * 1) (hsrc : 0 < n → ∃ ad, ao = some ad ∧ ∀ (j : Nat) v, cs[j]? = some v → w.cell? (ad.add j) = some v) (h1 : ∀ v ∈ cs, v.oneCell' = true) :
    Calls Try.prog 39 #[.slice ao n cap] w (CopPost 4 n cs w) := by
  obtain ⟨i0, hi0, hz0, hz1, hz2⟩ := info_parts infoC_B
  have hr := run_make (P := Try.prog) w 47 4 i0 _ Try.underlying47 hi0 hz0 .i64 .i64 n n (by omega) (Int.le_refl _) (by rw [hz2]; omega) (by omega)
  simp only [Int.toNat_natCast, hz1] at hr
  obtain ⟨C, hC⟩ : ∃ C, madeCells (.bool false : Value).cells (n * 1) = C := ⟨_, rfl⟩
  have hCs : C.size = n * 1 := by rw [← hC]; exact size_madeCells _ _
  rw [hC] at hr
  obtain ⟨W, hW⟩ : ∃ W, w.alloc (.cells C 4) = W := ⟨_, rfl⟩
  have hL : Lies W w.heap.size 4 C := by rw [← hW]; exact Lies.new _ _ _
  have hB : Below w.heap.size w W := by rw [← hW]; exact (Below.refl _ w).alloc (Nat.le_refl _) _
  rw [hW] at hr
  have hsz : (Try.prog.info? 4).map (·.size) = some 1 := by kernel_rfl
  have hrun := run_copy_all (P := Try.prog) W 47 47 3 4 w.heap.size n n 1 ao cap C 4 cs Try.underlying47 hsz hL hcs hCs (fun h0 => by
    obtain ⟨ad, e, hc⟩ := hsrc h0
    exact ⟨ad, e, fun j v hv => below_cell hB _ _ (hc j v hv)⟩) h1
  obtain ⟨W2, hW2⟩ : ∃ W2, W.setRow w.heap.size cs.toArray = W2 := ⟨_, rfl⟩
  rw [hW2] at hrun
  have hL2 : Lies W2 w.heap.size 4 cs.toArray := by rw [← hW2]; exact setRow_heap _ _ _ _ _ _ hL
  have hB2 : Below w.heap.size w W2 := by rw [← hW2]; exact below_setRow hB (Nat.le_refl _) _
  have HL2 := hideT hL2
  have HB2 := hideT hB2
  clear hL2 hB2 hL hB hsrc h1 hcs hCs hC hW hW2
  go_enter Try.func39, Try.ntmps39
  go_wp2_with fail
  go_ret
  exact ⟨rfl, HL2.out, HB2.out⟩
theorem infoC_I : (Try.prog.info? 3).map (fun i => (i.zero, i.size, i.bytes)) = some (some (.int .i64 0), 1, 8) := by kernel_rfl
set_option maxHeartbeats 4000000 in
theorem copiedI (w : World) (ao : Option Addr) (n cap : Nat) (cs : List Value) (hn : n ≤ 100000) (hcs : cs.length = n * 1) (hsrc : 0 < n → ∃ ad, ao = some ad ∧ ∀ (j : Nat) v, cs[j]? = some v → w.cell? (ad.add j) = some v) (h1 : ∀ v ∈ cs, v.oneCell' = true) :
    Calls Try.prog 48 #[.slice ao n cap] w (CopPost 3 n cs w) := by
  obtain ⟨i0, hi0, hz0, hz1, hz2⟩ := info_parts infoC_I
  have hr := run_make (P := Try.prog) w 22 3 i0 _ Try.underlying22 hi0 hz0 .i64 .i64 n n (by omega) (Int.le_refl _) (by rw [hz2]; omega) (by omega)
  simp only [Int.toNat_natCast, hz1] at hr
  obtain ⟨C, hC⟩ : ∃ C, madeCells (.int .i64 0 : Value).cells (n * 1) = C := ⟨_, rfl⟩
  have hCs : C.size = n * 1 := by rw [← hC]; exact size_madeCells _ _
  rw [hC] at hr
  obtain ⟨W, hW⟩ : ∃ W, w.alloc (.cells C 3) = W := ⟨_, rfl⟩
  have hL : Lies W w.heap.size 3 C := by rw [← hW]; exact Lies.new _ _ _
  have hB : Below w.heap.size w W := by rw [← hW]; exact (Below.refl _ w).alloc (Nat.le_refl _) _
  rw [hW] at hr
  have hsz : (Try.prog.info? 3).map (·.size) = some 1 := by kernel_rfl
  have hrun := run_copy_all (P := Try.prog) W 22 22 3 3 w.heap.size n n 1 ao cap C 3 cs Try.underlying22 hsz hL hcs hCs (fun h0 => by
    obtain ⟨ad, e, hc⟩ := hsrc h0
    exact ⟨ad, e, fun j v hv => below_cell hB _ _ (hc j v hv)⟩) h1
  obtain ⟨W2, hW2⟩ : ∃ W2, W.setRow w.heap.size cs.toArray = W2 := ⟨_, rfl⟩
  rw [hW2] at hrun
  have hL2 : Lies W2 w.heap.size 3 cs.toArray := by rw [← hW2]; exact setRow_heap _ _ _ _ _ _ hL
  have hB2 : Below w.heap.size w W2 := by rw [← hW2]; exact below_setRow hB (Nat.le_refl _) _
  have HL2 := hideT hL2
  have HB2 := hideT hB2
  clear hL2 hB2 hL hB hsrc h1 hcs hCs hC hW hW2
  go_enter Try.func48, Try.ntmps48
  go_wp2_with fail
  go_ret
  exact ⟨rfl, HL2.out, HB2.out⟩
theorem infoC_L : (Try.prog.info? 54).map (fun i => (i.zero, i.size, i.bytes)) = some (some (.agg #[.int .i64 0, .bool false]), 2, 16) := by kernel_rfl
set_option maxHeartbeats 4000000 in
theorem copiedL (w : World) (ao : Option Addr) (n cap : Nat) (cs : List Value) (hn : n ≤ 100000) (hcs : cs.length = n * 2) (hsrc : 0 < n → ∃ ad, ao = some ad ∧ ∀ (j : Nat) v, cs[j]? = some v → w.cell? (ad.add j) = some v) (h1 : ∀ v ∈ cs, v.oneCell' = true) :
    Calls Try.prog 52 #[.slice ao n cap] w (CopPost 54 n cs w) := by
  obtain ⟨i0, hi0, hz0, hz1, hz2⟩ := info_parts infoC_L
  have hr := run_make (P := Try.prog) w 55 54 i0 _ Try.underlying55 hi0 hz0 .i64 .i64 n n (by omega) (Int.le_refl _) (by rw [hz2]; omega) (by omega)
  simp only [Int.toNat_natCast, hz1] at hr
  obtain ⟨C, hC⟩ : ∃ C, madeCells (.agg #[.int .i64 0, .bool false] : Value).cells (n * 2) = C := ⟨_, rfl⟩
  have hCs : C.size = n * 2 := by rw [← hC]; exact size_madeCells _ _
  rw [hC] at hr
  obtain ⟨W, hW⟩ : ∃ W, w.alloc (.cells C 54) = W := ⟨_, rfl⟩
  have hL : Lies W w.heap.size 54 C := by rw [← hW]; exact Lies.new _ _ _
  have hB : Below w.heap.size w W := by rw [← hW]; exact (Below.refl _ w).alloc (Nat.le_refl _) _
  rw [hW] at hr
  have hsz : (Try.prog.info? 54).map (·.size) = some 2 := by kernel_rfl
  have hrun := run_copy_all (P := Try.prog) W 55 55 3 54 w.heap.size n n 2 ao cap C 54 cs Try.underlying55 hsz hL hcs hCs (fun h0 => by
    obtain ⟨ad, e, hc⟩ := hsrc h0
    exact ⟨ad, e, fun j v hv => below_cell hB _ _ (hc j v hv)⟩) h1
  obtain ⟨W2, hW2⟩ : ∃ W2, W.setRow w.heap.size cs.toArray = W2 := ⟨_, rfl⟩
  rw [hW2] at hrun
  have hL2 : Lies W2 w.heap.size 54 cs.toArray := by rw [← hW2]; exact setRow_heap _ _ _ _ _ _ hL
  have hB2 : Below w.heap.size w W2 := by rw [← hW2]; exact below_setRow hB (Nat.le_refl _) _
  have HL2 := hideT hL2
  have HB2 := hideT hB2
  clear hL2 hB2 hL hB hsrc h1 hcs hCs hC hW hW2
  go_enter Try.func52, Try.ntmps52
  go_wp2_with fail
  go_ret
  exact ⟨rfl, HL2.out, HB2.out⟩
theorem infoC_S : (Try.prog.info? 57).map (fun i => (i.zero, i.size, i.bytes)) = some (some (.agg #[.int .i64 0, .bool false]), 2, 16) := by kernel_rfl
set_option maxHeartbeats 4000000 in
theorem copiedS (w : World) (ao : Option Addr) (n cap : Nat) (cs : List Value) (hn : n ≤ 100000) (hcs : cs.length = n * 2) (hsrc : 0 < n → ∃ ad, ao = some ad ∧ ∀ (j : Nat) v, cs[j]? = some v → w.cell? (ad.add j) = some v) (h1 : ∀ v ∈ cs, v.oneCell' = true) :
    Calls Try.prog 80 #[.slice ao n cap] w (CopPost 57 n cs w) := by
  obtain ⟨i0, hi0, hz0, hz1, hz2⟩ := info_parts infoC_S
  have hr := run_make (P := Try.prog) w 58 57 i0 _ Try.underlying58 hi0 hz0 .i64 .i64 n n (by omega) (Int.le_refl _) (by rw [hz2]; omega) (by omega)
  simp only [Int.toNat_natCast, hz1] at hr
  obtain ⟨C, hC⟩ : ∃ C, madeCells (.agg #[.int .i64 0, .bool false] : Value).cells (n * 2) = C := ⟨_, rfl⟩
  have hCs : C.size = n * 2 := by rw [← hC]; exact size_madeCells _ _
  rw [hC] at hr
  obtain ⟨W, hW⟩ : ∃ W, w.alloc (.cells C 57) = W := ⟨_, rfl⟩
  have hL : Lies W w.heap.size 57 C := by rw [← hW]; exact Lies.new _ _ _
  have hB : Below w.heap.size w W := by rw [← hW]; exact (Below.refl _ w).alloc (Nat.le_refl _) _
  rw [hW] at hr
  have hsz : (Try.prog.info? 57).map (·.size) = some 2 := by kernel_rfl
  have hrun := run_copy_all (P := Try.prog) W 58 58 3 57 w.heap.size n n 2 ao cap C 57 cs Try.underlying58 hsz hL hcs hCs (fun h0 => by
    obtain ⟨ad, e, hc⟩ := hsrc h0
    exact ⟨ad, e, fun j v hv => below_cell hB _ _ (hc j v hv)⟩) h1
  obtain ⟨W2, hW2⟩ : ∃ W2, W.setRow w.heap.size cs.toArray = W2 := ⟨_, rfl⟩
  rw [hW2] at hrun
  have hL2 : Lies W2 w.heap.size 57 cs.toArray := by rw [← hW2]; exact setRow_heap _ _ _ _ _ _ hL
  have hB2 : Below w.heap.size w W2 := by rw [← hW2]; exact below_setRow hB (Nat.le_refl _) _
  have HL2 := hideT hL2
  have HB2 := hideT hB2
  clear hL2 hB2 hL hB hsrc h1 hcs hCs hC hW hW2
  go_enter Try.func80, Try.ntmps80
  go_wp2_with fail
  go_ret
  exact ⟨rfl, HL2.out, HB2.out⟩
theorem infoC_T : (Try.prog.info? 52).map (fun i => (i.zero, i.size, i.bytes)) = some (some (.agg #[.int .i64 0, .int .i64 0, .int .i64 0]), 3, 24) := by kernel_rfl
set_option maxHeartbeats 4000000 in
theorem copiedT (w : World) (ao : Option Addr) (n cap : Nat) (cs : List Value) (hn : n ≤ 100000) (hcs : cs.length = n * 3) (hsrc : 0 < n → ∃ ad, ao = some ad ∧ ∀ (j : Nat) v, cs[j]? = some v → w.cell? (ad.add j) = some v) (h1 : ∀ v ∈ cs, v.oneCell' = true) :
    Calls Try.prog 50 #[.slice ao n cap] w (CopPost 52 n cs w) := by
  obtain ⟨i0, hi0, hz0, hz1, hz2⟩ := info_parts infoC_T
  have hr := run_make (P := Try.prog) w 25 52 i0 _ Try.underlying25 hi0 hz0 .i64 .i64 n n (by omega) (Int.le_refl _) (by rw [hz2]; omega) (by omega)
  simp only [Int.toNat_natCast, hz1] at hr
  obtain ⟨C, hC⟩ : ∃ C, madeCells (.agg #[.int .i64 0, .int .i64 0, .int .i64 0] : Value).cells (n * 3) = C := ⟨_, rfl⟩
  have hCs : C.size = n * 3 := by rw [← hC]; exact size_madeCells _ _
  rw [hC] at hr
  obtain ⟨W, hW⟩ : ∃ W, w.alloc (.cells C 52) = W := ⟨_, rfl⟩
  have hL : Lies W w.heap.size 52 C := by rw [← hW]; exact Lies.new _ _ _
  have hB : Below w.heap.size w W := by rw [← hW]; exact (Below.refl _ w).alloc (Nat.le_refl _) _
  rw [hW] at hr
  have hsz : (Try.prog.info? 52).map (·.size) = some 3 := by kernel_rfl
  have hrun := run_copy_all (P := Try.prog) W 25 25 3 52 w.heap.size n n 3 ao cap C 52 cs Try.underlying25 hsz hL hcs hCs (fun h0 => by
    obtain ⟨ad, e, hc⟩ := hsrc h0
    exact ⟨ad, e, fun j v hv => below_cell hB _ _ (hc j v hv)⟩) h1
  obtain ⟨W2, hW2⟩ : ∃ W2, W.setRow w.heap.size cs.toArray = W2 := ⟨_, rfl⟩
  rw [hW2] at hrun
  have hL2 : Lies W2 w.heap.size 52 cs.toArray := by rw [← hW2]; exact setRow_heap _ _ _ _ _ _ hL
  have hB2 : Below w.heap.size w W2 := by rw [← hW2]; exact below_setRow hB (Nat.le_refl _) _
  have HL2 := hideT hL2
  have HB2 := hideT hB2
  clear hL2 hB2 hL hB hsrc h1 hcs hCs hC hW hW2
  go_enter Try.func50, Try.ntmps50
  go_wp2_with fail
  go_ret
  exact ⟨rfl, HL2.out, HB2.out⟩
/-! ### What the copies are -/
theorem add_at (b o j : Nat) : (⟨b, o, none⟩ : Addr).add j = ⟨b, o + j, none⟩ := add_none b o j
theorem int_cells (l : List Int) : ∀ v ∈ l.map (Value.int .i64), v.oneCell' = true := fun v hv => by
  obtain ⟨x, _, rfl⟩ := List.mem_map.1 hv
  rfl
theorem bool_cells (l : List Bool) : ∀ v ∈ l.map Value.bool, v.oneCell' = true := fun v hv => by
  obtain ⟨x, _, rfl⟩ := List.mem_map.1 hv
  rfl
theorem zrow_src {w : World} {ao : Option Addr} {n cap : Nat} {l : List Int} (h : ZRow w (.slice ao n cap) l) : 0 < n → ∃ ad, ao = some ad ∧ ∀ (j : Nat) v, (l.map (Value.int .i64))[j]? = some v → w.cell? (ad.add j) = some v := by
  obtain ⟨hn, _, _, b, o, ha, hc⟩ := zrow_at h
  intro h0
  refine ⟨_, ha h0, fun j v hv => ?_⟩
  rw [List.getElem?_map] at hv
  cases hx : l[j]? with
  | none => rw [hx] at hv; cases hv
  | some x =>
    rw [hx] at hv
    cases hv
    rw [add_at]
    exact hc j x hx
/-- A row that was copied, as a row: it hangs on its block alone. -/
theorem zrow_cop {w : World} {b : Nat} {l : List Int} {n : Nat} (h : Lies w b 3 (l.map (Value.int .i64)).toArray) (hn : n = l.length) (hl : l.length ≤ 100000000000000) : Hang (fun k => k = b) (fun w => ZRow w (.slice (some ⟨b, 0, none⟩) n n) l) w := fun w2 h2 => by
  subst hn
  refine ⟨b, 0, ⟨_, _, rfl, Nat.le_refl _, fun _ => rfl⟩, hl, fun i x hx => ?_⟩
  refine h2 _ _ rfl ?_
  rw [Nat.zero_add]
  exact IntR.cell h hx
theorem rowr_src {α : Type} {z : Nat} {R : World → List Value → α → Prop} {w : World} {ao : Option Addr} {n cap : Nat} {l : List α} (h : RowR z R w (.slice ao n cap) l) (hR : ∀ cs x, R w cs x → ∀ u ∈ cs, u.oneCell' = true) :
    ∃ cl : List (Cel z), cl.length = n ∧ n = l.length ∧ (∀ (i : Nat) x c, l[i]? = some x → cl[i]? = some c → R w c.1 x) ∧ ((cl.map celE).flatten.length = n * z) ∧ (∀ v ∈ (cl.map celE).flatten, v.oneCell' = true) ∧ (0 < n → ∃ ad, ao = some ad ∧ ∀ (j : Nat) u, (cl.map celE).flatten[j]? = some u → w.cell? (ad.add j) = some u) := by
  obtain ⟨cl, h1, h2, h3, h4⟩ := rowr_cells h hR
  refine ⟨cl, h1, h2, h3, by rw [flat_len celE_len, h1], fun v hv => ?_, h4⟩
  obtain ⟨q, hq, hu⟩ := List.mem_flatten.1 hv
  obtain ⟨y, _, rfl⟩ := List.mem_map.1 hq
  exact celE_one y v hu
theorem rowr_cop {α : Type} {z : Nat} {R : World → List Value → α → Prop} {w : World} {b : Nat} {T : TypeId} {l : List α} {cl : List (Cel z)} {n : Nat} (h : Lies w b T (cl.map celE).flatten.toArray) (hcl : cl.length = n) (hn : n = l.length) (hl : l.length ≤ 10000000000000) (hR : ∀ (i : Nat) x c, l[i]? = some x → cl[i]? = some c → ∀ w, R w c.1 x) :
    Hang (fun k => k = b) (fun w => RowR z R w (.slice (some ⟨b, 0, none⟩) n n) l) w := fun w2 h2 => by
  subst hn
  refine ⟨b, 0, ⟨_, _, rfl, Nat.le_refl _, fun _ => rfl⟩, hl, fun i x hx => ?_⟩
  have hi : i < cl.length := by have := (List.getElem?_eq_some_iff.1 hx).1; omega
  refine ⟨cl[i].1, cl[i].2.1, hR i x _ hx (List.getElem?_eq_getElem hi) w2, fun j u hu => ?_⟩
  refine h2 _ _ rfl ?_
  rw [Nat.zero_add, Lies.cell h, List.getElem?_toArray]
  exact cel_at (List.getElem?_eq_getElem hi) hu
theorem lit_one {w : World} (cs : List Value) (x : Rp.Lit) (h : litR w cs x) : ∀ u ∈ cs, u.oneCell' = true := fun u hu => by
  rw [show cs = _ from h] at hu
  simp at hu
  rcases hu with rfl | rfl <;> rfl
theorem ctr_one {w : World} (cs : List Value) (x : Rp.Ctr) (h : ctrR w cs x) : ∀ u ∈ cs, u.oneCell' = true := fun u hu => by
  rw [show cs = _ from h] at hu
  simp at hu
  rcases hu with rfl | rfl | rfl <;> rfl
def sliceA (b n : Nat) : Value := .slice (some ⟨b, 0, none⟩) n n
/-- What a copy of a row leaves: it hangs on its block alone. -/
def RCop (P : Value → World → Prop) (n : Nat) (w : World) (e : Ending) (w' : World) : Prop := e = .returned (.slice (some ⟨w.heap.size, 0, none⟩) n n) ∧ Hang (fun k => k = w.heap.size) (P (.slice (some ⟨w.heap.size, 0, none⟩) n n)) w' ∧ Below w.heap.size w w' ∧ w.heap.size < w'.heap.size
theorem copyZg (w : World) (ao : Option Addr) (cap : Nat) (l : List Int) (h : ZRow w (.slice ao l.length cap) l) (hn : l.length ≤ 100000) :
    Calls Try.prog 48 #[.slice ao l.length cap] w (RCop (fun v w => ZRow w v l) l.length w) :=
  (copiedI w ao l.length cap _ hn (by rw [List.length_map, Nat.mul_one]) (zrow_src h) (int_cells l)).mono fun e w' ⟨h1, h2, h3⟩ => ⟨h1, zrow_cop h2 rfl (by omega), h3, h2.lt⟩
theorem copyL (w : World) (ao : Option Addr) (cap : Nat) (l : List Rp.Lit) (h : LRow w (.slice ao l.length cap) l) (hn : l.length ≤ 100000) :
    Calls Try.prog 52 #[.slice ao l.length cap] w (RCop (fun v w => LRow w v l) l.length w) := by
  obtain ⟨cl, h1, h2, h3, h4, h5, h6⟩ := rowr_src h lit_one
  exact (copiedL w ao l.length cap _ hn h4 h6 h5).mono fun e w' ⟨k1, k2, k3⟩ => ⟨k1, rowr_cop k2 h1 rfl (by omega) (fun i x c hx hc _ => h3 i x c hx hc), k3, k2.lt⟩
theorem copyS (w : World) (ao : Option Addr) (cap : Nat) (l : List Rp.Lit) (h : LRow w (.slice ao l.length cap) l) (hn : l.length ≤ 100000) :
    Calls Try.prog 80 #[.slice ao l.length cap] w (RCop (fun v w => LRow w v l) l.length w) := by
  obtain ⟨cl, h1, h2, h3, h4, h5, h6⟩ := rowr_src h lit_one
  exact (copiedS w ao l.length cap _ hn h4 h6 h5).mono fun e w' ⟨k1, k2, k3⟩ => ⟨k1, rowr_cop k2 h1 rfl (by omega) (fun i x c hx hc _ => h3 i x c hx hc), k3, k2.lt⟩
theorem copyT (w : World) (ao : Option Addr) (cap : Nat) (l : List Rp.Ctr) (h : TRow w (.slice ao l.length cap) l) (hn : l.length ≤ 100000) :
    Calls Try.prog 50 #[.slice ao l.length cap] w (RCop (fun v w => TRow w v l) l.length w) := by
  obtain ⟨cl, h1, h2, h3, h4, h5, h6⟩ := rowr_src h ctr_one
  exact (copiedT w ao l.length cap _ hn h4 h6 h5).mono fun e w' ⟨k1, k2, k3⟩ => ⟨k1, rowr_cop k2 h1 rfl (by omega) (fun i x c hx hc _ => h3 i x c hx hc), k3, k2.lt⟩
theorem flag_src {w : World} {b : Nat} {l : List Bool} (h : FlagR w b l) (n : Nat) (hn : n ≤ l.length) : 0 < n → ∃ ad, (some ⟨b, 0, none⟩ : Option Addr) = some ad ∧ ∀ (j : Nat) v, ((l.take n).map Value.bool)[j]? = some v → w.cell? (ad.add j) = some v := by
  intro h0
  refine ⟨_, rfl, fun j v hv => ?_⟩
  rw [List.getElem?_map] at hv
  cases hx : (l.take n)[j]? with
  | none => rw [hx] at hv; cases hv
  | some x =>
    rw [hx] at hv
    cases hv
    rw [add_at, Nat.zero_add]
    refine h.cell ?_
    have hj : j < n := by have := (List.getElem?_eq_some_iff.1 hx).1; rw [List.length_take] at this; omega
    rwa [List.getElem?_take_of_lt hj] at hx
theorem int_src {w : World} {b : Nat} {l : List Int} (h : IntR w b l) : 0 < l.length → ∃ ad, (some ⟨b, 0, none⟩ : Option Addr) = some ad ∧ ∀ (j : Nat) v, (l.map (Value.int .i64))[j]? = some v → w.cell? (ad.add j) = some v := by
  intro h0
  refine ⟨_, rfl, fun j v hv => ?_⟩
  rw [List.getElem?_map] at hv
  cases hx : l[j]? with
  | none => rw [hx] at hv; cases hv
  | some x =>
    rw [hx] at hv
    cases hv
    rw [add_at, Nat.zero_add]
    exact h.cell hx
/-- Flags ahead of a place, copied. -/
theorem copyF (w : World) (b n cap : Nat) (l : List Bool) (h : FlagR w b l) (hn : n ≤ l.length) (hl : l.length ≤ 100000) :
    Calls Try.prog 39 #[.slice (some ⟨b, 0, none⟩) n cap] w (fun e w' => e = .returned (.slice (some ⟨w.heap.size, 0, none⟩) n n) ∧ FlagR w' w.heap.size (l.take n) ∧ Below w.heap.size w w') :=
  (copiedB w _ n cap _ (by omega) (by rw [List.length_map, List.length_take, Nat.mul_one]; omega) (flag_src h n hn) (bool_cells _)).mono fun e w' ⟨h1, h2, h3⟩ => ⟨h1, h2, h3⟩
/-- Numbers, copied. -/
theorem copyN (w : World) (b n cap : Nat) (l : List Int) (h : IntR w b l) (hn : n = l.length) (hl : l.length ≤ 100000) :
    Calls Try.prog 48 #[.slice (some ⟨b, 0, none⟩) n cap] w (fun e w' => e = .returned (.slice (some ⟨w.heap.size, 0, none⟩) n n) ∧ IntR w' w.heap.size l ∧ Below w.heap.size w w') := by
  subst hn
  exact (copiedI w _ l.length cap _ (by omega) (by rw [List.length_map, Nat.mul_one]) (int_src h) (int_cells l)).mono fun e w' ⟨h1, h2, h3⟩ => ⟨h1, h2, h3⟩
end Go.Proofs.Ytkjekohncfhbiaa
