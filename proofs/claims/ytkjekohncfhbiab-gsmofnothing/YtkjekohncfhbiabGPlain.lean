/-
  A program that goes on, as plain data: what is kept of it, a round, rounds, an act.
-/
import Derived.Test.YtkjekohncfhbiabRPlain
import Derived.Test.YtkjekohncfhbiabMIndex
set_option linter.unusedVariables false
namespace Go.Proofs.Ytkjekohncfhbiab.Gp
/-- A condition: the place of its number, what it is held against, whether it holds of one below, the same, above. -/
abbrev KC := Int × Int × Bool × Bool × Bool
abbrev KR := List Rp.Lit × List KC × List Rp.Lit
abbrev KS := Int × List KR
/-- What is kept of a program. -/
structure KP where
  lasting : Int
  over : List Int
  frm : Int
  files : List ByteArray
  strata : List KS
  ctrs : List Rp.Ctr
  users : List Rp.User
/-- How all is: flags, numbers, counts. -/
structure St where
  fl : List Bool
  nums : List Int
  cnts : List Int
def atB (l : List Bool) (f : Int) : Bool := l.getD f.toNat false
def atZ (l : List Int) (i : Int) : Int := l.getD i.toNat 0
def lt : ByteArray := ⟨#[60]⟩
def le : ByteArray := ⟨#[60, 61]⟩
def eq : ByteArray := ⟨#[61]⟩
def ne : ByteArray := ⟨#[33, 61]⟩
def ge : ByteArray := ⟨#[62, 61]⟩
def gt : ByteArray := ⟨#[62]⟩
def condOf (files : List ByteArray) (c : Mp.Cond) : KC :=
  (idxZ files c.1, c.2.2, decide (c.2.1 = lt) || decide (c.2.1 = le) || decide (c.2.1 = ne), decide (c.2.1 = le) || decide (c.2.1 = eq) || decide (c.2.1 = ge), decide (c.2.1 = ne) || decide (c.2.1 = ge) || decide (c.2.1 = gt))
def ruleOf (files : List ByteArray) (r : Rp.Rule) : KR := (r.2.1, r.2.2.1.map (condOf files), r.2.2.2)
/-- One more rule, of the last stratum or of a new one. -/
def addR (files : List ByteArray) (l : List KS) (r : Rp.Rule) : List KS :=
  match l.getLast? with
  | none => l ++ [(r.1, [ruleOf files r])]
  | some x => if x.1 = r.1 then l.dropLast ++ [(x.1, x.2 ++ [ruleOf files r])] else l ++ [(r.1, [ruleOf files r])]
def strataOf (files : List ByteArray) (rs : List Rp.Rule) : List KS := rs.foldl (addR files) []
def kept (p : Rp.Prog) : KP := ⟨p.lasting, p.over, p.frm, p.files, strataOf p.files p.rules, p.ctrs, p.users⟩
def litIs (fl : List Bool) (x : Rp.Lit) : Bool := atB fl x.1 == x.2
def holdL (fl : List Bool) (l : List Rp.Lit) : Bool := !(l.any (litIs fl))
def condH (nums : List Int) (c : KC) : Bool := if atZ nums c.1 < c.2.1 then c.2.2.1 else if atZ nums c.1 = c.2.1 then c.2.2.2.1 else c.2.2.2.2
def condN (nums : List Int) (c : KC) : Bool := !condH nums c
def ruleH (fl : List Bool) (nums : List Int) (r : KR) : Bool := holdL fl r.1 && !(r.2.1.any (condN nums))
def setsOf (fl : List Bool) (nums : List Int) (rs : List KR) : List Rp.Lit := (rs.filter (ruleH fl nums)).flatMap fun r => r.2.2
def putF (fl : List Bool) (x : Rp.Lit) : List Bool := fl.set x.1.toNat x.2
def setS (fl : List Bool) (nums : List Int) (x : KS) : List Bool := (setsOf fl nums x.2).foldl putF fl
def strS (frm : Int) (nums : List Int) (fl : List Bool) (x : KS) : List Bool := if frm ≤ x.1 then setS fl nums x else fl
def clearF (n : Nat) (fl : List Bool) : List Bool := fl.take n ++ List.replicate (fl.length - n) false
def roundS (K : KP) (frm : Int) (nums : List Int) (fl : List Bool) : List Bool := clearF K.lasting.toNat (K.strata.foldl (strS frm nums) fl)
/-- Rounds, until one that turns no flag that lasts. -/
def goOn (K : KP) (nums : List Int) : Nat → List Bool → Option (List Bool)
  | 0, _ => none
  | n + 1, fl => if (roundS K 1 nums fl).take K.lasting.toNat = fl.take K.lasting.toNat then some (roundS K 1 nums fl) else goOn K nums n (roundS K 1 nums fl)
def upF (fl : List Bool) (f : Int) : List Bool := fl.set f.toNat true
def firstF (p : Rp.Prog) : List Bool := p.first.foldl upF (List.replicate p.flags.toNat false)
def newP (p : Rp.Prog) : Option St :=
  match goOn (kept p) (List.replicate p.files.length 0) 100 (firstF p) with
  | some fl => some ⟨fl, List.replicate p.files.length 0, List.replicate p.ctrs.length 0⟩
  | none => none
def restS (K : KP) (s t : St) : Int × St :=
  match goOn K t.nums 100 t.fl with
  | some fl => (0, ⟨fl, t.nums, t.cnts⟩)
  | none => (4, s)
def fromS (K : KP) (s t : St) (fs : List Int) : Int × St := restS K s ⟨roundS K K.frm t.nums (fs.foldl upF t.fl), t.nums, t.cnts⟩
def userT (fl : List Bool) (item : ByteArray) (ev : Int) (u : Rp.User) : Bool := decide (u.1 = item) && decide (u.2.1 = ev) && holdL fl u.2.2.1
def userS (K : KP) (s : St) (item : ByteArray) (ev : Int) : Int × St :=
  match K.users.find? (userT s.fl item ev) with
  | some u => fromS K s s [u.2.2.2]
  | none => (if K.users.any (fun u => decide (u.1 = item)) then 8 else 1, s)
def writeS (K : KP) (s : St) (file : ByteArray) (n : Int) : Int × St :=
  if idxZ K.files file < 0 ∨ n < -1000000 ∨ 1000000 < n then (1, s) else restS K s ⟨s.fl, s.nums.set (idxZ K.files file).toNat n, s.cnts⟩
/-- A counter's count behind a tick. -/
def cntT (fl : List Bool) (c : Rp.Ctr) (n : Int) : Int := if atB fl c.1 then min n c.2.1 + 1 else 0
def cntsT (fl : List Bool) : List Rp.Ctr → List Int → List Int
  | c :: cs, n :: ns => cntT fl c n :: cntsT fl cs ns
  | _, _ => []
def dueT (fl : List Bool) : List Rp.Ctr → List Int → List Int
  | c :: cs, n :: ns => if atB fl c.1 && decide (cntT fl c n = c.2.1) then c.2.2 :: dueT fl cs ns else dueT fl cs ns
  | _, _ => []
def tickS (K : KP) (s : St) : Int × St :=
  if 0 < (dueT s.fl K.ctrs s.cnts).length then fromS K s ⟨s.fl, s.nums, cntsT s.fl K.ctrs s.cnts⟩ (dueT s.fl K.ctrs s.cnts) else restS K s ⟨s.fl, s.nums, cntsT s.fl K.ctrs s.cnts⟩
def overS (K : KP) (s : St) : Bool := K.over.any (atB s.fl)
/-- An act: kind, item, event, file, number. -/
structure Act where
  kind : Int
  item : ByteArray
  event : Int
  file : ByteArray
  n : Int
def doS (K : KP) (s : St) (a : Act) : Int × St :=
  if a.kind < 1 ∨ 3 < a.kind then (1, s)
  else if overS K s then (9, s)
  else if a.kind = 1 then userS K s a.item a.event
  else if a.kind = 2 then writeS K s a.file a.n
  else tickS K s
def fileS (K : KP) (s : St) (name : ByteArray) : Int := if idxZ K.files name < 0 then 0 else atZ s.nums (idxZ K.files name)
/-! ### Lengths and bounds -/
theorem putF_len (l : List Rp.Lit) : ∀ (fl : List Bool), (l.foldl putF fl).length = fl.length := by
  induction l with
  | nil => intro fl; rfl
  | cons a l ih => intro fl; rw [List.foldl_cons, ih]; exact List.length_set
theorem upF_len (l : List Int) : ∀ (fl : List Bool), (l.foldl upF fl).length = fl.length := by
  induction l with
  | nil => intro fl; rfl
  | cons a l ih => intro fl; rw [List.foldl_cons, ih]; exact List.length_set
theorem setS_len (fl : List Bool) (nums : List Int) (x : KS) : (setS fl nums x).length = fl.length := putF_len _ _
theorem strS_len (frm : Int) (nums : List Int) (l : List KS) : ∀ (fl : List Bool), (l.foldl (strS frm nums) fl).length = fl.length := by
  induction l with
  | nil => intro fl; rfl
  | cons a l ih =>
    intro fl
    rw [List.foldl_cons, ih]
    unfold strS
    split
    · exact setS_len _ _ _
    · rfl
theorem clearF_len {n : Nat} {fl : List Bool} (h : n ≤ fl.length) : (clearF n fl).length = fl.length := by
  unfold clearF
  rw [List.length_append, List.length_take, List.length_replicate]
  omega
theorem roundS_len {K : KP} {frm : Int} {nums : List Int} {fl : List Bool} (h : K.lasting.toNat ≤ fl.length) : (roundS K frm nums fl).length = fl.length := by
  unfold roundS
  rw [clearF_len (by rw [strS_len]; exact h), strS_len]
theorem goOn_len {K : KP} {nums : List Int} : ∀ (n : Nat) {fl g : List Bool}, K.lasting.toNat ≤ fl.length → goOn K nums n fl = some g → g.length = fl.length
  | 0, fl, g, _, h => by cases h
  | n + 1, fl, g, hl, h => by
    unfold goOn at h
    split at h
    · cases h
      exact roundS_len hl
    · rw [goOn_len n (by rw [roundS_len hl]; exact hl) h, roundS_len hl]
/-- What a condition, a rule, a stratum, all of it asks is there. -/
def LitsIn (F : Nat) (l : List Rp.Lit) : Prop := ∀ x ∈ l, 0 ≤ x.1 ∧ x.1 < (F : Int)
def KCIn (N : Nat) (l : List KC) : Prop := ∀ c ∈ l, 0 ≤ c.1 ∧ c.1 < (N : Int)
def KRIn (F N : Nat) (r : KR) : Prop := (LitsIn F r.1 ∧ KCIn N r.2.1 ∧ LitsIn F r.2.2) ∧ r.2.2.length ≤ 3000
def KSIn (F N : Nat) (l : List KS) : Prop := ∀ x ∈ l, ∀ r ∈ x.2, KRIn F N r
/-- A program that is no more than is looked at. -/
structure SmallP (p : Rp.Prog) : Prop where
  first : p.first.length ≤ 3000
  over : p.over.length ≤ 3000
  ctrs : p.ctrs.length ≤ 3000
  users : p.users.length ≤ 3000
  rules : ∀ r ∈ p.rules, r.2.1.length ≤ 3000 ∧ r.2.2.1.length ≤ 3000 ∧ r.2.2.2.length ≤ 3000
  whiles : ∀ u ∈ p.users, u.2.2.1.length ≤ 3000
  texts : ∀ s ∈ p.files, s.size ≤ 140737488355328
def numR (l : List KS) : Nat := (l.map fun x => x.2.length).sum
theorem numR_mem {l : List KS} {x : KS} (h : x ∈ l) : x.2.length ≤ numR l := by
  induction l with
  | nil => cases h
  | cons a l ih =>
    show _ ≤ a.2.length + numR l
    rcases List.mem_cons.1 h with rfl | h
    · omega
    · have := ih h
      omega
theorem numR_app (a b : List KS) : numR (a ++ b) = numR a + numR b := by
  unfold numR
  rw [List.map_append, List.sum_append]
structure KOk (K : KP) (F : Nat) : Prop where
  las : 0 ≤ K.lasting ∧ K.lasting ≤ (F : Int)
  few : F ≤ 800
  long : K.over.length ≤ 3000 ∧ K.ctrs.length ≤ 3000 ∧ K.users.length ≤ 3000 ∧ K.strata.length ≤ 1500 ∧ ∀ x ∈ K.strata, x.2.length ≤ 1500
  over : ∀ x ∈ K.over, 0 ≤ x ∧ x < (F : Int)
  strata : KSIn F K.files.length K.strata
  ctrs : ∀ c ∈ K.ctrs, (0 ≤ c.1 ∧ c.1 < (F : Int)) ∧ (1 ≤ c.2.1 ∧ c.2.1 ≤ 100) ∧ 0 ≤ c.2.2 ∧ c.2.2 < (F : Int)
  users : ∀ u ∈ K.users, LitsIn F u.2.2.1 ∧ 0 ≤ u.2.2.2 ∧ u.2.2.2 < (F : Int)
  files : K.files.length ≤ 6
theorem condOf_in {files : List ByteArray} {c : Mp.Cond} (h : Mp.has files c.1 = true) : 0 ≤ (condOf files c).1 ∧ (condOf files c).1 < (files.length : Int) := by
  unfold condOf
  have h1 := idxZ_has files c.1
  rw [h] at h1
  refine ⟨of_decide_eq_true h1, ?_⟩
  show idxZ files c.1 < _
  unfold idxZ
  cases hx : Mp.idx files c.1 with
  | none => show (-1 : Int) < _; omega
  | some k =>
    obtain ⟨x, hx1, _⟩ := Mp.find_some_inv (show files.findIdx? (fun t => decide (t = c.1)) = some k from hx)
    have := (List.getElem?_eq_some_iff.1 hx1).1
    show (k : Int) < _
    omega
theorem rule_in {p : Rp.Prog} {r : Rp.Rule} (h : Rp.RuleP p r) (hf : 0 ≤ p.flags) (hl : r.2.2.2.length ≤ 3000) : KRIn p.flags.toNat p.files.length (ruleOf p.files r) := by
  obtain ⟨h1, h2, h3, _⟩ := h
  refine ⟨⟨fun x hx => ?_, fun c hc => ?_, fun x hx => ?_⟩, hl⟩
  · have := h1 x hx
    exact ⟨this.1, by have := this.2; omega⟩
  · obtain ⟨d, hd, rfl⟩ := List.mem_map.1 hc
    exact condOf_in (h2 d hd).1
  · have := h3 x hx
    exact ⟨this.1, by have := this.2; omega⟩
theorem addR_in {F : Nat} {files : List ByteArray} {l : List KS} {r : Rp.Rule} (h : KSIn F files.length l) (hr : KRIn F files.length (ruleOf files r)) : KSIn F files.length (addR files l r) := by
  unfold addR
  have hn : KSIn F files.length (l ++ [(r.1, [ruleOf files r])]) := by
    intro x hx q hq
    rcases List.mem_append.1 hx with hx | hx
    · exact h x hx q hq
    · rw [List.mem_singleton] at hx
      subst hx
      rw [List.mem_singleton] at hq
      subst hq
      exact hr
  split
  · exact hn
  · rename_i x hx
    split
    · intro y hy q hq
      rcases List.mem_append.1 hy with hy | hy
      · exact h y (List.dropLast_subset _ hy) q hq
      · rw [List.mem_singleton] at hy
        subst hy
        rcases List.mem_append.1 hq with hq | hq
        · exact h x (List.mem_of_getLast? hx) q hq
        · rw [List.mem_singleton] at hq
          subst hq
          exact hr
    · exact hn
theorem strata_in {F : Nat} {files : List ByteArray} : ∀ (rs : List Rp.Rule) (l : List KS), KSIn F files.length l → (∀ r ∈ rs, KRIn F files.length (ruleOf files r)) → KSIn F files.length (rs.foldl (addR files) l)
  | [], l, h, _ => h
  | r :: rs, l, h, hr => strata_in rs _ (addR_in h (hr r List.mem_cons_self)) (fun q hq => hr q (List.mem_cons_of_mem _ hq))
theorem addR_num (files : List ByteArray) (l : List KS) (r : Rp.Rule) : numR (addR files l r) = numR l + 1 ∧ (addR files l r).length ≤ l.length + 1 := by
  have hn : numR (l ++ [(r.1, [ruleOf files r])]) = numR l + 1 ∧ (l ++ [(r.1, [ruleOf files r])]).length ≤ l.length + 1 := by
    rw [numR_app, List.length_append]
    exact ⟨rfl, Nat.le_refl _⟩
  unfold addR
  split
  · exact hn
  · rename_i x hx
    split
    · obtain ⟨a, b⟩ := List.getLast?_eq_some_iff.1 hx
      subst b
      rw [List.dropLast_concat, numR_app, numR_app, List.length_append, List.length_append]
      refine ⟨?_, by simp⟩
      show _ + (((x.2 ++ [ruleOf files r]).length) + 0) = _ + (x.2.length + 0) + 1
      rw [List.length_append]
      rfl
    · exact hn
theorem strata_num (files : List ByteArray) : ∀ (rs : List Rp.Rule) (l : List KS), numR (rs.foldl (addR files) l) = numR l + rs.length ∧ (rs.foldl (addR files) l).length ≤ l.length + rs.length
  | [], l => ⟨rfl, Nat.le_refl _⟩
  | r :: rs, l => by
    have h1 := addR_num files l r
    have h2 := strata_num files rs (addR files l r)
    rw [List.foldl_cons, List.length_cons]
    omega
theorem kept_ok {p : Rp.Prog} (h : Rp.IsP p) (hs : SmallP p) : KOk (kept p) p.flags.toNat := by
  obtain ⟨⟨h1, h2, h3, h4, h5⟩, _, hf, hr, hc, hu, _⟩ := h
  have hp : (p.flags.toNat : Int) = p.flags := Int.toNat_of_nonneg (by omega)
  have hnum := strata_num p.files p.rules []
  have hr15 := hr.1
  refine ⟨⟨h1, by rw [hp]; exact h2⟩, by omega, ⟨hs.over, hs.ctrs, hs.users, ?_, fun x hx => ?_⟩, fun x hx => ?_, ?_, fun c hc' => ?_, fun u hu' => ?_, hf.1⟩
  · have := hnum.2
    simp only [List.length_nil, Nat.zero_add] at this
    exact Nat.le_trans this hr15
  · have h6 := numR_mem hx
    have h7 : numR (kept p).strata = 0 + p.rules.length := hnum.1
    omega
  · obtain ⟨j, hj⟩ := List.getElem?_of_mem hx
    have := (h5 j x hj).1
    exact ⟨this.1, by have := this.2; omega⟩
  · refine strata_in p.rules [] (fun x hx => by cases hx) (fun r hr' => ?_)
    obtain ⟨j, hj⟩ := List.getElem?_of_mem hr'
    exact rule_in (hr.2 j r hj).2.1 (by omega) (hs.rules r hr').2.2
  · obtain ⟨a, b, c1, d⟩ := hc c hc'
    exact ⟨⟨a.1, by have := a.2; omega⟩, ⟨b, c1⟩, by have := d.1; omega, by have := d.2; omega⟩
  · obtain ⟨a, d⟩ := hu u hu'
    exact ⟨fun x hx => ⟨(a x hx).1, by have := (a x hx).2; omega⟩, by have := d.1; omega, by have := d.2; omega⟩
end Go.Proofs.Ytkjekohncfhbiab.Gp
