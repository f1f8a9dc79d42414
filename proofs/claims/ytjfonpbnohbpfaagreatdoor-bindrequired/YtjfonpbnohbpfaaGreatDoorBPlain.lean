/-
  PLAIN: an element as a model.
-/
import Derived.Test.YtjfonpbnohbpfaaGreatDoorPartT
import Derived.Test.YtjfonpbnohbpfaaGreatDoorPartM
set_option linter.unusedSimpArgs false
set_option linter.unusedVariables false
namespace Go.Proofs.YtjfonpbnohbpfaaGreatDoor.Bp
open Go.RowKit
/-! ### A resolved element's parts -/
def spT : Tr → ByteArray
  | .agg (.lit (.string a) :: _) => ofB a
  | _ => e0
def loT : Tr → ByteArray
  | .agg (_ :: .lit (.string a) :: _) => ofB a
  | _ => e0
def alT : Tr → List Att
  | .agg (_ :: _ :: .slice l _ :: _) => l.map unpair
  | _ => []
def klT : Tr → List Tr
  | .agg (_ :: _ :: _ :: .slice l _ :: _) => l
  | _ => []
def apT : Tr → Int
  | .agg [_, _, _, _, .lit (.int .i64 p)] => p
  | _ => 0
section
variable (sp lo : ByteArray) (l : List Att) (ks : List Tr) (p : Int)
theorem spT_mk : spT (mkN sp lo l ks p) = sp := ofB_data sp
theorem loT_mk : loT (mkN sp lo l ks p) = lo := ofB_data lo
theorem alT_mk : alT (mkN sp lo l ks p) = l := unpairs l
theorem klT_mk : klT (mkN sp lo l ks p) = ks := rfl
theorem apT_mk : apT (mkN sp lo l ks p) = p := rfl
end
/-! ### Words -/
abbrev spaceB : ByteArray := ⟨#[117, 114, 110, 58, 115, 101, 110, 116, 114, 121, 58, 99, 97, 115, 101]⟩
abbrev caseW : ByteArray := ⟨#[99, 97, 115, 101]⟩
abbrev fileW : ByteArray := ⟨#[102, 105, 108, 101]⟩
abbrev stageW : ByteArray := ⟨#[115, 116, 97, 103, 101]⟩
abbrev taskW : ByteArray := ⟨#[116, 97, 115, 107]⟩
abbrev mileW : ByteArray := ⟨#[109, 105, 108, 101, 115, 116, 111, 110, 101]⟩
abbrev listW : ByteArray := ⟨#[108, 105, 115, 116, 101, 110, 101, 114]⟩
abbrev timeW : ByteArray := ⟨#[116, 105, 109, 101, 114]⟩
abbrev entryW : ByteArray := ⟨#[101, 110, 116, 114, 121]⟩
abbrev exitW : ByteArray := ⟨#[101, 120, 105, 116]⟩
abbrev onW : ByteArray := ⟨#[111, 110]⟩
abbrev ifW : ByteArray := ⟨#[105, 102]⟩
abbrev idW : ByteArray := ⟨#[105, 100]⟩
abbrev reqW : ByteArray := ⟨#[114, 101, 113, 117, 105, 114, 101, 100]⟩
abbrev ticksW : ByteArray := ⟨#[116, 105, 99, 107, 115]⟩
abbrev itemW : ByteArray := ⟨#[105, 116, 101, 109]⟩
abbrev eventW : ByteArray := ⟨#[101, 118, 101, 110, 116]⟩
abbrev opW : ByteArray := ⟨#[111, 112]⟩
abbrev nW : ByteArray := ⟨#[110]⟩
abbrev trueW : ByteArray := ⟨#[116, 114, 117, 101]⟩
abbrev falseW : ByteArray := ⟨#[102, 97, 108, 115, 101]⟩
def eventTbl : List (ByteArray × Int) := [(⟨#[99, 114, 101, 97, 116, 101]⟩, 1), (⟨#[115, 116, 97, 114, 116]⟩, 2), (⟨#[99, 111, 109, 112, 108, 101, 116, 101]⟩, 3), (⟨#[111, 99, 99, 117, 114]⟩, 4), (⟨#[101, 120, 105, 116]⟩, 5)]
def opTbl : List (ByteArray × ByteArray) := [(⟨#[108, 116]⟩, ⟨#[60]⟩), (⟨#[108, 101]⟩, ⟨#[60, 61]⟩), (⟨#[101, 113]⟩, ⟨#[61]⟩), (⟨#[110, 101]⟩, ⟨#[33, 61]⟩), (⟨#[103, 101]⟩, ⟨#[62, 61]⟩), (⟨#[103, 116]⟩, ⟨#[62]⟩)]
def kindTbl : List (ByteArray × Int) := [(stageW, 1), (taskW, 2), (mileW, 3), (listW, 4), (timeW, 5)]
/-! ### Attributes -/
/-- Where the first attribute of that name stands; -1. -/
def atZ (l : List Att) (nm : ByteArray) : Int := match l.findIdx? (fun a => decide (a.1 = nm)) with
  | some k => k
  | none => -1
/-- Values by names; false, if one lacks. -/
def vals (l : List Att) : List ByteArray → List ByteArray × Bool
  | [] => ([], true)
  | nm :: r => match l.find? (fun a => decide (a.1 = nm)) with
    | none => (e0 :: r.map (fun _ => e0), false)
    | some a => (a.2 :: (vals l r).1, (vals l r).2)
def valOk (l : List Att) (names : List ByteArray) : Bool := (vals l names).2 && decide (l.length = names.length)
/-! ### Numbers -/
def digitsV : List UInt8 → Int → Option Int
  | [], n => some n
  | c :: r, n => if c < 48 ∨ 57 < c then none else digitsV r (n * 10 + ((c.toNat : Int) - 48))
def above (s : ByteArray) (most : Nat) : Option Int :=
  if s.size = 0 ∨ most < s.size ∨ s.data.toList.head? = some 48 then none else digitsV s.data.toList 0
def readN (s : ByteArray) : Option Int :=
  if s = ⟨#[48]⟩ then some 0 else if s.data.toList.head? = some 45 then (above (ofB (s.data.toList.drop 1)) 7).map (fun n => -n) else above s 7
def readE (s : ByteArray) : Option Int := (eventTbl.find? (fun x => decide (x.1 = s))).map (·.2)
def readO (s : ByteArray) : Option ByteArray := (opTbl.find? (fun x => decide (x.1 = s))).map (·.2)
def readR (s : ByteArray) : Option Bool := if s = trueW then some true else if s = falseW then some false else none
/-! ### What is bound -/
structure BS where
  files : List ByteArray
  items : List Mp.Item
  parent : ByteArray
def isOf (K : Tr) (w : ByteArray) : Bool := decide (spT K = spaceB) && decide (loT K = w)
abbrev Tab (σ : Type) := List (ByteArray × Int × (σ → Tr → Except Int σ))
def kids {σ : Type} (tbl : Tab σ) : Int → σ → List Tr → Except Int σ
  | _, s, [] => .ok s
  | t, s, K :: r => match tbl.find? (fun x => isOf K x.1) with
    | none => .error (apT K)
    | some x => if x.2.1 < t then .error (apT K) else match x.2.2 s K with
      | .error q => .error q
      | .ok s' => kids tbl x.2.1 s' r
def onF (s : Mp.Sent) (K : Tr) : Except Int Mp.Sent :=
  match (vals (alT K) [itemW, eventW]).1 with
  | [v0, v1] => match valOk (alT K) [itemW, eventW], readE v1 with
    | true, some e => kids [] 0 (s.1 ++ [(v0, e)], s.2) (klT K)
    | _, _ => .error (apT K)
  | _ => .error (apT K)
def condF (s : Mp.Sent) (K : Tr) : Except Int Mp.Sent :=
  match (vals (alT K) [fileW, opW, nW]).1 with
  | [v0, v1, v2] => match valOk (alT K) [fileW, opW, nW], readO v1, readN v2 with
    | true, some o, some n => kids [] 0 (s.1, s.2 ++ [(v0, o, n)]) (klT K)
    | _, _, _ => .error (apT K)
  | _ => .error (apT K)
def sentTab : Tab Mp.Sent := [(onW, 1, onF), (ifW, 2, condF)]
def sentF (K : Tr) : Except Int Mp.Sent := if valOk (alT K) [] = true then kids sentTab 0 ([], []) (klT K) else .error (apT K)
/-- The last item turned. -/
def lastT (f : Mp.Item → Mp.Item) (l : List Mp.Item) : List Mp.Item := match l.reverse with
  | [] => []
  | x :: r => (f x :: r).reverse
def entryF (s : BS) (K : Tr) : Except Int BS := match sentF K with
  | .error q => .error q
  | .ok x => .ok { s with items := lastT (fun i => { i with entry := i.entry ++ [x] }) s.items }
def exitF (s : BS) (K : Tr) : Except Int BS := match sentF K with
  | .error q => .error q
  | .ok x => .ok { s with items := lastT (fun i => { i with exit := i.exit ++ [x] }) s.items }
def headNames (l : List Att) (kind : Int) : List ByteArray :=
  [idW] ++ (if kind = 5 then [ticksW] else []) ++ (if 0 ≤ atZ l reqW then [reqW] else [])
def headStep (x : Int × Bool × Bool) (p : ByteArray × ByteArray) : Int × Bool × Bool :=
  if p.1 = ticksW then (match above p.2 3 with
    | some n => (n, x.2.1, x.2.2)
    | none => (0, x.2.1, false))
  else if p.1 = reqW then (x.1, decide (p.2 = trueW), x.2.2 && (decide (p.2 = trueW) || decide (p.2 = falseW)))
  else x
def headZ (l : List Att) (kind : Int) : List (ByteArray × ByteArray) := (headNames l kind).zip (vals l (headNames l kind)).1
/-- Ticks, Required, and whether all may be. -/
def headS (l : List Att) (kind : Int) : Int × Bool × Bool := (headZ l kind).foldl headStep (0, false, valOk l (headNames l kind))
def headI (l : List Att) (kind : Int) : ByteArray := (vals l (headNames l kind)).1.headD e0
/-- What an item's attributes say of it: id, ticks, required. -/
def head (l : List Att) (kind : Int) : Option (ByteArray × Int × Bool) :=
  if (headS l kind).2.2 = true then some (headI l kind, (headS l kind).1, (headS l kind).2.1) else none
def itemTab : Tab BS := [(entryW, 1, entryF), (exitW, 2, exitF)]
def put (s : BS) (kind : Int) (h : ByteArray × Int × Bool) : BS := ⟨s.files, s.items ++ [⟨h.1, kind, s.parent, h.2.2, h.2.1, [], []⟩], h.1⟩
def itemG (tab : Tab BS) (kind : Int) (s : BS) (K : Tr) : Except Int BS := match head (alT K) kind with
  | none => .error (apT K)
  | some h => match kids tab 0 (put s kind h) (klT K) with
    | .error q => .error q
    | .ok s' => .ok { s' with parent := s.parent }
def stageTab (f : BS → Tr → Except Int BS) : Tab BS := itemTab ++ [(stageW, 3, f), (taskW, 3, itemG itemTab 2), (mileW, 3, itemG itemTab 3), (listW, 3, itemG itemTab 4), (timeW, 3, itemG itemTab 5)]
def stageF : Nat → BS → Tr → Except Int BS
  | 0, _, K => .error 0
  | d + 1, s, K => itemG (stageTab (stageF d)) 1 s K
def fileF (s : BS) (K : Tr) : Except Int BS := match (vals (alT K) [idW]).1, valOk (alT K) [idW] with
  | [v], true => kids [] 0 { s with files := s.files ++ [v] } (klT K)
  | _, _ => .error (apT K)
def planF (d : Nat) (s : BS) (K : Tr) : Except Int BS := if s.items.length = 0 then stageF d s K else .error (apT K)
def caseTab (d : Nat) : Tab BS := [(fileW, 1, fileF), (stageW, 2, planF d)]
def caseF (d : Nat) (K : Tr) : Except Int BS :=
  if isOf K caseW = true ∧ valOk (alT K) [] = true ∧ (klT K).any (fun k => isOf k stageW) = true then kids (caseTab d) 0 ⟨[], [], e0⟩ (klT K) else .error (apT K)
/-- From: the model; the place and the error. -/
def from_ (d : Nat) (K : Tr) : Except (Int × Int) Mp.Model := match caseF d K with
  | .error q => .error (q, 6)
  | .ok s => if Mp.isB ⟨s.files, s.items⟩ = true then .ok ⟨s.files, s.items⟩ else .error (apT K, 7)
/-- How many elements. -/
def cnt : Nat → Tr → Nat
  | 0, _ => 1
  | d + 1, T => 1 + ((klT T).map (cnt d)).sum
end Go.Proofs.YtjfonpbnohbpfaaGreatDoor.Bp
