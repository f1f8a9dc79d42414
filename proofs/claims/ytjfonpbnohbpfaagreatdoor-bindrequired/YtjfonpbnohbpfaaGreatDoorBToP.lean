/-
  PLAIN: a model as an element; an element without prefixes.
-/
import Derived.Test.YtjfonpbnohbpfaaGreatDoorBPlain
import Derived.Lib.ItoaNum
set_option linter.unusedSimpArgs false
set_option linter.unusedVariables false
namespace Go.Proofs.YtjfonpbnohbpfaaGreatDoor.Bp
open Go.RowKit
def el (lo : ByteArray) (ks : List Tr) (l : List Att) : Tr := mkN spaceB lo l ks 0
def wordI (tbl : List (ByteArray × Int)) (k : Int) : ByteArray := match tbl.find? (fun x => decide (x.2 = k)) with
  | some x => x.1
  | none => e0
def wordO (o : ByteArray) : ByteArray := match opTbl.find? (fun x => decide (x.2 = o)) with
  | some x => x.1
  | none => e0
def decS (n : Int) : ByteArray := ⟨(Lib.itoa n).toArray⟩
def onEl (o : Mp.On) : Tr := el onW [] [(itemW, o.1), (eventW, wordI eventTbl o.2)]
def ifEl (c : Mp.Cond) : Tr := el ifW [] [(fileW, c.1), (opW, wordO c.2.1), (nW, decS c.2.2)]
def sentEl (lo : ByteArray) (s : Mp.Sent) : Tr := el lo (s.1.map onEl ++ s.2.map ifEl) []
def headA (x : Mp.Item) : List Att := [(idW, x.id)] ++ (if x.req = true then [(reqW, trueW)] else []) ++ (if x.kind = 5 then [(ticksW, decS x.ticks)] else [])
def itemEl (m : Mp.Model) : Nat → Nat → Tr
  | 0, _ => el e0 [] []
  | d + 1, i => match m.items[i]? with
    | none => el e0 [] []
    | some x => el (wordI kindTbl x.kind) (x.entry.map (sentEl entryW) ++ x.exit.map (sentEl exitW) ++ (Mp.kidsF x.id 0 m.items).map (fun j => itemEl m d j.toNat)) (headA x)
def fileEl (f : ByteArray) : Tr := el fileW [] [(idW, f)]
def toT (d : Nat) (m : Mp.Model) : Tr := el caseW (m.files.map fileEl ++ [itemEl m d 0]) []
/-- An element without prefixes. -/
def plP : Nat → ByteArray → Tr → Tr
  | 0, _, T => T
  | d + 1, outer, T => Xp.mkT (loT T) ((if spT T = outer then [] else [(xmlnsB, spT T)]) ++ alT T) ((klT T).map (plP d (spT T))) 0
end Go.Proofs.YtjfonpbnohbpfaaGreatDoor.Bp
