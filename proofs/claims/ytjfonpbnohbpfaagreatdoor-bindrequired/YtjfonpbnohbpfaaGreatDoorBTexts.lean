/-
  The laws' own texts: what they are read as.
-/
import Derived.Test.YtjfonpbnohbpfaaGreatDoorBLoad
set_option linter.unusedSimpArgs false
set_option linter.unusedVariables false
namespace Go.Proofs.YtjfonpbnohbpfaaGreatDoor
open Go.RowKit
set_option maxRecDepth 100000
def f0 (_ : Bp.BS) (_ : Tr) : Except Int Bp.BS := .error 0
def tab5 : Bp.Tab Bp.BS := [(Bp.fileW, 1, Bp.fileF), (Bp.stageW, 2, planG (Bp.itemG (Bp.stageTab f0) 1))]
theorem alike5 : Alike caseE tab5 := rfl
def s5 : ByteArray := ⟨#[60, 99, 97, 115, 101, 32, 120, 109, 108, 110, 115, 61, 34, 117, 114, 110, 58, 115, 101, 110, 116, 114, 121, 58, 99, 97, 115, 101, 34, 62, 60, 115, 116, 97, 103, 101, 32, 105, 100, 61, 34, 97, 34, 47, 62, 60, 47, 99, 97, 115, 101, 62]⟩
def t5 : Tr := Xp.mkT Bp.caseW [(xmlnsB, Bp.spaceB)] [Xp.mkT Bp.stageW [(Bp.idW, ⟨#[97]⟩)] [] 30] 0
def n5 : Tr := mkN Bp.spaceB Bp.caseW [] [mkN Bp.spaceB Bp.stageW [(Bp.idW, ⟨#[97]⟩)] [] 30] 0
def i5 : Mp.Item := ⟨⟨#[97]⟩, 1, e0, false, 0, [], []⟩
theorem parse5 : Xp.parse s5.data.toList = .ok t5 := by kernel_rfl
theorem res5 : resP 12 G0 t5 = .ok n5 := by kernel_rfl
theorem from5 : fromG tab5 n5 = .ok ⟨[], [i5]⟩ := by kernel_rfl
theorem is5 : Mp.isB ⟨[], [i5]⟩ = true := by kernel_rfl
theorem cnt5 : Bp.cnt 12 n5 ≤ 1000000 := of_decide_eq_true (by kernel_rfl)
theorem att5 : 2 * attN 12 t5 ≤ 99999999 := of_decide_eq_true (by kernel_rfl)
theorem fine5 : fineT 12 t5 := fine_node (by decide) (by simp; decide) (fun K hK => by rw [List.mem_singleton.1 hK]; exact fine_node (by decide) (by simp; decide) (by simp))
theorem parts5 (b B : Nat) : Parts b B 11 1000000 caseE tab5 n5 := by
  intro i x y K hx hy hK ho
  obtain rfl : K = mkN Bp.spaceB Bp.stageW [(Bp.idW, ⟨#[97]⟩)] [] 30 := List.mem_singleton.1 hK
  match i with
  | 0 =>
    cases hx
    exact absurd ho (Bool.eq_false_iff.1 (by kernel_rfl))
  | 1 =>
    cases hx
    cases hy
    exact planB (stageD (parts_nil rfl) (Nat.le_refl _))
  | i + 2 => cases hx
def preR : ByteArray := ⟨#[60, 99, 97, 115, 101, 32, 120, 109, 108, 110, 115, 61, 34, 117, 114, 110, 58, 115, 101, 110, 116, 114, 121, 58, 99, 97, 115, 101, 34, 62, 60, 115, 116, 97, 103, 101, 32, 105, 100, 61, 34, 112, 34, 62, 60, 116, 97, 115, 107, 32, 105, 100, 61, 34, 116, 34]⟩
def postR : ByteArray := ⟨#[47, 62, 60, 47, 115, 116, 97, 103, 101, 62, 60, 47, 99, 97, 115, 101, 62]⟩
def rR0 : ByteArray := ⟨#[]⟩
def sR0 : ByteArray := ⟨#[60, 99, 97, 115, 101, 32, 120, 109, 108, 110, 115, 61, 34, 117, 114, 110, 58, 115, 101, 110, 116, 114, 121, 58, 99, 97, 115, 101, 34, 62, 60, 115, 116, 97, 103, 101, 32, 105, 100, 61, 34, 112, 34, 62, 60, 116, 97, 115, 107, 32, 105, 100, 61, 34, 116, 34, 47, 62, 60, 47, 115, 116, 97, 103, 101, 62, 60, 47, 99, 97, 115, 101, 62]⟩
def tR0 : Tr := Xp.mkT Bp.caseW [(xmlnsB, Bp.spaceB)] [Xp.mkT Bp.stageW [(Bp.idW, ⟨#[112]⟩)] [Xp.mkT Bp.taskW [(Bp.idW, ⟨#[116]⟩)] [] 44] 30] 0
def nR0 : Tr := mkN Bp.spaceB Bp.caseW [] [mkN Bp.spaceB Bp.stageW [(Bp.idW, ⟨#[112]⟩)] [mkN Bp.spaceB Bp.taskW [(Bp.idW, ⟨#[116]⟩)] [] 44] 30] 0
def mR0 : List Mp.Item := [⟨⟨#[112]⟩, 1, e0, false, 0, [], []⟩, ⟨⟨#[116]⟩, 2, ⟨#[112]⟩, false, 0, [], []⟩]
theorem parseR0 : Xp.parse sR0.data.toList = .ok tR0 := by kernel_rfl
theorem resR0 : resP 12 G0 tR0 = .ok nR0 := by kernel_rfl
theorem fromR0 : fromG tab5 nR0 = .ok ⟨[], mR0⟩ := by kernel_rfl
theorem cntR0 : Bp.cnt 12 nR0 ≤ 1000000 := of_decide_eq_true (by kernel_rfl)
theorem attR0 : 2 * attN 12 tR0 ≤ 99999999 := of_decide_eq_true (by kernel_rfl)
theorem fineR0 : fineT 12 tR0 := fine_node (by decide) (by simp; decide) (fun K hK => by rw [List.mem_singleton.1 hK]; exact fine_node (by decide) (by simp; decide) (fun K hK => by rw [List.mem_singleton.1 hK]; exact fine_node (by decide) (by simp; decide) (by simp)))
theorem partsR0 (b B : Nat) : Parts b B 11 1000000 caseE tab5 nR0 := by
  intro i x y K hx hy hK ho
  obtain rfl : K = mkN Bp.spaceB Bp.stageW [(Bp.idW, ⟨#[112]⟩)] [mkN Bp.spaceB Bp.taskW [(Bp.idW, ⟨#[116]⟩)] [] 44] 30 := List.mem_singleton.1 hK
  match i with
  | 0 =>
    cases hx
    exact absurd ho (Bool.eq_false_iff.1 (by kernel_rfl))
  | 1 =>
    cases hx
    cases hy
    refine planB (stageD (fun i x y K hx hy hK ho => ?_) (Nat.le_refl _))
    obtain rfl : K = mkN Bp.spaceB Bp.taskW [(Bp.idW, ⟨#[116]⟩)] [] 44 := List.mem_singleton.1 hK
    match i with
    | 0 => cases hx; exact absurd ho (Bool.eq_false_iff.1 (by kernel_rfl))
    | 1 => cases hx; exact absurd ho (Bool.eq_false_iff.1 (by kernel_rfl))
    | 2 => cases hx; exact absurd ho (Bool.eq_false_iff.1 (by kernel_rfl))
    | 3 =>
      cases hx
      cases hy
      exact taskD (parts_nil rfl) (Nat.le_refl _)
    | 4 => cases hx; exact absurd ho (Bool.eq_false_iff.1 (by kernel_rfl))
    | 5 => cases hx; exact absurd ho (Bool.eq_false_iff.1 (by kernel_rfl))
    | 6 => cases hx; exact absurd ho (Bool.eq_false_iff.1 (by kernel_rfl))
    | i + 7 => cases hx
  | i + 2 => cases hx
def rR1 : ByteArray := ⟨#[32, 114, 101, 113, 117, 105, 114, 101, 100, 61, 34, 102, 97, 108, 115, 101, 34]⟩
def sR1 : ByteArray := ⟨#[60, 99, 97, 115, 101, 32, 120, 109, 108, 110, 115, 61, 34, 117, 114, 110, 58, 115, 101, 110, 116, 114, 121, 58, 99, 97, 115, 101, 34, 62, 60, 115, 116, 97, 103, 101, 32, 105, 100, 61, 34, 112, 34, 62, 60, 116, 97, 115, 107, 32, 105, 100, 61, 34, 116, 34, 32, 114, 101, 113, 117, 105, 114, 101, 100, 61, 34, 102, 97, 108, 115, 101, 34, 47, 62, 60, 47, 115, 116, 97, 103, 101, 62, 60, 47, 99, 97, 115, 101, 62]⟩
def tR1 : Tr := Xp.mkT Bp.caseW [(xmlnsB, Bp.spaceB)] [Xp.mkT Bp.stageW [(Bp.idW, ⟨#[112]⟩)] [Xp.mkT Bp.taskW [(Bp.idW, ⟨#[116]⟩), (Bp.reqW, Bp.falseW)] [] 44] 30] 0
def nR1 : Tr := mkN Bp.spaceB Bp.caseW [] [mkN Bp.spaceB Bp.stageW [(Bp.idW, ⟨#[112]⟩)] [mkN Bp.spaceB Bp.taskW [(Bp.idW, ⟨#[116]⟩), (Bp.reqW, Bp.falseW)] [] 44] 30] 0
def mR1 : List Mp.Item := [⟨⟨#[112]⟩, 1, e0, false, 0, [], []⟩, ⟨⟨#[116]⟩, 2, ⟨#[112]⟩, false, 0, [], []⟩]
theorem parseR1 : Xp.parse sR1.data.toList = .ok tR1 := by kernel_rfl
theorem resR1 : resP 12 G0 tR1 = .ok nR1 := by kernel_rfl
theorem fromR1 : fromG tab5 nR1 = .ok ⟨[], mR1⟩ := by kernel_rfl
theorem cntR1 : Bp.cnt 12 nR1 ≤ 1000000 := of_decide_eq_true (by kernel_rfl)
theorem attR1 : 2 * attN 12 tR1 ≤ 99999999 := of_decide_eq_true (by kernel_rfl)
theorem fineR1 : fineT 12 tR1 := fine_node (by decide) (by simp; decide) (fun K hK => by rw [List.mem_singleton.1 hK]; exact fine_node (by decide) (by simp; decide) (fun K hK => by rw [List.mem_singleton.1 hK]; exact fine_node (by decide) (by simp; decide) (by simp)))
theorem partsR1 (b B : Nat) : Parts b B 11 1000000 caseE tab5 nR1 := by
  intro i x y K hx hy hK ho
  obtain rfl : K = mkN Bp.spaceB Bp.stageW [(Bp.idW, ⟨#[112]⟩)] [mkN Bp.spaceB Bp.taskW [(Bp.idW, ⟨#[116]⟩), (Bp.reqW, Bp.falseW)] [] 44] 30 := List.mem_singleton.1 hK
  match i with
  | 0 =>
    cases hx
    exact absurd ho (Bool.eq_false_iff.1 (by kernel_rfl))
  | 1 =>
    cases hx
    cases hy
    refine planB (stageD (fun i x y K hx hy hK ho => ?_) (Nat.le_refl _))
    obtain rfl : K = mkN Bp.spaceB Bp.taskW [(Bp.idW, ⟨#[116]⟩), (Bp.reqW, Bp.falseW)] [] 44 := List.mem_singleton.1 hK
    match i with
    | 0 => cases hx; exact absurd ho (Bool.eq_false_iff.1 (by kernel_rfl))
    | 1 => cases hx; exact absurd ho (Bool.eq_false_iff.1 (by kernel_rfl))
    | 2 => cases hx; exact absurd ho (Bool.eq_false_iff.1 (by kernel_rfl))
    | 3 =>
      cases hx
      cases hy
      exact taskD (parts_nil rfl) (Nat.le_refl _)
    | 4 => cases hx; exact absurd ho (Bool.eq_false_iff.1 (by kernel_rfl))
    | 5 => cases hx; exact absurd ho (Bool.eq_false_iff.1 (by kernel_rfl))
    | 6 => cases hx; exact absurd ho (Bool.eq_false_iff.1 (by kernel_rfl))
    | i + 7 => cases hx
  | i + 2 => cases hx
def rR2 : ByteArray := ⟨#[32, 114, 101, 113, 117, 105, 114, 101, 100, 61, 34, 116, 114, 117, 101, 34]⟩
def sR2 : ByteArray := ⟨#[60, 99, 97, 115, 101, 32, 120, 109, 108, 110, 115, 61, 34, 117, 114, 110, 58, 115, 101, 110, 116, 114, 121, 58, 99, 97, 115, 101, 34, 62, 60, 115, 116, 97, 103, 101, 32, 105, 100, 61, 34, 112, 34, 62, 60, 116, 97, 115, 107, 32, 105, 100, 61, 34, 116, 34, 32, 114, 101, 113, 117, 105, 114, 101, 100, 61, 34, 116, 114, 117, 101, 34, 47, 62, 60, 47, 115, 116, 97, 103, 101, 62, 60, 47, 99, 97, 115, 101, 62]⟩
def tR2 : Tr := Xp.mkT Bp.caseW [(xmlnsB, Bp.spaceB)] [Xp.mkT Bp.stageW [(Bp.idW, ⟨#[112]⟩)] [Xp.mkT Bp.taskW [(Bp.idW, ⟨#[116]⟩), (Bp.reqW, Bp.trueW)] [] 44] 30] 0
def nR2 : Tr := mkN Bp.spaceB Bp.caseW [] [mkN Bp.spaceB Bp.stageW [(Bp.idW, ⟨#[112]⟩)] [mkN Bp.spaceB Bp.taskW [(Bp.idW, ⟨#[116]⟩), (Bp.reqW, Bp.trueW)] [] 44] 30] 0
def mR2 : List Mp.Item := [⟨⟨#[112]⟩, 1, e0, false, 0, [], []⟩, ⟨⟨#[116]⟩, 2, ⟨#[112]⟩, true, 0, [], []⟩]
theorem parseR2 : Xp.parse sR2.data.toList = .ok tR2 := by kernel_rfl
theorem resR2 : resP 12 G0 tR2 = .ok nR2 := by kernel_rfl
theorem fromR2 : fromG tab5 nR2 = .ok ⟨[], mR2⟩ := by kernel_rfl
theorem cntR2 : Bp.cnt 12 nR2 ≤ 1000000 := of_decide_eq_true (by kernel_rfl)
theorem attR2 : 2 * attN 12 tR2 ≤ 99999999 := of_decide_eq_true (by kernel_rfl)
theorem fineR2 : fineT 12 tR2 := fine_node (by decide) (by simp; decide) (fun K hK => by rw [List.mem_singleton.1 hK]; exact fine_node (by decide) (by simp; decide) (fun K hK => by rw [List.mem_singleton.1 hK]; exact fine_node (by decide) (by simp; decide) (by simp)))
theorem partsR2 (b B : Nat) : Parts b B 11 1000000 caseE tab5 nR2 := by
  intro i x y K hx hy hK ho
  obtain rfl : K = mkN Bp.spaceB Bp.stageW [(Bp.idW, ⟨#[112]⟩)] [mkN Bp.spaceB Bp.taskW [(Bp.idW, ⟨#[116]⟩), (Bp.reqW, Bp.trueW)] [] 44] 30 := List.mem_singleton.1 hK
  match i with
  | 0 =>
    cases hx
    exact absurd ho (Bool.eq_false_iff.1 (by kernel_rfl))
  | 1 =>
    cases hx
    cases hy
    refine planB (stageD (fun i x y K hx hy hK ho => ?_) (Nat.le_refl _))
    obtain rfl : K = mkN Bp.spaceB Bp.taskW [(Bp.idW, ⟨#[116]⟩), (Bp.reqW, Bp.trueW)] [] 44 := List.mem_singleton.1 hK
    match i with
    | 0 => cases hx; exact absurd ho (Bool.eq_false_iff.1 (by kernel_rfl))
    | 1 => cases hx; exact absurd ho (Bool.eq_false_iff.1 (by kernel_rfl))
    | 2 => cases hx; exact absurd ho (Bool.eq_false_iff.1 (by kernel_rfl))
    | 3 =>
      cases hx
      cases hy
      exact taskD (parts_nil rfl) (Nat.le_refl _)
    | 4 => cases hx; exact absurd ho (Bool.eq_false_iff.1 (by kernel_rfl))
    | 5 => cases hx; exact absurd ho (Bool.eq_false_iff.1 (by kernel_rfl))
    | 6 => cases hx; exact absurd ho (Bool.eq_false_iff.1 (by kernel_rfl))
    | i + 7 => cases hx
  | i + 2 => cases hx
end Go.Proofs.YtjfonpbnohbpfaaGreatDoor
