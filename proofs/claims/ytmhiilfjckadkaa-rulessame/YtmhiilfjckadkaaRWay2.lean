/-
  The five kinds of elements that RulesSame appends: their cells, what is empty of each.
-/
import Derived.Test.YtmhiilfjckadkaaRWay1
set_option linter.unusedSimpArgs false
set_option linter.unusedVariables false
namespace Go.Proofs.Ytmhiilfjckadkaa
open Go.RowKit
set_option maxRecDepth 100000
theorem infoTxt : (Try.prog.info? 9).map (fun i => (i.zero, i.size, i.bytes)) = some (some (.string ⟨#[]⟩), 1, 16) := by kernel_rfl
theorem infoRul : (Try.prog.info? 42).map (fun i => (i.zero, i.size, i.bytes)) = some (some (.agg #[.int .i64 0, .slice none 0 0, .slice none 0 0, .slice none 0 0]), 4, 80) := by kernel_rfl
theorem infoUse : (Try.prog.info? 52).map (fun i => (i.zero, i.size, i.bytes)) = some (some (.agg #[.string ⟨#[]⟩, .int .i64 0, .slice none 0 0, .int .i64 0]), 4, 56) := by kernel_rfl
theorem infoIte : (Try.prog.info? 56).map (fun i => (i.zero, i.size, i.bytes)) = some (some (.agg #[.string ⟨#[]⟩, .int .i64 0, .string ⟨#[]⟩, .bool false, .int .i64 0, .slice none 0 0, .slice none 0 0]), 7, 104) := by kernel_rfl
theorem intR_one {w : World} (cs : List Value) (x : Int) (h : intR w cs x) : ∀ u ∈ cs, u.oneCell' = true := by
  obtain rfl : cs = _ := h
  intro u hu
  simp at hu
  subst hu
  rfl
theorem strR_one {w : World} (cs : List Value) (x : ByteArray) (h : strR w cs x) : ∀ u ∈ cs, u.oneCell' = true := by
  obtain ⟨rfl, _⟩ := h
  intro u hu
  simp at hu
  subst hu
  rfl
theorem ruleR_one {w : World} (cs : List Value) (x : Rp.Rule) (h : ruleR w cs x) : ∀ u ∈ cs, u.oneCell' = true := by
  obtain ⟨v1, v2, v3, rfl, r1, r2, r3⟩ := h
  obtain ⟨_, _, rfl⟩ := row_val r1
  obtain ⟨_, _, rfl⟩ := row_val r2
  obtain ⟨_, _, rfl⟩ := row_val r3
  intro u hu
  simp at hu
  rcases hu with rfl | rfl | rfl | rfl <;> rfl
theorem userR_one {w : World} (cs : List Value) (x : Rp.User) (h : userR w cs x) : ∀ u ∈ cs, u.oneCell' = true := by
  obtain ⟨v2, rfl, _, r2⟩ := h
  obtain ⟨_, _, rfl⟩ := row_val r2
  intro u hu
  simp at hu
  rcases hu with rfl | rfl | rfl | rfl <;> rfl
theorem itemR_one {w : World} (cs : List Value) (x : Mp.Item) (h : itemR w cs x) : ∀ u ∈ cs, u.oneCell' = true := by
  obtain ⟨v5, v6, rfl, _, r1, r2⟩ := h
  obtain ⟨_, _, rfl⟩ := row_val r1
  obtain ⟨_, _, rfl⟩ := row_val r2
  intro u hu
  simp [itemC] at hu
  rcases hu with rfl | rfl | rfl | rfl | rfl | rfl | rfl <;> rfl
theorem ruleR_turn {w w' : World} (hc : ∀ a c, w.cell? a = some c → w'.cell? a = some c) (cs : List Value) (x : Rp.Rule) (h : ruleR w cs x) : ruleR w' cs x := by
  obtain ⟨v1, v2, v3, e, h1, h2, h3⟩ := h
  exact ⟨v1, v2, v3, e, lrow_turn h1 hc, crow_turn h2 hc, lrow_turn h3 hc⟩
theorem userR_turn {w w' : World} (hc : ∀ a c, w.cell? a = some c → w'.cell? a = some c) (cs : List Value) (x : Rp.User) (h : userR w cs x) : userR w' cs x := by
  obtain ⟨v2, e, hz, h2⟩ := h
  exact ⟨v2, e, hz, lrow_turn h2 hc⟩
theorem itemR_turn {w w' : World} (hc : ∀ a c, w.cell? a = some c → w'.cell? a = some c) (cs : List Value) (x : Mp.Item) (h : itemR w cs x) : itemR w' cs x := by
  obtain ⟨v5, v6, e, hz, h1, h2⟩ := h
  exact ⟨v5, v6, e, hz, srow_turn h1 hc, srow_turn h2 hc⟩
def oneI : Cel 1 := ⟨[.int .i64 1], rfl, intR_one (w := default) _ 1 rfl⟩
def oneS : Cel 1 := ⟨[.string ⟨#[120]⟩], rfl, fun u hu => by simp at hu; subst hu; rfl⟩
def oneR : Cel 4 := ⟨[.int .i64 0, .slice none 0 0, .slice none 0 0, .slice none 0 0], rfl, fun u hu => by simp at hu; rcases hu with rfl | rfl <;> rfl⟩
def oneU : Cel 4 := ⟨[.string ⟨#[]⟩, .int .i64 0, .slice none 0 0, .int .i64 0], rfl, fun u hu => by simp at hu; rcases hu with rfl | rfl | rfl | rfl <;> rfl⟩
def oneN : Cel 7 := ⟨[.string ⟨#[]⟩, .int .i64 0, .string ⟨#[]⟩, .bool false, .int .i64 0, .slice none 0 0, .slice none 0 0], rfl, fun u hu => by simp at hu; rcases hu with rfl | rfl | rfl | rfl | rfl | rfl | rfl <;> rfl⟩
theorem oneR_is (w : World) : ruleR w oneR.1 (0, [], [], []) := ⟨_, _, _, rfl, rowR_nil _, rowR_nil _, rowR_nil _⟩
theorem oneU_is (w : World) : userR w oneU.1 (⟨#[]⟩, 0, [], 0) := ⟨_, rfl, by decide, rowR_nil _⟩
theorem oneN_is (w : World) : itemR w oneN.1 ⟨⟨#[]⟩, 0, ⟨#[]⟩, false, 0, [], []⟩ := ⟨_, _, rfl, ⟨by decide, by decide⟩, rowR_nil _, rowR_nil _⟩
theorem oneS_is (w : World) : strR w oneS.1 ⟨#[120]⟩ := ⟨rfl, by decide⟩
theorem oneI_is (w : World) : intR w oneI.1 1 := rfl
end Go.Proofs.Ytmhiilfjckadkaa
