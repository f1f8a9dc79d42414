/-
  Bytes among a law's arguments, opened.
-/
import Derived.Test.YtcfalhgcdffjoaaMOpen
import Derived.Test.YtcfalhgcdffjoaaKMem
set_option linter.unusedSimpArgs false
set_option linter.unusedVariables false
namespace Go.Proofs.Ytcfalhgcdffjoaa
open Go.RowKit
set_option maxRecDepth 100000
section
variable {H : Type} {enc : TypeId × Value → H} {w : World} {base : Nat} {spare : Nat → Bool} {held : Bool}
theorem bytes_open {r : Reach} {b0 : Nat} {v : Value} {d : DataW H} {p : List MemPlace} (hv : Value.okWide Try.prog w r b0 27 v) (h : DataW.Trod enc Try.prog w base spare held 27 v d p) (hq : Wt 27 d) : ∃ l, BRow w v l := by
  obtain ⟨a0, len, cap, rfl⟩ := Go.WideShapes.okWide_slice Try.underlying27 hv
  obtain ⟨fuel, hf⟩ := h
  have hf' : DataW.trod enc Try.prog w base spare held fuel 27 [.slice a0 len cap] = some (d, p) := hf
  rcases Go.Deep.open_slice Try.underlying27 hf' with ⟨hcs, hx⟩ | ⟨a, len', cap', m, n, D, Pl, hcs, _, hlc, _, hm, hx, hall⟩
  · have e : Value.slice a0 len cap = .slice none 0 0 := (List.cons.inj hcs).1
    rw [e]
    exact ⟨[], 0, 0, none, 0, rfl, Nat.le_refl _, fun h => absurd h (Nat.lt_irrefl 0), Nat.zero_le _, fun i x hx => by simp at hx⟩
  · have e : Value.slice a0 len cap = .slice (some a) len' cap' := (List.cons.inj hcs).1
    simp only [Value.slice.injEq] at e
    obtain ⟨rfl, rfl, rfl⟩ := e
    simp only [Prod.mk.injEq] at hx
    obtain ⟨rfl, _⟩ := hx
    have hlm : len ≤ m := by rw [hm]; split <;> omega
    obtain ⟨hw, _⟩ := wt_slice Try.underlying27 hq
    rw [List.length_map, List.length_range, show Try.prog.bytesOf 5 = 1 by kernel_rfl] at hw
    have hlen : len ≤ 140737488355328 := by
      have := reachBytes_lt
      omega
    have hz : Try.prog.cellsOf 5 = 1 := by kernel_rfl
    rw [hz] at hall
    have each : ∀ i, i < len → ∃ c : UInt8, w.cells? base (a.add (i * 1)) 1 = some [.int .u8 c.toNat] := by
      intro i hi
      obtain ⟨cs', hc, htr⟩ := hall i (by omega)
      obtain ⟨k, e, h1, h2⟩ := DataW.trod_int Try.underlying5 htr
      have hk : 0 ≤ k ∧ k < 256 := by
        simp [Lit.wf] at h2
        have a : IntKind.u8.min = 0 := by decide
        have b : IntKind.u8.max = 255 := by decide
        omega
      refine ⟨UInt8.ofNat k.toNat, ?_⟩
      rw [hc, e, UInt8.toNat_ofNat', show ((k.toNat % 2 ^ 8 : Nat) : Int) = k by omega]
    have : Inhabited UInt8 := ⟨0⟩
    obtain ⟨f, hf⟩ := Go.Deep.choose_lt each
    have plain : 0 < len → a = ⟨a.block, a.off, none⟩ := by
      intro h0
      obtain ⟨_, _, hcell⟩ := World.cells?_some (hf 0 h0)
      have h00 := hcell 0 (by decide)
      rw [Nat.zero_mul] at h00
      have e : (a.add 0).add 0 = a := by
        obtain ⟨b, o, sp⟩ := a
        cases sp <;> simp [Addr.add]
      rw [e] at h00
      exact plain_of_cell h00
    refine ⟨(List.range len).map f, a.block, a.off, some a, cap, by rw [List.length_map, List.length_range], by rw [List.length_map, List.length_range]; exact hlc, fun h0 => ?_, by rw [List.length_map, List.length_range]; exact hlen, fun i y hy => ?_⟩
    · rw [List.length_map, List.length_range] at h0
      exact congrArg some (plain h0)
    · rw [List.getElem?_map] at hy
      cases hr : (List.range len)[i]? with
      | none => rw [hr] at hy; cases hy
      | some j =>
        rw [hr] at hy
        obtain ⟨hi, hj⟩ := List.getElem?_eq_some_iff.1 hr
        rw [List.length_range] at hi
        rw [List.getElem_range] at hj
        subst hj
        obtain rfl := Option.some.inj hy
        obtain ⟨_, _, hcell⟩ := World.cells?_some (hf i hi)
        have := hcell 0 (by decide)
        rw [plain (by omega), add_plain, add_plain, Nat.mul_one, Nat.add_zero] at this
        exact this
end
end Go.Proofs.Ytcfalhgcdffjoaa
