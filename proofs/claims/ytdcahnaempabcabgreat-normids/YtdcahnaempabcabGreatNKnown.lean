/-
  The laws' own small model in order.
-/
import Derived.Test.YtdcahnaempabcabGreatNIs
import Derived.Test.YtdcahnaempabcabGreatMBuild
set_option linter.unusedSimpArgs false
set_option linter.unusedVariables false
namespace Go.Proofs.YtdcahnaempabcabGreat
open Go.RowKit
set_option maxRecDepth 100000
def kP : Mp.Item := ⟨⟨#[112]⟩, 1, ⟨#[]⟩, false, 0, [], []⟩
def kM : Mp.Model := ⟨[⟨#[98]⟩, ⟨#[97]⟩], [kP]⟩
def kN : Mp.Model := ⟨[⟨#[97]⟩, ⟨#[98]⟩], [kP]⟩
theorem is_kM : Mp.isB kM = true := by kernel_rfl
theorem is_kN : Mp.isB kN = true := by kernel_rfl
theorem kP_norm : Np.itemN kP = kP := by
  unfold Np.itemN kP
  simp only [Np.sentsN_nil]
theorem k_items : Np.itemsN [kP] = [kP] := by
  have h := Np.itemsN_perm (l := [kP]) (Np.parts_of is_kN).2.2.1
  rw [List.map_cons, List.map_nil, kP_norm] at h
  exact List.perm_singleton.1 h
theorem k_files (l : List ByteArray) (h : l.Perm [⟨#[97]⟩, ⟨#[98]⟩]) : Np.sortC Np.cmpS l = [⟨#[97]⟩, ⟨#[98]⟩] := by
  refine (Np.sortC_eq Np.cmpS_tot ?_ h.symm).symm
  refine List.pairwise_cons.2 ⟨fun x hx => ?_, List.pairwise_singleton _ _⟩
  rw [List.mem_singleton.1 hx]
  show Lib.compareBytes [97] [98] ≤ 0
  decide
theorem norm_kM : normA kM = kN := by
  rw [normA_yes is_kM]
  show (⟨Np.sortC Np.cmpS [⟨#[98]⟩, ⟨#[97]⟩], Np.itemsN [kP]⟩ : Mp.Model) = kN
  rw [k_files _ (List.Perm.swap _ _ _), k_items]
  rfl
theorem norm_kN : Np.normB kN = kN := by
  show (⟨Np.sortC Np.cmpS [⟨#[97]⟩, ⟨#[98]⟩], Np.itemsN [kP]⟩ : Mp.Model) = kN
  rw [k_files _ (.refl _), k_items]
  rfl
theorem isN_kN : isNB kN = true := by
  unfold isNB
  rw [is_kN, norm_kN, (Mp.eqM_iff kN kN).2 rfl]
  rfl
set_option maxHeartbeats 4000000 in
theorem known7 (w : World) : Calls Tryz.prog 9 #[] w fun e w' => e = .returned (.bool true) ∧ Below w.heap.size w w' := by
  obtain ⟨W1, hW1, b1, hL1, hL2, _⟩ := two_newU w 9 29 #[.string ⟨#[98]⟩, .string ⟨#[97]⟩] #[.string ⟨#[112]⟩, .int .i64 1, .string ⟨#[]⟩, .bool false, .int .i64 0, .slice none 0 0, .slice none 0 0]
  have B1 := hideT b1
  have HM : Hid (ModelAt W1 (some ⟨w.heap.size, 0, none⟩) 2 (some ⟨w.heap.size + 1, 0, none⟩) 1 kM) := by
    have hO1 : W1.ownsRow 0 9 1 (.slice (some ⟨w.heap.size, 0, none⟩) 2 2) 2 ([⟨#[98]⟩, ⟨#[97]⟩].map Value.string) := ⟨rfl, .inr ⟨_, 2, _, rfl, Nat.zero_le _, hL1, Nat.le_refl _, by decide, rfl, rfl⟩⟩
    have hzf : ∀ s ∈ ([⟨#[98]⟩, ⟨#[97]⟩] : List ByteArray), s.size ≤ 140737488355328 := by
      intro s hs
      simp only [List.mem_cons, List.mem_nil_iff, or_false] at hs
      rcases hs with rfl | rfl <;> decide
    exact ⟨frow_of_own hO1 rfl (by decide) hzf, irow_bare (H := 0) (own_of_lies (z := 7) (n := 1) hL2 (Nat.zero_le _) rfl (by decide)) rfl (by decide) (fun x hx => by rw [List.mem_singleton.1 hx]; exact ⟨by decide, by decide, rfl, rfl⟩)⟩
  have hc : Calls Tryz.prog 6 #[.agg #[.slice (some ⟨w.heap.size, 0, none⟩) 2 2, .slice (some ⟨w.heap.size + 1, 0, none⟩) 1 1]] W1 (NMPost kN W1) := normalV W1 kM _ _ 2 1 2 1 HM.out rfl rfl kN norm_kM
  clear b1 hL1 hL2
  go_enter Tryz.func9, Tryz.ntmps9
  go_wp2_with fail
  refine hc.mono ?_
  rintro e w2 ⟨af, cf, ai, ci, he, n2, b2⟩
  have he' : e = .returned (.agg #[.slice af 2 cf, .slice ai 1 ci]) := he
  subst he'
  have B2 := hideT (B1.out.trans (b2.mono B1.out.size))
  have BA := hideT ((Below.refl w2.heap.size w2).alloc (Nat.le_refl _) (.cells #[.slice af 2 cf, .slice ai 1 ci] 32))
  have HN := hideT (n2.here.below BA.out)
  obtain ⟨_, _, _, b, o, ha, hcf⟩ := frow_at HN.out.files
  obtain rfl := ha (by decide)
  obtain ⟨_, c0⟩ := hcf 0 ⟨#[97]⟩ rfl
  rw [Nat.add_zero] at c0
  clear he n2 b2 hc hcf ha hW1
  go_wp2_with fail
  refine (isND _ kN (some ⟨b, o, none⟩) ai cf ci HN.out true isN_kN).mono ?_
  rintro e w3 ⟨rfl, b3⟩
  have B3 := hideT ((B2.out.trans (BA.out.mono B2.out.size)).trans (b3.mono (Nat.le_trans B2.out.size BA.out.size)))
  clear b3
  go_wp2_with fail
  go_ret
  exact ⟨rfl, B3.out⟩
end Go.Proofs.YtdcahnaempabcabGreat
