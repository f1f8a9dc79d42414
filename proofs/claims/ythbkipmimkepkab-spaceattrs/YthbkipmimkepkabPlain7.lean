/-
  PLAIN: point pairs in names. No program in this text.
-/
import Derived.Test.YthbkipmimkepkabPlain6
namespace Go.Proofs.Ythbkipmimkepkab
namespace Sp
open Go.Lib (indexByte)
theorem cat_data (x y : ByteArray) : (x ++ y).data.toList = x.data.toList ++ y.data.toList := by
  rw [ByteArray.data_append]
  simp
theorem indexByte_without (c : UInt8) : ∀ l : List UInt8, (∀ b ∈ l, b ≠ c) → indexByte l c = -1
  | [], _ => rfl
  | b :: t, h => by
    rw [indexByte, if_neg (by simpa using h b (by simp)), indexByte_without c t (fun x hx => h x (by simp [hx]))]
    rfl
theorem indexByte_behind (c : UInt8) (t : List UInt8) : ∀ l : List UInt8, (∀ b ∈ l, b ≠ c) → indexByte (l ++ c :: t) c = l.length
  | [], _ => by simp [indexByte]
  | b :: r, h => by
    have ih := indexByte_behind c t r (fun x hx => h x (by simp [hx]))
    rw [List.cons_append, indexByte, if_neg (by simpa using h b (by simp)), ih, if_neg (by rw [beq_iff_eq]; omega)]
    simp
theorem isB_colon (a t : List UInt8) : isB (a ++ 58 :: t) = false := by
  apply isB_go _ a.length
  · simp
  · simp [List.getD]
    decide
theorem isB_mem (l : List UInt8) (h : isB l = true) : 1 ≤ l.length ∧ l.length ≤ 12 ∧ begZ ((l.getD 0 0).toNat : Int) = true ∧ ∀ b ∈ l, goZ (b.toNat : Int) = true := by
  unfold isB at h
  simp only [Bool.and_eq_true, decide_eq_true_eq, List.all_eq_true] at h
  exact ⟨h.1.1.1, h.1.1.2, h.1.2, h.2⟩
theorem isB_no_colon (l : List UInt8) (h : isB l = true) : ∀ b ∈ l, b ≠ 58 := by
  intro b hb e
  have := (isB_mem l h).2.2.2 b hb
  rw [e] at this
  exact absurd this (by decide)
theorem rep_mem (n : Nat) (c d : UInt8) (hcd : c ≠ d) : ∀ b ∈ List.replicate n c, b ≠ d := by
  intro b hb
  rw [List.mem_replicate] at hb
  rw [hb.2]
  exact hcd
theorem isB_rep (n : Nat) (c : UInt8) (hb : begZ (c.toNat : Int) = true) : isB (List.replicate n c) = decide (1 ≤ n ∧ n ≤ 12) := by
  by_cases h : 1 ≤ n ∧ n ≤ 12
  · rw [decide_eq_true h]
    have hg : ∀ k, k < n → (List.replicate n c).getD k 0 = c := fun k hk => by simp [List.getD, hk]
    apply isB_yes
    · simpa using h.1
    · simpa using h.2
    · rw [hg 0 (by omega)]
      exact hb
    · intro k hk
      rw [hg k (by simpa using hk)]
      exact begZ_goZ _ hb
  · rw [decide_eq_false h]
    apply isB_len
    rw [List.length_replicate]
    omega
theorem qualB_rep (n : Nat) : qualB (List.replicate n 97) = decide (1 ≤ n ∧ n ≤ 12) := by
  rw [qualB_none _ (by rw [indexByte_without 58 _ (rep_mem n 97 58 (by decide))]; decide), isB_rep n 97 (by decide)]
theorem qualB_two (a b : List UInt8) (h : ∀ x ∈ a, x ≠ 58) : qualB (a ++ 58 :: b) = (isB a && isB b) := by
  rw [qualB_found _ a.length (indexByte_behind 58 b a h)]
  congr 1
  · congr 1
    simp
  · congr 1
    simp
theorem splitL_two (a b : List UInt8) (h : ∀ x ∈ a, x ≠ 58) : splitL (a ++ 58 :: b) = (a, b) := by
  rw [splitL_found _ a.length (indexByte_behind 58 b a h)]
  simp
end Sp
end Go.Proofs.Ythbkipmimkepkab
