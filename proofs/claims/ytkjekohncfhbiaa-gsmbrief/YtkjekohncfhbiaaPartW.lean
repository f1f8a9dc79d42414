/-
  Several texts in one: each opens with its own word.
-/
import Derived.Test.YtkjekohncfhbiaaRFlags
import Derived.Test.YtkjekohncfhbiaaPartG
import Derived.Deep.QuietTactic
import Derived.BigQuiet
import Derived.Test.YtkjekohncfhbiaaGKnown
/-
  Whether a program is more than is looked at.
-/
set_option linter.unusedSimpArgs false
set_option linter.unusedVariables false
namespace Go.Proofs.Ytkjekohncfhbiaa
open Go.RowKit
set_option maxRecDepth 100000
/-- No rule's row up to k is longer than N; the like for users. -/
def RuUp (l : List Rp.Rule) (k N : Nat) : Prop := ∀ (i : Nat) r, i < k → l[i]? = some r → r.2.1.length ≤ N ∧ r.2.2.1.length ≤ N ∧ r.2.2.2.length ≤ N
def UsUp (l : List Rp.User) (k N : Nat) : Prop := ∀ (i : Nat) r, i < k → l[i]? = some r → r.2.2.1.length ≤ N
theorem RuUp.next {l : List Rp.Rule} {k N n : Nat} {r : Rp.Rule} (h : RuUp l k N) (hr : l[k]? = some r) (h1 : N + r.2.1.length + r.2.2.1.length + r.2.2.2.length = n) : RuUp l (k + 1) n := fun i x hi hx => by
  by_cases e : i < k
  · obtain ⟨a, b, c⟩ := h i x e hx
    exact ⟨by omega, by omega, by omega⟩
  · obtain rfl : i = k := by omega
    obtain rfl := Option.some.inj (hr.symm.trans hx)
    exact ⟨by omega, by omega, by omega⟩
theorem UsUp.next {l : List Rp.User} {k N n : Nat} {r : Rp.User} (h : UsUp l k N) (hr : l[k]? = some r) (h1 : N + r.2.2.1.length = n) : UsUp l (k + 1) n := fun i x hi hx => by
  by_cases e : i < k
  · have a := h i x e hx
    omega
  · obtain rfl : i = k := by omega
    obtain rfl := Option.some.inj (hr.symm.trans hx)
    omega
def Big11Post (p : Rp.Prog) (w : World) (e : Ending) (w' : World) : Prop := ∃ b : Bool, e = .returned (.bool b) ∧ (b = false → Gp.SmallP p) ∧ Below w.heap.size w w'
set_option maxHeartbeats 8000000 in
theorem big11D (w : World) (A : PA) (p : Rp.Prog) (h : ProgAt w A p) : Calls Try.prog 9 #[.agg #[.int .i64 p.flags, .int .i64 p.lasting, .slice A.a2 p.first.length A.c2, .slice A.a3 p.over.length A.c3, .int .i64 p.frm, .slice A.a5 p.files.length A.c5, .slice A.a6 p.rules.length A.c6, .slice A.a7 p.ctrs.length A.c7, .slice A.a8 p.users.length A.c8, .slice A.a9 p.notes.length A.c9]] w (Big11Post p w) := by
  obtain ⟨a2, c2, a3, c3, a5, c5, a6, c6, a7, c7, a8, c8, a9, c9⟩ := A
  show Calls _ _ #[.agg #[.int .i64 p.flags, .int .i64 p.lasting, .slice a2 p.first.length c2, .slice a3 p.over.length c3, .int .i64 p.frm, .slice a5 p.files.length c5, .slice a6 p.rules.length c6, .slice a7 p.ctrs.length c7, .slice a8 p.users.length c8, .slice a9 p.notes.length c9]] w _
  have B0 := hideT ((Below.refl w.heap.size w).alloc (Nat.le_refl _) (.cells #[.int .i64 p.flags, .int .i64 p.lasting, .slice a2 p.first.length c2, .slice a3 p.over.length c3, .int .i64 p.frm, .slice a5 p.files.length c5, .slice a6 p.rules.length c6, .slice a7 p.ctrs.length c7, .slice a8 p.users.length c8, .slice a9 p.notes.length c9] 29))
  have L0 := hideT (PBox.newC w a2 a3 a5 a6 a7 a8 a9 c2 c3 c5 c6 c7 c8 c9 p)
  obtain ⟨_, hz1, _, _⟩ := zrow_at (show ZRow w (.slice a2 p.first.length c2) p.first from h.first)
  obtain ⟨_, hz2, _, _⟩ := zrow_at (show ZRow w (.slice a3 p.over.length c3) p.over from h.over)
  obtain ⟨_, hz3, _, bf, of, _, hfc⟩ := frow_at (show FRow w (.slice a5 p.files.length c5) p.files from h.files)
  have HFT : Hid (∀ s ∈ p.files, s.size ≤ 140737488355328) := fun s hs => by
    obtain ⟨i, hi⟩ := List.getElem?_of_mem hs
    exact (hfc i s hi).1
  clear hfc
  obtain ⟨_, hz4, _, b, o, ha, hc⟩ := rrow_at (show RRow w (.slice a6 p.rules.length c6) p.rules from h.rules)
  obtain ⟨_, hz5, _, _⟩ := trow_at (show TRow w (.slice a7 p.ctrs.length c7) p.ctrs from h.ctrs)
  obtain ⟨_, hz6, _, bu, ou, hau, hcu⟩ := urow_at (show URow w (.slice a8 p.users.length c8) p.users from h.users)
  obtain ⟨_, hz7, _, _⟩ := irow_at (show IRow w (.slice a9 p.notes.length c9) p.notes from h.notes)
  have HC := hideT hc
  have HA := hideT ha
  have HCU := hideT hcu
  have HAU := hideT hau
  obtain ⟨S0, hS0⟩ : ∃ S0, p.first.length + p.over.length + p.files.length + p.rules.length + p.ctrs.length + p.users.length + p.notes.length = S0 := ⟨_, rfl⟩
  have HS := hideT hS0
  clear hc ha hcu hau h hS0
  go_enter Try.func9, Try.ntmps9
  go_wp2_with fail
  go_loopw [3, 4] (fun n i wr => ∃ k N : Nat, k ≤ p.rules.length ∧ S0 ≤ N ∧ N ≤ 1000000000000000 ∧ i = .int .i64 k ∧ n = .int .i64 N ∧ Hid (Below w.heap.size w wr ∧ PBox wr w.heap.size ⟨a2, c2, a3, c3, a5, c5, a6, c6, a7, c7, a8, c8, a9, c9⟩ p) ∧ Hid (RuUp p.rules k N)) (fun _ i _ => p.rules.length - (intOf i).toNat)
  case atStart => exact ⟨0, S0, by omega, Nat.le_refl _, by have := HS.out; omega, rfl, by rw [← HS.out]; go_num, ⟨B0.out, L0.out⟩, fun i r hi => absurd hi (by omega)⟩
  case round =>
    obtain ⟨k, N, hk, hSN, hN, rfl, rfl, HW, HRU⟩ := hrel
    obtain ⟨x0, x1, x2, x3, x4, x5, x6, x7, x8, x9⟩ := HW.out.2.cellsC
    by_cases hgo : k < p.rules.length ∧ N < 2500
    · obtain ⟨hlt, hlN⟩ := hgo
      obtain ⟨⟨s, l1, l2, l3⟩, hx⟩ := Mp.at_lt (l := p.rules) (k := k) hlt
      obtain ⟨i1, n1, i2, n2, i3, n3, I0⟩ := HC.out k _ hx
      obtain ⟨r1, r2, r3, d0, d1, d2, d3⟩ := I0.turn (below_cell HW.out.1)
      dsimp only at r1 r2 r3 d0 d1 d2 d3
      have hq1 := (lrow_at r1).2.1
      have hq2 := (crow_at r2).2.1
      have hq3 := (lrow_at r3).2.1
      obtain rfl := HA.out (by omega)
      have HRN : Hid (RuUp p.rules (k + 1) (N + l1.length + l2.length + l3.length)) := HRU.out.next hx rfl
      clear hx I0 r1 r2 r3
      have t0 : (0 : Int) ≤ (k : Int) := by omega
      have t1 : (k : Int) < (p.rules.length : Int) := by omega
      go_wp2_with fail
      go_quiet (fail)
      go_wp2_with fail
      refine ⟨⟨k + 1, N + l1.length + l2.length + l3.length, by omega, by omega, by omega, by go_num, by first | rfl | go_num, ⟨below_drewN HW.out.1 _, HW.out.2.below (below_drewN (Below.refl _ _) _)⟩, HRN⟩, ?_⟩
      first | omega | (simp [intOf]; omega)
    have hway : ¬ k < p.rules.length ∨ (k < p.rules.length ∧ ¬ N < 2500) := by omega
    clear hgo
    obtain ⟨W1, hW1⟩ : ∃ W1, W1 = wr := ⟨wr, rfl⟩
    subst hW1
    obtain ⟨N0, hN0⟩ : ∃ N0, N0 = N := ⟨_, rfl⟩
    have HRA : Hid (N0 < 2500 → RuUp p.rules p.rules.length N0) := fun hlt => by
      rcases hway with hw | ⟨_, hw⟩
      · have hkk : k = p.rules.length := by omega
        rw [← hkk, hN0]
        exact HRU.out
      · omega
    have HN0 := hideT hN0
    clear hN0 HRU
    rcases hway with hway | ⟨hway1, hway2⟩
    all_goals
      go_wp2_with fail
      clear x0 x1 x2 x3 x4 x5 x6 x7 x8 x9
      go_loopw [3, 5] (fun n i wr => ∃ k N : Nat, k ≤ p.users.length ∧ S0 ≤ N ∧ N ≤ 1000000000000000 ∧ i = .int .i64 k ∧ n = .int .i64 N ∧ Hid (Below w.heap.size w wr ∧ PBox wr w.heap.size ⟨a2, c2, a3, c3, a5, c5, a6, c6, a7, c7, a8, c8, a9, c9⟩ p) ∧ Hid (N0 ≤ N ∧ UsUp p.users k N)) (fun _ i _ => p.users.length - (intOf i).toNat)
      case atStart => exact ⟨0, N, by omega, hSN, hN, rfl, rfl, HW, by rw [HN0.out]; exact Nat.le_refl _, fun i r hi => absurd hi (by omega)⟩
      case round =>
        obtain ⟨k2, N2, hk2, hSN2, hN2, rfl, rfl, HV, HUU⟩ := hrel
        obtain ⟨x0, x1, x2, x3, x4, x5, x6, x7, x8, x9⟩ := HV.out.2.cellsC
        by_cases hgo : k2 < p.users.length ∧ N2 < 2500
        · obtain ⟨hlt, hlN⟩ := hgo
          obtain ⟨⟨s0, s1, s2, s3⟩, hx⟩ := Mp.at_lt (l := p.users) (k := k2) hlt
          obtain ⟨i1, n1, I0⟩ := HCU.out k2 _ hx
          obtain ⟨_, r1, d0, d1, d2, d3⟩ := I0.turn (below_cell HV.out.1)
          dsimp only at r1 d0 d1 d2 d3
          have hq1 := (lrow_at r1).2.1
          obtain rfl := HAU.out (by omega)
          have HUN : Hid (N0 ≤ N2 + s2.length ∧ UsUp p.users (k2 + 1) (N2 + s2.length)) := ⟨Nat.le_trans HUU.out.1 (Nat.le_add_right _ _), HUU.out.2.next hx rfl⟩
          clear hx I0 r1
          have t0 : (0 : Int) ≤ (k2 : Int) := by omega
          have t1 : (k2 : Int) < (p.users.length : Int) := by omega
          go_wp2_with fail
          refine ⟨⟨k2 + 1, N2 + s2.length, by omega, by omega, by omega, by go_num, by first | rfl | go_num, HV, HUN⟩, ?_⟩
          first | omega | (simp [intOf]; omega)
        have hway : ¬ k2 < p.users.length ∨ (k2 < p.users.length ∧ ¬ N2 < 2500) := by omega
        clear hgo
        by_cases hbig : N2 < 2500
        · have hend : ¬ k2 < p.users.length := by omega
          have HSM : Hid (Gp.SmallP p) := by
            have hs0 := HS.out
            have hu0 := HUU.out.1
            have hra := HRA.out (by omega)
            have huu := HUU.out.2
            have hf := HFT.out
            have hk2' : k2 = p.users.length := by omega
            refine ⟨by omega, by omega, by omega, by omega, fun r hr => ?_, fun u hu => ?_, hf⟩
            · obtain ⟨i, hi⟩ := List.getElem?_of_mem hr
              obtain ⟨a, b, c⟩ := hra i r (List.getElem?_eq_some_iff.1 hi).1 hi
              exact ⟨by omega, by omega, by omega⟩
            · obtain ⟨i, hi⟩ := List.getElem?_of_mem hu
              have a := huu i u (by rw [hk2']; exact (List.getElem?_eq_some_iff.1 hi).1) hi
              omega
          clear hway
          by_cases hfl : 2000 < p.flags
          · go_wp2_with fail
            go_ret
            exact ⟨true, ret_b (by first | rfl | (simp; done) | (simp; omega)), fun e => (by cases e), HV.out.1⟩
          · have hfl' : p.flags ≤ 2000 := by omega
            go_wp2_with fail
            go_ret
            exact ⟨false, ret_b (by first | rfl | (simp; done) | (simp; omega)), fun _ => HSM.out, HV.out.1⟩
        · have hbig' : 2500 ≤ N2 := by omega
          rcases hway with hway | ⟨hway1, hway2⟩
          all_goals
            go_wp2_with fail
            go_ret
            exact ⟨true, ret_b (by first | rfl | (simp; done) | (simp; omega)), fun e => (by cases e), HV.out.1⟩
end Go.Proofs.Ytkjekohncfhbiaa
/-
  Behind each act no flag is up that does not last: plain.
-/
set_option linter.unusedSimpArgs false
set_option linter.unusedVariables false
namespace Go.Proofs.Ytkjekohncfhbiaa.Gp
def Brief (n : Nat) (fl : List Bool) : Prop := ∀ (i : Nat) v, n ≤ i → fl[i]? = some v → v = false
theorem clearF_brief (n : Nat) (fl : List Bool) : Brief n (clearF n fl) := fun i v hi hv => by
  unfold clearF at hv
  rw [List.getElem?_append_right (by rw [List.length_take]; omega)] at hv
  exact (List.mem_replicate.1 (List.mem_of_getElem? hv)).2
theorem roundS_brief (K : KP) (frm : Int) (nums : List Int) (fl : List Bool) : Brief K.lasting.toNat (roundS K frm nums fl) := clearF_brief _ _
theorem goOn_brief (K : KP) (nums : List Int) : ∀ (n : Nat) {fl g : List Bool}, goOn K nums n fl = some g → Brief K.lasting.toNat g
  | 0, fl, g, h => by cases h
  | n + 1, fl, g, h => by
    unfold goOn at h
    split at h
    · cases h
      exact roundS_brief _ _ _ _
    · exact goOn_brief K nums n h
theorem restS_brief {K : KP} {s : St} (t : St) (h : Brief K.lasting.toNat s.fl) : Brief K.lasting.toNat (restS K s t).2.fl := by
  unfold restS
  split
  · next fl hg => exact goOn_brief K _ _ hg
  · exact h
theorem doS_brief {K : KP} {s : St} (a : Act) (h : Brief K.lasting.toNat s.fl) : Brief K.lasting.toNat (doS K s a).2.fl := by
  unfold doS
  split
  · exact h
  · split
    · exact h
    · split
      · unfold userS
        split
        · exact restS_brief _ h
        · exact h
      · split
        · unfold writeS
          split
          · exact h
          · exact restS_brief _ h
        · unfold tickS
          split
          · exact restS_brief _ h
          · exact restS_brief _ h
theorem newP_brief {p : Rp.Prog} {st : St} (h : newP p = some st) : Brief p.lasting.toNat st.fl := by
  unfold newP at h
  split at h
  · next fl hg =>
    cases h
    exact goOn_brief (kept p) _ _ hg
  · cases h
end Go.Proofs.Ytkjekohncfhbiaa.Gp
