/-
  Rounds, until one in which nothing is done.
-/
import Derived.Test.YtpipjkbgbhefcaaGreatCRound
set_option linter.unusedSimpArgs false
set_option linter.unusedVariables false
namespace Go.Proofs.YtpipjkbgbhefcaaGreat
open Go.RowKit
open Qp
set_option maxRecDepth 100000
section
variable {w w' : World} {H : Nat} {K : Kc} {m : Mp.Model} {v : Value} {L : List Thing} {N : Nat} {st : Cp.St}
def GoPost (w : World) (H : Nat) (K : Kc) (m : Mp.Model) (v : Value) (st : Cp.St) (e : Ending) (w' : World) : Prop :=
  e = .returned (.tuple #[]) ∧ ∃ v' L' N', RTo w w' H K m v v' L' N' (Cp.rest m st) (CS K v)
theorem CAll.weak {p q : Nat → Prop} (h : CAll w H K m v L N st p) (hq : ∀ k, k < m.items.length → Cp.at0 st.s k = 1 → p k → q k) : CAll w H K m v L N st q := ⟨h.c, h.good, h.few, h.tq.weak hq, h.clock, h.ok⟩
theorem CAll.below {p : Nat → Prop} (h : CAll w H K m v L N st p) (b : Below w.heap.size w w') : CAll w' H K m v L N st p := ⟨h.c.below b, h.good, h.few, h.tq, h.clock, h.ok⟩
theorem RTo.refl (h : CAll w H K m v L N st noP) : RTo w w H K m v v L N st (CS K v) := ⟨h, Keep.refl _ _, Grew.refl _ _⟩
/-- A round over a row that the caller has made. -/
theorem RTo.fresh {w0 w1 : World} {v' : Value} {L' : List Thing} {N' : Nat} {st' : Cp.St} {db : Nat} (b : Below w.heap.size w w1) (hdb : w.heap.size ≤ db) (h : RTo w1 w' H K m v v' L' N' st' (fun k => CS K v k ∨ k = db)) : RTo w w' H K m v v' L' N' st' (CS K v) :=
  ⟨h.a, ⟨h.keep.os.trans b.os, h.keep.tape.trans b.tape, h.keep.output.trans b.output, Nat.le_trans b.size h.keep.size, fun k hk hs => by
    rw [h.keep.block k (Nat.lt_of_lt_of_le hk b.size) (fun e => by
      rcases e with e | e
      · exact hs e
      · omega)]
    exact b.block k hk⟩, h.grew.mono' b.size⟩
theorem RTo.trans {w1 w2 : World} {v1 v2 : Value} {L1 L2 : List Thing} {N1 N2 : Nat} {s1 s2 : Cp.St} (a : RTo w w1 H K m v v1 L1 N1 s1 (CS K v)) (b : RTo w1 w2 H K m v1 v2 L2 N2 s2 (CS K v1)) : RTo w w2 H K m v v2 L2 N2 s2 (CS K v) :=
  ⟨b.a, a.keep.on b.keep (cs_grew a.grew), a.grew.trans a.keep.size b.grew⟩
set_option maxHeartbeats 8000000 in
theorem goOnD (h : CAll w H K m v L N st noP) (hH : H ≤ w.heap.size) : Calls Tryz.prog 23 #[cP K] w (GoPost w H K m v st) := by
  have HA := hideT h
  have HHH := hideT hH
  have h16 := items16 h.ok.1
  clear h hH
  go_enter Tryz.func23, Tryz.ntmps23
  go_wp2_with fail
  go_loopg [] (100) (fun gk wr => ∃ (v1 : Value) (L1 : List Thing) (N1 : Nat) (s1 : Cp.St), Hid (RTo w wr H K m v v1 L1 N1 s1 (CS K v)) ∧ Hid (4 * m.items.length - Cp.sumS s1.s < gk) ∧ Hid (Cp.rest m s1 = Cp.rest m st))
  case atStart => exact ⟨v, L, N, st, RTo.refl HA.out, (by show _ < _; omega), rfl⟩
  case round =>
    obtain ⟨v1, L1, N1, s1, HR, HM, HE⟩ := hrel
    go_wp2_with fail
    refine (judgedD HR.out.a.c HA.out.ok).mono ?_
    rintro e w1 ⟨db, rfl, ir, hdb, b1⟩
    have HB1 := hideT b1
    have HI := hideT ir
    have HDB := hideT hdb
    have HC1 := hideT ((HR.out.a.below b1).weak (q := pnd (Cp.judged m s1)) (fun k _ _ e => e.elim))
    have HNC := hideT (HR.out.a.c.fresh hdb)
    clear ir hdb b1
    go_wp2_with fail
    refine (roundD (Cp.judged m s1) HC1.out db HI.out (Cp.fits_judged m s1) HNC.out (Nat.le_trans HHH.out (Nat.le_trans HR.out.keep.size HB1.out.size))).mono ?_
    rintro e w2 ⟨rfl, v2, L2, N2, T⟩
    have T2 := RTo.fresh (w0 := w) HB1.out HDB.out T
    have HT := hideT (HR.out.trans T2)
    have HG := hideT (Cp.good_round HR.out.a.good (Cp.fits_judged m s1))
    clear T T2
    cases hs : Cp.someR m s1 (Cp.judged m s1) with
    | true =>
      have HM2 : Hid (4 * m.items.length - Cp.sumS (Cp.roundS m s1 (Cp.judged m s1)).s < gk - 1) := by
        have h1 := HM.out
        have h2 := HG.out.2 hs
        have h3 := Cp.good_sum HG.out.1
        show _ < _
        omega
      have HE2 : Hid (Cp.rest m (Cp.roundS m s1 (Cp.judged m s1)) = Cp.rest m st) := by
        show _ = _
        rw [← Cp.rest_step HR.out.a.good h16.2 hs]
        exact HE.out
      have hgk : 0 < gk := by have := HM.out; omega
      clear hs
      go_wp2_with fail
      go_roundg (gk - 1)
      case measure => omega
      case rel => exact ⟨v2, L2, N2, _, HT, HM2, HE2⟩
    | false =>
      have HE2 : Hid (Cp.roundS m s1 (Cp.judged m s1) = Cp.rest m st) := by
        show _ = _
        rw [Cp.round_none HR.out.a.good (Cp.fits_judged m s1) hs, ← HE.out, Cp.rest_stop hs]
      have HF : Hid (RTo w w2 H K m v v2 L2 N2 (Cp.rest m st) (CS K v)) := by
        have := HT.out
        rw [HE2.out] at this
        exact this
      clear hs
      go_wp2_with fail
      go_end0
      exact ⟨rfl, v2, L2, N2, HF.out⟩
end
end Go.Proofs.YtpipjkbgbhefcaaGreat
