/-
  The document's first: the open call that is due first.
-/
import Derived.Test.YtbgbdiiinggjnaaRA
import Derived.Test.YtbgbdiiinggjnaaRM
namespace Go.Proofs.Ytbgbdiiinggjnaa
open Go.RowKit
set_option linter.unusedVariables false
open M (E)
open Cl (K W Ms fup Rel)

set_option maxRecDepth 100000 in
set_option maxHeartbeats 2000000 in
theorem first_ref (a : Option Addr) (cap : Nat) (L : List K) (now : Int) (w : World) (hn : L.length ≤ 1000) (hat : AtL kl w a L) :
    Calls Try.prog 30 #[.slice a L.length cap, .int .i64 now] w fun e w' => ∃ r, e = .returned (.int .i64 r) ∧ Cl.Fp L now L.length r ∧ Below w.heap.size w w' := by
  go_enter Try.func30, Try.ntmps30
  go_wp2
  go_loopw [5, 6] (fun u v wr => ∃ (q : Nat) (r : Int), q ≤ L.length ∧ v = .int .i64 q ∧ u = .int .i64 r ∧ Below w.heap.size w wr ∧ Hid (Cl.Fp L now q r)) (fun _ v _ => L.length - (intOf v).toNat)
  case atStart => exact ⟨0, -1, by omega, rfl, rfl, Below.refl _ _, Cl.Fp.start L now⟩
  case round =>
    obtain ⟨q, r, hq, rfl, rfl, hbel, HF⟩ := hrel
    have HNB : Hid (∀ N, Below w.heap.size w (wr.drewN N)) := fun N => below_drewN hbel N
    by_cases hlt : q < L.length
    · obtain ⟨b0, off, rfl, d0, d1, d2, d3, d4, d5, d6⟩ := (hat.keep hbel).getK q hlt
      have hqi : (q : Int) < (L.length : Int) := by omega
      by_cases hst : L[q].st = 1
      case neg =>
        have HF2 : Hid (Cl.Fp L now (q + 1) r) := HF.out.skip hlt (by
          cases h : Cl.dueb now L[q] with
          | false => rfl
          | true => exact absurd (Cl.dueb_iff.1 h).1 hst)
        have dst : (L[q].st == 1) = false := by simpa using hst
        clear hbel HF hst hat
        generalize L[q].st = x2 at *
        generalize L[q].due = x4 at *
        go_wp2_with fail
        go_quiet (fail)
        go_wp2
        go_roundw
        case rel => exact ⟨q + 1, r, by omega, by go_num, rfl, HNB.out _, HF2⟩
        case measure => simp [intOf]; omega
      by_cases hd : L[q].due ≤ now
      case neg =>
        have HF2 : Hid (Cl.Fp L now (q + 1) r) := HF.out.skip hlt (by
          cases h : Cl.dueb now L[q] with
          | false => rfl
          | true => exact absurd (Cl.dueb_iff.1 h).2 hd)
        have dd : decide (L[q].due ≤ now) = false := decide_eq_false hd
        rw [hst] at d2
        clear hbel HF hst hat hd
        generalize L[q].due = x4 at *
        go_wp2_with fail
        go_quiet (fail)
        go_wp2
        go_roundw
        case rel => exact ⟨q + 1, r, by omega, by go_num, rfl, HNB.out _, HF2⟩
        case measure => simp [intOf]; omega
      have hdq : Cl.dueb now L[q] = true := Cl.dueb_iff.2 ⟨hst, hd⟩
      have dd : decide (L[q].due ≤ now) = true := decide_eq_true hd
      rcases HF.out.rng with rfl | ⟨j, rfl, hjq, hj⟩
      · have HF2 : Hid (Cl.Fp L now (q + 1) q) := HF.out.none hlt hdq
        rw [hst] at d2
        clear hbel HF hst hat hd hdq
        generalize L[q].due = x4 at *
        go_wp2_with fail
        go_quiet (fail)
        go_wp2
        go_roundw
        case rel => exact ⟨q + 1, q, by omega, by go_num, rfl, HNB.out _, HF2⟩
        case measure => simp [intOf]; omega
      · obtain ⟨b1, off1, ea, f0, f1, f2, f3, f4, f5, f6⟩ := (hat.keep hbel).getK j hj
        cases ea
        have hji : (j : Int) < (L.length : Int) := by omega
        rw [hst] at d2
        by_cases hl : L[q].due < L[j].due
        · have HF2 : Hid (Cl.Fp L now (q + 1) q) := HF.out.less hlt hj hdq hl
          have dl : decide (L[q].due < L[j].due) = true := decide_eq_true hl
          clear hbel HF hst hat hd hdq hl d0 d1 d3 d5 d6 f0 f1 f2 f3 f5 f6
          generalize L[q].due = x4 at *
          generalize L[j].due = y4 at *
          go_wp2_with fail
          go_quiet (fail)
          go_wp2
          go_roundw
          case rel => exact ⟨q + 1, q, by omega, by go_num, rfl, HNB.out _, HF2⟩
          case measure => simp [intOf]; omega
        · have HF2 : Hid (Cl.Fp L now (q + 1) j) := HF.out.more hlt hj hl
          have dl : decide (L[q].due < L[j].due) = false := decide_eq_false hl
          clear hbel HF hst hat hd hdq hl d0 d1 d3 d5 d6 f0 f1 f2 f3 f5 f6
          generalize L[q].due = x4 at *
          generalize L[j].due = y4 at *
          go_wp2_with fail
          go_quiet (fail)
          go_wp2
          go_roundw
          case rel => exact ⟨q + 1, j, by omega, by go_num, rfl, HNB.out _, HF2⟩
          case measure => simp [intOf]; omega
    · have hqn : q = L.length := by omega
      subst hqn
      go_wp2
      go_ret
      exact ⟨r, rfl, HF.out, hbel⟩
end Go.Proofs.Ytbgbdiiinggjnaa
