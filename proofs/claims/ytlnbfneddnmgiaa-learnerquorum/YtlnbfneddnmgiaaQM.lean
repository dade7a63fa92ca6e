/-
  Votes of less nodes than a quorum tell nothing: the fact.
-/
import Derived.Test.YtlnbfneddnmgiaaLP
namespace Go.Proofs.Ytlnbfneddnmgiaa
open Go.RowKit Go.Maps
set_option linter.unusedVariables false
open M (E V W fup)

namespace M
/-- Nothing is told, and of nodes from one on nothing was heard. -/
structure Qm (q : Nat) (s : S) : Prop where
  base : s.base = 0
  td : ∀ k, s.td k = none
  gv : ∀ k i, q ≤ i → ((s.vs k).getD i w0).g = false
theorem Qm.zero (q : Nat) (n : Int) : Qm q (s0 n) := ⟨rfl, fun _ => rfl, fun k i _ => by show (([] : List W).getD i w0).g = false; simp [w0]⟩
theorem rep_g (n i : Nat) : ((List.replicate n w0).getD i w0).g = false := by
  rw [List.getD_eq_getElem?_getD]
  by_cases h : i < n
  · rw [List.getElem?_replicate, if_pos h]
    rfl
  · rw [List.getElem?_replicate, if_neg h]
    rfl
theorem Qm.row {q : Nat} {s : S} (h : Qm q s) (k : Int) (i : Nat) (hi : q ≤ i) : ((row s k).getD i w0).g = false := by
  unfold M.row
  split
  · exact rep_g _ _
  · exact h.gv k i hi
theorem hl_g {q : Nat} {l : List W} {j : Nat} {x : V} (h : ∀ i, q ≤ i → (l.getD i w0).g = false) (hj : j < q) (i : Nat) (hi : q ≤ i) : ((hl l j x).getD i w0).g = false := by
  unfold hl
  split
  · rw [List.getD_eq_getElem?_getD, List.getElem?_set_ne (by omega), ← List.getD_eq_getElem?_getD]
    exact h i hi
  · exact h i hi
theorem Qm.hear {q : Nat} {s : S} (h : Qm q s) (hn : quo s.n = (q : Int) + 1) (fr : Int) (x : V) (hf : fr < q) : hb s fr x = false ∧ Qm q (hs s fr x) ∧ (hs s fr x).n = s.n ∧ (hs s fr x).c ≤ s.c + 1 := by
  cases hk : hok s fr x with
  | false => exact ⟨by unfold hb; rw [hk]; rfl, by unfold hs; rw [hk]; exact h, by unfold hs; rw [hk]; rfl, by unfold hs; rw [hk]; exact Nat.le_succ _⟩
  | true =>
    obtain ⟨f0, f1, f2, f3⟩ := hok_yes hk
    obtain ⟨r1, r2, r3, r4, r5⟩ := rws_td s x.s
    have hg := hl_g (x := x) (h.row x.s) (show fr.toNat < q by omega)
    have hag0 : hag s.n (hl (M.row s x.s) fr.toNat x) (hh x) = false := by
      have := ck_few (fun i => wq ((hl (M.row s x.s) fr.toNat x).getD i w0) (hh x)) q (fun i hi => by
        unfold wq
        rw [hg i hi]
        rfl) (hl (M.row s x.s) fr.toNat x).length
      unfold hag
      rw [hn]
      exact decide_eq_false (by omega)
    have hs0 : hs s fr x = sv (rws s x.s) x.s (hl (M.row s x.s) fr.toNat x) := by
      unfold hs
      rw [hk, hag0]
      rfl
    refine ⟨by unfold hb; rw [hk, hag0]; rfl, ?_, by rw [hs0]; exact r2, by rw [hs0]; exact r5⟩
    rw [hs0]
    refine ⟨r3.trans h.base, fun k => ?_, fun k i hi => ?_⟩
    · show (rws s x.s).td k = none
      rw [r1]
      exact h.td k
    · show ((fup (rws s x.s).vs x.s (hl (M.row s x.s) fr.toNat x) k).getD i w0).g = false
      by_cases hkx : k = x.s
      · subst hkx
        rw [fup_same]
        exact hg i hi
      · rw [fup_other _ hkx]
        unfold rws
        split
        · show ((fup s.vs x.s _ k).getD i w0).g = false
          rw [fup_other _ hkx]
          exact h.gv k i hi
        · exact h.gv k i hi
theorem Qm.nx {q : Nat} {s : S} (h : Qm q s) (ok : Ok s) : M.nx s = 0 := nx_of ok (by rw [h.base]; exact Int.le_refl _) (fun j h1 h2 => by have := h.base; omega) (h.td 0)
theorem Qm.lgs {q : Nat} {s : S} (h : Qm q s) (ok : Ok s) : (M.lgs s 0).length = 0 := by
  unfold M.lgs
  rw [lg_len]
  unfold lgn
  rw [h.nx ok, h.base]
  rfl
end M

end Go.Proofs.Ytlnbfneddnmgiaa
