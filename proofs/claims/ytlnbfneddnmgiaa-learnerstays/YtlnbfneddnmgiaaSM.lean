/-
  What is told stays: the fact.
-/
import Derived.Test.YtlnbfneddnmgiaaLP
namespace Go.Proofs.Ytlnbfneddnmgiaa
open Go.RowKit Go.Maps
set_option linter.unusedVariables false
open M (E V W fup)

namespace M
/-- What was told of a slot is told, or lies below the base. -/
def Sy (s s' : S) : Prop := ∀ k u, s.td k = some u → s'.td k = some u ∨ (s'.td k = none ∧ k < s'.base)
theorem Sy.refl (s : S) : Sy s s := fun _ _ h => .inl h
theorem tl_td {s s' : S} {k : Int} {v : ByteArray} (h : s'.td = s.td) (hk : s.td k = none) : Sy s (tl s' k v) := fun j u hj => by
  have hne : j ≠ k := fun e => by
    subst e
    rw [hk] at hj
    cases hj
  refine .inl ?_
  show fup s'.td k (some v) j = some u
  rw [fup_other _ hne, h]
  exact hj
theorem Sy.hear (s : S) (fr : Int) (x : V) : Sy s (hs s fr x) ∧ (hs s fr x).c ≤ s.c + 2 := by
  obtain ⟨r1, r2, r3, r4, r5⟩ := rws_td s x.s
  cases hk : hok s fr x with
  | false =>
    have : hs s fr x = s := by unfold hs; rw [hk]; rfl
    rw [this]
    exact ⟨Sy.refl s, by omega⟩
  | true =>
    obtain ⟨f0, f1, f2, f3⟩ := hok_yes hk
    cases hg : hag s.n (hl (row s x.s) fr.toNat x) (hh x) with
    | false =>
      have : hs s fr x = sv (rws s x.s) x.s (hl (row s x.s) fr.toNat x) := by unfold hs; rw [hk, hg]; rfl
      rw [this]
      refine ⟨fun k u h => .inl ?_, by show (rws s x.s).c ≤ s.c + 2; omega⟩
      show (rws s x.s).td k = some u
      rw [r1]
      exact h
    | true =>
      have : hs s fr x = tl (sv (rws s x.s) x.s (hl (row s x.s) fr.toNat x)) x.s x.v := by unfold hs; rw [hk, hg]; rfl
      rw [this]
      exact ⟨tl_td r1 (may_yes f3).2.2.2, by show (rws s x.s).c + 1 ≤ s.c + 2; omega⟩
theorem Sy.tell (s : S) (k : Int) (v : ByteArray) : Sy s (ts s k v) ∧ (ts s k v).c ≤ s.c + 2 := by
  cases hm : may s k v with
  | false =>
    have : ts s k v = s := by unfold ts; rw [hm]; rfl
    rw [this]
    exact ⟨Sy.refl s, by omega⟩
  | true =>
    have : ts s k v = tl s k v := by unfold ts; rw [hm]; rfl
    rw [this]
    exact ⟨tl_td rfl (may_yes hm).2.2.2, by show s.c + 1 ≤ s.c + 2; omega⟩
theorem Sy.trim (s : S) (u : Int) : Sy s (tr s u) ∧ (tr s u).c ≤ s.c + 2 := by
  refine ⟨fun k v h => ?_, by show s.c ≤ s.c + 2; omega⟩
  show (if k < tb s u then none else s.td k) = some v ∨ ((if k < tb s u then none else s.td k) = none ∧ k < tb s u)
  by_cases hk : k < tb s u
  · rw [if_pos hk]
    exact .inr ⟨rfl, hk⟩
  · rw [if_neg hk]
    exact .inl h
/-- The log from the base on is what is told, slot by slot. -/
theorem Ok.log {s : S} (h : Ok s) : M.nx s = s.base + ((lgs s 0).length : Int) ∧ ∀ j (hj : j < (lgs s 0).length), s.td (s.base + (j : Nat)) = some (lgs s 0)[j] := by
  obtain ⟨n1, n2, n3, n4⟩ := h.nx
  have hb := h.base
  have hm : max 0 s.base = s.base := by omega
  have hlen : (lgs s 0).length = (M.nx s - s.base).toNat := by
    unfold lgs
    rw [lg_len]
    unfold lgn
    rw [hm]
  refine ⟨by omega, fun j hj => ?_⟩
  have hs := n1 (s.base + (j : Nat)) (by omega) (by omega)
  obtain ⟨v, hv⟩ := Option.isSome_iff_exists.1 hs
  have hg : (lgs s 0)[j] = (s.td (max 0 s.base + (j : Nat))).getD ⟨#[]⟩ := by
    simp only [lgs]
    exact lg_get _ _ _ j (by have := lg_len s.td (max 0 s.base) (lgn s 0); unfold lgs at hj; omega)
  rw [hg, hm, hv]
  rfl
end M

end Go.Proofs.Ytlnbfneddnmgiaa
