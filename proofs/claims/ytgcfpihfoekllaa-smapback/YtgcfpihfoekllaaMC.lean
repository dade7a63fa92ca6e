/-
  Numbers of a group: asked one by one.
-/
import Derived.Test.YtgcfpihfoekllaaMB
namespace Go.Proofs.Ytgcfpihfoekllaa
namespace Mb

def apB (l : List Int) : Bool := decide ((∀ x ∈ l, 0 ≤ x ∧ x ≤ 63) ∧ l.Nodup)
theorem apB_nil : apB [] = true := by decide
theorem apB_eq {l : List Int} : apB l = true ↔ Ap l := by unfold apB Ap; rw [decide_eq_true_iff]
theorem apB_no {l : List Int} (h : ¬ Ap l) : apB l = false := by unfold Ap at h; exact decide_eq_false h
theorem ap_snoc {q : List Int} {x : Int} : Ap (q ++ [x]) ↔ Ap q ∧ (0 ≤ x ∧ x ≤ 63) ∧ ¬ x ∈ q := by
  have h := Ap.step (l := q ++ [x]) (k := q.length) (by simp)
  rw [show (q ++ [x]).take (q.length + 1) = q ++ [x] by rw [List.take_of_length_le (by simp)]] at h
  rw [h, pl_neg]
  simp
/-- Numbers that were there already, or none at all: no group. -/
theorem apB_bad {q r : List Int} {x : Int} (h : ¬ ((0 ≤ x ∧ x ≤ 63) ∧ ¬ x ∈ q)) : apB (q ++ x :: r) = false := by
  refine apB_no fun hp => h ?_
  rw [show q ++ x :: r = (q ++ [x]) ++ r by simp] at hp
  exact (ap_snoc.1 hp.left).2
/-- A slice somewhere, and what is in it. -/
structure Sl (A : Type) where
  a : A
  cap : Nat
  l : List Int
variable {A : Type}
def cat (xs : List (Sl A)) : List Int := xs.flatMap Sl.l
theorem cat_cons (x : Sl A) (xs : List (Sl A)) : cat (x :: xs) = x.l ++ cat xs := rfl
theorem cat_take {xs : List (Sl A)} {k : Nat} (h : k < xs.length) : cat (xs.take (k + 1)) = cat (xs.take k) ++ xs[k].l := by
  unfold cat
  rw [List.take_succ_eq_append_getElem h, List.flatMap_append]
  simp
theorem cat_split {xs : List (Sl A)} {k : Nat} (h : k < xs.length) : cat xs = cat (xs.take k) ++ (xs[k].l ++ cat (xs.drop (k + 1))) := by
  have e : xs = xs.take k ++ xs[k] :: xs.drop (k + 1) := by rw [← List.drop_eq_getElem_cons h, List.take_append_drop]
  unfold cat
  conv => lhs; rw [e]
  rw [List.flatMap_append, List.flatMap_cons]
/-- What the walk has seen so far. -/
def sn (q : List Int) : List Bool := (List.range 64).map fun (i : Nat) => decide ((i : Int) ∈ q)
theorem sn_len (q : List Int) : (sn q).length = 64 := by simp [sn]
theorem sn_nil : sn [] = List.replicate 64 false := by rfl
theorem sn_get (q : List Int) (i : Nat) (h : i < 64) : (sn q)[i]'(by rw [sn_len]; exact h) = decide ((i : Int) ∈ q) := by simp [sn]
theorem sn_set (q : List Int) (i : Nat) : (sn q).set i true = sn (q ++ [(i : Int)]) := by
  refine List.ext_getElem (by simp [sn]) fun j h1 h2 => ?_
  have hj : j < 64 := by rw [sn_len] at h2; exact h2
  rw [List.getElem_set, sn_get q j hj, sn_get (q ++ [(i : Int)]) j hj]
  by_cases e : i = j
  · subst e; simp
  · rw [if_neg e]
    have : ¬ ((j : Int) = i) := by omega
    simp [this]
end Mb
end Go.Proofs.Ytgcfpihfoekllaa
