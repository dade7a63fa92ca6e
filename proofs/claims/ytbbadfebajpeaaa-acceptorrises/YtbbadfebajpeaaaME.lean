/-
  What a deed does to an acceptor: the promise rises, votes too; what was accepted is told until it is trimmed or replaced.
-/
import Derived.Test.YtbbadfebajpeaaaM
namespace Go.Proofs.Ytbbadfebajpeaaa.M
set_option linter.unusedVariables false

/-- The promise has not fallen, nor has a slot's vote. -/
structure Ris (a a2 : S) : Prop where
  p : 0 ≤ cmpE a2.p a.p
  l : ∀ x ∈ a.l, ∀ y ∈ a2.l, y.s = x.s → 0 ≤ cmpE y.b x.b
theorem ris_sub {a a2 : S} (ok : Ok a) (hp : 0 ≤ cmpE a2.p a.p) (h : ∀ y ∈ a2.l, y ∈ a.l) : Ris a a2 := by
  refine ⟨hp, fun x hx y hy e => ?_⟩
  rw [ok.up.uniq (h y hy) hx e, cmp_self]
  exact Int.le_refl _
theorem ris_no {a : S} (ok : Ok a) : Ris a a := ris_sub ok (by rw [cmp_self]; exact Int.le_refl _) fun y h => h
theorem ris_pr {a : S} (ok : Ok a) (b : E) (k : Int) : Ris a (prs a b k) := by
  cases hb : prb a b k with
  | false => rw [prs_no hb]; exact ris_no ok
  | true => rw [prs_yes hb]; exact ris_sub ok (may_yes (prb_may hb)) fun y h => h
theorem ris_tr {a : S} (ok : Ok a) (u : Int) : Ris a (trs a u) := ris_sub ok (by show 0 ≤ cmpE a.p a.p; rw [cmp_self]; exact Int.le_refl _) fun y h => (mem_vts.1 h).1
theorem ris_ac {a : S} (ok : Ok a) (v : V) : Ris a (acs a v) := by
  cases hb : acb a v with
  | false => rw [acs_no hb]; exact ris_no ok
  | true =>
    have hm := may_yes (acb_yes hb).1
    rw [acs_yes hb]
    refine ⟨hm, fun x hx y hy e => ?_⟩
    rcases mem_put hy with rfl | ⟨hy', _⟩
    · exact (order y.b a.p x.b).2.2.2.2 hm (ok.pr x hx)
    · rw [ok.up.uniq hy' hx e, cmp_self]
      exact Int.le_refl _
/-- What was accepted is there, until it is gone. -/
structure Tl (a : S) (v : V) (g : Bool) : Prop where
  hi : v.s ≤ 1023
  no : g = false → v ∈ a.l
  yes : g = true → v.s < a.base
theorem tl_pr {a : S} {v : V} {g : Bool} (h : Tl a v g) (b : E) (k : Int) : Tl (prs a b k) v g := by
  cases hb : prb a b k with
  | false => rw [prs_no hb]; exact h
  | true => rw [prs_yes hb]; exact ⟨h.hi, h.no, h.yes⟩
theorem tl_new {a : S} {v : V} (h : acb a v = true) : Tl (acs a v) v false := by
  have := acb_yes h
  rw [acs_yes h]
  exact ⟨by omega, fun _ => put_mem (.inl rfl), fun h => by cases h⟩
theorem tl_ac {a : S} {v x : V} {g : Bool} (h : Tl a v g) : Tl (acs a x) (if acb a x = true ∧ x.s = v.s then x else v) g := by
  cases hb : acb a x with
  | false => rw [acs_no hb, if_neg (by simp)]; exact h
  | true =>
    have hy := acb_yes hb
    rw [acs_yes hb]
    by_cases e : x.s = v.s
    · rw [if_pos ⟨rfl, e⟩]
      refine ⟨by omega, fun _ => put_mem (.inl rfl), fun hg => ?_⟩
      have := h.yes hg
      omega
    · rw [if_neg (fun h => e h.2)]
      exact ⟨h.hi, fun hg => put_mem (.inr ⟨h.no hg, fun e' => e e'.symm⟩), h.yes⟩
theorem tl_tr {a : S} {v : V} {g : Bool} (h : Tl a v g) (u : Int) : Tl (trs a u) v (g || decide (v.s < u)) := by
  have hh := h.hi
  refine ⟨h.hi, fun hg => ?_, fun hg => ?_⟩
  · rw [Bool.or_eq_false_iff] at hg
    have hu : ¬ v.s < u := of_decide_eq_false hg.2
    exact mem_vts.2 ⟨h.no hg.1, by omega⟩
  · show v.s < max a.base (min u 1024)
    rw [Bool.or_eq_true] at hg
    rcases hg with hg | hg
    · have := h.yes hg; omega
    · have hu := of_decide_eq_true hg; omega
end Go.Proofs.Ytbbadfebajpeaaa.M
