/-
  The call that is due first, as the document finds it; those that are due, one after the other.
-/
import Derived.Test.YtbgbdiiinggjnaaCK
namespace Go.Proofs.Ytbgbdiiinggjnaa.Cl
set_option linter.unusedVariables false
open M (E)

def dueb (now : Int) (k : K) : Bool := op k && decide (k.due ≤ now)
theorem dueb_iff {now : Int} {k : K} : dueb now k = true ↔ k.st = 1 ∧ k.due ≤ now := by unfold dueb op; simp
/-- Among the first q the one that is due first stands at r; less than 0: none is due. -/
def Fp (L : List K) (now : Int) (q : Nat) (r : Int) : Prop :=
  (r = -1 ∧ ∀ j (h : j < L.length), j < q → dueb now L[j] = false) ∨
  ∃ j : Nat, ∃ h : j < L.length, j < q ∧ r = (j : Int) ∧ dueb now L[j] = true ∧ ∀ i (hi : i < L.length), i < q → dueb now L[i] = true → L[j].due < L[i].due ∨ (L[j].due = L[i].due ∧ j ≤ i)
theorem Fp.start (L : List K) (now : Int) : Fp L now 0 (-1) := .inl ⟨rfl, fun j h h' => by omega⟩
/-- One that is not due. -/
theorem Fp.skip {L : List K} {now : Int} {q : Nat} {r : Int} (h : Fp L now q r) (hq : q < L.length) (hn : dueb now L[q] = false) : Fp L now (q + 1) r := by
  rcases h with ⟨rfl, h⟩ | ⟨j, hj, h1, h2, h3, h4⟩
  · refine .inl ⟨rfl, fun j hj hjq => ?_⟩
    rcases Nat.lt_or_ge j q with h' | h'
    · exact h j hj h'
    · obtain rfl : j = q := by omega
      exact hn
  · refine .inr ⟨j, hj, by omega, h2, h3, fun i hi hiq hd => ?_⟩
    rcases Nat.lt_or_ge i q with h' | h'
    · exact h4 i hi h' hd
    · obtain rfl : i = q := by omega
      rw [hn] at hd
      cases hd
/-- The first that is due. -/
theorem Fp.none {L : List K} {now : Int} {q : Nat} (h : Fp L now q (-1)) (hq : q < L.length) (hd : dueb now L[q] = true) : Fp L now (q + 1) q := by
  rcases h with ⟨_, h⟩ | ⟨j, hj, h1, h2, h3, h4⟩
  · refine .inr ⟨q, hq, by omega, rfl, hd, fun i hi hiq hdi => ?_⟩
    rcases Nat.lt_or_ge i q with h' | h'
    · rw [h i hi h'] at hdi; cases hdi
    · obtain rfl : i = q := by omega
      exact .inr ⟨rfl, Nat.le_refl _⟩
  · omega
/-- One that is due ahead. -/
theorem Fp.less {L : List K} {now : Int} {q j : Nat} (h : Fp L now q j) (hq : q < L.length) (hj : j < L.length) (hd : dueb now L[q] = true) (hl : L[q].due < L[j].due) : Fp L now (q + 1) q := by
  rcases h with ⟨h0, _⟩ | ⟨j', hj', h1, h2, h3, h4⟩
  · omega
  · obtain rfl : j = j' := by omega
    refine .inr ⟨q, hq, by omega, rfl, hd, fun i hi hiq hdi => ?_⟩
    rcases Nat.lt_or_ge i q with h' | h'
    · have := h4 i hi h' hdi
      left
      omega
    · obtain rfl : i = q := by omega
      exact .inr ⟨rfl, Nat.le_refl _⟩
/-- One that is due no earlier. -/
theorem Fp.more {L : List K} {now : Int} {q j : Nat} (h : Fp L now q j) (hq : q < L.length) (hj : j < L.length) (hl : ¬ L[q].due < L[j].due) : Fp L now (q + 1) j := by
  rcases h with ⟨h0, _⟩ | ⟨j', hj', h1, h2, h3, h4⟩
  · omega
  · obtain rfl : j = j' := by omega
    refine .inr ⟨j, hj, by omega, rfl, h3, fun i hi hiq hdi => ?_⟩
    rcases Nat.lt_or_ge i q with h' | h'
    · exact h4 i hi h' hdi
    · obtain rfl : i = q := by omega
      omega
theorem Fp.rng {L : List K} {now : Int} {q : Nat} {r : Int} (h : Fp L now q r) : r = -1 ∨ ∃ j : Nat, r = (j : Int) ∧ j < q ∧ j < L.length := by
  rcases h with ⟨h, _⟩ | ⟨j, hj, h1, h2, _⟩
  · exact .inl h
  · exact .inr ⟨j, h2, h1, hj⟩
/-- Those that are due are told by one list alone. -/
theorem sorted_uniq : ∀ {P Q : List E}, P.Pairwise M.lt → Q.Pairwise M.lt → (∀ e, e ∈ P ↔ e ∈ Q) → P = Q
  | [], [], _, _, _ => rfl
  | [], e :: Q, _, _, h => by have := (h e).2 List.mem_cons_self; simp at this
  | e :: P, [], _, _, h => by have := (h e).1 List.mem_cons_self; simp at this
  | e :: P, f :: Q, hP, hQ, h => by
    rw [List.pairwise_cons] at hP hQ
    have hef : e = f := by
      have h1 := (h e).1 List.mem_cons_self
      have h2 := (h f).2 List.mem_cons_self
      rw [List.mem_cons] at h1 h2
      rcases h1 with h1 | h1
      · exact h1
      · rcases h2 with h2 | h2
        · exact h2.symm
        · exact absurd (M.lt_trans (hQ.1 e h1) (hP.1 f h2)) (fun x => M.lt_irr x)
    subst hef
    congr 1
    refine sorted_uniq hP.2 hQ.2 fun x => ?_
    have hx := h x
    rw [List.mem_cons, List.mem_cons] at hx
    constructor
    · intro hp
      rcases hx.1 (.inr hp) with h' | h'
      · subst h'; exact absurd (hP.1 x hp) (fun y => M.lt_irr y)
      · exact h'
    · intro hq
      rcases hx.2 (.inr hq) with h' | h'
      · subst h'; exact absurd (hQ.1 x hq) (fun y => M.lt_irr y)
      · exact h'
theorem Dues.uniq {L : List K} {now : Int} {ids ids' : List Int} (h : Dues L now ids) (h' : Dues L now ids') : ids = ids' := by
  obtain ⟨Q, hs, hm, rfl⟩ := h
  obtain ⟨Q', hs', hm', rfl⟩ := h'
  rw [sorted_uniq hs hs' (fun e => (hm e).trans (hm' e).symm)]
theorem Dues.nil {L : List K} {now : Int} {ids : List Int} (h : Dues L now ids) (hf : Fp L now L.length (-1)) : ids = [] := by
  obtain ⟨Q, hs, hm, rfl⟩ := h
  match Q, hm with
  | [], _ => rfl
  | e :: Q, hm =>
    obtain ⟨k, hk, rfl, hd⟩ := (hm e).1 List.mem_cons_self
    rw [mem_opn] at hk
    obtain ⟨j, hj, rfl⟩ := List.getElem_of_mem hk.1
    rcases hf with ⟨_, hf⟩ | ⟨j', _, _, h0, _⟩
    · have := hf j hj hj
      rw [dueb_iff.2 ⟨hk.2, hd⟩] at this
      cases this
    · omega
theorem stepK_id (now : Int) (k : K) : (stepK now k).id = k.id := by unfold stepK; split <;> rfl
theorem stepK_due (now : Int) (k : K) (hk : k.st = 1) : dueb now (stepK now k) = false := by
  have := wait_rng k.sent
  unfold stepK
  split
  · unfold dueb op goneK; simp
  · unfold dueb op sendK; simp; intro; omega
theorem Dues.cons {L : List K} (hu : Up L) {now : Int} {ids : List Int} (h : Dues L now ids) {j : Nat} (hj : j < L.length) (hf : Fp L now L.length j) : ∃ ids', ids = L[j].id :: ids' ∧ Dues (upd L L[j].id (stepK now)) now ids' := by
  obtain ⟨Q, hs, hm, rfl⟩ := h
  obtain ⟨hdj, hmin⟩ : dueb now L[j] = true ∧ ∀ i (hi : i < L.length), dueb now L[i] = true → L[j].due < L[i].due ∨ (L[j].due = L[i].due ∧ j ≤ i) := by
    rcases hf with ⟨h0, _⟩ | ⟨j', hj', _, h1, h2, h3⟩
    · omega
    · obtain rfl : j = j' := by omega
      exact ⟨h2, fun i hi hd => h3 i hi hi hd⟩
  have hjd := dueb_iff.1 hdj
  have hjm : L[j] ∈ opn L := mem_opn.2 ⟨List.getElem_mem hj, hjd.1⟩
  have hin : (⟨L[j].id, L[j].due⟩ : E) ∈ Q := (hm _).2 ⟨_, hjm, rfl, hjd.2⟩
  match Q, hs, hm, hin with
  | [], _, _, hin => simp at hin
  | e :: Q, hs, hm, hin =>
    rw [List.pairwise_cons] at hs
    have he : e = ⟨L[j].id, L[j].due⟩ := by
      rw [List.mem_cons] at hin
      rcases hin with h' | h'
      · exact h'.symm
      · have hlt := hs.1 _ h'
        obtain ⟨k, hk, rfl, hd⟩ := (hm e).1 List.mem_cons_self
        rw [mem_opn] at hk
        obtain ⟨i, hi, rfl⟩ := List.getElem_of_mem hk.1
        have := hmin i hi (dueb_iff.2 ⟨hk.2, hd⟩)
        unfold M.lt at hlt
        simp only at hlt
        rcases this with h1 | ⟨h1, h2⟩
        · omega
        · rcases Nat.eq_or_lt_of_le h2 with h3 | h3
          · subst h3; rfl
          · have := List.pairwise_iff_getElem.1 hu j i hj hi h3; omega
    subst he
    refine ⟨Q.map (·.i), rfl, Q, hs.2, fun x => ?_, rfl⟩
    have hx := hm x
    rw [List.mem_cons] at hx
    constructor
    · intro hxQ
      obtain ⟨k, hk, rfl, hd⟩ := hx.1 (.inr hxQ)
      have hne : k.id ≠ L[j].id := fun e => by
        have := hu.opn.inj hk hjm e
        subst this
        exact M.lt_irr (hs.1 _ hxQ)
      refine ⟨k, mem_opn.2 ⟨mem_upd.2 ⟨k, (mem_opn.1 hk).1, by unfold one; rw [if_neg hne]⟩, (mem_opn.1 hk).2⟩, rfl, hd⟩
    · rintro ⟨k', hk', rfl, hd⟩
      rw [mem_opn, mem_upd] at hk'
      obtain ⟨⟨k, hk, rfl⟩, hst⟩ := hk'
      by_cases hki : k.id = L[j].id
      · exfalso
        have hkj : k = L[j] := hu.inj hk (List.getElem_mem hj) hki
        have e1 : one L[j].id (stepK now) k = stepK now k := by unfold one; rw [if_pos hki]
        rw [e1] at hst hd
        have := stepK_due now k (by rw [hkj]; exact hjd.1)
        rw [dueb_iff.2 ⟨hst, hd⟩] at this
        cases this
      · have e1 : one L[j].id (stepK now) k = k := by unfold one; rw [if_neg hki]
        rw [e1] at hst hd hx ⊢
        rcases hx.2 ⟨k, mem_opn.2 ⟨hk, hst⟩, rfl, hd⟩ with h' | h'
        · exact absurd (congrArg E.i h') hki
        · exact h'
/-- How many are due. -/
def cnt (now : Int) (L : List K) : Nat := (L.filter (dueb now)).length
theorem cnt_step {L : List K} (hu : Up L) {now : Int} {j : Nat} (hj : j < L.length) (hd : dueb now L[j] = true) : cnt now (upd L L[j].id (stepK now)) < cnt now L := by
  have hup : upd L L[j].id (stepK now) = L.set j (stepK now L[j]) := upd_at hu _ hj rfl
  unfold cnt
  rw [hup]
  have h1 : L = L.take j ++ (L[j] :: L.drop (j + 1)) := by rw [← List.drop_eq_getElem_cons hj, List.take_append_drop]
  have h2 : L.set j (stepK now L[j]) = L.take j ++ (stepK now L[j] :: L.drop (j + 1)) := List.set_eq_take_append_cons_drop.trans (by rw [if_pos hj])
  have h3 := stepK_due now L[j] (dueb_iff.1 hd).1
  rw [h2]
  conv => rhs; rw [h1]
  rw [List.filter_append, List.filter_append, List.filter_cons, List.filter_cons, hd, h3]
  simp
end Go.Proofs.Ytbgbdiiinggjnaa.Cl
