/-
  A group's members as plain data: what each deed does, and what it keeps.
-/
namespace Go.Proofs.Ytacfndfkoiifhaa
namespace Mb

/-- A number's place; -1: none. -/
def pl (l : List Int) (n : Int) : Int := if n ∈ l then (l.idxOf n : Int) else -1
theorem pl_no {l : List Int} {n : Int} (h : ¬ n ∈ l) : pl l n = -1 := by unfold pl; rw [if_neg h]
theorem idx_at : ∀ {l : List Int} {k : Nat} (hk : k < l.length), ¬ l[k] ∈ l.take k → l.idxOf l[k] = k
  | x :: l, 0, _, _ => by simp
  | x :: l, k + 1, hk, h => by
    have hk' : k < l.length := by simpa using hk
    have h1 : ¬ l[k] = x ∧ ¬ l[k] ∈ l.take k := by simpa [List.take_succ_cons] using h
    have h2 : x ≠ l[k] := fun e => h1.1 e.symm
    have := idx_at hk' h1.2
    rw [List.getElem_cons_succ, List.idxOf_cons, beq_false_of_ne h2, this]
    rfl
theorem pl_at {l : List Int} {k : Nat} (hk : k < l.length) (h : ¬ l[k] ∈ l.take k) : pl l l[k] = k := by
  unfold pl
  rw [if_pos (List.getElem_mem hk), idx_at hk h]
theorem pl_lt {l : List Int} {n : Int} (h : n ∈ l) : 0 ≤ pl l n ∧ pl l n < l.length ∧ ∃ hk : (pl l n).toNat < l.length, l[(pl l n).toNat] = n := by
  have h1 : l.idxOf n < l.length := List.idxOf_lt_length_iff.2 h
  have e : pl l n = (l.idxOf n : Int) := by unfold pl; rw [if_pos h]
  rw [e]
  refine ⟨Int.natCast_nonneg _, by omega, ?_⟩
  rw [Int.toNat_natCast]
  exact ⟨h1, List.getElem_idxOf h1⟩
theorem pl_neg {l : List Int} {n : Int} : pl l n < 0 ↔ ¬ n ∈ l := by
  constructor
  · intro h hm
    have := (pl_lt hm).1
    omega
  · intro h
    rw [pl_no h]
    decide
theorem pl_ge {l : List Int} {n : Int} : 0 ≤ pl l n ↔ n ∈ l := by
  constructor
  · intro h
    by_cases hm : n ∈ l
    · exact hm
    · rw [pl_no hm] at h
      exact absurd h (by decide)
  · exact fun h => (pl_lt h).1
/-- May these be numbers of one group? -/
def Ap (l : List Int) : Prop := (∀ x ∈ l, 0 ≤ x ∧ x ≤ 63) ∧ l.Nodup
theorem Ap.left {a b : List Int} (h : Ap (a ++ b)) : Ap a := ⟨fun x hx => h.1 x (List.mem_append_left _ hx), (List.nodup_append.1 h.2).1⟩
theorem Ap.right {a b : List Int} (h : Ap (a ++ b)) : Ap b := ⟨fun x hx => h.1 x (List.mem_append_right _ hx), (List.nodup_append.1 h.2).2.1⟩
theorem Ap.apart {a b : List Int} (h : Ap (a ++ b)) {x : Int} (hx : x ∈ a) : ¬ x ∈ b := fun hb => (List.nodup_append.1 h.2).2.2 x hx x hb rfl
/-- One number more: the walk's step. -/
theorem Ap.step {l : List Int} {k : Nat} (hk : k < l.length) : Ap (l.take (k + 1)) ↔ Ap (l.take k) ∧ (0 ≤ l[k] ∧ l[k] ≤ 63) ∧ pl (l.take k) l[k] < 0 := by
  rw [pl_neg, List.take_succ_eq_append_getElem hk]
  unfold Ap
  constructor
  · rintro ⟨h1, h2⟩
    rw [List.nodup_append] at h2
    exact ⟨⟨fun x hx => h1 x (List.mem_append_left _ hx), h2.1⟩, h1 _ (List.mem_append_right _ (List.mem_singleton.2 rfl)), fun hm => h2.2.2 _ hm _ (List.mem_singleton.2 rfl) rfl⟩
  · rintro ⟨⟨h1, h2⟩, h3, h4⟩
    refine ⟨fun x hx => ?_, ?_⟩
    · rcases List.mem_append.1 hx with hx | hx
      · exact h1 x hx
      · rw [List.mem_singleton] at hx
        subst hx
        exact h3
    · rw [List.nodup_append]
      refine ⟨h2, by simp, fun x hx y hy e => ?_⟩
      rw [List.mem_singleton] at hy
      subst hy e
      exact h4 hx
theorem len_le : ∀ (n : Nat) (l : List Int), l.Nodup → (∀ x ∈ l, 0 ≤ x ∧ x < (n : Int)) → l.length ≤ n
  | 0, l, _, h => by
    cases l with
    | nil => exact Nat.le_refl _
    | cons x l => have := h x (List.mem_cons_self ..); omega
  | n + 1, l, hn, h => by
    by_cases hm : (n : Int) ∈ l
    · have h1 := len_le n (l.erase (n : Int)) (hn.erase _) (fun x hx => by
        have h2 := (hn.mem_erase_iff).1 hx
        have := h x h2.2
        have := h2.1
        omega)
      rw [List.length_erase_of_mem hm] at h1
      omega
    · have h1 := len_le n l hn (fun x hx => by
        have := h x hx
        have h2 : x ≠ (n : Int) := fun e => hm (e ▸ hx)
        omega)
      omega
/-- At most 64 numbers. -/
theorem Ap.len {l : List Int} (h : Ap l) : l.length ≤ 64 := len_le 64 l h.2 fun x hx => by have := h.1 x hx; omega
/-- May servers be a group? -/
def Gp (l : List Int) : Prop := 2 ≤ l.length ∧ l.length ≤ 8 ∧ Ap l
/-- A group: servers, spares, the epoch, the hole, is it filled, who is gone. -/
structure S where
  l : List Int
  sp : List Int
  ep : Int
  hole : Int
  fl : Bool
  gone : Int
def nw (l sp : List Int) : Prop := Gp l ∧ Ap (l ++ sp)
def s0 (l sp : List Int) : S := ⟨l, sp, 1, -1, false, -1⟩
def fc (s : S) (a b : Int) : Int := if pl s.l a < 0 then 7 else if 0 ≤ s.hole then 9 else if b ≠ s.ep then 10 else 0
def fs (s : S) (a b : Int) : S := if fc s a b = 0 then { s with hole := pl s.l a, gone := a, fl := false, ep := s.ep + 1 } else s
def wc (s : S) (a : Int) : Int := if s.sp = [] then 7 else if a ≠ s.ep then 10 else if s.hole < 0 ∨ s.fl = true then 16 else 0
def ws (s : S) (a : Int) : S := if wc s a = 0 then { s with l := s.l.set s.hole.toNat (s.sp.headD 0), sp := s.sp.tail, fl := true, ep := s.ep + 1 } else s
def wv (s : S) (a : Int) : Int := if wc s a = 0 then s.sp.headD 0 else 0
def dc (s : S) (a : Int) : Int := if a ≠ s.ep then 10 else if s.hole < 0 ∨ s.fl = false then 16 else 0
def ds (s : S) (a : Int) : S := if dc s a = 0 then { s with hole := -1, gone := -1, fl := false, ep := s.ep + 1 } else s
def ac (s : S) (a : Int) : Int := if a < 0 ∨ 63 < a then 1 else if 0 ≤ pl s.l a ∨ 0 ≤ pl s.sp a ∨ a = s.gone then 6 else 0
def as' (s : S) (a : Int) : S := if ac s a = 0 then { s with sp := s.sp ++ [a] } else s
/-- What holds of a group at each time. -/
structure G (s : S) : Prop where
  g : Gp s.l
  ap : Ap (s.l ++ s.sp)
  ep : 1 ≤ s.ep
  lo : -1 ≤ s.hole
  hi : s.hole < s.l.length
  no : s.hole < 0 → s.fl = false ∧ s.gone = -1
  is : 0 ≤ s.hole → s.fl = false → ∃ h : s.hole.toNat < s.l.length, s.l[s.hole.toNat] = s.gone
  fil : 0 ≤ s.hole → s.fl = true → (0 ≤ s.gone ∧ s.gone ≤ 63) ∧ ¬ s.gone ∈ s.l ∧ ¬ s.gone ∈ s.sp
theorem G.zero {l sp : List Int} (h : nw l sp) : G (s0 l sp) :=
  ⟨h.1, h.2, Int.le_refl _, Int.le_refl _, by show (-1 : Int) < l.length; omega, fun _ => ⟨rfl, rfl⟩, fun h => absurd h (show ¬ (0 : Int) ≤ -1 by decide), fun h => absurd h (show ¬ (0 : Int) ≤ -1 by decide)⟩
theorem G.fail {s : S} (h : G s) (a b : Int) : G (fs s a b) := by
  unfold fs
  split
  · rename_i h0
    unfold fc at h0
    by_cases h1 : pl s.l a < 0
    · rw [if_pos h1] at h0; exact absurd h0 (by decide)
    · have hm : a ∈ s.l := pl_ge.1 (by omega)
      obtain ⟨k0, k1, k2, k3⟩ := pl_lt hm
      exact ⟨h.g, h.ap, by have := h.ep; show 1 ≤ s.ep + 1; omega, by show -1 ≤ pl s.l a; omega, k1, fun e => absurd e (by show ¬ pl s.l a < 0; omega), fun _ _ => ⟨k2, k3⟩, fun _ e => absurd e (by show ¬ false = true; decide)⟩
  · exact h
theorem G.swap {s : S} (h : G s) (a : Int) : G (ws s a) := by
  unfold ws
  split
  · rename_i h0
    unfold wc at h0
    by_cases h1 : s.sp = []
    · rw [if_pos h1] at h0; exact absurd h0 (by decide)
    · rw [if_neg h1] at h0
      by_cases h2 : a ≠ s.ep
      · rw [if_pos h2] at h0; exact absurd h0 (by decide)
      · rw [if_neg h2] at h0
        by_cases h3 : s.hole < 0 ∨ s.fl = true
        · rw [if_pos h3] at h0; exact absurd h0 (by decide)
        · have h4 : 0 ≤ s.hole := by omega
          have h5 : s.fl = false := by cases e : s.fl; rfl; exact absurd (.inr e) h3
          obtain ⟨x, xs, hx⟩ : ∃ x xs, s.sp = x :: xs := by
            cases e : s.sp with
            | nil => exact absurd e h1
            | cons x xs => exact ⟨x, xs, rfl⟩
          obtain ⟨hk, hg⟩ := h.is h4 h5
          have hap := h.ap
          rw [hx] at hap
          have hn := List.nodup_append.1 hap.2
          have hxs := (List.nodup_cons.1 hn.2.1)
          have hlx : ∀ y ∈ s.l, y ≠ x := fun y hy => hn.2.2 y hy x (List.mem_cons_self ..)
          have hmem : ∀ y ∈ s.l.set s.hole.toNat x, y = x ∨ y ∈ s.l := fun y hy => (List.mem_or_eq_of_mem_set hy).symm
          have hset : (s.l.set s.hole.toNat x).Nodup := by
            rw [List.set_eq_take_append_cons_drop, if_pos hk]
            have hd := hn.1
            rw [← List.take_append_drop s.hole.toNat s.l, List.drop_eq_getElem_cons hk] at hd
            rw [List.nodup_append] at hd ⊢
            refine ⟨hd.1, ?_, fun y hy z hz => ?_⟩
            · rw [List.nodup_cons] at hd ⊢
              exact ⟨fun e => hlx x (List.mem_of_mem_drop e) rfl, hd.2.1.2⟩
            · rcases List.mem_cons.1 hz with e | e
              · subst e; exact hlx y (List.mem_of_mem_take hy)
              · exact hd.2.2 y hy z (List.mem_cons_of_mem _ e)
          have hgone : ¬ s.gone ∈ s.l.set s.hole.toNat x := fun e => by
            obtain ⟨j, hj, hjj⟩ := List.getElem_of_mem e
            rw [List.length_set] at hj
            rw [List.getElem_set] at hjj
            split at hjj
            · exact hlx s.gone (hg ▸ List.getElem_mem hk) hjj.symm
            · rename_i hne
              have : s.l[j] = s.l[s.hole.toNat] := by rw [hjj, hg]
              have hp := List.pairwise_iff_getElem.1 hn.1
              rcases Nat.lt_trichotomy j s.hole.toNat with q | q | q
              · exact hp j _ hj hk q this
              · exact hne q.symm
              · exact hp _ j hk hj q this.symm
          have hgl : s.gone ∈ s.l := hg ▸ List.getElem_mem hk
          simp only [hx, List.headD_cons, List.tail_cons]
          refine ⟨⟨by rw [List.length_set]; exact h.g.1, by rw [List.length_set]; exact h.g.2.1, fun y hy => ?_, hset⟩, ⟨fun y hy => ?_, ?_⟩, by have := h.ep; show 1 ≤ s.ep + 1; omega, h.lo, by show s.hole < _; rw [List.length_set]; exact h.hi, fun e => absurd e (by show ¬ s.hole < 0; omega), fun _ e => absurd e (show ¬ true = false by decide), fun _ _ => ⟨h.ap.1 _ (List.mem_append_left _ hgl), hgone, fun e => hn.2.2 _ hgl _ (List.mem_cons_of_mem _ e) rfl⟩⟩
          · rcases hmem y hy with e | e
            · subst e; exact hap.1 _ (List.mem_append_right _ (List.mem_cons_self ..))
            · exact hap.1 _ (List.mem_append_left _ e)
          · rcases List.mem_append.1 hy with e | e
            · rcases hmem y e with e | e
              · subst e; exact hap.1 _ (List.mem_append_right _ (List.mem_cons_self ..))
              · exact hap.1 _ (List.mem_append_left _ e)
            · exact hap.1 _ (List.mem_append_right _ (List.mem_cons_of_mem _ e))
          · rw [List.nodup_append]
            refine ⟨hset, hxs.2, fun y hy z hz => ?_⟩
            rcases hmem y hy with e | e
            · subst e; exact fun e => hxs.1 (e ▸ hz)
            · exact hn.2.2 y e z (List.mem_cons_of_mem _ hz)
  · exact h
theorem G.done {s : S} (h : G s) (a : Int) : G (ds s a) := by
  unfold ds
  split
  · exact ⟨h.g, h.ap, by have := h.ep; show 1 ≤ s.ep + 1; omega, Int.le_refl _, by show (-1 : Int) < s.l.length; omega, fun _ => ⟨rfl, rfl⟩, fun e => absurd e (show ¬ (0 : Int) ≤ -1 by decide), fun e => absurd e (show ¬ (0 : Int) ≤ -1 by decide)⟩
  · exact h
theorem G.add {s : S} (h : G s) (a : Int) : G (as' s a) := by
  unfold as'
  split
  · rename_i h0
    unfold ac at h0
    by_cases h1 : a < 0 ∨ 63 < a
    · rw [if_pos h1] at h0; exact absurd h0 (by decide)
    · rw [if_neg h1] at h0
      by_cases h2 : 0 ≤ pl s.l a ∨ 0 ≤ pl s.sp a ∨ a = s.gone
      · rw [if_pos h2] at h0; exact absurd h0 (by decide)
      · have k1 : ¬ a ∈ s.l := fun e => h2 (.inl (pl_ge.2 e))
        have k2 : ¬ a ∈ s.sp := fun e => h2 (.inr (.inl (pl_ge.2 e)))
        have k3 : ¬ a = s.gone := fun e => h2 (.inr (.inr e))
        have hn := List.nodup_append.1 h.ap.2
        refine ⟨h.g, ⟨fun y hy => ?_, ?_⟩, h.ep, h.lo, h.hi, h.no, h.is, fun e1 e2 => ⟨(h.fil e1 e2).1, (h.fil e1 e2).2.1, fun e => ?_⟩⟩
        · rw [← List.append_assoc] at hy
          rcases List.mem_append.1 hy with e | e
          · exact h.ap.1 y e
          · rw [List.mem_singleton] at e; subst e; omega
        · rw [← List.append_assoc, List.nodup_append]
          refine ⟨h.ap.2, by simp, fun y hy z hz => ?_⟩
          rw [List.mem_singleton] at hz
          subst hz
          exact fun e => by
            subst e
            rcases List.mem_append.1 hy with e | e
            · exact k1 e
            · exact k2 e
        · rcases List.mem_append.1 e with e | e
          · exact (h.fil e1 e2).2.2 e
          · rw [List.mem_singleton] at e; exact k3 e.symm
  · exact h

end Mb
end Go.Proofs.Ytacfndfkoiifhaa
