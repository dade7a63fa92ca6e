/-
  A group's members: what each deed leaves as it was, and what one failure allows.
-/
import Derived.Test.YtacfndfkoiifhaaMB
namespace Go.Proofs.Ytacfndfkoiifhaa
namespace Mb

theorem fs_yes {s : S} {a b : Int} (h : fc s a b = 0) : fs s a b = { s with hole := pl s.l a, gone := a, fl := false, ep := s.ep + 1 } := by unfold fs; rw [if_pos h]
theorem fs_no {s : S} {a b : Int} (h : ¬ fc s a b = 0) : fs s a b = s := by unfold fs; rw [if_neg h]
theorem ws_yes {s : S} {a : Int} (h : wc s a = 0) : ws s a = { s with l := s.l.set s.hole.toNat (s.sp.headD 0), sp := s.sp.tail, fl := true, ep := s.ep + 1 } := by unfold ws; rw [if_pos h]
theorem ws_no {s : S} {a : Int} (h : ¬ wc s a = 0) : ws s a = s := by unfold ws; rw [if_neg h]
theorem ds_yes {s : S} {a : Int} (h : dc s a = 0) : ds s a = { s with hole := -1, gone := -1, fl := false, ep := s.ep + 1 } := by unfold ds; rw [if_pos h]
theorem ds_no {s : S} {a : Int} (h : ¬ dc s a = 0) : ds s a = s := by unfold ds; rw [if_neg h]
theorem as_yes {s : S} {a : Int} (h : ac s a = 0) : as' s a = { s with sp := s.sp ++ [a] } := by unfold as'; rw [if_pos h]
theorem as_no {s : S} {a : Int} (h : ¬ ac s a = 0) : as' s a = s := by unfold as'; rw [if_neg h]

/-- The epoch behind a deed that told code c: one more, or as it was. -/
def up (c e : Int) : Int := if c = 0 then e + 1 else e
theorem fs_ep (s : S) (a b : Int) : (fs s a b).ep = up (fc s a b) s.ep := by unfold fs up; split <;> rfl
theorem ws_ep (s : S) (a : Int) : (ws s a).ep = up (wc s a) s.ep := by unfold ws up; split <;> rfl
theorem ds_ep (s : S) (a : Int) : (ds s a).ep = up (dc s a) s.ep := by unfold ds up; split <;> rfl
theorem as_ep (s : S) (a : Int) : (as' s a).ep = s.ep := by unfold as'; split <;> rfl
theorem up_le (c e : Int) : e ≤ up c e ∧ up c e ≤ e + 1 := by unfold up; split <;> omega
theorem fs_len (s : S) (a b : Int) : (fs s a b).l.length = s.l.length := by unfold fs; split <;> rfl
theorem ws_len (s : S) (a : Int) : (ws s a).l.length = s.l.length := by
  unfold ws
  split
  · exact List.length_set
  · rfl
theorem ds_len (s : S) (a : Int) : (ds s a).l.length = s.l.length := by unfold ds; split <;> rfl
theorem as_len (s : S) (a : Int) : (as' s a).l.length = s.l.length := by unfold as'; split <;> rfl

/-- The deeds by their kinds. -/
def dd (s : S) (k a b : Int) : S := if k = 0 then fs s a b else if k = 1 then ws s a else if k = 2 then ds s a else if k = 3 then as' s a else s
theorem dd0 (s : S) (a b : Int) : dd s 0 a b = fs s a b := by unfold dd; rw [if_pos rfl]
theorem dd1 (s : S) (a b : Int) : dd s 1 a b = ws s a := by unfold dd; rw [if_neg (by decide), if_pos rfl]
theorem dd2 (s : S) (a b : Int) : dd s 2 a b = ds s a := by unfold dd; rw [if_neg (by decide), if_neg (by decide), if_pos rfl]
theorem dd3 (s : S) (a b : Int) : dd s 3 a b = as' s a := by unfold dd; rw [if_neg (by decide), if_neg (by decide), if_neg (by decide), if_pos rfl]
theorem dd_else {s : S} {k a b : Int} (h : ¬ (k = 0 ∨ k = 1 ∨ k = 2 ∨ k = 3)) : dd s k a b = s := by
  unfold dd
  rw [if_neg (fun e => h (.inl e)), if_neg (fun e => h (.inr (.inl e))), if_neg (fun e => h (.inr (.inr (.inl e)))), if_neg (fun e => h (.inr (.inr (.inr e))))]
theorem G.did {s : S} (h : G s) (k a b : Int) : G (dd s k a b) := by
  unfold dd
  split
  · exact h.fail a b
  · split
    · exact h.swap a
    · split
      · exact h.done a
      · split
        · exact h.add a
        · exact h
theorem dd_len (s : S) (k a b : Int) : (dd s k a b).l.length = s.l.length := by
  unfold dd
  split
  · exact fs_len s a b
  · split
    · exact ws_len s a
    · split
      · exact ds_len s a
      · split
        · exact as_len s a
        · rfl
theorem dd_ep (s : S) (k a b : Int) : s.ep ≤ (dd s k a b).ep ∧ (dd s k a b).ep ≤ s.ep + 1 := by
  unfold dd
  split
  · rw [fs_ep]; exact up_le _ _
  · split
    · rw [ws_ep]; exact up_le _ _
    · split
      · rw [ds_ep]; exact up_le _ _
      · split
        · rw [as_ep]; omega
        · omega

/-- The first server that fails at epoch 1: it is one. -/
theorem one_fail {l sp : List Int} {a : Int} (h : fc (s0 l sp) a 1 = 0) : 0 ≤ pl l a := by
  unfold fc at h
  by_cases h1 : pl (s0 l sp).l a < 0
  · rw [if_pos h1] at h; exact absurd h (by decide)
  · exact Int.not_lt.1 h1
theorem one_is {l sp : List Int} {a : Int} (h : 0 ≤ pl l a) : fc (s0 l sp) a 1 = 0 := by
  unfold fc
  rw [if_neg (by show ¬ pl l a < 0; omega)]
  show (if (0 : Int) ≤ -1 then 9 else if (1 : Int) ≠ 1 then 10 else 0) = (0 : Int)
  decide
/-- Behind it no second one fails. -/
theorem one_second {s : S} (h : 0 ≤ s.hole) (b c : Int) : ¬ fc s b c = 0 := by
  unfold fc
  by_cases h1 : pl s.l b < 0
  · rw [if_pos h1]; decide
  · rw [if_neg h1, if_pos h]; decide
theorem one_hole {l sp : List Int} {a : Int} (h : fc (s0 l sp) a 1 = 0) : fs (s0 l sp) a 1 = ⟨l, sp, 2, pl l a, false, a⟩ := by rw [fs_yes h]; rfl
theorem one_none {l : List Int} {h g : Int} : wc ⟨l, [], 2, h, false, g⟩ 2 = 7 := by unfold wc; rw [if_pos rfl]
theorem one_swap {l sp : List Int} {x h g : Int} (hh : 0 ≤ h) : wc ⟨l, x :: sp, 2, h, false, g⟩ 2 = 0 := by
  unfold wc
  rw [if_neg (List.cons_ne_nil _ _), if_neg (show ¬ (2 : Int) ≠ 2 from fun e => e rfl), if_neg (show ¬ (h < 0 ∨ false = true) from fun e => by rcases e with e | e; omega; cases e)]
theorem one_swapped {l sp : List Int} {x h g : Int} (hh : 0 ≤ h) : ws ⟨l, x :: sp, 2, h, false, g⟩ 2 = ⟨l.set h.toNat x, sp, 3, h, true, g⟩ := by rw [ws_yes (one_swap hh)]; rfl
theorem one_which {l sp : List Int} {x h g : Int} (hh : 0 ≤ h) : wv ⟨l, x :: sp, 2, h, false, g⟩ 2 = x := by unfold wv; rw [if_pos (one_swap hh)]; rfl

/-- May a group be: asked step by step. -/
def may (s : S) : Prop :=
  Gp s.l ∧ s.sp.length ≤ 64 ∧ Ap (s.l ++ s.sp) ∧ 1 ≤ s.ep ∧ -1 ≤ s.hole ∧ s.hole < s.l.length ∧
    (s.hole < 0 ∧ s.fl = false ∧ s.gone = -1 ∨
      0 ≤ s.hole ∧ s.fl = false ∧ s.gone = s.l.getD s.hole.toNat 0 ∨
      0 ≤ s.hole ∧ s.fl = true ∧ 0 ≤ s.gone ∧ s.gone ≤ 63 ∧ pl s.l s.gone < 0 ∧ pl s.sp s.gone < 0)
theorem may_G {s : S} : may s ↔ G s := by
  constructor
  · rintro ⟨h1, h2, h3, h4, h5, h6, h7⟩
    refine ⟨h1, h3, h4, h5, h6, fun e => ?_, fun e1 e2 => ?_, fun e1 e2 => ?_⟩
    · rcases h7 with h | h | h
      · exact h.2
      · exact absurd h.1 (by omega)
      · exact absurd h.1 (by omega)
    · have hk : s.hole.toNat < s.l.length := by omega
      rcases h7 with h | h | h
      · exact absurd h.1 (by omega)
      · exact ⟨hk, by rw [h.2.2]; simp [hk]⟩
      · rw [h.2.1] at e2; cases e2
    · rcases h7 with h | h | h
      · exact absurd h.1 (by omega)
      · rw [h.2.1] at e2; cases e2
      · exact ⟨⟨h.2.2.1, h.2.2.2.1⟩, pl_neg.1 h.2.2.2.2.1, pl_neg.1 h.2.2.2.2.2⟩
  · intro h
    refine ⟨h.g, h.ap.right.len, h.ap, h.ep, h.lo, h.hi, ?_⟩
    by_cases e : s.hole < 0
    · exact .inl ⟨e, h.no e⟩
    · have e0 : 0 ≤ s.hole := by omega
      cases f : s.fl with
      | false =>
        obtain ⟨hk, hx⟩ := h.is e0 f
        exact .inr (.inl ⟨e0, rfl, by rw [← hx]; simp [hk]⟩)
      | true =>
        obtain ⟨q, q1, q2⟩ := h.fil e0 f
        exact .inr (.inr ⟨e0, rfl, q.1, q.2, pl_neg.2 q1, pl_neg.2 q2⟩)

end Mb
end Go.Proofs.Ytacfndfkoiifhaa
