/-
  What is set, as a plain list: by its moment, then its number.
-/
namespace Go.Proofs.Ytbgbdiiinggjnaa.M
set_option linter.unusedVariables false

/-- A number, and when it is due. -/
structure E where
  i : Int
  t : Int

/-- Due ahead of. -/
def lt (a b : E) : Prop := a.t < b.t ∨ (a.t = b.t ∧ a.i < b.i)
/-- The sign of the order. -/
def cmp (a b : Int) : Int := if a < b then -1 else if b < a then 1 else 0
def cmpE (a b : E) : Int := if cmp a.t b.t = 0 then cmp a.i b.i else cmp a.t b.t
theorem cmp_lt {a b : Int} (h : a < b) : cmp a b = -1 := by unfold cmp; rw [if_pos h]
theorem cmp_gt {a b : Int} (h : b < a) : cmp a b = 1 := by unfold cmp; rw [if_neg (by omega), if_pos h]
theorem cmp_eq (a : Int) : cmp a a = 0 := by unfold cmp; rw [if_neg (by omega), if_neg (by omega)]
theorem cmp_three (a b : Int) : (a < b ∧ cmp a b = -1) ∨ (a = b ∧ cmp a b = 0) ∨ (b < a ∧ cmp a b = 1) := by
  rcases Int.lt_trichotomy a b with h | h | h
  · exact .inl ⟨h, cmp_lt h⟩
  · subst h; exact .inr (.inl ⟨rfl, cmp_eq a⟩)
  · exact .inr (.inr ⟨h, cmp_gt h⟩)
theorem cmpE_neg (a b : E) : cmpE a b < 0 ↔ lt a b := by
  unfold cmpE lt
  rcases cmp_three a.t b.t with ⟨h, e⟩ | ⟨h, e⟩ | ⟨h, e⟩ <;> rw [e]
  · simp; omega
  · rcases cmp_three a.i b.i with ⟨h', e'⟩ | ⟨h', e'⟩ | ⟨h', e'⟩ <;> rw [e'] <;> simp <;> omega
  · simp; omega
theorem cmpE_rng (a b : E) : -1 ≤ cmpE a b ∧ cmpE a b ≤ 1 := by
  unfold cmpE
  rcases cmp_three a.t b.t with ⟨h, e⟩ | ⟨h, e⟩ | ⟨h, e⟩ <;> rw [e]
  · simp
  · rcases cmp_three a.i b.i with ⟨h', e'⟩ | ⟨h', e'⟩ | ⟨h', e'⟩ <;> rw [e'] <;> simp
  · simp
theorem lt_trans {a b c : E} (h : lt a b) (k : lt b c) : lt a c := by unfold lt at *; omega
theorem lt_irr {a : E} (h : lt a a) : False := by unfold lt at h; omega
theorem lt_or {a b : E} (h : ¬ lt a b) (hi : a.i ≠ b.i) : lt b a := by unfold lt at *; omega

/-- A number's place; how many there are, if it is not set. -/
def fnd : List E → Int → Nat
  | [], _ => 0
  | e :: r, k => if e.i = k then 0 else fnd r k + 1
theorem fnd_le : ∀ l k, fnd l k ≤ l.length
  | [], k => by simp [fnd]
  | e :: r, k => by
    rw [fnd]
    split
    · omega
    · have := fnd_le r k; simp; omega
theorem fnd_lo : ∀ (l : List E) (k : Int) (j : Nat) (h : j < l.length), j < fnd l k → l[j].i ≠ k
  | [], k, j, h, _ => by simp at h
  | e :: r, k, 0, h, hj => by
    rw [fnd] at hj
    split at hj
    · omega
    · simpa
  | e :: r, k, j + 1, h, hj => by
    rw [fnd] at hj
    split at hj
    · omega
    · simpa using fnd_lo r k j (by simpa using h) (by omega)
theorem fnd_hi : ∀ (l : List E) (k : Int) (h : fnd l k < l.length), l[fnd l k].i = k
  | [], k, h => by simp at h
  | e :: r, k, h => by
    by_cases he : e.i = k
    · have hf : fnd (e :: r) k = 0 := by rw [fnd, if_pos he]
      simp only [hf]
      simpa
    · have hf : fnd (e :: r) k = fnd r k + 1 := by rw [fnd, if_neg he]
      have hl : fnd r k < r.length := by rw [hf] at h; simpa using h
      simp only [hf]
      simpa using fnd_hi r k hl
theorem fnd_eq (l : List E) (k : Int) (j : Nat) (hj : j ≤ l.length) (hlo : ∀ i (h : i < l.length), i < j → l[i].i ≠ k) (hhi : ∀ h : j < l.length, l[j].i = k) : fnd l k = j := by
  rcases Nat.lt_trichotomy (fnd l k) j with h | h | h
  · exact absurd (fnd_hi l k (by omega)) (hlo _ (by omega) h)
  · exact h
  · have := fnd_le l k
    exact absurd (hhi (by omega)) (fnd_lo l k j (by omega) h)
/-- The place as it is told. -/
def plc (l : List E) (k : Int) : Int := if fnd l k < l.length then (fnd l k : Int) else -1
theorem plc_yes {l : List E} {k : Int} (h : fnd l k < l.length) : plc l k = (fnd l k : Int) := by unfold plc; rw [if_pos h]
theorem plc_no {l : List E} {k : Int} (h : ¬ fnd l k < l.length) : plc l k = -1 := by unfold plc; rw [if_neg h]

/-- Without one. -/
def stop (l : List E) (k : Int) : List E := l.filter (fun e => decide (e.i ≠ k))
theorem fnd_cons_ne {e : E} {r : List E} {k : Int} (h : e.i ≠ k) : fnd (e :: r) k = fnd r k + 1 := by rw [fnd, if_neg h]
theorem fnd_cons_eq {e : E} {r : List E} {k : Int} (h : e.i = k) : fnd (e :: r) k = 0 := by rw [fnd, if_pos h]
theorem stop_cons_ne {e : E} {r : List E} {k : Int} (h : e.i ≠ k) : stop (e :: r) k = e :: stop r k := by unfold stop; rw [List.filter_cons, if_pos (by simpa using h)]
theorem stop_cons_eq {e : E} {r : List E} {k : Int} (h : e.i = k) : stop (e :: r) k = stop r k := by unfold stop; rw [List.filter_cons, if_neg (by simpa using h)]
theorem stop_none {l : List E} {k : Int} (h : ∀ e ∈ l, e.i ≠ k) : stop l k = l := by
  unfold stop
  rw [List.filter_eq_self]
  intro e he
  simpa using h e he
theorem stop_no : ∀ {l : List E} {k : Int} (h : ¬ fnd l k < l.length), stop l k = l
  | [], k, h => rfl
  | e :: r, k, h => by
    by_cases he : e.i = k
    · rw [fnd_cons_eq he] at h; simp at h
    · rw [fnd_cons_ne he] at h
      rw [stop_cons_ne he, stop_no (by simpa using h)]
/-- Numbers stand once. -/
def U (l : List E) : Prop := l.Pairwise (fun a b => a.i ≠ b.i)
theorem stop_yes : ∀ {l : List E} {k : Int} (hu : U l) (h : fnd l k < l.length), stop l k = l.take (fnd l k) ++ l.drop (fnd l k + 1)
  | [], k, _, h => by simp at h
  | e :: r, k, hu, h => by
    unfold U at hu
    rw [List.pairwise_cons] at hu
    by_cases he : e.i = k
    · rw [fnd_cons_eq he, stop_cons_eq he]
      simp
      exact stop_none (fun x hx => by rw [← he]; exact (hu.1 x hx).symm)
    · rw [fnd_cons_ne he] at h ⊢
      rw [stop_cons_ne he, stop_yes hu.2 (by simpa using h)]
      simp
theorem stop_len_yes {l : List E} {k : Int} (hu : U l) (h : fnd l k < l.length) : (stop l k).length = l.length - 1 := by
  rw [stop_yes hu h]; simp; omega
theorem stop_mem {l : List E} {k : Int} {e : E} (h : e ∈ stop l k) : e ∈ l ∧ e.i ≠ k := by
  unfold stop at h
  rw [List.mem_filter] at h
  exact ⟨h.1, by simpa using h.2⟩
theorem stop_le (l : List E) (k : Int) : (stop l k).length ≤ l.length := List.length_filter_le _ _
theorem stop_lt_iff {l : List E} {k : Int} (hu : U l) : decide ((stop l k).length < l.length) = decide (fnd l k < l.length) := by
  by_cases h : fnd l k < l.length
  · rw [stop_len_yes hu h]; simp [h]; omega
  · rw [stop_no h]; simp [h]

/-- What holds of a list. -/
structure G (l : List E) : Prop where
  s : l.Pairwise lt
  u : U l
  r : ∀ e ∈ l, 0 ≤ e.i ∧ 0 ≤ e.t ∧ e.t ≤ 1099511627776
  n : l.length ≤ 64
theorem G.nil : G [] := ⟨List.Pairwise.nil, List.Pairwise.nil, by simp, by simp⟩
theorem G.stopped {l : List E} (h : G l) (k : Int) : G (stop l k) :=
  ⟨h.s.filter _, List.Pairwise.filter _ h.u, fun e he => h.r e (stop_mem he).1, Nat.le_trans (stop_le l k) h.n⟩
theorem G.tail {e : E} {l : List E} (h : G (e :: l)) : G l :=
  ⟨(List.pairwise_cons.1 h.s).2, (List.pairwise_cons.1 h.u).2, fun x hx => h.r x (List.mem_cons_of_mem _ hx), by have := h.n; simp at this; omega⟩
theorem G.dropped {l : List E} (h : G l) (k : Nat) : G (l.drop k) :=
  ⟨h.s.sublist (List.drop_sublist _ _), List.Pairwise.sublist (List.drop_sublist _ _) h.u, fun e he => h.r e (List.mem_of_mem_drop he), by have := h.n; simp; omega⟩

/-- One set at its place. -/
def ins (l : List E) (x : E) : List E := l.takeWhile (fun e => decide (cmpE e x < 0)) ++ x :: l.dropWhile (fun e => decide (cmpE e x < 0))
/-- How many stand ahead of one. -/
def ah (l : List E) (x : E) : Nat := (l.takeWhile (fun e => decide (cmpE e x < 0))).length
theorem tw_at (p : E → Bool) : ∀ (l : List E) (r : Nat) (hr : r ≤ l.length) (hlo : ∀ j (h : j < l.length), j < r → p l[j] = true) (hhi : ∀ (h : r < l.length), p l[r] = false), l.takeWhile p = l.take r ∧ l.dropWhile p = l.drop r
  | [], r, hr, _, _ => by simp
  | e :: l, 0, hr, hlo, hhi => by
    have := hhi (by simp)
    simp at this
    simp [this]
  | e :: l, r + 1, hr, hlo, hhi => by
    have h0 := hlo 0 (by simp) (by omega)
    simp at h0
    obtain ⟨a, b⟩ := tw_at p l r (by simpa using hr) (fun j h hj => by have := hlo (j + 1) (by simpa using h) (by omega); rwa [List.getElem_cons_succ] at this) (fun h => by have := hhi (by simpa using h); rwa [List.getElem_cons_succ] at this)
    simp [h0, a, b]
theorem ins_at {l : List E} {x : E} {r : Nat} (hr : r ≤ l.length) (hlo : ∀ j (h : j < l.length), j < r → cmpE l[j] x < 0) (hhi : ∀ (h : r < l.length), ¬ cmpE l[r] x < 0) : ins l x = l.take r ++ [x] ++ l.drop r := by
  obtain ⟨a, b⟩ := tw_at (fun e => decide (cmpE e x < 0)) l r hr (fun j h hj => by simpa using hlo j h hj) (fun h => by simpa using hhi h)
  unfold ins
  rw [a, b]
  simp
theorem ins_len (l : List E) (x : E) : (ins l x).length = l.length + 1 := by
  have := congrArg List.length (List.takeWhile_append_dropWhile (p := fun e => decide (cmpE e x < 0)) (l := l))
  unfold ins
  simp only [List.length_append, List.length_cons] at this ⊢
  omega
theorem mem_ins {l : List E} {x e : E} : e ∈ ins l x ↔ e = x ∨ e ∈ l := by
  have := List.takeWhile_append_dropWhile (p := fun e => decide (cmpE e x < 0)) (l := l)
  unfold ins
  conv => rhs; rw [← this]
  simp only [List.mem_append, List.mem_cons]
  constructor
  · rintro (h | h | h)
    · exact .inr (.inl h)
    · exact .inl h
    · exact .inr (.inr h)
  · rintro (h | h | h)
    · exact .inr (.inl h)
    · exact .inl h
    · exact .inr (.inr h)
/-- Where a search in order ends. -/
theorem srch (l : List E) (x : E) (hs : l.Pairwise lt) : ∃ r, r ≤ l.length ∧ (∀ j (h : j < l.length), j < r → cmpE l[j] x < 0) ∧ (∀ j (h : j < l.length), r ≤ j → ¬ cmpE l[j] x < 0) := by
  induction l with
  | nil => exact ⟨0, by simp, by simp, by simp⟩
  | cons e l ih =>
    rw [List.pairwise_cons] at hs
    obtain ⟨r, h1, h2, h3⟩ := ih hs.2
    by_cases he : cmpE e x < 0
    · refine ⟨r + 1, by simpa using h1, fun j h hj => ?_, fun j h hj => ?_⟩
      · cases j with
        | zero => simpa using he
        | succ j => simpa using h2 j (by simpa using h) (by omega)
      · cases j with
        | zero => omega
        | succ j => simpa using h3 j (by simpa using h) (by omega)
    · refine ⟨0, by simp, fun j h hj => by omega, fun j h hj => ?_⟩
      cases j with
      | zero => simpa using he
      | succ j =>
        intro hc
        simp at hc
        have hj' : j < l.length := by simpa using h
        exact he ((cmpE_neg _ _).2 (lt_trans (hs.1 l[j] (List.getElem_mem hj')) ((cmpE_neg _ _).1 hc)))
theorem G.inserted {l : List E} (h : G l) (x : E) (hx : ∀ e ∈ l, e.i ≠ x.i) (hr : 0 ≤ x.i ∧ 0 ≤ x.t ∧ x.t ≤ 1099511627776) (hn : l.length < 64) : G (ins l x) := by
  obtain ⟨r, h1, h2, h3⟩ := srch l x h.s
  have hi := ins_at h1 h2 (fun h => h3 r h (Nat.le_refl _))
  have hta : ∀ a ∈ l.take r, lt a x := by
    intro a ha
    obtain ⟨k, hk, rfl⟩ := List.getElem_of_mem ha
    rw [List.getElem_take]
    simp at hk
    exact (cmpE_neg _ _).1 (h2 k (by omega) (by omega))
  have hdr : ∀ a ∈ l.drop r, lt x a := by
    intro a ha
    obtain ⟨k, hk, rfl⟩ := List.getElem_of_mem ha
    rw [List.getElem_drop]
    simp at hk
    exact lt_or (fun h' => h3 (r + k) (by omega) (by omega) ((cmpE_neg _ _).2 h')) (hx _ (List.getElem_mem _))
  have hmt : ∀ a ∈ l.take r, a ∈ l := fun a ha => List.mem_of_mem_take ha
  have hmd : ∀ a ∈ l.drop r, a ∈ l := fun a ha => List.mem_of_mem_drop ha
  have hs := h.s
  have hu := h.u
  unfold U at hu
  rw [← List.take_append_drop r l, List.pairwise_append] at hs hu
  refine ⟨?_, ?_, fun e he => ?_, by rw [ins_len]; omega⟩
  · rw [hi, List.append_assoc, List.pairwise_append]
    refine ⟨hs.1, ?_, fun a ha b hb => ?_⟩
    · rw [List.singleton_append, List.pairwise_cons]
      exact ⟨hdr, hs.2.1⟩
    · rw [List.singleton_append, List.mem_cons] at hb
      rcases hb with rfl | hb
      · exact hta a ha
      · exact hs.2.2 a ha b hb
  · unfold U
    rw [hi, List.append_assoc, List.pairwise_append]
    refine ⟨hu.1, ?_, fun a ha b hb => ?_⟩
    · rw [List.singleton_append, List.pairwise_cons]
      exact ⟨fun a ha => (hx a (hmd a ha)).symm, hu.2.1⟩
    · rw [List.singleton_append, List.mem_cons] at hb
      rcases hb with rfl | hb
      · exact hx a (hmt a ha)
      · exact hu.2.2 a ha b hb
  · rcases mem_ins.1 he with rfl | h'
    · exact hr
    · exact h.r e h'

/-- What may be set. -/
def bad (k a : Int) : Bool := decide (k < 0) || decide (a < 0) || decide (1099511627776 < a)
def setL (l : List E) (k a : Int) : List E := if bad k a then l else if 64 ≤ (stop l k).length then l else ins (stop l k) ⟨k, a⟩
def setE (l : List E) (k a : Int) : Int := if bad k a then 1 else if 64 ≤ (stop l k).length then 5 else 0
theorem set_bad {l : List E} {k a : Int} (h : bad k a = true) : setL l k a = l ∧ setE l k a = 1 := by unfold setL setE; rw [h]; exact ⟨rfl, rfl⟩
theorem set_full {l : List E} {k a : Int} (h : bad k a = false) (h2 : 64 ≤ (stop l k).length) : setL l k a = l ∧ setE l k a = 5 := by unfold setL setE; rw [h, if_pos h2, if_pos h2]; exact ⟨rfl, rfl⟩
theorem set_ok {l : List E} {k a : Int} (h : bad k a = false) (h2 : (stop l k).length < 64) : setL l k a = ins (stop l k) ⟨k, a⟩ ∧ setE l k a = 0 := by unfold setL setE; rw [h, if_neg (Nat.not_le_of_lt h2), if_neg (Nat.not_le_of_lt h2)]; exact ⟨rfl, rfl⟩
theorem bad_no {k a : Int} (h : bad k a = false) : 0 ≤ k ∧ 0 ≤ a ∧ a ≤ 1099511627776 := by
  unfold bad at h
  simp at h
  omega
theorem G.setted {l : List E} (h : G l) (k a : Int) : G (setL l k a) := by
  cases hb : bad k a
  · rcases Nat.lt_or_ge (stop l k).length 64 with h2 | h2
    · rw [(set_ok hb h2).1]
      exact (h.stopped k).inserted ⟨k, a⟩ (fun e he => (stop_mem he).2) (bad_no hb) h2
    · rw [(set_full hb h2).1]; exact h
  · rw [(set_bad hb).1]; exact h
/-- Full, as the program asks. -/
theorem full_iff {l : List E} (h : G l) (k : Int) : (64 ≤ (stop l k).length) ↔ (¬ fnd l k < l.length ∧ 64 ≤ l.length) := by
  have hn := h.n
  by_cases hf : fnd l k < l.length
  · rw [stop_len_yes h.u hf]
    constructor
    · omega
    · intro h'; exact absurd hf h'.1
  · rw [stop_no hf]
    exact ⟨fun h' => ⟨hf, h'⟩, fun h' => h'.2⟩

/-- Those that are due, and the others. -/
def dueI (l : List E) (now : Int) : List Int := (l.filter (fun e => decide (e.t ≤ now))).map (·.i)
def dueL (l : List E) (now : Int) : List E := l.filter (fun e => ! decide (e.t ≤ now))
theorem due_head {e : E} {l : List E} {now : Int} (h : e.t ≤ now) : dueI (e :: l) now = e.i :: dueI l now ∧ dueL (e :: l) now = dueL l now := by
  unfold dueI dueL
  rw [List.filter_cons, List.filter_cons, if_pos (by simpa using h), if_neg (by simpa using h)]
  exact ⟨rfl, rfl⟩
theorem due_later {l : List E} {now : Int} (h : ∀ e ∈ l, now < e.t) : dueI l now = [] ∧ dueL l now = l := by
  unfold dueI dueL
  constructor
  · rw [List.map_eq_nil_iff, List.filter_eq_nil_iff]
    intro e he
    have := h e he
    simp
    omega
  · rw [List.filter_eq_self]
    intro e he
    have := h e he
    simp
    omega
theorem later_of_head {e : E} {l : List E} {now : Int} (hs : (e :: l).Pairwise lt) (h : now < e.t) : ∀ x ∈ e :: l, now < x.t := by
  rw [List.pairwise_cons] at hs
  intro x hx
  rw [List.mem_cons] at hx
  rcases hx with rfl | hx
  · exact h
  · have := hs.1 x hx
    unfold lt at this
    omega
theorem G.dued {l : List E} (h : G l) (now : Int) : G (dueL l now) :=
  ⟨h.s.filter _, List.Pairwise.filter _ h.u, fun e he => h.r e (List.mem_filter.1 he).1, Nat.le_trans (List.length_filter_le _ _) h.n⟩
theorem dueI_len (l : List E) (now : Int) : (dueI l now).length ≤ l.length := by unfold dueI; rw [List.length_map]; exact List.length_filter_le _ _
theorem dueI_app (l q : List E) (now : Int) : dueI (l ++ q) now = dueI l now ++ dueI q now := by unfold dueI; rw [List.filter_append, List.map_append]
theorem dueL_app (l q : List E) (now : Int) : dueL (l ++ q) now = dueL l now ++ dueL q now := by unfold dueL; rw [List.filter_append]
/-- How many are due, ahead. -/
theorem due_split : ∀ (l : List E) (now : Int), l.Pairwise lt → dueI l now = (l.take (dueI l now).length).map (·.i) ∧ dueL l now = l.drop (dueI l now).length ∧ ∀ e ∈ l.take (dueI l now).length, e.t ≤ now
  | [], now, _ => by simp [dueI, dueL]
  | e :: l, now, hs => by
    by_cases h : e.t ≤ now
    · obtain ⟨a, b⟩ := due_head (l := l) h
      obtain ⟨i1, i2, i3⟩ := due_split l now (List.pairwise_cons.1 hs).2
      rw [a, b]
      simp only [List.length_cons, List.take_succ_cons, List.map_cons, List.drop_succ_cons]
      refine ⟨by rw [← i1], i2, fun x hx => ?_⟩
      rw [List.mem_cons] at hx
      rcases hx with rfl | hx
      · exact h
      · exact i3 x hx
    · obtain ⟨a, b⟩ := due_later (later_of_head hs (by omega : now < e.t))
      rw [a, b]
      simp
end Go.Proofs.Ytbgbdiiinggjnaa.M
