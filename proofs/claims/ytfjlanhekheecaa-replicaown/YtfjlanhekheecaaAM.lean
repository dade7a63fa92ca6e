/-
  Ballots as plain pairs: their order, which may be; votes by slot, as plain lists.
-/
import Derived.Test.YtfjlanhekheecaaM
namespace Go.Proofs.Ytfjlanhekheecaa.Na.M
open Go.Proofs.Ytfjlanhekheecaa.M
set_option linter.unusedVariables false

/-- By slot. -/
def Up (l : List V) : Prop := l.Pairwise fun a b => a.s < b.s
/-- Where a search ends. -/
structure Sr (l : List V) (k : Int) (r : Nat) (b : Bool) : Prop where
  le : r ≤ l.length
  lo : ∀ j (h : j < l.length), j < r → l[j].s < k
  hi : ∀ j (h : j < l.length), r ≤ j → k ≤ l[j].s
  yes : b = true → ∃ h : r < l.length, l[r].s = k
  no : b = false → ∀ x ∈ l, x.s ≠ k
theorem sr_of {l : List V} {k : Int} {r : Nat} (hle : r ≤ l.length) (hlo : ∀ j (h : j < l.length), j < r → l[j].s < k) (hhi : ∀ j (h : j < l.length), r ≤ j → k ≤ l[j].s) (hu : Up l) (b : Bool) (hb : b = true ↔ ∃ h : r < l.length, l[r].s = k) : Sr l k r b := by
  refine ⟨hle, hlo, hhi, hb.1, fun h x hx e => ?_⟩
  obtain ⟨j, hj, rfl⟩ := List.getElem_of_mem hx
  rcases Nat.lt_or_ge j r with h1 | h1
  · have := hlo j hj h1; omega
  · have hr : r < l.length := by omega
    have h2 := hhi r hr (Nat.le_refl _)
    have : l[r].s = k := by
      rcases Nat.eq_or_lt_of_le h1 with h3 | h3
      · subst h3; exact e
      · have := List.pairwise_iff_getElem.1 hu r j hr hj h3; omega
    rw [hb.2 ⟨hr, this⟩] at h
    cases h
/-- Votes from a slot on. -/
def vts (l : List V) (k : Int) : List V := l.filter fun x => decide (k ≤ x.s)
theorem Sr.mtake {l : List V} {k : Int} {r : Nat} {b : Bool} (h : Sr l k r b) : ∀ x ∈ l.take r, x.s < k := by
  intro x hx
  obtain ⟨j, hj, rfl⟩ := List.getElem_of_mem hx
  rw [List.getElem_take]
  simp only [List.length_take] at hj
  exact h.lo j (by omega) (by omega)
theorem Sr.mdrop {l : List V} {k : Int} {r : Nat} {b : Bool} (h : Sr l k r b) : ∀ x ∈ l.drop r, k ≤ x.s := by
  intro x hx
  obtain ⟨j, hj, rfl⟩ := List.getElem_of_mem hx
  rw [List.getElem_drop]
  simp only [List.length_drop] at hj
  exact h.hi (r + j) (by omega) (by omega)
theorem fl_all {p : V → Bool} {l : List V} (h : ∀ x ∈ l, p x = true) : l.filter p = l := List.filter_eq_self.2 h
theorem fl_none {p : V → Bool} {l : List V} (h : ∀ x ∈ l, p x = false) : l.filter p = [] := by
  rw [List.filter_eq_nil_iff]
  intro x hx
  rw [h x hx]
  simp
theorem Sr.drop {l : List V} {k : Int} {r : Nat} {b : Bool} (h : Sr l k r b) : l.drop r = vts l k := by
  have e : vts l k = (l.take r ++ l.drop r).filter fun x => decide (k ≤ x.s) := by rw [List.take_append_drop]; rfl
  rw [e, List.filter_append, fl_none (l := l.take r) (fun x hx => decide_eq_false (by have := h.mtake x hx; omega)), fl_all (fun x hx => decide_eq_true (h.mdrop x hx)), List.nil_append]
/-- With a vote. -/
def put (l : List V) (v : V) : List V := (l.filter fun x => decide (x.s < v.s)) ++ (v :: l.filter fun x => decide (v.s < x.s))
theorem Sr.lows {l : List V} {k : Int} {r : Nat} {b : Bool} (h : Sr l k r b) : (l.filter fun x => decide (x.s < k)) = l.take r := by
  have e : (l.filter fun x => decide (x.s < k)) = (l.take r ++ l.drop r).filter fun x => decide (x.s < k) := by rw [List.take_append_drop]
  rw [e, List.filter_append, fl_all (l := l.take r) (fun x hx => decide_eq_true (h.mtake x hx)), fl_none (fun x hx => decide_eq_false (by have := h.mdrop x hx; omega)), List.append_nil]
theorem Sr.put_no {l : List V} {v : V} {r : Nat} (h : Sr l v.s r false) : l.take r ++ [v] ++ l.drop r = put l v := by
  unfold put
  rw [h.lows, h.drop]
  have e : vts l v.s = l.filter fun x => decide (v.s < x.s) := by
    unfold vts
    apply List.filter_congr
    intro x hx
    have := h.no rfl x hx
    by_cases h1 : v.s ≤ x.s
    · rw [decide_eq_true h1, decide_eq_true (by omega)]
    · rw [decide_eq_false h1, decide_eq_false (by omega)]
  rw [e]
  simp
theorem Sr.put_yes {l : List V} {v : V} {r : Nat} (h : Sr l v.s r true) (hu : Up l) : l.set r v = put l v := by
  obtain ⟨hr, e⟩ := h.yes rfl
  have hd := h.drop
  rw [List.drop_eq_getElem_cons hr] at hd
  have hup := (List.pairwise_cons.1 (by rw [← List.drop_eq_getElem_cons hr]; exact List.Pairwise.sublist (List.drop_sublist r l) hu : Up (l[r] :: l.drop (r + 1)))).1
  have e2 : (l.filter fun x => decide (v.s < x.s)) = (vts l v.s).filter fun x => decide (v.s < x.s) := by
    unfold vts
    rw [List.filter_filter]
    apply List.filter_congr
    intro x hx
    by_cases h1 : v.s < x.s
    · rw [decide_eq_true h1, decide_eq_true (show v.s ≤ x.s by omega)]; rfl
    · rw [decide_eq_false h1]; rfl
  unfold put
  rw [h.lows, e2, ← hd, List.filter_cons, if_neg (by simp; omega), fl_all (fun x hx => decide_eq_true (by have := hup x hx; omega))]
  rw [List.set_eq_take_append_cons_drop, if_pos hr]
theorem Up.uniq {l : List V} (hu : Up l) {x y : V} (hx : x ∈ l) (hy : y ∈ l) (e : x.s = y.s) : x = y := by
  obtain ⟨i, hi, rfl⟩ := List.getElem_of_mem hx
  obtain ⟨j, hj, rfl⟩ := List.getElem_of_mem hy
  rcases Nat.lt_trichotomy i j with h | h | h
  · have := List.pairwise_iff_getElem.1 hu i j hi hj h; omega
  · subst h; rfl
  · have := List.pairwise_iff_getElem.1 hu j i hj hi h; omega
theorem up_put {l : List V} (hu : Up l) (v : V) : Up (put l v) := by
  unfold put Up
  rw [List.pairwise_append]
  refine ⟨List.Pairwise.sublist List.filter_sublist hu, ?_, ?_⟩
  · rw [List.pairwise_cons]
    exact ⟨fun x hx => by simpa using (List.mem_filter.1 hx).2, List.Pairwise.sublist List.filter_sublist hu⟩
  · intro x hx y hy
    have h1 : x.s < v.s := by simpa using (List.mem_filter.1 hx).2
    rcases List.mem_cons.1 hy with rfl | hy
    · exact h1
    · have h2 : v.s < y.s := by simpa using (List.mem_filter.1 hy).2
      omega
theorem mem_put {l : List V} {v x : V} (h : x ∈ put l v) : x = v ∨ (x ∈ l ∧ x.s ≠ v.s) := by
  unfold put at h
  rcases List.mem_append.1 h with h | h
  · have h1 : x.s < v.s := by simpa using (List.mem_filter.1 h).2
    exact .inr ⟨(List.mem_filter.1 h).1, by omega⟩
  · rcases List.mem_cons.1 h with h | h
    · exact .inl h
    · have h1 : v.s < x.s := by simpa using (List.mem_filter.1 h).2
      exact .inr ⟨(List.mem_filter.1 h).1, by omega⟩
theorem put_mem {l : List V} {v x : V} (h : x = v ∨ (x ∈ l ∧ x.s ≠ v.s)) : x ∈ put l v := by
  unfold put
  rcases h with rfl | ⟨h, h1⟩
  · simp
  · rcases Int.lt_or_gt_of_ne h1 with h2 | h2
    · exact List.mem_append.2 (.inl (List.mem_filter.2 ⟨h, by simpa using h2⟩))
    · exact List.mem_append.2 (.inr (List.mem_cons.2 (.inr (List.mem_filter.2 ⟨h, by simpa using h2⟩))))
theorem up_vts {l : List V} (hu : Up l) (k : Int) : Up (vts l k) := List.Pairwise.sublist List.filter_sublist hu
theorem mem_vts {l : List V} {k : Int} {x : V} : x ∈ vts l k ↔ x ∈ l ∧ k ≤ x.s := by
  unfold vts
  rw [List.mem_filter]
  simp
theorem vts_all {l : List V} {k : Int} (h : ∀ x ∈ l, k ≤ x.s) : vts l k = l := fl_all fun x hx => decide_eq_true (h x hx)
theorem vts_le (l : List V) (k : Int) : (vts l k).length ≤ l.length := List.length_filter_le _ _
theorem vts_snoc (l : List V) (k : Int) (j : Nat) (hj : j < l.length) : vts (l.take (j + 1)) k = if k ≤ l[j].s then vts (l.take j) k ++ [l[j]] else vts (l.take j) k := by
  rw [List.take_succ_eq_append_getElem hj]
  unfold vts
  rw [List.filter_append]
  by_cases h : k ≤ l[j].s
  · rw [if_pos h, List.filter_cons, if_pos (by simpa using h)]; rfl
  · rw [if_neg h, List.filter_cons, if_neg (by simpa using h)]; simp
/-- As the document puts a vote: what comes behind, once it was put (true) or not yet. -/
def ra (v : V) : Bool → List V → List V
  | p, [] => if p then [] else [v]
  | p, x :: r => (if p = false ∧ v.s ≤ x.s then [v] else []) ++ ((if x.s ≠ v.s then [x] else []) ++ ra v (p || decide (v.s ≤ x.s)) r)
theorem ra_true (v : V) : ∀ l : List V, ra v true l = l.filter fun x => decide (x.s ≠ v.s)
  | [] => rfl
  | x :: r => by
    rw [ra, Bool.true_or, ra_true v r, if_neg (by simp), List.nil_append, List.filter_cons]
    by_cases h : x.s ≠ v.s
    · rw [if_pos h, if_pos (by simpa using h)]; rfl
    · rw [if_neg h, if_neg (by simpa using h)]; rfl
theorem ra_put (v : V) : ∀ l : List V, Up l → ra v false l = put l v
  | [], _ => rfl
  | x :: r, hu => by
    have hc := List.pairwise_cons.1 hu
    unfold put
    rw [ra, List.filter_cons, List.filter_cons]
    by_cases h : v.s ≤ x.s
    · have e1 : (r.filter fun y => decide (y.s < v.s)) = [] := fl_none fun y hy => decide_eq_false (by have := hc.1 y hy; omega)
      have e2 : (r.filter fun y => decide (y.s ≠ v.s)) = r := fl_all fun y hy => decide_eq_true (by have := hc.1 y hy; omega)
      have e3 : (r.filter fun y => decide (v.s < y.s)) = r := fl_all fun y hy => decide_eq_true (by have := hc.1 y hy; omega)
      have n1 : decide (x.s < v.s) = false := decide_eq_false (by omega)
      rw [if_pos ⟨rfl, h⟩, decide_eq_true h, Bool.or_true, ra_true, e1, e2, e3, n1]
      by_cases h1 : x.s = v.s
      · have n2 : decide (v.s < x.s) = false := decide_eq_false (by omega)
        rw [if_neg (by omega : ¬ x.s ≠ v.s), n2]
        simp
      · have n2 : decide (v.s < x.s) = true := decide_eq_true (by omega)
        rw [if_pos (h1 : x.s ≠ v.s), n2]
        simp
    · have n1 : decide (x.s < v.s) = true := decide_eq_true (by omega)
      have n2 : decide (v.s < x.s) = false := decide_eq_false (by omega)
      have h1 : x.s ≠ v.s := by omega
      rw [if_neg (by simp; omega), decide_eq_false h, Bool.or_false, ra_put v r hc.2, if_pos h1, n1, n2]
      simp [put]
theorem ra_drop (v : V) (p : Bool) (l : List V) (j : Nat) (hj : j < l.length) : ra v p (l.drop j) = (if p = false ∧ v.s ≤ l[j].s then [v] else []) ++ ((if l[j].s ≠ v.s then [l[j]] else []) ++ ra v (p || decide (v.s ≤ l[j].s)) (l.drop (j + 1))) := by
  rw [List.drop_eq_getElem_cons hj, ra]
/-- An acceptor: what it promised, its base, its votes. -/
structure S where
  p : E
  base : Int
  l : List V
theorem up_len : ∀ (l : List V) (lo : Int), Up l → (∀ x ∈ l, lo ≤ x.s ∧ x.s ≤ 1023) → l = [] ∨ lo + (l.length : Int) ≤ 1024
  | [], _, _, _ => .inl rfl
  | x :: r, lo, hu, h => by
    have hc := List.pairwise_cons.1 hu
    have hx := h x (by simp)
    rcases up_len r (lo + 1) hc.2 (fun y hy => ⟨by have := hc.1 y hy; omega, (h y (by simp [hy])).2⟩) with e | e
    · subst e; exact .inr (by simp; omega)
    · exact .inr (by rw [List.length_cons]; omega)
structure Ok (a : S) : Prop where
  up : Up a.l
  lo : ∀ x ∈ a.l, a.base ≤ x.s
  hi : ∀ x ∈ a.l, x.s ≤ 1023
  b0 : 0 ≤ a.base
  b1 : a.base ≤ 1024
  vs : ∀ x ∈ a.l, x.v.size ≤ 4096
  pr : ∀ x ∈ a.l, 0 ≤ cmpE a.p x.b
theorem Ok.len {a : S} (h : Ok a) : a.l.length ≤ 1024 := by
  rcases up_len a.l a.base h.up (fun x hx => ⟨h.lo x hx, h.hi x hx⟩) with e | e
  · rw [e]; simp
  · have := h.b0; omega
theorem Ok.all {a : S} (h : Ok a) : vts a.l 0 = a.l := vts_all fun x hx => by have := h.lo x hx; have := h.b0; omega
theorem Ok.alb {a : S} (h : Ok a) : vts a.l a.base = a.l := vts_all h.lo
def S0 : S := ⟨⟨0, 0⟩, 0, []⟩
theorem Ok.zero : Ok S0 := ⟨List.Pairwise.nil, by simp [S0], by simp [S0], by simp [S0], by simp [S0], by simp [S0], by simp [S0]⟩
def may (a : S) (b : E) : Bool := vld b && decide (0 ≤ cmpE b a.p)
/-- A promise: may it be; what becomes; what it tells. -/
def prb (a : S) (b : E) (k : Int) : Bool := may a b && decide (a.base ≤ k)
def prs (a : S) (b : E) (k : Int) : S := if prb a b k = true then ⟨b, a.base, a.l⟩ else a
def prl (a : S) (b : E) (k : Int) : List V := if prb a b k = true then vts a.l k else []
/-- A vote. -/
def acb (a : S) (v : V) : Bool := may a v.b && decide (a.base ≤ v.s) && decide (v.s < 1024) && decide (v.v.size ≤ 4096)
def acs (a : S) (v : V) : S := if acb a v = true then ⟨v.b, a.base, put a.l v⟩ else a
/-- A trim. -/
def trs (a : S) (u : Int) : S := ⟨a.p, max a.base (min u 1024), vts a.l (min u 1024)⟩
def trn (a : S) (u : Int) : Nat := a.l.length - (vts a.l (min u 1024)).length
theorem may_yes {a : S} {b : E} (h : may a b = true) : 0 ≤ cmpE b a.p := by
  unfold may at h
  simp at h
  exact h.2
theorem prb_may {a : S} {b : E} {k : Int} (h : prb a b k = true) : may a b = true := by
  unfold prb at h
  simp at h
  exact h.1
theorem acb_yes {a : S} {v : V} (h : acb a v = true) : may a v.b = true ∧ a.base ≤ v.s ∧ v.s < 1024 ∧ v.v.size ≤ 4096 := by
  unfold acb at h
  simp at h
  obtain ⟨⟨⟨h1, h2⟩, h3⟩, h4⟩ := h
  exact ⟨h1, h2, h3, h4⟩
theorem prs_yes {a : S} {b : E} {k : Int} (h : prb a b k = true) : prs a b k = ⟨b, a.base, a.l⟩ := if_pos h
theorem prs_no {a : S} {b : E} {k : Int} (h : prb a b k = false) : prs a b k = a := if_neg (by simp [h])
theorem acs_yes {a : S} {v : V} (h : acb a v = true) : acs a v = ⟨v.b, a.base, put a.l v⟩ := if_pos h
theorem acs_no {a : S} {v : V} (h : acb a v = false) : acs a v = a := if_neg (by simp [h])
theorem cmp_self (a : E) : cmpE a a = 0 := by
  rcases cmpE_three a a with ⟨h, e⟩ | ⟨h, e⟩ | ⟨h, e⟩ <;> first | omega | exact e
theorem prs_ok {a : S} (h : Ok a) (b : E) (k : Int) : Ok (prs a b k) := by
  cases hb : prb a b k with
  | false => rw [prs_no hb]; exact h
  | true => rw [prs_yes hb]; exact ⟨h.up, h.lo, h.hi, h.b0, h.b1, h.vs, fun x hx => (order b a.p x.b).2.2.2.2 (may_yes (prb_may hb)) (h.pr x hx)⟩
theorem acs_ok {a : S} (h : Ok a) (v : V) : Ok (acs a v) := by
  cases hb : acb a v with
  | false => rw [acs_no hb]; exact h
  | true =>
    obtain ⟨h1, h2, h3, h4⟩ := acb_yes hb
    rw [acs_yes hb]
    refine ⟨up_put h.up v, fun x hx => ?_, fun x hx => ?_, h.b0, h.b1, fun x hx => ?_, fun x hx => ?_⟩
    all_goals rcases mem_put hx with rfl | ⟨hx', _⟩
    · exact h2
    · exact h.lo x hx'
    · exact Int.le_of_lt_add_one h3
    · exact h.hi x hx'
    · exact h4
    · exact h.vs x hx'
    · exact Int.le_of_eq (cmp_self _).symm
    · exact (order v.b a.p x.b).2.2.2.2 (may_yes h1) (h.pr x hx')
theorem trs_ok {a : S} (h : Ok a) (u : Int) : Ok (trs a u) := by
  have hb := h.b0
  have hb1 := h.b1
  refine ⟨up_vts h.up _, fun x hx => ?_, fun x hx => h.hi x (mem_vts.1 hx).1, ?_, ?_, fun x hx => h.vs x (mem_vts.1 hx).1, fun x hx => h.pr x (mem_vts.1 hx).1⟩
  · have h1 := h.lo x (mem_vts.1 hx).1
    have h2 := (mem_vts.1 hx).2
    show max a.base (min u 1024) ≤ x.s
    omega
  · show 0 ≤ max a.base (min u 1024); omega
  · show max a.base (min u 1024) ≤ 1024; omega
/-- The program's trim is that one. -/
theorem trs_sr {a : S} (h : Ok a) (u : Int) {r : Nat} {b : Bool} (hs : Sr a.l (max a.base (min u 1024)) r b) : a.l.drop r = (trs a u).l ∧ r = trn a u := by
  have e : vts a.l (max a.base (min u 1024)) = vts a.l (min u 1024) := by
    unfold vts
    apply List.filter_congr
    intro x hx
    have := h.lo x hx
    by_cases h1 : min u 1024 ≤ x.s
    · rw [decide_eq_true h1, decide_eq_true (by omega)]
    · rw [decide_eq_false h1, decide_eq_false (by omega)]
  have h1 : a.l.drop r = vts a.l (min u 1024) := by rw [hs.drop, e]
  refine ⟨h1, ?_⟩
  unfold trn
  rw [← h1, List.length_drop]
  have := hs.le
  omega
end Go.Proofs.Ytfjlanhekheecaa.Na.M
