import Derived.Test.YtlnedgjikkhplaaGreatGP00
set_option maxRecDepth 100000
set_option maxHeartbeats 8000000
set_option linter.unusedVariables false
set_option linter.unusedSimpArgs false
namespace Go.Proofs.YtlnedgjikkhplaaGreat.Na.M
structure E where
 i : Int
 t : Int
structure V where
 s : Int
 b : E
 v : ByteArray
def cmp (a b : Int) : Int := if a < b then -1 else if b < a then 1 else 0
def cmpE (a b : E) : Int := if cmp a.i b.i = 0 then cmp a.t b.t else cmp a.i b.i
theorem cmp_lt {a b : Int} (h : a < b) : cmp a b = -1 := by unfold cmp; rw [if_pos h]
theorem cmp_gt {a b : Int} (h : b < a) : cmp a b = 1 := by unfold cmp; rw [if_neg (by omega), if_pos h]
theorem cmp_eq (a : Int) : cmp a a = 0 := by unfold cmp; rw [if_neg (by omega), if_neg (by omega)]
theorem cmp_three (a b : Int) : (a < b ∧ cmp a b = -1) ∨ (a = b ∧ cmp a b = 0) ∨ (b < a ∧ cmp a b = 1) := by
 rcases Int.lt_trichotomy a b with h | h | h
 ·exact .inl ⟨h, cmp_lt h⟩
 ·subst h; exact .inr (.inl ⟨rfl, cmp_eq a⟩)
 ·exact .inr (.inr ⟨h, cmp_gt h⟩)
theorem cmpE_three (a b : E) : ((a.i < b.i ∨ (a.i = b.i ∧ a.t < b.t)) ∧ cmpE a b = -1) ∨ ((a.i = b.i ∧ a.t = b.t) ∧ cmpE a b = 0) ∨ ((b.i < a.i ∨ (a.i = b.i ∧ b.t < a.t)) ∧ cmpE a b = 1) := by
 unfold cmpE
 rcases cmp_three a.i b.i with ⟨h, e⟩ | ⟨h, e⟩ | ⟨h, e⟩ <;> rw [e]
 ·exact .inl ⟨.inl h, by simp⟩
 ·rcases cmp_three a.t b.t with ⟨h', e'⟩ | ⟨h', e'⟩ | ⟨h', e'⟩ <;> rw [e']
  ·exact .inl ⟨.inr ⟨h, h'⟩, by simp⟩
  ·exact .inr (.inl ⟨⟨h, h'⟩, by simp⟩)
  ·exact .inr (.inr ⟨.inr ⟨h, h'⟩, by simp⟩)
 ·exact .inr (.inr ⟨.inl h, by simp⟩)
theorem order (a b c : E) : cmpE b a = - cmpE a b ∧ (cmpE a b = 0 ↔ a.i = b.i ∧ a.t = b.t) ∧ (cmpE a b = 0 → cmpE b c = 0 → cmpE a c = 0) ∧ (cmpE a b ≤ 0 → cmpE b c ≤ 0 → cmpE a c ≤ 0) ∧ (0 ≤ cmpE a b → 0 ≤ cmpE b c → 0 ≤ cmpE a c) := by
 rcases cmpE_three a b with ⟨h, e⟩ | ⟨h, e⟩ | ⟨h, e⟩ <;> rcases cmpE_three b a with ⟨h1, e1⟩ | ⟨h1, e1⟩ | ⟨h1, e1⟩ <;> rcases cmpE_three b c with ⟨h2, e2⟩ | ⟨h2, e2⟩ | ⟨h2, e2⟩ <;> rcases cmpE_three a c with ⟨h3, e3⟩ | ⟨h3, e3⟩ | ⟨h3, e3⟩ <;> rw [e, e1, e2, e3] <;> omega
def vld (b : E) : Bool := decide (0 ≤ b.i) && decide (b.i ≤ 2147483647) && decide (0 ≤ b.t) && decide (b.t ≤ 6)
def Up (l : List V) : Prop := l.Pairwise fun a b => a.s < b.s
structure Sr (l : List V) (k : Int) (r : Nat) (b : Bool) : Prop where
 le : r ≤ l.length
 lo : ∀ j (h : j < l.length), j < r → l[j].s < k
 hi : ∀ j (h : j < l.length), r ≤ j → k ≤ l[j].s
 yes : b = true → ∃ h : r < l.length, l[r].s = k
 no : b = false → ∀ x ∈ l, x.s ≠ k
theorem sr_of {l : List V} {k : Int} {r : Nat} (hle : r ≤ l.length) (hlo : ∀ j (h : j < l.length), j < r → l[j].s < k) (hhi : ∀ j (h : j < l.length), r ≤ j → k ≤ l[j].s) (hu : Up l) (b : Bool) (hb : b = true ↔ ∃ h : r < l.length, l[r].s = k) : Sr l k r b := by
 refine ⟨hle, hlo, hhi, hb.1, fun h x hx e => ?_⟩
 obtain ⟨j, hj, rfl⟩ := List.getElem_of_mem hx
 rcases Nat.lt_or_ge j r with h1 | h1
 ·have := hlo j hj h1; omega
 ·have hr : r < l.length := by omega
  have h2 := hhi r hr Lr
  have : l[r].s = k := by
   rcases Nat.eq_or_lt_of_le h1 with h3 | h3
   ·subst h3; exact e
   ·have := List.pairwise_iff_getElem.1 hu r j hr hj h3; omega
  rw [hb.2 ⟨hr, this⟩] at h
  cases h
def vts (l : List V) (k : Int) : List V := l.filter fun x => decide (k ≤ x.s)
theorem Sr.mtake {l : List V} {k : Int} {r : Nat} {b : Bool} (h : Sr l k r b) : ∀ x ∈ l.take r, x.s < k := by
 intro x hx
 obtain ⟨j, hj, rfl⟩ := List.getElem_of_mem hx
 rw [List.getElem_take]
 simp only [List.length_take] at hj
 exact h.lo j (by omega) (by omega)
theorem Sr.mdrop {l : List V} {k : Int} {r : Nat} {b : Bool} (h : Sr l k r b) : ∀ x ∈ l.drop r, k ≤ x.s := by
 intro x hx
 obtain ⟨j, hj, rfl⟩ := List.getElem_of_mem hx
 rw [List.getElem_drop]
 simp only [List.length_drop] at hj
 exact h.hi (r + j) (by omega) (by omega)
theorem fl_all {p : V → Bool} {l : List V} (h : ∀ x ∈ l, p x = true) : l.filter p = l := List.filter_eq_self.2 h
theorem fl_none {p : V → Bool} {l : List V} (h : ∀ x ∈ l, p x = false) : l.filter p = [] := by
 rw [List.filter_eq_nil_iff]
 intro x hx; rw [h x hx]
 simp
theorem Sr.drop {l : List V} {k : Int} {r : Nat} {b : Bool} (h : Sr l k r b) : l.drop r = vts l k := by
 have e : vts l k = (l.take r ++ l.drop r).filter fun x => decide (k ≤ x.s) := by rw [List.take_append_drop]; rfl
 rw [e, List.filter_append, fl_none (l := l.take r) (fun x hx => decide_eq_false (by have := h.mtake x hx; omega)), fl_all (fun x hx => decide_eq_true (h.mdrop x hx)), List.nil_append]
def put (l : List V) (v : V) : List V := (l.filter fun x => decide (x.s < v.s)) ++ (v :: l.filter fun x => decide (v.s < x.s))
theorem Sr.lows {l : List V} {k : Int} {r : Nat} {b : Bool} (h : Sr l k r b) : (l.filter fun x => decide (x.s < k)) = l.take r := by
 have e : (l.filter fun x => decide (x.s < k)) = (l.take r ++ l.drop r).filter fun x => decide (x.s < k) := by rw [List.take_append_drop]
 rw [e, List.filter_append, fl_all (l := l.take r) (fun x hx => decide_eq_true (h.mtake x hx)), fl_none (fun x hx => decide_eq_false (by have := h.mdrop x hx; omega)), List.append_nil]
theorem Sr.put_no {l : List V} {v : V} {r : Nat} (h : Sr l v.s r false) : l.take r ++ [v] ++ l.drop r = put l v := by
 unfold put; rw [h.lows, h.drop]
 have e : vts l v.s = l.filter fun x => decide (v.s < x.s) := by
  unfold vts
  apply List.filter_congr
  intro x hx
  have := h.no rfl x hx
  by_cases h1 : v.s ≤ x.s
  ·rw [decide_eq_true h1, decide_eq_true (by omega)]
  ·rw [decide_eq_false h1, decide_eq_false (by omega)]
 rw [e]
 simp
theorem Sr.put_yes {l : List V} {v : V} {r : Nat} (h : Sr l v.s r true) (hu : Up l) : l.set r v = put l v := by
 obtain ⟨hr, e⟩ := h.yes rfl
 have hd := h.drop
 rw [List.drop_eq_getElem_cons hr] at hd
 have hup := (List.pairwise_cons.1 (by rw [← List.drop_eq_getElem_cons hr]; exact List.Pairwise.sublist (List.drop_sublist r l) hu : Up (l[r] :: l.drop (r + 1)))).1
 have e2 : (l.filter fun x => decide (v.s < x.s)) = (vts l v.s).filter fun x => decide (v.s < x.s) := by
  unfold vts; rw [List.filter_filter]
  apply List.filter_congr
  intro x hx
  by_cases h1 : v.s < x.s
  ·rw [decide_eq_true h1, decide_eq_true (show v.s ≤ x.s by omega)]; rfl
  ·rw [decide_eq_false h1]; rfl
 unfold put; rw [h.lows, e2, ← hd, List.filter_cons, if_neg (by simp; omega), fl_all (fun x hx => decide_eq_true (by have := hup x hx; omega))]
 rw [List.set_eq_take_append_cons_drop, if_pos hr]
theorem Up.uniq {l : List V} (hu : Up l) {x y : V} (hx : x ∈ l) (hy : y ∈ l) (e : x.s = y.s) : x = y := by
 obtain ⟨i, hi, rfl⟩ := List.getElem_of_mem hx
 obtain ⟨j, hj, rfl⟩ := List.getElem_of_mem hy
 rcases Nat.lt_trichotomy i j with h | h | h
 ·have := List.pairwise_iff_getElem.1 hu i j hi hj h; omega
 ·subst h; rfl
 ·have := List.pairwise_iff_getElem.1 hu j i hj hi h; omega
theorem up_put {l : List V} (hu : Up l) (v : V) : Up (put l v) := by
 unfold put Up; rw [List.pairwise_append]
 refine ⟨List.Pairwise.sublist List.filter_sublist hu, ?_, ?_⟩
 ·rw [List.pairwise_cons]
  exact ⟨fun x hx => by simpa using (List.mem_filter.1 hx).2, List.Pairwise.sublist List.filter_sublist hu⟩
 ·intro x hx y hy
  have h1 : x.s < v.s := by simpa using (List.mem_filter.1 hx).2
  rcases List.mem_cons.1 hy with rfl | hy
  ·exact h1
  ·have h2 : v.s < y.s := by simpa using (List.mem_filter.1 hy).2
   omega
theorem mem_put {l : List V} {v x : V} (h : x ∈ put l v) : x = v ∨ (x ∈ l ∧ x.s ≠ v.s) := by
 unfold put at h
 rcases List.mem_append.1 h with h | h
 ·have h1 : x.s < v.s := by simpa using (List.mem_filter.1 h).2
  exact .inr ⟨(List.mem_filter.1 h).1, by omega⟩
 ·rcases List.mem_cons.1 h with h | h
  ·exact .inl h
  ·have h1 : v.s < x.s := by simpa using (List.mem_filter.1 h).2
   exact .inr ⟨(List.mem_filter.1 h).1, by omega⟩
theorem put_mem {l : List V} {v x : V} (h : x = v ∨ (x ∈ l ∧ x.s ≠ v.s)) : x ∈ put l v := by
 unfold put
 rcases h with rfl | ⟨h, h1⟩
 ·simp
 ·rcases Int.lt_or_gt_of_ne h1 with h2 | h2
  ·exact List.mem_append.2 (.inl (List.mem_filter.2 ⟨h, by simpa using h2⟩))
  ·exact List.mem_append.2 (.inr (List.mem_cons.2 (.inr (List.mem_filter.2 ⟨h, by simpa using h2⟩))))
theorem up_vts {l : List V} (hu : Up l) (k : Int) : Up (vts l k) := List.Pairwise.sublist List.filter_sublist hu
theorem mem_vts {l : List V} {k : Int} {x : V} : x ∈ vts l k ↔ x ∈ l ∧ k ≤ x.s := by
 unfold vts; rw [List.mem_filter]
 simp
theorem vts_all {l : List V} {k : Int} (h : ∀ x ∈ l, k ≤ x.s) : vts l k = l := fl_all fun x hx => decide_eq_true (h x hx)
theorem vts_le (l : List V) (k : Int) : (vts l k).length ≤ l.length := List.length_filter_le _ _
theorem vts_snoc (l : List V) (k : Int) (j : Nat) (hj : j < l.length) : vts (l.take (j + 1)) k = if k ≤ l[j].s then vts (l.take j) k ++ [l[j]] else vts (l.take j) k := by
 rw [List.take_succ_eq_append_getElem hj]; unfold vts; rw [List.filter_append]
 by_cases h : k ≤ l[j].s
 ·rw [if_pos h, List.filter_cons, if_pos (by simpa using h)]; rfl
 ·rw [if_neg h, List.filter_cons, if_neg (by simpa using h)]; simp
def ra (v : V) : Bool → List V → List V
 | p, [] => if p then [] else [v]
 | p, x :: r => (if p = false ∧ v.s ≤ x.s then [v] else []) ++ ((if x.s ≠ v.s then [x] else []) ++ ra v (p || decide (v.s ≤ x.s)) r)
theorem ra_true (v : V) : ∀ l : List V, ra v true l = l.filter fun x => decide (x.s ≠ v.s)
 | [] => rfl
 | x :: r => by
  rw [ra, Bool.true_or, ra_true v r, if_neg (by simp), List.nil_append, List.filter_cons]
  by_cases h : x.s ≠ v.s
  ·rw [if_pos h, if_pos (by simpa using h)]; rfl
  ·rw [if_neg h, if_neg (by simpa using h)]; rfl
theorem ra_put (v : V) : ∀ l : List V, Up l → ra v false l = put l v
 | [], _ => rfl
 | x :: r, hu => by
  have hc := List.pairwise_cons.1 hu
  unfold put; rw [ra, List.filter_cons, List.filter_cons]
  by_cases h : v.s ≤ x.s
  ·have e1 : (r.filter fun y => decide (y.s < v.s)) = [] := fl_none fun y hy => decide_eq_false (by have := hc.1 y hy; omega)
   have e2 : (r.filter fun y => decide (y.s ≠ v.s)) = r := fl_all fun y hy => decide_eq_true (by have := hc.1 y hy; omega)
   have e3 : (r.filter fun y => decide (v.s < y.s)) = r := fl_all fun y hy => decide_eq_true (by have := hc.1 y hy; omega)
   have n1 : decide (x.s < v.s) = false := decide_eq_false (by omega)
   rw [if_pos ⟨rfl, h⟩, decide_eq_true h, Bool.or_true, ra_true, e1, e2, e3, n1]
   by_cases h1 : x.s = v.s
   ·have n2 : decide (v.s < x.s) = false := decide_eq_false (by omega)
    rw [if_neg (by omega : ¬ x.s ≠ v.s), n2]
    simp
   ·have n2 : decide (v.s < x.s) = true := decide_eq_true (by omega)
    rw [if_pos (h1 : x.s ≠ v.s), n2]
    simp
  ·have n1 : decide (x.s < v.s) = true := decide_eq_true (by omega)
   have n2 : decide (v.s < x.s) = false := decide_eq_false (by omega)
   have h1 : x.s ≠ v.s := by omega
   rw [if_neg (by simp; omega), decide_eq_false h, Bool.or_false, ra_put v r hc.2, if_pos h1, n1, n2]
   simp [put]
theorem ra_drop (v : V) (p : Bool) (l : List V) (j : Nat) (hj : j < l.length) : ra v p (l.drop j) = (if p = false ∧ v.s ≤ l[j].s then [v] else []) ++ ((if l[j].s ≠ v.s then [l[j]] else []) ++ ra v (p || decide (v.s ≤ l[j].s)) (l.drop (j + 1))) := by
 rw [List.drop_eq_getElem_cons hj, ra]
structure S where
 p : E
 base : Int
 l : List V
theorem up_len : ∀ (l : List V) (lo : Int), Up l → (∀ x ∈ l, lo ≤ x.s ∧ x.s ≤ 1023) → l = [] ∨ lo + (l.length : Int) ≤ 1024
 | [], _, _, _ => .inl rfl
 | x :: r, lo, hu, h => by
  have hc := List.pairwise_cons.1 hu
  have hx := h x (by simp)
  rcases up_len r (lo + 1) hc.2 (fun y hy => ⟨by have := hc.1 y hy; omega, (h y (by simp [hy])).2⟩) with e | e
  ·subst e; exact .inr (by simp; omega)
  ·exact .inr (by rw [List.length_cons]; omega)
structure Ok (a : S) : Prop where
 up : Up a.l
 lo : ∀ x ∈ a.l, a.base ≤ x.s
 hi : ∀ x ∈ a.l, x.s ≤ 1023
 b0 : 0 ≤ a.base
 b1 : a.base ≤ 1024
 vs : ∀ x ∈ a.l, x.v.size ≤ 4096
 pr : ∀ x ∈ a.l, 0 ≤ cmpE a.p x.b
theorem Ok.len {a : S} (h : Ok a) : a.l.length ≤ 1024 := by
 rcases up_len a.l a.base h.up (fun x hx => ⟨h.lo x hx, h.hi x hx⟩) with e | e
 ·rw [e]; simp
 ·have := h.b0; omega
theorem Ok.all {a : S} (h : Ok a) : vts a.l 0 = a.l := vts_all fun x hx => by have := h.lo x hx; have := h.b0; omega
theorem Ok.alb {a : S} (h : Ok a) : vts a.l a.base = a.l := vts_all h.lo
def S0 : S := ⟨⟨0, 0⟩, 0, []⟩
theorem Ok.zero : Ok S0 := ⟨List.Pairwise.nil, by simp [S0], by simp [S0], by simp [S0], by simp [S0], by simp [S0], by simp [S0]⟩
def may (a : S) (b : E) : Bool := vld b && decide (0 ≤ cmpE b a.p)
def prb (a : S) (b : E) (k : Int) : Bool := may a b && decide (a.base ≤ k)
def prs (a : S) (b : E) (k : Int) : S := if prb a b k = true then ⟨b, a.base, a.l⟩ else a
def prl (a : S) (b : E) (k : Int) : List V := if prb a b k = true then vts a.l k else []
def acb (a : S) (v : V) : Bool := may a v.b && decide (a.base ≤ v.s) && decide (v.s < 1024) && decide (v.v.size ≤ 4096)
def acs (a : S) (v : V) : S := if acb a v = true then ⟨v.b, a.base, put a.l v⟩ else a
def trs (a : S) (u : Int) : S := ⟨a.p, max a.base (min u 1024), vts a.l (min u 1024)⟩
def trn (a : S) (u : Int) : Nat := a.l.length - (vts a.l (min u 1024)).length
theorem may_yes {a : S} {b : E} (h : may a b = true) : 0 ≤ cmpE b a.p := by
 unfold may at h
 simp at h
 exact h.2
theorem prb_may {a : S} {b : E} {k : Int} (h : prb a b k = true) : may a b = true := by
 unfold prb at h
 simp at h
 exact h.1
theorem acb_yes {a : S} {v : V} (h : acb a v = true) : may a v.b = true ∧ a.base ≤ v.s ∧ v.s < 1024 ∧ v.v.size ≤ 4096 := by
 unfold acb at h
 simp at h
 obtain ⟨⟨⟨h1, h2⟩, h3⟩, h4⟩ := h
 exact ⟨h1, h2, h3, h4⟩
theorem prs_yes {a : S} {b : E} {k : Int} (h : prb a b k = true) : prs a b k = ⟨b, a.base, a.l⟩ := if_pos h
theorem prs_no {a : S} {b : E} {k : Int} (h : prb a b k = false) : prs a b k = a := if_neg (by simp [h])
theorem acs_yes {a : S} {v : V} (h : acb a v = true) : acs a v = ⟨v.b, a.base, put a.l v⟩ := if_pos h
theorem acs_no {a : S} {v : V} (h : acb a v = false) : acs a v = a := if_neg (by simp [h])
theorem cmp_self (a : E) : cmpE a a = 0 := by
 rcases cmpE_three a a with ⟨h, e⟩ | ⟨h, e⟩ | ⟨h, e⟩ <;> first | omega | exact e
theorem prs_ok {a : S} (h : Ok a) (b : E) (k : Int) : Ok (prs a b k) := by
 cases hb : prb a b k with
 | false => rw [prs_no hb]; exact h
 | true => rw [prs_yes hb]; exact ⟨h.up, h.lo, h.hi, h.b0, h.b1, h.vs, fun x hx => (order b a.p x.b).2.2.2.2 (may_yes (prb_may hb)) (h.pr x hx)⟩
theorem acs_ok {a : S} (h : Ok a) (v : V) : Ok (acs a v) := by
 cases hb : acb a v with
 | false => rw [acs_no hb]; exact h
 | true =>
  obtain ⟨h1, h2, h3, h4⟩ := acb_yes hb
  rw [acs_yes hb]
  refine ⟨up_put h.up v, fun x hx => ?_, fun x hx => ?_, h.b0, h.b1, fun x hx => ?_, fun x hx => ?_⟩
  all_goals rcases mem_put hx with rfl | ⟨hx', _⟩
  ·exact h2
  ·exact h.lo x hx'
  ·exact Int.le_of_lt_add_one h3
  ·exact h.hi x hx'
  ·exact h4
  ·exact h.vs x hx'
  ·exact Int.le_of_eq (cmp_self _).symm
  ·exact (order v.b a.p x.b).2.2.2.2 (may_yes h1) (h.pr x hx')
theorem trs_ok {a : S} (h : Ok a) (u : Int) : Ok (trs a u) := by
 have hb := h.b0
 have hb1 := h.b1
 refine ⟨up_vts h.up _, fun x hx => ?_, fun x hx => h.hi x (mem_vts.1 hx).1, ?_, ?_, fun x hx => h.vs x (mem_vts.1 hx).1, fun x hx => h.pr x (mem_vts.1 hx).1⟩
 ·have h1 := h.lo x (mem_vts.1 hx).1
  have h2 := (mem_vts.1 hx).2
  show max a.base (min u 1024) ≤ x.s
  omega
 ·show 0 ≤ max a.base (min u 1024); omega
 ·show max a.base (min u 1024) ≤ 1024; omega
theorem trs_sr {a : S} (h : Ok a) (u : Int) {r : Nat} {b : Bool} (hs : Sr a.l (max a.base (min u 1024)) r b) : a.l.drop r = (trs a u).l ∧ r = trn a u := by
 have e : vts a.l (max a.base (min u 1024)) = vts a.l (min u 1024) := by
  unfold vts
  apply List.filter_congr
  intro x hx
  have := h.lo x hx
  by_cases h1 : min u 1024 ≤ x.s
  ·rw [decide_eq_true h1, decide_eq_true (by omega)]
  ·rw [decide_eq_false h1, decide_eq_false (by omega)]
 have h1 : a.l.drop r = vts a.l (min u 1024) := by rw [hs.drop, e]
 refine ⟨h1, ?_⟩
 unfold trn; rw [← h1, List.length_drop]
 have := hs.le
 omega
end Go.Proofs.YtlnedgjikkhplaaGreat.Na.M
namespace Go.Proofs.YtlnedgjikkhplaaGreat.Nc
namespace M
def zz (n : Int) : Nat := if n < 0 then (-2 * n - 1).toNat else (2 * n).toNat
def sg (u : Nat) : Int := if u % 2 = 1 then -((u / 2 : Nat) : Int) - 1 else ((u / 2 : Nat) : Int)
theorem sg_zz (n : Int) : sg (zz n) = n := by unfold sg zz; split <;> split <;> omega
theorem zz_sg (u : Nat) : zz (sg u) = u := by unfold sg zz; split <;> split <;> omega
theorem zz_lt (n : Int) (h : -9223372036854775808 ≤ n ∧ n ≤ 9223372036854775807) : zz n < 18446744073709551616 := by unfold zz; split <;> omega
theorem sg_bd (u : Nat) (h : u < 18446744073709551616) : -9223372036854775808 ≤ sg u ∧ sg u ≤ 9223372036854775807 := by unfold sg; split <;> omega
def grpF : Nat → Nat → List UInt8
 | 0, u => [UInt8.ofNat u]
 | f + 1, u => if u < 128 then [UInt8.ofNat u] else UInt8.ofNat (u % 128 + 128) :: grpF f (u / 128)
theorem grpF_small (f u : Nat) (h : u < 128) : grpF f u = [UInt8.ofNat u] := by
 cases f with
 | zero => rfl
 | succ f => rw [grpF, if_pos h]
theorem grpF_eq : ∀ (f g u : Nat), u ≤ f → u ≤ g → grpF f u = grpF g u := by
 intro f
 induction f with
 | zero => intro g u h _; rw [grpF_small 0 u (by omega), grpF_small g u (by omega)]
 | succ f ih =>
  intro g u h h'
  by_cases h1 : u < 128
  ·rw [grpF_small _ u h1, grpF_small _ u h1]
  ·cases g with
   | zero => omega
   | succ g => rw [grpF, if_neg h1, grpF, if_neg h1, ih g (u / 128) (by omega) (by omega)]
def grp (u : Nat) : List UInt8 := grpF u u
theorem grp_small (u : Nat) (h : u < 128) : grp u = [UInt8.ofNat u] := grpF_small u u h
theorem grp_great (u : Nat) (h : ¬ u < 128) : grp u = UInt8.ofNat (u % 128 + 128) :: grp (u / 128) := by
 unfold grp
 cases u with
 | zero => omega
 | succ u => rw [grpF, if_neg h, grpF_eq u ((u + 1) / 128) _ (by omega) (by omega)]
theorem grp_pos (u : Nat) : 1 ≤ (grp u).length := by
 by_cases h : u < 128
 ·rw [grp_small u h]; simp
 ·rw [grp_great u h]; simp
theorem grp_len : ∀ (k u : Nat), u < 128 ^ (k + 1) → (grp u).length ≤ k + 1 := by
 intro k
 induction k with
 | zero => intro u h; rw [grp_small u (by simpa using h)]; simp
 | succ k ih =>
  intro u h
  by_cases h1 : u < 128
  ·rw [grp_small u h1]; simp
  ·rw [grp_great u h1, List.length_cons]
   have := ih (u / 128) (by rw [Nat.div_lt_iff_lt_mul (by decide)]; rw [Nat.pow_succ] at h; exact h)
   omega
theorem grp_ten (u : Nat) (h : u < 18446744073709551616) : (grp u).length ≤ 10 := grp_len 9 u (Nat.lt_trans h (by decide))
def enc (n : Int) : List UInt8 := grp (zz n)
def encT (s : List UInt8) : List UInt8 := enc s.length ++ s
def encIs (l : List Int) : List UInt8 := enc l.length ++ l.flatMap enc
def encTs (l : List (List UInt8)) : List UInt8 := enc l.length ++ l.flatMap encT
def acc (u i b : Nat) : Nat := u ||| (b % 128 * 2 ^ (7 * i) % 18446744073709551616)
def rd : Nat → Nat → Nat → List UInt8 → Option (Nat × List UInt8)
 | 0, _, _, _ => none
 | _ + 1, _, _, [] => none
 | f + 1, i, u, b :: l =>
  if 128 ≤ b.toNat then rd f (i + 1) (acc u i b.toNat) l
  else if (0 < i ∧ b.toNat = 0) ∨ (i = 9 ∧ 1 < b.toNat) then none
  else some (acc u i b.toNat, l)
theorem acc_eq (u i b : Nat) (hu : u < 2 ^ (7 * i)) (hb : b % 128 * 2 ^ (7 * i) < 18446744073709551616) : acc u i b = u + b % 128 * 2 ^ (7 * i) := by
 unfold acc; rw [Nat.mod_eq_of_lt hb, Nat.or_comm, Nat.mul_comm, ← Nat.two_pow_add_eq_or_of_lt hu, Nat.add_comm]
theorem acc_lt (u i b : Nat) (hu : u < 18446744073709551616) : acc u i b < 18446744073709551616 := by
 unfold acc
 exact Nat.or_lt_two_pow (n := 64) hu (Nat.mod_lt _ (by decide))
theorem pow_step (i : Nat) : 2 ^ (7 * (i + 1)) = 128 * 2 ^ (7 * i) := by
 rw [Nat.mul_add, Nat.pow_add, Nat.mul_comm]
theorem rd_grp : ∀ (f i u v : Nat) (r : List UInt8), f + i = 10 → 0 < f → u < 2 ^ (7 * i) → v * 2 ^ (7 * i) < 18446744073709551616 → (0 < i → 0 < v) →
  rd f i u (grp v ++ r) = some (u + v * 2 ^ (7 * i), r) := by
 intro f
 induction f with
 | zero => intro i u v r _ h; omega
 | succ f ih =>
  intro i u v r hf _ hu hv hp
  by_cases h : v < 128
  ·rw [grp_small v h]
   have hb : (UInt8.ofNat v).toNat = v := by simp; omega
   have hm : v % 128 = v := Nat.mod_eq_of_lt h
   simp only [List.cons_append, List.nil_append, rd, hb]
   rw [if_neg (by omega), if_neg, acc_eq u i v hu (by rw [hm]; exact hv), hm]; rintro (⟨h1, h2⟩ | ⟨h1, h2⟩)
   ·have := hp h1; omega
   ·subst h1
    have : 2 * 2 ^ (7 * 9) ≤ v * 2 ^ (7 * 9) := Nat.mul_le_mul_right _ h2
    have e : 2 * 2 ^ (7 * 9) = 18446744073709551616 := by decide
    omega
  ·rw [grp_great v h]
   have hb : (UInt8.ofNat (v % 128 + 128)).toNat = v % 128 + 128 := by simp; omega
   have hm : (v % 128 + 128) % 128 = v % 128 := by omega
   have hd : v = v / 128 * 128 + v % 128 := by omega
   have hle : v % 128 * 2 ^ (7 * i) ≤ v * 2 ^ (7 * i) := Nat.mul_le_mul_right _ (Nat.mod_le _ _)
   have hsp : v * 2 ^ (7 * i) = v / 128 * 2 ^ (7 * (i + 1)) + v % 128 * 2 ^ (7 * i) := by
    rw [pow_step, ← Nat.mul_assoc, ← Nat.add_mul, ← hd]
   simp only [List.cons_append, rd, hb]
   rw [if_pos (by omega), acc_eq u i _ hu (by rw [hm]; omega), hm]
   have hf0 : 0 < f := by
    rcases Nat.eq_zero_or_pos f with rfl | h'
    ·have : i = 9 := by omega
     subst this
     have : 128 * 2 ^ (7 * 9) ≤ v * 2 ^ (7 * 9) := Nat.mul_le_mul_right _ (by omega)
     have e : 128 * 2 ^ (7 * 9) = 1180591620717411303424 := by decide
     omega
    ·exact h'
   rw [ih (i + 1) _ (v / 128) r (by omega) hf0 ?_ (by omega) (fun _ => by omega)]
   ·rw [hsp]
    simp only [Option.some.injEq, Prod.mk.injEq, and_true]
    omega
   ·rw [pow_step]
    have : v % 128 * 2 ^ (7 * i) ≤ 127 * 2 ^ (7 * i) := Nat.mul_le_mul_right _ (by omega)
    omega
theorem rd_only : ∀ (f i u : Nat) (l : List UInt8) (x : Nat) (r : List UInt8), f + i = 10 → u < 2 ^ (7 * i) → rd f i u l = some (x, r) →
  ∃ v, l = grp v ++ r ∧ x = u + v * 2 ^ (7 * i) ∧ x < 18446744073709551616 ∧ (0 < i → 0 < v) := by
 intro f
 induction f with
 | zero => intro i u l x r _ _ h; simp [rd] at h
 | succ f ih =>
  intro i u l x r hf hu h
  cases l with
  | nil => simp [rd] at h
  | cons b l =>
   have hb256 := b.toNat_lt
   simp only [rd] at h
   by_cases h1 : 128 ≤ b.toNat
   ·rw [if_pos h1] at h
    have hi : i ≤ 8 := by
     rcases Nat.lt_or_ge i 9 with h' | h'
     ·omega
     ·have : f = 0 := by omega
      subst this
      simp [rd] at h
    have hpl : b.toNat % 128 * 2 ^ (7 * i) < 18446744073709551616 := by
     have p : 2 ^ (7 * i) ≤ 2 ^ (7 * 8) := Nat.pow_le_pow_right (by decide) (by omega)
     have q : b.toNat % 128 * 2 ^ (7 * i) ≤ 127 * 2 ^ (7 * 8) := Nat.mul_le_mul (by omega) p
     have e : 127 * 2 ^ (7 * 8) = 9151314442816847872 := by decide
     omega
    rw [acc_eq u i _ hu hpl] at h
    obtain ⟨v, rfl, rfl, hx, hv⟩ := ih (i + 1) _ l x r (by omega) (by
     rw [pow_step]
     have : b.toNat % 128 * 2 ^ (7 * i) ≤ 127 * 2 ^ (7 * i) := Nat.mul_le_mul_right _ (by omega)
     omega) h
    have hv := hv (by omega)
    refine ⟨v * 128 + b.toNat % 128, ?_, ?_, hx, fun _ => by omega⟩
    ·rw [grp_great (v * 128 + b.toNat % 128) (by omega)]
     rw [show (v * 128 + b.toNat % 128) % 128 + 128 = b.toNat by omega, show (v * 128 + b.toNat % 128) / 128 = v by omega]
     simp
    ·rw [pow_step, Nat.add_mul, Nat.mul_assoc]
     omega
   ·rw [if_neg h1] at h
    by_cases h2 : (0 < i ∧ b.toNat = 0) ∨ (i = 9 ∧ 1 < b.toNat)
    ·rw [if_pos h2] at h; cases h
    ·rw [if_neg h2] at h
     have hm : b.toNat % 128 = b.toNat := Nat.mod_eq_of_lt (by omega)
     have hpl : u + b.toNat * 2 ^ (7 * i) < 18446744073709551616 := by
      rcases Nat.lt_or_ge i 9 with h' | h'
      ·have p : 2 ^ (7 * i) ≤ 2 ^ (7 * 8) := Nat.pow_le_pow_right (by decide) (by omega)
       have q : b.toNat * 2 ^ (7 * i) ≤ 127 * 2 ^ (7 * 8) := Nat.mul_le_mul (by omega) p
       have e : 127 * 2 ^ (7 * 8) = 9151314442816847872 := by decide
       have e2 : 2 ^ (7 * 8) = 72057594037927936 := by decide
       omega
      ·have : i = 9 := by omega
       subst this
       have hb1 : b.toNat ≤ 1 := by
        rcases Nat.lt_or_ge 1 b.toNat with h3 | h3
        ·exact absurd (.inr ⟨rfl, h3⟩) h2
        ·exact h3
       have q : b.toNat * 2 ^ (7 * 9) ≤ 1 * 2 ^ (7 * 9) := Nat.mul_le_mul_right _ hb1
       have e : 2 ^ (7 * 9) = 9223372036854775808 := by decide
       omega
     rw [acc_eq u i _ hu (by rw [hm]; omega), hm] at h
     simp only [Option.some.injEq, Prod.mk.injEq] at h
     obtain ⟨rfl, rfl⟩ := h
     refine ⟨b.toNat, ?_, rfl, hpl, fun h' => ?_⟩
     ·rw [grp_small b.toNat (by omega)]; simp
     ·rcases Nat.eq_zero_or_pos b.toNat with h3 | h3
      ·exact absurd (.inl ⟨h', h3⟩) h2
      ·exact h3
def int (l : List UInt8) : Option (Int × List UInt8) := (rd 10 0 0 l).map fun x => (sg x.1, x.2)
def byte : List UInt8 → Option (Int × List UInt8)
 | [] => none
 | b :: r => some ((b.toNat : Int), r)
def count (l : List UInt8) : Option (Nat × List UInt8) :=
 match int l with
 | none => none
 | some (n, r) => if n < 0 ∨ (r.length : Int) < n then none else some (n.toNat, r)
def text (l : List UInt8) : Option (List UInt8 × List UInt8) :=
 match count l with
 | none => none
 | some (n, r) => some (r.take n, r.drop n)
def many {α : Type} (f : List UInt8 → Option (α × List UInt8)) : Nat → List UInt8 → Option (List α × List UInt8)
 | 0, l => some ([], l)
 | n + 1, l =>
  match f l with
  | none => none
  | some (x, r) =>
   match many f n r with
   | none => none
   | some (xs, r') => some (x :: xs, r')
def ints (l : List UInt8) : Option (List Int × List UInt8) :=
 match count l with
 | none => none
 | some (n, r) => many int n r
def texts (l : List UInt8) : Option (List (List UInt8) × List UInt8) :=
 match count l with
 | none => none
 | some (n, r) => many text n r
theorem int_enc (n : Int) (r : List UInt8) (h : -9223372036854775808 ≤ n ∧ n ≤ 9223372036854775807) : int (enc n ++ r) = some (n, r) := by
 have := zz_lt n h
 rw [int, enc, rd_grp 10 0 0 (zz n) r rfl (by decide) (by decide) (by simpa using this) (fun h => by omega)]
 simp [sg_zz]
theorem int_only (l : List UInt8) (n : Int) (r : List UInt8) (h : int l = some (n, r)) : l = enc n ++ r ∧ -9223372036854775808 ≤ n ∧ n ≤ 9223372036854775807 := by
 unfold int at h; rw [Option.map_eq_some_iff] at h
 obtain ⟨⟨x, r'⟩, h, he⟩ := h
 simp only [Prod.mk.injEq] at he
 obtain ⟨rfl, rfl⟩ := he
 obtain ⟨v, rfl, rfl, hx, _⟩ := rd_only 10 0 0 l x r' rfl (by decide) h
 simp only [Nat.mul_zero, Nat.pow_zero, Nat.mul_one, Nat.zero_add] at hx ⊢
 rw [enc, zz_sg]
 exact ⟨rfl, sg_bd v hx⟩
theorem int_bd (l : List UInt8) (n : Int) (r : List UInt8) (h : int l = some (n, r)) : -9223372036854775808 ≤ n ∧ n ≤ 9223372036854775807 := (int_only l n r h).2
theorem enc_pos (n : Int) : 1 ≤ (enc n).length := grp_pos _
theorem enc_ten (n : Int) (h : -9223372036854775808 ≤ n ∧ n ≤ 9223372036854775807) : (enc n).length ≤ 10 := grp_ten _ (zz_lt n h)
theorem int_len (l : List UInt8) (n : Int) (r : List UInt8) (h : int l = some (n, r)) : r.length < l.length := by
 have := (int_only l n r h).1
 subst this
 have := enc_pos n
 rw [List.length_append]
 omega
theorem count_enc (n : Nat) (r : List UInt8) (h : n ≤ 9223372036854775807) (h2 : n ≤ r.length) : count (enc n ++ r) = some (n, r) := by
 rw [count, int_enc n r (by omega)]
 simp only
 rw [if_neg (by omega), Int.toNat_natCast]
theorem count_some (l : List UInt8) (n : Nat) (r : List UInt8) (h : count l = some (n, r)) : int l = some ((n : Int), r) ∧ n ≤ r.length := by
 unfold count at h
 split at h
 ·cases h
 ·rename_i m r' hi
  split at h
  ·cases h
  ·rename_i hc
   simp only [Option.some.injEq, Prod.mk.injEq] at h
   obtain ⟨rfl, rfl⟩ := h
   have e : ((m.toNat : Nat) : Int) = m := by omega
   rw [e]
   exact ⟨hi, by omega⟩
theorem count_only (l : List UInt8) (n : Nat) (r : List UInt8) (h : count l = some (n, r)) : l = enc n ++ r ∧ n ≤ r.length := by
 obtain ⟨h1, h2⟩ := count_some l n r h
 exact ⟨(int_only _ _ _ h1).1, h2⟩
theorem count_len (l : List UInt8) (n : Nat) (r : List UInt8) (h : count l = some (n, r)) : n ≤ r.length ∧ r.length < l.length := by
 obtain ⟨h1, h2⟩ := count_some l n r h
 exact ⟨h2, int_len _ _ _ h1⟩
theorem count_none (l : List UInt8) (h : int l = none) : count l = none := by rw [count, h]
theorem count_low (l : List UInt8) (n : Int) (r : List UInt8) (h : int l = some (n, r)) (hn : n < 0 ∨ (r.length : Int) < n) : count l = none := by
 rw [count, h]; simp only; rw [if_pos hn]
theorem count_fits (l : List UInt8) (n : Nat) (r : List UInt8) (h : int l = some ((n : Int), r)) (hn : n ≤ r.length) : count l = some (n, r) := by
 rw [count, h]; simp only; rw [if_neg (by omega), Int.toNat_natCast]
theorem text_enc (s r : List UInt8) (h : s.length ≤ 9223372036854775807) : text (encT s ++ r) = some (s, r) := by
 rw [text, encT, List.append_assoc, count_enc s.length (s ++ r) h (by simp)]
 simp
theorem text_only (l s r : List UInt8) (h : text l = some (s, r)) : l = encT s ++ r := by
 unfold text at h
 split at h
 ·cases h
 ·rename_i n r' hc
  simp only [Option.some.injEq, Prod.mk.injEq] at h
  obtain ⟨rfl, rfl⟩ := h
  obtain ⟨rfl, hn⟩ := count_only l n r' hc
  rw [encT, List.length_take, Nat.min_eq_left hn, List.append_assoc, List.take_append_drop]
theorem flat_len {α : Type} (e : α → List UInt8) (he : ∀ x, 1 ≤ (e x).length) (l : List α) : l.length ≤ (l.flatMap e).length := by
 induction l with
 | nil => simp
 | cons x l ih => rw [List.flatMap_cons, List.length_append, List.length_cons]; have := he x; omega
theorem encT_pos (s : List UInt8) : 1 ≤ (encT s).length := by rw [encT, List.length_append]; have := enc_pos s.length; omega
def lay (m : Nat) (st : Nat × List UInt8) (s : List UInt8) : Nat × List UInt8 :=
 if st.1 ≠ 0 then st else if m < st.2.length + s.length then (2, []) else (0, st.2 ++ s)
def byteW (m : Nat) (st : Nat × List UInt8) (n : Int) : Nat × List UInt8 :=
 if st.1 ≠ 0 then st else if n < 0 ∨ 255 < n then (1, []) else lay m st [UInt8.ofNat n.toNat]
theorem lay_lay (m : Nat) (st : Nat × List UInt8) (a b : List UInt8) : lay m (lay m st a) b = lay m st (a ++ b) := by
 obtain ⟨e, l⟩ := st
 unfold lay
 by_cases h : e = 0
 ·subst h
  by_cases h1 : m < l.length + a.length
  ·simp [h1]; omega
  ·by_cases h2 : m < l.length + (a.length + b.length)
   ·simp [h1, h2, Nat.add_assoc]
   ·simp [h1, h2, Nat.add_assoc]
 ·simp [h]
theorem lay_bad (m : Nat) (st : Nat × List UInt8) (s : List UInt8) (h : st.1 ≠ 0) : lay m st s = st := by rw [lay, if_pos h]
theorem lay_over (m : Nat) (l s : List UInt8) (h : m < l.length + s.length) : lay m (0, l) s = (2, []) := by simp [lay, h]
theorem lay_fits (m : Nat) (l s : List UInt8) (h : ¬ m < l.length + s.length) : lay m (0, l) s = (0, l ++ s) := by simp [lay, h]
def Fit (m : Nat) (st : Nat × List UInt8) : Prop := st.1 ≤ 2 ∧ st.2.length ≤ m ∧ (st.1 ≠ 0 → st.2 = [])
structure Item where
 kind : Int
 n : Int
 text : List UInt8
 ints : List Int
 texts : List (List UInt8)
def layItem (m : Nat) (st : Nat × List UInt8) (x : Item) : Nat × List UInt8 :=
 if x.kind = 1 then byteW m st x.n else if x.kind = 2 then lay m st (encT x.text) else if x.kind = 3 then lay m st (encIs x.ints) else if x.kind = 4 then lay m st (encTs x.texts) else lay m st (enc x.n)
def encItem (x : Item) : List UInt8 :=
 if x.kind = 1 then [UInt8.ofNat x.n.toNat] else if x.kind = 2 then encT x.text else if x.kind = 3 then encIs x.ints else if x.kind = 4 then encTs x.texts else enc x.n
theorem layItem_bad (m : Nat) (st : Nat × List UInt8) (x : Item) (h : st.1 ≠ 0) : layItem m st x = st := by
 unfold layItem byteW
 repeat' split
 all_goals first | rfl | exact lay_bad m st _ h | contradiction
theorem lay_ok (m : Nat) (l s : List UInt8) (h : (lay m (0, l) s).1 = 0) : lay m (0, l) s = (0, l ++ s) := by
 by_cases h1 : m < l.length + s.length
 ·rw [lay_over m l s h1] at h; simp at h
 ·exact lay_fits m l s h1
theorem layItem_ok (m : Nat) (l : List UInt8) (x : Item) (h : (layItem m (0, l) x).1 = 0) : layItem m (0, l) x = (0, l ++ encItem x) ∧ (x.kind = 1 → 0 ≤ x.n ∧ x.n ≤ 255) := by
 unfold layItem at h ⊢; unfold encItem
 by_cases h1 : x.kind = 1
 ·simp only [h1, if_true] at h ⊢
  unfold byteW at h ⊢
  by_cases h2 : x.n < 0 ∨ 255 < x.n
  ·simp [h2] at h
  ·simp only [ne_eq, not_true, if_false, h2] at h ⊢
   exact ⟨lay_ok m l _ h, fun _ => by omega⟩
 ·by_cases h2 : x.kind = 2
  ·simp only [h2] at h ⊢
   exact ⟨lay_ok m l _ (by simpa using h), fun h => by omega⟩
  ·by_cases h3 : x.kind = 3
   ·simp only [h3] at h ⊢
    exact ⟨lay_ok m l _ (by simpa using h), fun h => by omega⟩
   ·by_cases h4 : x.kind = 4
    ·simp only [h4] at h ⊢
     exact ⟨lay_ok m l _ (by simpa using h), fun h => by omega⟩
    ·simp only [h1, h2, h3, h4, if_false] at h ⊢
     exact ⟨lay_ok m l _ h, fun h => h.elim⟩
theorem fold_bad (m : Nat) (xs : List Item) : ∀ st : Nat × List UInt8, st.1 ≠ 0 → xs.foldl (layItem m) st = st := by
 induction xs with
 | nil => intro st _; rfl
 | cons x xs ih => intro st h; rw [List.foldl_cons, layItem_bad m st x h, ih st h]
theorem fold_ok (m : Nat) (xs : List Item) : ∀ l : List UInt8, (xs.foldl (layItem m) (0, l)).1 = 0 → xs.foldl (layItem m) (0, l) = (0, l ++ xs.flatMap encItem) ∧ ∀ x ∈ xs, x.kind = 1 → 0 ≤ x.n ∧ x.n ≤ 255 := by
 induction xs with
 | nil => intro l _; simp
 | cons x xs ih =>
  intro l h; rw [List.foldl_cons] at h ⊢
  by_cases h1 : (layItem m (0, l) x).1 = 0
  ·obtain ⟨e, hb⟩ := layItem_ok m l x h1
   rw [e] at h ⊢
   obtain ⟨e2, hb2⟩ := ih _ h
   rw [e2]
   refine ⟨by simp, fun y hy => ?_⟩
   rcases List.mem_cons.1 hy with rfl | h'
   ·exact hb
   ·exact hb2 y h'
  ·rw [fold_bad m xs _ h1] at h
   exact absurd h h1
theorem take_snoc {α : Type} (l : List α) (k : Nat) (h : k < l.length) : l.take (k + 1) = l.take k ++ [l[k]] := List.take_succ_eq_append_getElem h
theorem drop_cons {α : Type} (l : List α) (k : Nat) (h : k < l.length) : l.drop k = l[k] :: l.drop (k + 1) := List.drop_eq_getElem_cons h
end M
end Go.Proofs.YtlnedgjikkhplaaGreat.Nc
namespace Go.Proofs.YtlnedgjikkhplaaGreat.K2
def poly : BitVec 32 := 0xEDB88320#32
def sh (c : BitVec 32) : BitVec 32 := (c >>> 1) ^^^ (poly * (c &&& 1#32))
def shn : Nat → BitVec 32 → BitVec 32
 | 0, c => c
 | n + 1, c => shn n (sh c)
def wide (b : UInt8) : BitVec 32 := b.toBitVec.setWidth 32
def step (c : BitVec 32) (b : UInt8) : BitVec 32 := shn 8 (c ^^^ wide b)
def run : BitVec 32 → List UInt8 → BitVec 32
 | c, [] => c
 | c, b :: l => run (step c b) l
def more (s : BitVec 32) (l : List UInt8) : BitVec 32 := ~~~ (run (~~~ s) l)
def sum (l : List UInt8) : BitVec 32 := more 0#32 l
def byte (x : BitVec 32) (k : Nat) : UInt8 := UInt8.ofBitVec ((x >>> k).setWidth 8)
def four (x : BitVec 32) : List UInt8 := [byte x 0, byte x 8, byte x 16, byte x 24]
def sealed (l : List UInt8) : List UInt8 := l ++ four (sum l)
theorem and_one (c : BitVec 32) : c &&& 1#32 = if c.getLsbD 0 then 1#32 else 0#32 := by
 apply BitVec.eq_of_getLsbD_eq
 intro i hi
 cases i with
 | zero =>
  rw [BitVec.getLsbD_and]
  cases c.getLsbD 0 <;> rfl
 | succ i => cases h : c.getLsbD 0 <;> simp [BitVec.getLsbD_one]
theorem sh_if (c : BitVec 32) : sh c = (c >>> 1) ^^^ (if c.getLsbD 0 then poly else 0#32) := by
 unfold sh; rw [and_one]
 cases c.getLsbD 0 <;> simp
theorem shn_add (m n : Nat) (c : BitVec 32) : shn (m + n) c = shn n (shn m c) := by
 induction m generalizing c with
 | zero => rw [Nat.zero_add]; rfl
 | succ m ih => rw [Nat.succ_add_eq_add_succ, Nat.add_succ, shn, ih]; rfl
theorem shn_succ (n : Nat) (c : BitVec 32) : shn (n + 1) c = sh (shn n c) := by
 rw [shn_add n 1]; rfl
theorem run_append (c : BitVec 32) (l m : List UInt8) : run c (l ++ m) = run (run c l) m := by
 induction l generalizing c with
 | nil => rfl
 | cons b l ih => exact ih (step c b)
theorem run_snoc (c : BitVec 32) (l : List UInt8) (b : UInt8) : run c (l ++ [b]) = step (run c l) b := run_append c l [b]
theorem not_xor (a : BitVec 32) : ~~~ a = (~~~ 0#32) ^^^ a := by
 apply BitVec.eq_of_getLsbD_eq
 intro i hi; rw [BitVec.getLsbD_xor, BitVec.getLsbD_not, BitVec.getLsbD_not, BitVec.getLsbD_zero]
 cases a.getLsbD i <;> simp [hi]
theorem four_len (x : BitVec 32) : (four x).length = 4 := rfl
end Go.Proofs.YtlnedgjikkhplaaGreat.K2
