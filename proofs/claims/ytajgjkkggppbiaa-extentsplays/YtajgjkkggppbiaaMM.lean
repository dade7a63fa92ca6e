/-
  Plain functions: pieces that move, the document's bytes, and what is counted of both.
-/
import Derived.Test.YtajgjkkggppbiaaM
namespace Go.Proofs.Ytajgjkkggppbiaa.M
set_option linter.unusedVariables false

/-- What becomes of a piece of which some bytes move. -/
def mv3 (lo hi to : Int) (e : E) : List E := [part e e.a (e.a + lo - e.f), ⟨(part e (e.a + lo - e.f) (e.a + hi - e.f)).a, (part e (e.a + lo - e.f) (e.a + hi - e.f)).n, to, (part e (e.a + lo - e.f) (e.a + hi - e.f)).f⟩, part e (e.a + hi - e.f) (e.a + e.n)]
def mvs (id lo hi to : Int) (e : E) : List E := if e.d = id then mv3 lo hi to e else [e]
def mvF (id lo hi to : Int) (x : Int × Int) : Int × Int := if x.1 = id ∧ lo ≤ x.2 ∧ x.2 < hi then (to, x.2) else x
theorem getD_ge {α : Type} (l : List α) (i : Nat) (d : α) (h : l.length ≤ i) : l.getD i d = d := by rw [List.getD_eq_getElem?_getD, List.getElem?_eq_none h]; rfl
theorem rep_mvs (id lo hi to : Int) (h : lo ≤ hi) (e : E) (i : Int) : rep (mvs id lo hi to e) i = (rep [e] i).map (mvF id lo hi to) := by
  unfold mvs
  by_cases hd : e.d = id
  · rw [if_pos hd]
    unfold mv3
    have h3 : ∀ (x y z : E), rep [x, y, z] i = (rep [x] i).or ((rep [y] i).or (rep [z] i)) := fun x y z => by
      rw [← rep_app, ← rep_app]; rfl
    rw [h3]
    by_cases hc : e.a ≤ i ∧ i < e.a + e.n
    · rw [rep_pos e i hc, Option.map_some]
      by_cases h1 : i < e.a + lo - e.f
      · have q1 : rep [part e e.a (e.a + lo - e.f)] i = some (e.d, e.f + (i - e.a)) := by rw [rep_part, if_pos ⟨hc.1, h1⟩, rep_pos e i hc]
        have q2 : mvF id lo hi to (e.d, e.f + (i - e.a)) = (e.d, e.f + (i - e.a)) := by unfold mvF; rw [if_neg (by simp only; omega)]
        rw [q1, q2]
        rfl
      · have q1 : rep [part e e.a (e.a + lo - e.f)] i = none := by rw [rep_part, if_neg (by omega)]
        rw [q1]
        by_cases h2 : i < e.a + hi - e.f
        · have q2 : mvF id lo hi to (e.d, e.f + (i - e.a)) = (to, e.f + (i - e.a)) := by unfold mvF; rw [if_pos ⟨hd, by simp only; omega, by simp only; omega⟩]
          rw [rep_pos _ i (by simp only [part]; omega), q2]
          simp only [part, Option.none_or, Option.some_or, Option.some.injEq, Prod.mk.injEq, true_and]
          omega
        · have q2 : mvF id lo hi to (e.d, e.f + (i - e.a)) = (e.d, e.f + (i - e.a)) := by unfold mvF; rw [if_neg (by simp only; omega)]
          have q3 : rep [part e (e.a + hi - e.f) (e.a + e.n)] i = some (e.d, e.f + (i - e.a)) := by rw [rep_part, if_pos (by omega), rep_pos e i hc]
          rw [rep_neg _ i (by simp only [part]; omega), q2, q3]
          rfl
    · rw [rep_neg e i hc, rep_part, rep_part, rep_neg e i hc, rep_neg _ i (by simp only [part]; omega)]
      simp
  · rw [if_neg hd]
    by_cases hc : e.a ≤ i ∧ i < e.a + e.n
    · rw [rep_pos e i hc]
      simp [mvF, hd]
    · rw [rep_neg e i hc]
      rfl
theorem rep_flat (id lo hi to : Int) (h : lo ≤ hi) : ∀ (P : List E) (i : Int), rep (P.flatMap (mvs id lo hi to)) i = (rep P i).map (mvF id lo hi to)
  | [], i => rfl
  | p :: r, i => by
    have h2 : rep (p :: r) i = (rep [p] i).or (rep r i) := by rw [← rep_app]; rfl
    rw [List.flatMap_cons, rep_app, rep_mvs id lo hi to h, rep_flat id lo hi to h r i, h2]
    cases rep [p] i <;> simp
theorem mvs_in {id lo hi to : Int} {e x : E} (he : Ok e) (hto : 0 ≤ to) (hx : x ∈ mvs id lo hi to e) (hn : 1 ≤ x.n) : Ok x ∧ e.a ≤ x.a ∧ x.a + x.n ≤ e.a + e.n := by
  unfold mvs at hx
  split at hx
  · simp only [mv3, List.mem_cons, List.not_mem_nil, or_false] at hx
    rcases hx with rfl | rfl | rfl
    · exact ⟨part_ok he hn, by simp only [part]; omega, by simp only [part]; omega⟩
    · simp only at hn ⊢
      obtain ⟨o1, o2, o3, o4, o5, o6⟩ := part_ok he hn
      exact ⟨⟨o1, o2, o3, hto, o5, o6⟩, by simp only [part]; omega, by simp only [part]; omega⟩
    · exact ⟨part_ok he hn, by simp only [part]; omega, by simp only [part]; omega⟩
  · simp at hx
    subst hx
    exact ⟨he, by omega, by omega⟩
theorem mvs_up (id lo hi to : Int) (h : lo ≤ hi) (e : E) : (mvs id lo hi to e).Pairwise fun x y => 1 ≤ x.n → 1 ≤ y.n → x.a + x.n ≤ y.a := by
  unfold mvs
  split
  · unfold mv3
    simp only [List.pairwise_cons, List.mem_cons, List.not_mem_nil, or_false, forall_eq_or_imp, forall_eq, List.Pairwise.nil, and_true, false_implies, implies_true]
    simp only [part]
    refine ⟨⟨?_, ?_⟩, ?_⟩ <;> intros <;> omega
  · exact List.pairwise_singleton _ _
theorem mvs_adds {P : List E} (hg : G P) (id lo hi to : Int) (h : lo ≤ hi) (hto : 0 ≤ to) : Adds [] (P.flatMap (mvs id lo hi to)) := by
  refine ⟨G_nil, fun x hx hn => ?_, ?_, by simp⟩
  · obtain ⟨e, he, hx⟩ := List.mem_flatMap.1 hx
    exact (mvs_in (hg.1 e he) hto hx hn).1
  · rw [List.pairwise_flatMap]
    refine ⟨fun e _ => mvs_up id lo hi to h e, hg.2.imp_of_mem ?_⟩
    intro e f he hf hR x hx y hy hxn hyn
    have a := (mvs_in (hg.1 e he) hto hx hxn).2
    have b := (mvs_in (hg.1 f hf) hto hy hyn).2
    have := hR.1
    omega

/-! counting -/
def cnt (g : Nat → Bool) : Nat → Int
  | 0 => 0
  | k + 1 => cnt g k + if g k then 1 else 0
theorem cnt_congr (g h : Nat → Bool) : ∀ N, (∀ j, j < N → g j = h j) → cnt g N = cnt h N
  | 0, _ => rfl
  | k + 1, e => by rw [cnt, cnt, cnt_congr g h k fun j hj => e j (by omega), e k (by omega)]
theorem cnt_add (g h : Nat → Bool) (hd : ∀ j, ¬ (g j = true ∧ h j = true)) : ∀ N, cnt (fun j => g j || h j) N = cnt g N + cnt h N
  | 0 => rfl
  | k + 1 => by
    rw [cnt, cnt, cnt, cnt_add g h hd k]
    have := hd k
    cases hg : g k <;> cases hh : h k <;> simp_all <;> omega
theorem cnt_none (g : Nat → Bool) : ∀ N, (∀ j, j < N → g j = false) → cnt g N = 0
  | 0, _ => rfl
  | k + 1, h => by rw [cnt, cnt_none g k fun j hj => h j (by omega), h k (by omega)]; rfl
theorem cnt_more (g : Nat → Bool) (N : Nat) : ∀ M, (∀ j, N ≤ j → g j = false) → cnt g (N + M) = cnt g N
  | 0, _ => rfl
  | k + 1, h => by rw [← Nat.add_assoc, cnt, cnt_more g N k h, h _ (by omega)]; simp
theorem cnt_bd (g : Nat → Bool) : ∀ N, 0 ≤ cnt g N ∧ cnt g N ≤ N
  | 0 => by simp [cnt]
  | k + 1 => by
    have := cnt_bd g k
    rw [cnt]
    split <;> omega
theorem cnt_int (x y : Int) : ∀ N : Nat, 0 ≤ x → cnt (fun j => decide (x ≤ (j : Int)) && decide ((j : Int) < y)) N = max (min y N - x) 0
  | 0, h => by simp [cnt]; omega
  | k + 1, h => by
    rw [cnt, cnt_int x y k h]
    by_cases hc : x ≤ (k : Int) ∧ (k : Int) < y
    · have : (decide (x ≤ (k : Int)) && decide ((k : Int) < y)) = true := by simp; omega
      rw [this]
      simp
      omega
    · have : (decide (x ≤ (k : Int)) && decide ((k : Int) < y)) = false := by simp; omega
      rw [this]
      simp
      omega
/-- The bytes of which something is true, counted piece by piece. -/
def sumP (s : E → Int) : List E → Int
  | [] => 0
  | p :: r => s p + sumP s r
theorem cnt_rep (q : Int × Int → Bool) (s : E → Int) : ∀ (P : List E), G P → (∀ p ∈ P, cnt (fun j => (rep [p] j).any q) 16384 = s p) → cnt (fun j => (rep P j).any q) 16384 = sumP s P
  | [], _, _ => cnt_none _ _ fun j _ => rfl
  | p :: r, h, hs => by
    obtain ⟨h1, h2, h3⟩ := G_cons.1 h
    have e : cnt (fun j => (rep (p :: r) j).any q) 16384 = cnt (fun j => (rep [p] j).any q || (rep r j).any q) 16384 := by
      apply cnt_congr
      intro j _
      have h2 : rep (p :: r) j = (rep [p] j).or (rep r j) := by rw [← rep_app]; rfl
      rw [h2]
      by_cases hc : p.a ≤ (j : Int) ∧ (j : Int) < p.a + p.n
      · rw [rep_none r j fun y hy => by have := (h3 y hy).1; omega]
        simp
      · rw [rep_neg p j hc]
        simp
    rw [e, cnt_add _ _ (fun j => ?_), hs p (by simp), cnt_rep q s r h2 (fun y hy => hs y (by simp [hy]))]
    · rfl
    · rintro ⟨a, b⟩
      by_cases hc : p.a ≤ (j : Int) ∧ (j : Int) < p.a + p.n
      · rw [rep_none r j fun y hy => by have := (h3 y hy).1; omega] at b
        simp at b
      · rw [rep_neg p j hc] at a
        simp at a

/-! the document's bytes -/
def enc (o : Option (Int × Int)) : Int × Int := o.getD (-1, 0)
/-- Bytes, as the document has them, and pieces are alike. -/
structure RX (L : List (Int × Int)) (P : List E) : Prop where
  len : L.length ≤ 16384
  eq : ∀ i : Nat, L.getD i (-1, 0) = enc (rep P i)
theorem RX_nil : RX [] [] := ⟨by simp, fun i => rfl⟩
/-- A file's end. -/
theorem end_eq {L : List (Int × Int)} {P : List E} (h : RX L P) (hg : G P) (r : Nat) (hr : ∀ j, r ≤ j → (L.getD j (-1, 0)).1 < 0) (h0 : r = 0 ∨ 0 ≤ (L.getD (r - 1) (-1, 0)).1) : (match P.getLast? with | none => 0 | some p => p.a + p.n) = (r : Int) := by
  rcases List.eq_nil_or_concat P with rfl | ⟨d, p, rfl⟩
  · rcases h0 with rfl | h0
    · rfl
    · rw [h.eq] at h0
      simp [rep, enc] at h0
  · rw [List.concat_eq_append] at *
    rw [List.getLast?_concat]
    simp only
    have hpo := hg.1 p (by simp)
    obtain ⟨o1, o2, o3, o4, o5, o6⟩ := hpo
    have hlast : ∀ i : Int, p.a + p.n ≤ i → rep (d ++ [p]) i = none := by
      intro i hi
      apply rep_none
      intro q hq
      rcases List.mem_append.1 hq with hq | hq
      · have := ((G_app.1 hg).2.2 q hq p (by simp)).1
        have := (hg.1 p (by simp)).2.1
        omega
      · simp at hq
        subst hq
        omega
    have h1 := rep_of hg p (by simp) (p.a + p.n - 1) (by omega) (by omega)
    have hle : p.a + p.n ≤ (r : Int) := by
      rcases Int.lt_or_le (r : Int) (p.a + p.n) with hlt | hge
      · have := hr (p.a + p.n - 1).toNat (by omega)
        rw [h.eq, show (((p.a + p.n - 1).toNat : Nat) : Int) = p.a + p.n - 1 by omega, h1] at this
        simp [enc] at this
        omega
      · exact hge
    rcases h0 with rfl | h0
    · omega
    · rcases Int.lt_or_le (p.a + p.n) (r : Int) with hlt | hge
      · rw [h.eq, hlast _ (by omega)] at h0
        simp [enc] at h0
      · omega
theorem enc_id (o : Option (Int × Int)) (id : Int) (h : 0 ≤ id) : ((enc o).1 == id) = o.any (fun x => x.1 == id) := by
  cases o with
  | none => simp [enc]; omega
  | some x => rfl
theorem uses_eq {L : List (Int × Int)} {P : List E} (h : RX L P) (hg : G P) (id : Int) : cnt (fun j => decide (0 ≤ id) && ((L.getD j (-1, 0)).1 == id)) L.length = sumP (fun p => if p.d = id then p.n else 0) P := by
  by_cases h0 : 0 ≤ id
  · have e1 : cnt (fun j => decide (0 ≤ id) && ((L.getD j (-1, 0)).1 == id)) L.length = cnt (fun j => (rep P j).any (fun x => x.1 == id)) 16384 := by
      have e2 : ∀ j : Nat, (decide (0 ≤ id) && ((L.getD j (-1, 0)).1 == id)) = (rep P j).any (fun x => x.1 == id) := by
        intro j
        rw [h.eq, enc_id _ _ h0]
        simp [h0]
      rw [cnt_congr _ _ _ (fun j _ => e2 j), show 16384 = L.length + (16384 - L.length) by have := h.len; omega, cnt_more]
      intro j hj
      rw [← e2, getD_ge _ _ _ hj]
      simp; omega
    rw [e1]
    apply cnt_rep _ _ _ hg
    intro p hp
    obtain ⟨o1, o2, o3, _⟩ := hg.1 p hp
    by_cases hd : p.d = id
    · rw [if_pos hd]
      have : cnt (fun j => (rep [p] (j : Int)).any fun x => x.1 == id) 16384 = cnt (fun j => decide (p.a ≤ (j : Int)) && decide ((j : Int) < p.a + p.n)) 16384 := by
        apply cnt_congr
        intro j _
        by_cases hc : p.a ≤ (j : Int) ∧ (j : Int) < p.a + p.n
        · rw [rep_pos p j hc]
          simp [hd, hc]
        · rw [rep_neg p j hc]
          have : (decide (p.a ≤ (j : Int)) && decide ((j : Int) < p.a + p.n)) = false := by simp; omega
          rw [this]
          rfl
      rw [this, cnt_int _ _ _ o1]
      omega
    · rw [if_neg hd]
      apply cnt_none
      intro j _
      by_cases hc : p.a ≤ (j : Int) ∧ (j : Int) < p.a + p.n
      · rw [rep_pos p j hc]
        simp [hd]
      · rw [rep_neg p j hc]
        rfl
  · have e1 : cnt (fun j => decide (0 ≤ id) && ((L.getD j (-1, 0)).1 == id)) L.length = 0 := cnt_none _ _ fun j _ => by simp [h0]
    rw [e1]
    have key : ∀ (l : List E), (∀ p ∈ l, Ok p) → sumP (fun p => if p.d = id then p.n else 0) l = 0 := by
      intro l
      induction l with
      | nil => intro _; rfl
      | cons p r ih =>
        intro hl
        have := (hl p (by simp)).2.2.2.1
        simp only [sumP, ih fun q hq => hl q (by simp [hq])]
        rw [if_neg (by omega)]
        rfl
    exact (key P hg.1).symm
/-- Which bytes are moved, by the pieces. -/
def mvN (id lo hi : Int) (p : E) : Int := if p.d = id then max (part p (p.a + lo - p.f) (p.a + hi - p.f)).n 0 else 0
theorem mov_eq {L : List (Int × Int)} {P : List E} (h : RX L P) (hg : G P) (id lo hi : Int) (q : Nat → Bool) (hid : 0 ≤ id) (hq : ∀ j : Nat, j < L.length → q j = (rep P j).any (fun x => (x.1 == id) && decide (lo ≤ x.2) && decide (x.2 < hi))) : cnt q L.length = sumP (mvN id lo hi) P := by
  have e1 : cnt q L.length = cnt (fun j => (rep P j).any (fun x => (x.1 == id) && decide (lo ≤ x.2) && decide (x.2 < hi))) 16384 := by
    rw [cnt_congr q _ _ hq, show 16384 = L.length + (16384 - L.length) by have := h.len; omega, cnt_more]
    intro j hj
    have := h.eq j
    rw [getD_ge _ _ _ hj] at this
    cases hr : rep P (j : Int) with
    | none => rfl
    | some x =>
      rw [hr] at this
      have hx := (rep_ok hg j x.1 x.2 hr).2.2.1
      simp only [enc, Option.getD_some] at this
      rw [← this] at hx
      simp at hx
  rw [e1]
  apply cnt_rep _ _ _ hg
  intro p hp
  obtain ⟨o1, o2, o3, _⟩ := hg.1 p hp
  unfold mvN
  by_cases hd : p.d = id
  · rw [if_pos hd]
    have : cnt (fun j => (rep [p] (j : Int)).any fun x => (x.1 == id) && decide (lo ≤ x.2) && decide (x.2 < hi)) 16384 = cnt (fun j => decide (max p.a (p.a + lo - p.f) ≤ (j : Int)) && decide ((j : Int) < min (p.a + p.n) (p.a + hi - p.f))) 16384 := by
      apply cnt_congr
      intro j _
      rw [Bool.eq_iff_iff]
      by_cases hc : p.a ≤ (j : Int) ∧ (j : Int) < p.a + p.n
      · rw [rep_pos p j hc]
        simp [hd]
        omega
      · rw [rep_neg p j hc]
        simp
        omega
    rw [this, cnt_int _ _ _ (by omega)]
    simp only [part]
    omega
  · rw [if_neg hd]
    apply cnt_none
    intro j _
    by_cases hc : p.a ≤ (j : Int) ∧ (j : Int) < p.a + p.n
    · rw [rep_pos p j hc]
      simp [hd]
    · rw [rep_neg p j hc]
      rfl
/-- The document's pieces, byte by byte. -/
def lk (L : List (Int × Int)) (t : Nat → Bool) : Nat → List E
  | 0 => []
  | k + 1 => if (L.getD k (-1, 0)).1 < 0 ∨ t k = false then lk L t k else addp (lk L t k) ⟨k, 1, (L.getD k (-1, 0)).1, (L.getD k (-1, 0)).2⟩
theorem lk_spec {L : List (Int × Int)} {P : List E} (h : RX L P) (hg : G P) (t : Nat → Bool) : ∀ k : Nat, k ≤ L.length → G (lk L t k) ∧ (∀ p ∈ lk L t k, p.a + p.n ≤ k) ∧ ∀ i : Int, rep (lk L t k) i = if 0 ≤ i ∧ i < k ∧ t i.toNat = true then rep P i else none
  | 0, _ => ⟨G_nil, by simp [lk], fun i => by rw [if_neg (by omega)]; rfl⟩
  | k + 1, hk => by
    obtain ⟨h1, h2, h3⟩ := lk_spec h hg t k (by omega)
    rw [lk]
    have hek := h.eq k
    by_cases hc : (L.getD k (-1, 0)).1 < 0 ∨ t k = false
    · rw [if_pos hc]
      refine ⟨h1, fun p hp => by have := h2 p hp; omega, fun i => ?_⟩
      rw [h3]
      by_cases hik : i = (k : Int)
      · subst hik
        rw [if_neg (by omega)]
        rcases hc with hc | hc
        · rw [hek] at hc
          cases hr : rep P (k : Int) with
          | none => split <;> rfl
          | some x =>
            rw [hr] at hc
            have := (rep_ok hg k x.1 x.2 hr).2.2.1
            simp [enc] at hc
            omega
        · rw [if_neg (by simp [hc])]
      · by_cases hi : 0 ≤ i ∧ i < (k : Int) ∧ t i.toNat = true
        · rw [if_pos hi, if_pos ⟨hi.1, by omega, hi.2.2⟩]
        · rw [if_neg hi, if_neg (fun hh => hi ⟨hh.1, by omega, hh.2.2⟩)]
    · rw [if_neg hc]
      have hc1 : ¬ (L.getD k (-1, 0)).1 < 0 := fun hh => hc (.inl hh)
      have hc2 : t k = true := by cases ht : t k with | true => rfl | false => exact absurd (.inr ht) hc
      cases hr : rep P (k : Int) with
      | none => rw [hek, hr] at hc1; simp [enc] at hc1
      | some x =>
        have hx : L.getD k (-1, 0) = x := by rw [hek, hr]; rfl
        rw [hx]
        obtain ⟨a1, a2, a3, a4, a5⟩ := rep_ok hg k x.1 x.2 hr
        have ha := addp_spec (e := ⟨k, 1, x.1, x.2⟩) h1 (fun p hp _ => h2 p hp) (fun _ => ⟨a1, by simp, by simp only; omega, a3, a4, a5⟩)
        refine ⟨ha.g, ha.c _ (fun p hp => by have := h2 p hp; omega) (fun _ => by simp only; omega), fun i => ?_⟩
        rw [ha.r, h3]
        by_cases hik : i = (k : Int)
        · subst hik
          rw [if_neg (by omega), if_pos ⟨by omega, by omega, by simpa using hc2⟩, rep_pos _ _ (by simp only; omega), hr]
          simp
        · rw [rep_neg ⟨(k : Int), 1, x.1, x.2⟩ i (by simp only; omega)]
          by_cases hi : 0 ≤ i ∧ i < (k : Int) ∧ t i.toNat = true
          · rw [if_pos hi, if_pos ⟨hi.1, by omega, hi.2.2⟩]
            simp
          · rw [if_neg hi, if_neg (fun hh => hi ⟨hh.1, by omega, hh.2.2⟩)]
            rfl
/-- Pieces that are told are those that are. -/
theorem lk_eq {L : List (Int × Int)} {P Q : List E} (h : RX L P) (hg : G P) (t : Nat → Bool) (hQ : G Q) (hr : ∀ i : Int, rep Q i = if 0 ≤ i ∧ i < 16384 ∧ t i.toNat = true then rep P i else none) : lk L t L.length = Q := by
  obtain ⟨h1, h2, h3⟩ := lk_spec h hg t L.length (Nat.le_refl _)
  refine uniq h1 hQ fun i => ?_
  rw [h3, hr]
  by_cases hi : 0 ≤ i ∧ i < (L.length : Int) ∧ t i.toNat = true
  · rw [if_pos hi, if_pos ⟨hi.1, by have := h.len; omega, hi.2.2⟩]
  · rw [if_neg hi]
    by_cases hj : 0 ≤ i ∧ i < 16384 ∧ t i.toNat = true
    · rw [if_pos hj]
      have hge : L.length ≤ i.toNat := by
        rcases Nat.lt_or_ge i.toNat L.length with hh | hh
        · exact absurd ⟨hj.1, by omega, hj.2.2⟩ hi
        · exact hh
      have := h.eq i.toNat
      rw [getD_ge _ _ _ hge, show ((i.toNat : Nat) : Int) = i by omega] at this
      cases hr : rep P i with
      | none => rfl
      | some x =>
        rw [hr] at this
        have hx := (rep_ok hg i x.1 x.2 hr).2.2.1
        simp only [enc, Option.getD_some] at this
        rw [← this] at hx
        simp at hx
    · rw [if_neg hj]
end Go.Proofs.Ytajgjkkggppbiaa.M
