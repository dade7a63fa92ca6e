/-
  Plain functions: pieces of a file, the bytes that they stand for, and what is done to them.
-/
import Derived.Test.YtajgjkkggppbiaaRows
namespace Go.Proofs.Ytajgjkkggppbiaa.M
set_option linter.unusedVariables false

/-- A piece. -/
structure E where
  a : Int
  n : Int
  d : Int
  f : Int
/-- Where a byte stands. -/
def rep : List E → Int → Option (Int × Int)
  | [], _ => none
  | p :: r, i => if p.a ≤ i ∧ i < p.a + p.n then some (p.d, p.f + (i - p.a)) else rep r i
theorem rep_app : ∀ (l q : List E) (i : Int), rep (l ++ q) i = (rep l i).or (rep q i)
  | [], q, i => by simp [rep]
  | p :: r, q, i => by
    rw [List.cons_append, rep, rep]
    split
    · rfl
    · exact rep_app r q i
theorem rep_none : ∀ (l : List E) (i : Int), (∀ p ∈ l, ¬ (p.a ≤ i ∧ i < p.a + p.n)) → rep l i = none
  | [], i, h => rfl
  | p :: r, i, h => by
    rw [rep, if_neg (h p (by simp))]
    exact rep_none r i fun q hq => h q (by simp [hq])
theorem rep_mem : ∀ (l : List E) (i : Int) (x : Int × Int), rep l i = some x → ∃ p ∈ l, p.a ≤ i ∧ i < p.a + p.n ∧ x = (p.d, p.f + (i - p.a))
  | [], i, x, h => by simp [rep] at h
  | p :: r, i, x, h => by
    rw [rep] at h
    split at h
    · rename_i hp
      exact ⟨p, by simp, hp.1, hp.2, (Option.some.inj h).symm⟩
    · obtain ⟨q, hq, h'⟩ := rep_mem r i x h
      exact ⟨q, by simp [hq], h'⟩
abbrev Fol (p q : E) : Prop := p.d = q.d ∧ p.a + p.n = q.a ∧ p.f + p.n = q.f
def Ok (p : E) : Prop := 0 ≤ p.a ∧ 1 ≤ p.n ∧ p.a + p.n ≤ 16384 ∧ 0 ≤ p.d ∧ 0 ≤ p.f ∧ p.f ≤ 1073741824 + p.a
def R (p q : E) : Prop := p.a + p.n ≤ q.a ∧ ¬ Fol p q
/-- Pieces that rise, do not meet, and are as long as may be. -/
def G (l : List E) : Prop := (∀ p ∈ l, Ok p) ∧ l.Pairwise R
theorem G_nil : G [] := ⟨by simp, List.Pairwise.nil⟩
theorem G_app {l q : List E} : G (l ++ q) ↔ G l ∧ G q ∧ ∀ x ∈ l, ∀ y ∈ q, R x y := by
  unfold G
  rw [List.pairwise_append]
  constructor
  · rintro ⟨h, h1, h2, h3⟩
    exact ⟨⟨fun p hp => h p (by simp [hp]), h1⟩, ⟨fun p hp => h p (by simp [hp]), h2⟩, h3⟩
  · rintro ⟨⟨h, h1⟩, ⟨h', h2⟩, h3⟩
    refine ⟨fun p hp => ?_, h1, h2, h3⟩
    rcases List.mem_append.1 hp with hp | hp
    · exact h p hp
    · exact h' p hp
theorem G_cons {p : E} {q : List E} : G (p :: q) ↔ Ok p ∧ G q ∧ ∀ y ∈ q, R p y := by
  unfold G
  rw [List.pairwise_cons]
  constructor
  · rintro ⟨h, h1, h2⟩
    exact ⟨h p (by simp), ⟨fun x hx => h x (by simp [hx]), h2⟩, h1⟩
  · rintro ⟨h, ⟨h', h2⟩, h1⟩
    refine ⟨fun x hx => ?_, h1, h2⟩
    rcases List.mem_cons.1 hx with rfl | hx
    · exact h
    · exact h' x hx
theorem G_one {p : E} (h : Ok p) : G [p] := G_cons.2 ⟨h, G_nil, by simp⟩
/-- The first byte, and each, of a piece. -/
theorem rep_of {l : List E} (h : G l) : ∀ p ∈ l, ∀ i, p.a ≤ i → i < p.a + p.n → rep l i = some (p.d, p.f + (i - p.a)) := by
  induction l with
  | nil => intro p hp; simp at hp
  | cons q r ih =>
    obtain ⟨h1, h2, h3⟩ := G_cons.1 h
    intro p hp i hi hi'
    rw [rep]
    rcases List.mem_cons.1 hp with rfl | hp
    · rw [if_pos ⟨hi, hi'⟩]
    · have := (h3 p hp).1
      rw [if_neg (by omega)]
      exact ih h2 p hp i hi hi'
theorem rep_out {l : List E} (h : G l) (i : Int) (hi : i < 0 ∨ 16384 ≤ i) : rep l i = none := by
  apply rep_none
  intro p hp
  obtain ⟨h1, h2, h3, _⟩ := h.1 p hp
  omega
theorem rep_ok {l : List E} (h : G l) (i : Int) (d f : Int) (hr : rep l i = some (d, f)) : 0 ≤ i ∧ i < 16384 ∧ 0 ≤ d ∧ 0 ≤ f ∧ f ≤ 1073741824 + i := by
  obtain ⟨p, hp, h1, h2, h3⟩ := rep_mem l i _ hr
  obtain ⟨o1, o2, o3, o4, o5, o6⟩ := h.1 p hp
  simp only [Prod.mk.injEq] at h3
  omega
theorem uniq : ∀ {l q : List E}, G l → G q → (∀ i, rep l i = rep q i) → l = q
  | [], [], _, _, _ => rfl
  | [], y :: s, _, hq, h => by
    have := rep_of hq y (by simp) y.a (by omega) (by have := (hq.1 y (by simp)).2.1; omega)
    rw [← h] at this
    simp [rep] at this
  | x :: r, [], hl, _, h => by
    have := rep_of hl x (by simp) x.a (by omega) (by have := (hl.1 x (by simp)).2.1; omega)
    rw [h] at this
    simp [rep] at this
  | x :: r, y :: s, hl, hq, h => by
    obtain ⟨hx, hr, hxr⟩ := G_cons.1 hl
    obtain ⟨hy, hs, hys⟩ := G_cons.1 hq
    have fx := rep_of hl x (by simp)
    have fy := rep_of hq y (by simp)
    have hxn := hx.2.1
    have hyn := hy.2.1
    have hxa := fx x.a (by omega) (by omega)
    have hya := fy y.a (by omega) (by omega)
    have key : ∀ {x y : E} {r s : List E}, G (x :: r) → G (y :: s) → (∀ i, rep (x :: r) i = rep (y :: s) i) → y.a ≤ x.a := by
      intro x y r s hl hq h
      have hxn := (hl.1 x (by simp)).2.1
      have hx1 := rep_of hl x (by simp) x.a (by omega) (by omega)
      rw [h] at hx1
      obtain ⟨p, hp, h1, _⟩ := rep_mem _ _ _ hx1
      rcases List.mem_cons.1 hp with rfl | hp
      · exact h1
      · have := ((G_cons.1 hq).2.2 p hp).1
        have := (hq.1 y (by simp)).2.1
        omega
    have hab : x.a = y.a := by
      have := key hl hq h
      have := key hq hl (fun i => (h i).symm)
      omega
    rw [h, hab, hya] at hxa
    simp only [Option.some.injEq, Prod.mk.injEq] at hxa
    have len : ∀ {x y : E} {r s : List E}, G (x :: r) → G (y :: s) → (∀ i, rep (x :: r) i = rep (y :: s) i) → x.a = y.a → x.d = y.d → x.f = y.f → y.n ≤ x.n := by
      intro x y r s hl hq h ea ed ef
      rcases Int.lt_or_le x.n y.n with hlt | hge
      · exfalso
        have h1 := rep_of hq y (by simp) (x.a + x.n) (by have := (hl.1 x (by simp)).2.1; omega) (by omega)
        rw [← h] at h1
        obtain ⟨p, hp, p1, p2, p3⟩ := rep_mem _ _ _ h1
        simp only [Prod.mk.injEq] at p3
        rcases List.mem_cons.1 hp with rfl | hp
        · omega
        · have hR := (G_cons.1 hl).2.2 p hp
          have := hR.1
          exact hR.2 ⟨by omega, by omega, by omega⟩
      · exact hge
    have hn : x.n = y.n := by
      have := len hl hq h hab (by omega) (by omega)
      have := len hq hl (fun i => (h i).symm) hab.symm (by omega) (by omega)
      omega
    have hxy : x = y := by
      cases x; cases y
      simp only at hab hn hxa
      simp only [E.mk.injEq]
      omega
    subst hxy
    congr 1
    refine uniq hr hs fun i => ?_
    by_cases hi : x.a ≤ i ∧ i < x.a + x.n
    · rw [rep_none r i fun p hp => by have := (hxr p hp).1; omega, rep_none s i fun p hp => by have := (hys p hp).1; omega]
    · have := h i
      rwa [rep, if_neg hi, rep, if_neg hi] at this
theorem G_len {l : List E} (h : G l) : l.length ≤ 16384 := by
  have key : ∀ (l : List E), G l → ∀ c : Int, c ≤ 16384 → (∀ p ∈ l, c ≤ p.a) → (l.length : Int) ≤ 16384 - c := by
    intro l
    induction l with
    | nil => intro _ c hc _; simp; omega
    | cons p r ih =>
      intro h c hc hp
      obtain ⟨h1, h2, h3⟩ := G_cons.1 h
      obtain ⟨o1, o2, o3, _⟩ := h1
      have := ih h2 (p.a + p.n) o3 fun q hq => (h3 q hq).1
      have := hp p (by simp)
      simp
      omega
  have := key l h 0 (by omega) fun p hp => (h.1 p hp).1
  omega

/-- A piece added behind a row. -/
def addp (l : List E) (e : E) : List E :=
  if e.n < 1 then l else match l.getLast? with
    | none => l ++ [e]
    | some p => if Fol p e then l.dropLast ++ [⟨p.a, p.n + e.n, p.d, p.f⟩] else l ++ [e]
theorem addp_none (l : List E) (e : E) (h : e.n < 1) : addp l e = l := by unfold addp; rw [if_pos h]
theorem addp_nil (e : E) (h : 1 ≤ e.n) : addp [] e = [e] := by unfold addp; rw [if_neg (by omega)]; rfl
theorem addp_fol (d : List E) (p e : E) (h : 1 ≤ e.n) (hf : Fol p e) : addp (d ++ [p]) e = d ++ [⟨p.a, p.n + e.n, p.d, p.f⟩] := by
  unfold addp; rw [if_neg (by omega), List.getLast?_concat]; simp only [if_pos hf, List.dropLast_concat]
theorem addp_new (d : List E) (p e : E) (h : 1 ≤ e.n) (hf : ¬ Fol p e) : addp (d ++ [p]) e = d ++ [p] ++ [e] := by
  unfold addp; rw [if_neg (by omega), List.getLast?_concat]; simp only [if_neg hf]
structure AddP (l : List E) (e : E) (l' : List E) : Prop where
  g : G l'
  r : ∀ i, rep l' i = (rep l i).or (rep [e] i)
  c : ∀ c, (∀ p ∈ l, p.a + p.n ≤ c) → (1 ≤ e.n → e.a + e.n ≤ c) → ∀ p ∈ l', p.a + p.n ≤ c
theorem rep_one_none (e : E) (h : e.n < 1) (i : Int) : rep [e] i = none := by rw [rep, if_neg (by omega)]; rfl
theorem addp_spec {l : List E} {e : E} (hl : G l) (hc : ∀ p ∈ l, 1 ≤ e.n → p.a + p.n ≤ e.a) (he : 1 ≤ e.n → Ok e) : AddP l e (addp l e) := by
  by_cases h1 : e.n < 1
  · rw [addp_none l e h1]
    exact ⟨hl, fun i => by rw [rep_one_none e h1]; simp, fun c h _ => h⟩
  · have h1' : 1 ≤ e.n := by omega
    have he' := he h1'
    rcases List.eq_nil_or_concat l with rfl | ⟨d, p, rfl⟩
    · rw [addp_nil e h1']
      exact ⟨G_one he', fun i => by simp [rep], fun c _ h q hq => by simp at hq; subst hq; exact h h1'⟩
    · rw [List.concat_eq_append] at *
      have hpe := hc p (by simp) h1'
      obtain ⟨hd, hp, hdp⟩ := G_app.1 hl
      have hpo := hp.1 p (by simp)
      obtain ⟨p1, p2, p3, p4, p5, p6⟩ := hpo
      obtain ⟨e1, e2, e3, e4, e5, e6⟩ := he'
      by_cases hf : Fol p e
      · rw [addp_fol d p e h1' hf]
        obtain ⟨f1, f2, f3⟩ := hf
        refine ⟨G_app.2 ⟨hd, G_one ⟨p1, by simp only; omega, by simp only; omega, p4, p5, p6⟩, fun x hx y hy => ?_⟩, fun i => ?_, fun c h h' q hq => ?_⟩
        · simp at hy
          subst hy
          have := hdp x hx p (by simp)
          exact ⟨this.1, fun hq => this.2 hq⟩
        · rw [rep_app, rep_app]
          cases rep d i with
          | some _ => rfl
          | none =>
            simp only [Option.or, rep]
            by_cases hi : p.a ≤ i ∧ i < p.a + p.n
            · rw [if_pos (by omega), if_pos hi]
            · by_cases hi2 : e.a ≤ i ∧ i < e.a + e.n
              · rw [if_pos (by omega), if_neg hi, if_pos hi2]
                simp only [Option.some.injEq, Prod.mk.injEq]
                omega
              · rw [if_neg (by omega), if_neg hi, if_neg hi2]
        · rcases List.mem_append.1 hq with hq | hq
          · exact h q (by simp [hq])
          · simp at hq
            subst hq
            have := h' h1'
            simp only
            omega
      · rw [addp_new d p e h1' hf]
        refine ⟨G_app.2 ⟨hl, G_one ⟨e1, e2, e3, e4, e5, e6⟩, fun x hx y hy => ?_⟩, fun i => by rw [rep_app], fun c h h' q hq => ?_⟩
        · simp at hy
          subst hy
          refine ⟨hc x hx h1', fun hq => ?_⟩
          rcases List.mem_append.1 hx with hx | hx
          · have := (hdp x hx p (by simp)).1
            have := hq.2.1
            omega
          · simp at hx
            subst hx
            exact hf hq
        · rcases List.mem_append.1 hq with hq | hq
          · exact h q hq
          · simp at hq
            subst hq
            exact h' h1'
/-- A row, and pieces that are added to it one by one. -/
structure Adds (l es : List E) : Prop where
  g : G l
  ok : ∀ e ∈ es, 1 ≤ e.n → Ok e
  up : es.Pairwise fun x y => 1 ≤ x.n → 1 ≤ y.n → x.a + x.n ≤ y.a
  x : ∀ p ∈ l, ∀ e ∈ es, 1 ≤ e.n → p.a + p.n ≤ e.a
theorem Adds.add {l es : List E} {e : E} (h : Adds l (e :: es)) : AddP l e (addp l e) := addp_spec h.g (fun p hp hn => h.x p hp e (by simp) hn) (h.ok e (by simp))
theorem Adds.step {l es : List E} {e : E} (h : Adds l (e :: es)) : Adds (addp l e) es := by
  have ha := h.add
  have hp := List.pairwise_cons.1 h.up
  refine ⟨ha.g, fun x hx => h.ok x (by simp [hx]), hp.2, fun p hpl x hx hn => ?_⟩
  exact ha.c x.a (fun q hq => h.x q hq x (by simp [hx]) hn) (fun hen => hp.1 x hx hen hn) p hpl
theorem Adds.done : ∀ {es l : List E}, Adds l es → G (es.foldl addp l) ∧ ∀ i, rep (es.foldl addp l) i = (rep l i).or (rep es i)
  | [], l, h => ⟨h.g, fun i => by simp [rep]⟩
  | e :: es, l, h => by
    obtain ⟨h1, h2⟩ := Adds.done h.step
    refine ⟨h1, fun i => ?_⟩
    rw [List.foldl_cons, h2, h.add.r, Option.or_assoc, ← rep_app]
    rfl
/-- What a piece has of the bytes from lo to hi. -/
def part (e : E) (lo hi : Int) : E := ⟨max e.a lo, min (e.a + e.n) hi - max e.a lo, e.d, e.f + (max e.a lo - e.a)⟩
theorem rep_pos (e : E) (i : Int) (h : e.a ≤ i ∧ i < e.a + e.n) : rep [e] i = some (e.d, e.f + (i - e.a)) := by rw [rep, if_pos h]
theorem rep_neg (e : E) (i : Int) (h : ¬ (e.a ≤ i ∧ i < e.a + e.n)) : rep [e] i = none := by rw [rep, if_neg h]; rfl
theorem rep_part (e : E) (lo hi i : Int) : rep [part e lo hi] i = if lo ≤ i ∧ i < hi then rep [e] i else none := by
  by_cases h : lo ≤ i ∧ i < hi
  · rw [if_pos h]
    by_cases h2 : e.a ≤ i ∧ i < e.a + e.n
    · rw [rep_pos e i h2, rep_pos _ i (by simp only [part]; omega)]
      simp only [part, Option.some.injEq, Prod.mk.injEq, true_and]
      omega
    · rw [rep_neg e i h2, rep_neg _ i (by simp only [part]; omega)]
  · rw [if_neg h, rep_neg _ i (by simp only [part]; omega)]
theorem rep_parts : ∀ (l : List E) (lo hi i : Int), rep (l.map (part · lo hi)) i = if lo ≤ i ∧ i < hi then rep l i else none
  | [], lo, hi, i => by simp [rep]
  | p :: r, lo, hi, i => by
    have h1 : rep (List.map (part · lo hi) (p :: r)) i = (rep [part p lo hi] i).or (rep (r.map (part · lo hi)) i) := by rw [← rep_app]; rfl
    have h2 : rep (p :: r) i = (rep [p] i).or (rep r i) := by rw [← rep_app]; rfl
    rw [h1, rep_part, rep_parts r lo hi i, h2]
    split <;> rfl
theorem part_ok {e : E} {lo hi : Int} (h : Ok e) (hn : 1 ≤ (part e lo hi).n) : Ok (part e lo hi) := by
  obtain ⟨h1, h2, h3, h4, h5, h6⟩ := h
  simp only [part] at hn
  refine ⟨?_, ?_, ?_, ?_, ?_, ?_⟩ <;> simp only [part] <;> omega

/-! bytes put in the place of others -/
def lays (near : List E) (lo hi : Int) (e : E) : List E := near.map (part · 0 lo) ++ ([e] ++ near.map (part · hi 16384))
theorem parts_up {l : List E} (h : G l) (lo hi : Int) : (l.map (part · lo hi)).Pairwise fun x y => 1 ≤ x.n → 1 ≤ y.n → x.a + x.n ≤ y.a := by
  rw [List.pairwise_map]
  refine h.2.imp ?_
  intro x y hR _ _
  have := hR.1
  simp only [part]
  omega
theorem mem_parts {l : List E} {lo hi : Int} {e : E} (h : e ∈ l.map (part · lo hi)) : ∃ p ∈ l, e = part p lo hi := by
  obtain ⟨p, hp, rfl⟩ := List.mem_map.1 h
  exact ⟨p, hp, rfl⟩
/-- What stands in the place of the bytes lo to hi: nothing, or just they. -/
def Fits (e : E) (lo hi : Int) : Prop := e.n < 1 ∨ (Ok e ∧ e.a = lo ∧ e.a + e.n = hi)
theorem lays_adds {near : List E} {lo hi : Int} {e : E} (h : G near) (h0 : 0 ≤ lo) (h1 : lo ≤ hi) (he : Fits e lo hi) : Adds [] (lays near lo hi e) := by
  unfold lays
  refine ⟨G_nil, fun x hx hn => ?_, ?_, by simp⟩
  · rcases List.mem_append.1 hx with hx | hx
    · obtain ⟨p, hp, rfl⟩ := mem_parts hx
      exact part_ok (h.1 p hp) hn
    · rcases List.mem_append.1 hx with hx | hx
      · simp at hx
        subst hx
        rcases he with he | he
        · omega
        · exact he.1
      · obtain ⟨p, hp, rfl⟩ := mem_parts hx
        exact part_ok (h.1 p hp) hn
  · rw [List.pairwise_append, List.pairwise_append]
    refine ⟨parts_up h _ _, ⟨List.pairwise_singleton _ _, parts_up h _ _, fun x hx y hy hxn hyn => ?_⟩, fun x hx y hy hxn hyn => ?_⟩
    · simp at hx
      subst hx
      obtain ⟨p, hp, rfl⟩ := mem_parts hy
      rcases he with he | he
      · omega
      · simp only [part]
        omega
    · obtain ⟨p, hp, rfl⟩ := mem_parts hx
      rcases List.mem_append.1 hy with hy | hy
      · simp at hy
        subst hy
        rcases he with he | he
        · omega
        · simp only [part]
          omega
      · obtain ⟨q, hq, rfl⟩ := mem_parts hy
        simp only [part]
        omega
theorem lay_spec {A near D : List E} {lo hi : Int} {e : E} (h : G (A ++ near ++ D)) (h0 : 0 ≤ lo) (h1 : lo ≤ hi) (h2 : hi ≤ 16384) (he : Fits e lo hi)
    (hA : ∀ p ∈ A, p.a + p.n < lo) (hD : ∀ p ∈ D, hi < p.a) :
    G (A ++ (lays near lo hi e).foldl addp [] ++ D) ∧ ∀ i, rep (A ++ (lays near lo hi e).foldl addp [] ++ D) i = if lo ≤ i ∧ i < hi then rep [e] i else rep (A ++ near ++ D) i := by
  obtain ⟨hAn, hDG, hAnD⟩ := G_app.1 h
  obtain ⟨hAG, hN, hAN⟩ := G_app.1 hAn
  obtain ⟨gl, rl⟩ := (lays_adds hN h0 h1 he).done
  have rl' : ∀ i, rep ((lays near lo hi e).foldl addp []) i = if lo ≤ i ∧ i < hi then rep [e] i else rep near i := by
    intro i
    rw [rl]
    unfold lays
    rw [rep_app, rep_app, rep_parts, rep_parts]
    by_cases hi' : lo ≤ i ∧ i < hi
    · rw [if_pos hi', if_neg (by omega), if_neg (by omega)]
      simp [rep]
    · rw [if_neg hi']
      have hen : rep [e] i = none := by
        rw [rep, if_neg]
        · rfl
        · rcases he with he | he <;> omega
      rw [hen]
      by_cases ho : i < 0 ∨ 16384 ≤ i
      · rw [rep_out hN i ho]
        simp [rep]
      · by_cases hlt : i < lo
        · rw [if_pos (by omega), if_neg (by omega)]
          simp [rep]
        · rw [if_neg (by omega), if_pos (by omega)]
          simp [rep]
  generalize (lays near lo hi e).foldl addp [] = l at *
  refine ⟨G_app.2 ⟨G_app.2 ⟨hAG, gl, fun p hp q hq => ?_⟩, hDG, fun x hx s hs => ?_⟩, fun i => ?_⟩
  · have hpl := hA p hp
    have hqn := (gl.1 q hq).2.1
    have h3 := rep_of gl q hq q.a (by omega) (by omega)
    rw [rl'] at h3
    by_cases hq1 : lo ≤ q.a
    · exact ⟨by omega, fun hf => by have := hf.2.1; omega⟩
    · rw [if_neg (by omega)] at h3
      obtain ⟨r, hr, r1, r2, r3⟩ := rep_mem _ _ _ h3
      have hpr := hAN p hp r hr
      simp only [Prod.mk.injEq] at r3
      have := hpr.1
      refine ⟨by omega, fun hf => hpr.2 ⟨?_, ?_, ?_⟩⟩ <;> obtain ⟨f1, f2, f3⟩ := hf <;> omega
  · rcases List.mem_append.1 hx with hx | hx
    · exact hAnD x (by simp [hx]) s hs
    · have hsd := hD s hs
      have hxn := (gl.1 x hx).2.1
      have h3 := rep_of gl x hx (x.a + x.n - 1) (by omega) (by omega)
      rw [rl'] at h3
      by_cases hq1 : x.a + x.n ≤ hi
      · exact ⟨by omega, fun hf => by have := hf.2.1; omega⟩
      · rw [if_neg (by omega)] at h3
        obtain ⟨r, hr, r1, r2, r3⟩ := rep_mem _ _ _ h3
        have hpr := hAnD r (by simp [hr]) s hs
        simp only [Prod.mk.injEq] at r3
        have := hpr.1
        refine ⟨by omega, fun hf => hpr.2 ⟨?_, ?_, ?_⟩⟩ <;> obtain ⟨f1, f2, f3⟩ := hf <;> omega
  · rw [rep_app, rep_app, rep_app, rep_app, rl']
    by_cases hi' : lo ≤ i ∧ i < hi
    · rw [if_pos hi', if_pos hi', rep_none A i (fun p hp => by have := hA p hp; omega), rep_none D i (fun p hp => by have := hD p hp; omega)]
      simp
    · rw [if_neg hi', if_neg hi']

/-! pieces of some bytes -/
theorem look_spec {A near D : List E} {lo hi : Int} (h : G (A ++ near ++ D)) (hA : ∀ p ∈ A, p.a + p.n ≤ lo) (hN : ∀ p ∈ near, lo < p.a + p.n ∧ p.a < hi) (hD : ∀ p ∈ D, hi ≤ p.a) (hlh : lo < hi) :
    G (near.map (part · lo hi)) ∧ ∀ i, rep (near.map (part · lo hi)) i = if lo ≤ i ∧ i < hi then rep (A ++ near ++ D) i else none := by
  obtain ⟨hAn, hDG, hAnD⟩ := G_app.1 h
  obtain ⟨hAG, hNG, hAN⟩ := G_app.1 hAn
  refine ⟨⟨fun x hx => ?_, ?_⟩, fun i => ?_⟩
  · obtain ⟨p, hp, rfl⟩ := mem_parts hx
    have := hN p hp
    have := (hNG.1 p hp).2.1
    exact part_ok (hNG.1 p hp) (by simp only [part]; omega)
  · rw [List.pairwise_map]
    refine hNG.2.imp_of_mem ?_
    intro x y hx hy hR
    have hx' := hN x hx
    have hy' := hN y hy
    have hxn := (hNG.1 x hx).2.1
    have hyn := (hNG.1 y hy).2.1
    have := hR.1
    refine ⟨by simp only [part]; omega, fun hf => hR.2 ⟨?_, ?_, ?_⟩⟩ <;> obtain ⟨f1, f2, f3⟩ := hf <;> simp only [part] at f1 f2 f3 <;> omega
  · rw [rep_parts, rep_app, rep_app]
    by_cases hi' : lo ≤ i ∧ i < hi
    · rw [if_pos hi', if_pos hi', rep_none A i (fun p hp => by have := hA p hp; omega), rep_none D i (fun p hp => by have := hD p hp; omega)]
      simp
    · rw [if_neg hi', if_neg hi']
end Go.Proofs.Ytajgjkkggppbiaa.M
