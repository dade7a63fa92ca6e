import Derived.Test.YtgodnpngdbelhaaGreatGP20
set_option maxRecDepth 100000
set_option maxHeartbeats 8000000
set_option linter.unusedVariables false
set_option linter.unusedSimpArgs false
namespace Go.Proofs.YtgodnpngdbelhaaGreat.Tm
open Go.Proofs.YtgodnpngdbelhaaGreat.M (E V cmpE cmpE_three)
open Go.Proofs.YtgodnpngdbelhaaGreat.Rm (NT R)
open Nl.M (ck W w0)
def lt (a b : E) : Prop := a.i < b.i ∨ (a.i = b.i ∧ a.t < b.t)
def le (a b : E) : Prop := a.i < b.i ∨ (a.i = b.i ∧ a.t ≤ b.t)
theorem le_refl (a : E) : le a a := .inr ⟨rfl, Int.le_refl _⟩
theorem le_trans {a b c : E} (h : le a b) (k : le b c) : le a c := by unfold le at *; omega
theorem lt_le {a b : E} (h : lt a b) : le a b := by unfold lt le at *; omega
theorem not_lt {a b : E} (h : le a b) : ¬ lt b a := by unfold lt le at *; omega
theorem le_cases {a b : E} (h : le a b) : a = b ∨ lt a b := by
 obtain ⟨i, t⟩ := a; obtain ⟨j, u⟩ := b; unfold le at h; unfold lt; simp only at h ⊢; simp only [M.E.mk.injEq]; omega
theorem cmp_le {a b : E} : cmpE a b ≤ 0 ↔ le a b := Rm.cmp_le
theorem cmp_gt {a b : E} : 0 < cmpE a b ↔ lt b a := by rw [Rm.cmp_lt']; unfold lt; omega
theorem cmp_ge {a b : E} : 0 ≤ cmpE a b ↔ le b a := by rw [Rm.cmp_ge]; unfold le; omega
theorem ck_meet (Q R : Nat → Bool) : ∀ n, (∀ i, i < n → Q i = true → R i = false) → ck Q n + ck R n ≤ n
 | 0, _ => Nat.le_refl _
 | n + 1, h => by
  have := ck_meet Q R n fun i hi => h i (by omega); have h1 := h n (by omega); rw [ck, ck]; cases hq : Q n with
  | false => simp; split <;> omega
  | true => rw [h1 hq]; simp; omega
theorem meet {Q R : Nat → Bool} {n : Nat} (hn : 1 ≤ n ∧ n ≤ 7) (hq : M.quo n ≤ (ck Q n : Nat)) (hr : M.quo n ≤ (ck R n : Nat)) : ∃ i, i < n ∧ Q i = true ∧ R i = true := by
 have hqn : M.quo n = n / 2 + 1 := by unfold M.quo; rw [if_neg (by omega)]
 rcases Classical.em (∃ i, i < n ∧ Q i = true ∧ R i = true) with h | h
 ·exact h
 ·exfalso
  have := ck_meet Q R n fun i hi e => by
   cases hR : R i with
   | false => rfl
   | true => exact absurd ⟨i, hi, e, hR⟩ h
  omega
abbrev Hs := List (Int × V)
def Chosen (n : Nat) (H : Hs) (s : Int) (b : E) (v : ByteArray) : Prop := ∃ Q : Nat → Bool, M.quo n ≤ (ck Q n : Nat) ∧ ∀ i, i < n → Q i = true → ((i : Int), (⟨s, b, v⟩ : V)) ∈ H
def Safe (n : Nat) (P : Int → E) (H : Hs) (A : List V) (s : Int) (b : E) (v : ByteArray) : Prop := ∃ Q : Nat → Bool, M.quo n ≤ (ck Q n : Nat) ∧ (∀ i : Nat, i < n → Q i = true → le b (P i)) ∧
 ((∀ i : Nat, i < n → Q i = true → ∀ u : V, ((i : Int), u) ∈ H → u.s = s → ¬ lt u.b b) ∨ ∃ b0, lt b0 b ∧ (⟨s, b0, v⟩ : V) ∈ A ∧ ∀ i : Nat, i < n → Q i = true → ∀ u : V, ((i : Int), u) ∈ H → u.s = s → lt u.b b → le u.b b0)
def Vok (u : V) : Prop := 0 ≤ u.s ∧ u.s < 1024 ∧ M.vld u.b = true ∧ u.v.size ≤ 4096
structure Gh (n : Nat) (P : Int → E) (H : Hs) (A : List V) : Prop where
 uni : ∀ u ∈ A, ∀ w ∈ A, u.s = w.s → u.b = w.b → u.v = w.v
 ok : ∀ u ∈ A, Vok u
 acc : ∀ x ∈ H, x.2 ∈ A
 prm : ∀ x ∈ H, le x.2.b (P x.1)
 safe : ∀ u ∈ A, Safe n P H A u.s u.b u.v
section
variable {n : Nat} {P P' : Int → E} {H : Hs} {A : List V}
theorem Safe.mono {s : Int} {b : E} {v : ByteArray} (h : Safe n P H A s b v) (hp : ∀ i : Nat, i < n → le (P i) (P' i)) {A' : List V} (ha : ∀ u ∈ A, u ∈ A') {H' : Hs} (hh : ∀ x ∈ H', x ∈ H ∨ le (P x.1) x.2.b) : Safe n P' H' A' s b v := by
 obtain ⟨Q, h1, h2, h3⟩ := h; refine ⟨Q, h1, fun i hi hq => le_trans (h2 i hi hq) (hp i hi), ?_⟩; rcases h3 with h3 | ⟨b0, e1, e2, e3⟩
 ·left
  intro i hi hq u hu hs; rcases hh _ hu with h' | h'
  ·exact h3 i hi hq u h' hs
  ·exact not_lt (le_trans (h2 i hi hq) h')
 ·right
  refine ⟨b0, e1, ha _ e2, fun i hi hq u hu hs hl => ?_⟩; rcases hh _ hu with h' | h'
  ·exact e3 i hi hq u h' hs hl
  ·exact absurd hl (not_lt (le_trans (h2 i hi hq) h'))
theorem Chosen.mono {s : Int} {b : E} {v : ByteArray} {H' : Hs} (h : Chosen n H s b v) (hh : ∀ x ∈ H, x ∈ H') : Chosen n H' s b v := by
 obtain ⟨Q, h1, h2⟩ := h; exact ⟨Q, h1, fun i hi hq => hh _ (h2 i hi hq)⟩
theorem Gh.rise (h : Gh n P H A) (hp : ∀ i : Int, le (P i) (P' i)) : Gh n P' H A :=
 ⟨h.uni, h.ok, h.acc, fun x hx => le_trans (h.prm x hx) (hp _), fun u hu => (h.safe u hu).mono (fun i _ => hp i) (fun _ h => h) fun x hx => .inl hx⟩
theorem Gh.vote (h : Gh n P H A) (hp : ∀ i : Int, le (P i) (P' i)) {i : Int} {u : V} (hu : u ∈ A) (h1 : le (P i) u.b) (h2 : le u.b (P' i)) : Gh n P' (H ++ [(i, u)]) A := by
 refine ⟨h.uni, h.ok, fun x hx => ?_, fun x hx => ?_, fun w hw => (h.safe w hw).mono (fun i _ => hp i) (fun _ h => h) fun x hx => ?_⟩
 ·rcases List.mem_append.1 hx with hx | hx
  ·exact h.acc x hx
  ·rw [List.mem_singleton] at hx; subst hx; exact hu
 ·rcases List.mem_append.1 hx with hx | hx
  ·exact le_trans (h.prm x hx) (hp _)
  ·rw [List.mem_singleton] at hx; subst hx; exact h2
 ·rcases List.mem_append.1 hx with hx | hx
  ·exact .inl hx
  ·rw [List.mem_singleton] at hx; subst hx; exact .inr h1
theorem Gh.ask (h : Gh n P H A) {l : List V} (hl : ∀ u ∈ l, Vok u ∧ Safe n P H A u.s u.b u.v) (hd : ∀ u ∈ A ++ l, ∀ w ∈ l, u.s = w.s → u.b = w.b → u.v = w.v) : Gh n P H (A ++ l) := by
 refine ⟨fun u hu w hw e1 e2 => ?_, fun u hu => ?_, fun x hx => List.mem_append_left _ (h.acc x hx), h.prm, fun u hu => ?_⟩
 ·rcases List.mem_append.1 hw with hw' | hw'
  ·rcases List.mem_append.1 hu with hu' | hu'
   ·exact h.uni u hu' w hw' e1 e2
   ·exact (hd w hw u hu' e1.symm e2.symm).symm
  ·exact hd u hu w hw' e1 e2
 ·rcases List.mem_append.1 hu with hu' | hu'
  ·exact h.ok u hu'
  ·exact (hl u hu').1
 ·have hs : Safe n P H A u.s u.b u.v := by
   rcases List.mem_append.1 hu with hu' | hu'
   ·exact h.safe u hu'
   ·exact (hl u hu').2
  exact hs.mono (fun i _ => le_refl _) (fun _ h => List.mem_append_left _ h) fun x hx => .inl hx
end
abbrev Ls := List (E × Int)
structure Ac (i : Int) (P : Int → E) (H : Hs) (a : Na.M.S) : Prop where
 b0 : a.base = 0
 ok : Na.M.Ok a
 pp : a.p = P i
 al : ∀ u ∈ a.l, (i, u) ∈ H
 ac : ∀ u, (i, u) ∈ H → ∃ w ∈ a.l, w.s = u.s ∧ le u.b w.b
structure Pr (n : Nat) (i : Int) (P : Int → E) (H : Hs) (A : List V) (L : Ls) (p : Np.M.S) : Prop where
 nn : p.n = (n : Int)
 me : p.me = i
 ok : Np.M.Ok p
 led : 1 ≤ p.st → (p.b, p.ask) ∈ L ∧ p.b.t = i
 cur : 1 ≤ p.st → ∀ u ∈ A, u.b = p.b → 2 ≤ p.st ∧ u.s < p.nx
 own : ∀ u ∈ A, u.b.t = i → le u.b (P i)
 ne2 : p.st ≠ 2
 s1 : p.st = 1 → ∀ k : Nat, p.who k = true → k < n ∧ le p.b (P k) ∧ ∀ u : V, ((k : Int), u) ∈ H → lt u.b p.b → p.ask ≤ u.s → ∃ w, p.f u.s = some w ∧ le u.b w.b
 fv : p.st = 1 → ∀ s w, p.f s = some w → w ∈ A ∧ w.s = s ∧ lt w.b p.b ∧ s < p.fin
 s3 : p.st = 3 → ∃ Q : Nat → Bool, M.quo n ≤ (ck Q n : Nat) ∧ ∀ k : Nat, k < n → Q k = true → le p.b (P k) ∧ ∀ u : V, ((k : Int), u) ∈ H → lt u.b p.b → u.s < p.fin
structure Le (n : Nat) (H : Hs) (l : Nl.M.S) : Prop where
 nn : l.n = (n : Int)
 base : l.base = 0
 ok : Nl.M.Ok l
 td : ∀ s v, l.td s = some v → ∃ b, Chosen n H s b v
 vs : ∀ s (j : Nat), ((l.vs s).getD j Nl.M.w0).g = true → ((j : Int), (⟨s, ((l.vs s).getD j Nl.M.w0).b, ((l.vs s).getD j Nl.M.w0).v⟩ : V)) ∈ H
structure Nd (n : Nat) (i : Int) (P : Int → E) (H : Hs) (A : List V) (L : Ls) (r : R) : Prop where
 nn : r.n = (n : Int)
 me : r.me = i
 a : Ac i P H r.a
 p : Pr n i P H A L r.p
 l : Le n H r.l
structure Nt (n : Nat) (P : Int → E) (H : Hs) (A : List V) (L : Ls) (x : NT) : Prop where
 f : 0 ≤ x.f ∧ x.f < n
 t : 0 ≤ x.t ∧ x.t < n
 k1 : x.k = 1 → (x.b, x.s) ∈ L
 k2 : x.k = 2 → le x.b (P x.f) ∧ (∀ w ∈ x.v, (x.f, w) ∈ H ∧ le w.b x.b) ∧ ∃ s0, (x.b, s0) ∈ L ∧ ∀ u : V, (x.f, u) ∈ H → lt u.b x.b → s0 ≤ u.s → ∃ w ∈ x.v, w.s = u.s ∧ le u.b w.b
 k3 : x.k = 3 → ∀ w ∈ x.v, w ∈ A
 k4 : x.k = 4 → ∀ w ∈ x.v, (x.f, w) ∈ H
 k6 : x.k = 6 → ∀ w ∈ x.v, ∃ b, Chosen n H w.s b w.v
structure Gw (P P' : Int → E) (H H' : Hs) (A A' : List V) (L L' : Ls) : Prop where
 p : ∀ i, le (P i) (P' i)
 h : ∀ x ∈ H, x ∈ H'
 h2 : ∀ x ∈ H', x ∈ H ∨ le (P x.1) x.2.b
 a : ∀ u ∈ A, u ∈ A'
 l : ∀ y ∈ L, y ∈ L'
structure Sys (n : Nat) (rs : Nat → R) (way : List NT) (P : Int → E) (H : Hs) (A : List V) (L : Ls) (D : ByteArray → Prop) : Prop where
 hn : 1 ≤ n ∧ n ≤ 7
 gh : Gh n P H A
 lf : ∀ y ∈ L, ∀ z ∈ L, y.1 = z.1 → y.2 = z.2
 lp : ∀ y ∈ L, le y.1 (P y.1.t)
 lv : ∀ y ∈ L, M.vld y.1 = true
 nd : ∀ i, i < n → Nd n (i : Int) P H A L (rs i)
 nt : ∀ x ∈ way, Nt n P H A L x
 dv : ∀ u ∈ A, D u.v
section
variable {n : Nat} {i : Int} {P P' : Int → E} {H H' : Hs} {A A' : List V} {L L' : Ls}
theorem Ac.other {a : Na.M.S} (h : Ac i P H a) (hp : P' i = P i) (g : ∀ x ∈ H, x ∈ H') (hh : ∀ u, (i, u) ∈ H' → (i, u) ∈ H) : Ac i P' H' a :=
 ⟨h.b0, h.ok, h.pp.trans hp.symm, fun u hu => g _ (h.al u hu), fun u hu => h.ac u (hh u hu)⟩
theorem old {k : Int} {b : E} {u : V} (g : Gw P P' H H' A A' L L') (hb : le b (P k)) (hu : (k, u) ∈ H') (hl : lt u.b b) : (k, u) ∈ H := by
 rcases g.h2 _ hu with h | h
 ·exact h
 ·exact absurd hl (not_lt (le_trans hb h))
theorem Pr.grow {p : Np.M.S} (h : Pr n i P H A L p) (g : Gw P P' H H' A A' L L') (ha : ∀ u ∈ A', u.b.t = i → u ∈ A) : Pr n i P' H' A' L' p := by
 refine ⟨h.nn, h.me, h.ok, fun e => ⟨g.l _ (h.led e).1, (h.led e).2⟩, fun e u hu hb => h.cur e u (ha u hu (by rw [hb]; exact (h.led e).2)) hb, fun u hu ht => le_trans (h.own u (ha u hu ht) ht) (g.p _), h.ne2, fun e k hk => ?_, fun e s w hw => ?_, fun e => ?_⟩
 ·obtain ⟨h1, h2, h3⟩ := h.s1 e k hk; exact ⟨h1, le_trans h2 (g.p _), fun u hu hl => h3 u (old g h2 hu hl) hl⟩
 ·obtain ⟨h1, h2⟩ := h.fv e s w hw; exact ⟨g.a _ h1, h2⟩
 ·obtain ⟨Q, h1, h2⟩ := h.s3 e; exact ⟨Q, h1, fun k hk hq => ⟨le_trans (h2 k hk hq).1 (g.p _), fun u hu hl => (h2 k hk hq).2 u (old g (h2 k hk hq).1 hu hl) hl⟩⟩
theorem Le.grow {l : Nl.M.S} (h : Le n H l) (g : ∀ x ∈ H, x ∈ H') : Le n H' l :=
 ⟨h.nn, h.base, h.ok, fun s v e => by obtain ⟨b, hb⟩ := h.td s v e; exact ⟨b, hb.mono g⟩, fun s j e => g _ (h.vs s j e)⟩
theorem Nd.other {r : R} (h : Nd n i P H A L r) (g : Gw P P' H H' A A' L L') (hp : P' i = P i) (hh : ∀ u, (i, u) ∈ H' → (i, u) ∈ H) (ha : ∀ u ∈ A', u.b.t = i → u ∈ A) : Nd n i P' H' A' L' r :=
 ⟨h.nn, h.me, h.a.other hp g.h hh, h.p.grow g ha, h.l.grow g.h⟩
theorem Nt.grow {x : NT} (h : Nt n P H A L x) (g : Gw P P' H H' A A' L L') : Nt n P' H' A' L' x := by
 refine ⟨h.f, h.t, fun e => g.l _ (h.k1 e), fun e => ?_, fun e w hw => g.a _ (h.k3 e w hw), fun e w hw => g.h _ (h.k4 e w hw), fun e w hw => ?_⟩
 ·obtain ⟨h1, h2, s0, h3, h4⟩ := h.k2 e; exact ⟨le_trans h1 (g.p _), fun w hw => ⟨g.h _ (h2 w hw).1, (h2 w hw).2⟩, s0, g.l _ h3, fun u hu hl => h4 u (old g h1 hu hl) hl⟩
 ·obtain ⟨b, hb⟩ := h.k6 e w hw; exact ⟨b, hb.mono g.h⟩
theorem Gw.same : Gw P P H H A A L L := ⟨fun _ => le_refl _, fun _ h => h, fun _ h => .inl h, fun _ h => h, fun _ h => h⟩
variable {rs : Nat → R} {way : List NT} {D : ByteArray → Prop}
theorem Sys.fewer (h : Sys n rs way P H A L D) {way' : List NT} (hw : ∀ x ∈ way', x ∈ way) : Sys n rs way' P H A L D :=
 ⟨h.hn, h.gh, h.lf, h.lp, h.lv, h.nd, fun x hx => h.nt x (hw x hx), h.dv⟩
def upR (rs : Nat → R) (i : Nat) (r : R) : Nat → R := fun j => if j = i then r else rs j
theorem Sys.act (h : Sys n rs way P H A L D) {i : Nat} (hi : i < n) {r' : R} {out : List NT} (g : Gw P P' H H' A A' L L') (hP : ∀ j : Int, j ≠ i → P' j = P j) (hH : ∀ x ∈ H', x ∈ H ∨ x.1 = i) (hA : ∀ u ∈ A', u ∈ A ∨ u.b.t = i) (gh : Gh n P' H' A') (lf : ∀ y ∈ L', ∀ z ∈ L', y.1 = z.1 → y.2 = z.2) (lp : ∀ y ∈ L', le y.1 (P' y.1.t)) (lv : ∀ y ∈ L', M.vld y.1 = true) (nd : Nd n (i : Int) P' H' A' L' r') (nt : ∀ x ∈ out, Nt n P' H' A' L' x) (dv : ∀ u ∈ A', D u.v) : Sys n (upR rs i r') (way ++ out) P' H' A' L' D := by
 refine ⟨h.hn, gh, lf, lp, lv, fun j hj => ?_, fun x hx => ?_, dv⟩
 ·unfold upR; by_cases e : j = i
  ·rw [if_pos e, e]; exact nd
  ·rw [if_neg e]; have e' : (j : Int) ≠ i := by omega
   refine (h.nd j hj).other g (hP _ e') (fun u hu => ?_) (fun u hu ht => ?_)
   ·rcases hH _ hu with h1 | h1
    ·exact h1
    ·exact absurd h1 e'
   ·rcases hA _ hu with h1 | h1
    ·exact h1
    ·exact absurd (ht.symm.trans h1) e'
 ·rcases List.mem_append.1 hx with hx | hx
  ·exact (h.nt x hx).grow g
  ·exact nt x hx
theorem Sys.still (h : Sys n rs way P H A L D) {i : Nat} (hi : i < n) {r' : R} {out : List NT} (nd : Nd n (i : Int) P H A L r') (nt : ∀ x ∈ out, Nt n P H A L x) : Sys n (upR rs i r') (way ++ out) P H A L D :=
 h.act hi .same (fun _ _ => rfl) (fun _ h => .inl h) (fun _ h => .inl h) h.gh h.lf h.lp h.lv nd nt h.dv
def upP (P : Int → E) (i : Int) (b : E) : Int → E := fun j => if j = i then b else P j
theorem upP_le {b : E} (h : le (P i) b) (j : Int) : le (P j) (upP P i b j) := by
 unfold upP; split
 ·next e => rw [e]; exact h
 ·exact le_refl _
theorem upP_same {b : E} : upP P i b i = b := if_pos rfl
theorem upP_other {b : E} {j : Int} (h : j ≠ i) : upP P i b j = P j := if_neg h
theorem toF_nt {r : R} {k s : Int} {b : E} {v : List V} {x : NT} (h : x ∈ Rm.toF r k s b v r.n.toNat) : x.k = k ∧ x.f = r.me ∧ 0 ≤ x.t ∧ x.t < r.n.toNat ∧ x.v = v ∧ x.s = s ∧ x.b = b := by
 unfold Rm.toF at h; obtain ⟨i, hi, rfl⟩ := List.mem_map.1 h; rw [List.mem_range] at hi; exact ⟨rfl, rfl, by show (0 : Int) ≤ i; omega, by show (i : Int) < _; omega, rfl, rfl, rfl⟩
theorem Sys.lead (h : Sys n rs way P H A L D) {i : Nat} (hi : i < n) : ∃ P' H' A' L', (∀ x ∈ H, x ∈ H') ∧ Sys n (upR rs i (Rm.ldS (rs i))) (way ++ Rm.ldN (rs i)) P' H' A' L' D := by
 have hd := h.nd i hi; unfold Rm.ldS Rm.ldN; by_cases hc : Rm.ldc (rs i) = 0
 ·rw [if_pos hc, if_pos hc]; obtain ⟨h1, h2, h3, h4⟩ := Rm.lde_is hd.p.ok hc; have hx := hd.l.ok.nx; have hb := hx.2.2.1; rw [hd.l.base] at hb; have h1 : lt (rs i).a.p (Rm.ldb (rs i)) := cmp_gt.1 h1; have hpb : Na.M.prb (rs i).a (Rm.ldb (rs i)) (Nl.M.nx (rs i).l) = true := by
   unfold Na.M.prb Na.M.may; rw [show M.vld (Rm.ldb (rs i)) = true from h2, Bool.true_and, Bool.and_eq_true, decide_eq_true_eq, decide_eq_true_eq]; exact ⟨cmp_ge.2 (lt_le h1), by rw [hd.a.b0]; exact hb⟩
  have ht : (Rm.ldb (rs i)).t = (i : Int) ∧ (Np.M.lds (rs i).p (rs i).a.p (Nl.M.nx (rs i).l)).ask = Nl.M.nx (rs i).l ∧ (Np.M.lds (rs i).p (rs i).a.p (Nl.M.nx (rs i).l)).n = (rs i).p.n ∧ (Np.M.lds (rs i).p (rs i).a.p (Nl.M.nx (rs i).l)).me = (rs i).p.me ∧ (∀ k, (Np.M.lds (rs i).p (rs i).a.p (Nl.M.nx (rs i).l)).who k = false) ∧ ∀ k, (Np.M.lds (rs i).p (rs i).a.p (Nl.M.nx (rs i).l)).f k = none := by
   have e2 : Np.M.lds (rs i).p (rs i).a.p (Nl.M.nx (rs i).l) = { Np.M.enter (rs i).p 1 (M.nxt (Np.M.grt (rs i).a.p (rs i).p.b) (rs i).p.me) with ask := Nl.M.nx (rs i).l, fin := Nl.M.nx (rs i).l, nx := Nl.M.nx (rs i).l } := by unfold Np.M.lds; exact if_pos hc
   rw [e2]; refine ⟨?_, rfl, rfl, rfl, fun _ => rfl, fun _ => rfl⟩; have e1 : Rm.ldb (rs i) = M.nxt (Np.M.grt (rs i).a.p (rs i).p.b) (rs i).p.me := by unfold Rm.ldb Np.M.lde; exact if_pos hc
   rw [e1]; unfold M.nxt; split
   ·next e =>
    exfalso
    have h5 : Rm.ldb (rs i) = ⟨0, 0⟩ := by rw [e1]; unfold M.nxt; exact if_pos e
    have hv : M.vld (rs i).a.p = true := by
     unfold Rm.ldc Np.M.ldc at hc
     split at hc
     ·next e' => simp only [Bool.and_eq_true] at e'; exact e'.1
     ·omega
    rw [h5] at h1; unfold M.vld at hv; simp only [Bool.and_eq_true, decide_eq_true_eq] at hv; unfold lt at h1; simp only at h1; omega
   ·show M.nod (rs i).p.me = i; rw [hd.p.me]; have := h.hn; unfold M.nod; omega
  obtain ⟨t1, t2, t3, t4, t5, t6⟩ := ht; have hPi : P (i : Int) = (rs i).a.p := hd.a.pp.symm; have hle : le (P (i : Int)) (Rm.ldb (rs i)) := by rw [hPi]; exact lt_le h1
  have g : Gw P (upP P i (Rm.ldb (rs i))) H H A A L (L ++ [(Rm.ldb (rs i), Nl.M.nx (rs i).l)]) := ⟨upP_le hle, fun _ h => h, fun _ h => .inl h, fun _ h => h, fun _ h => List.mem_append_left _ h⟩; refine ⟨upP P i (Rm.ldb (rs i)), H, A, L ++ [(Rm.ldb (rs i), Nl.M.nx (rs i).l)], fun _ h => h, h.act hi g (fun j hj => upP_other hj) (fun _ h => .inl h) (fun _ h => .inl h) (h.gh.rise (upP_le hle)) ?_ ?_ ?_ ?_ ?_ h.dv⟩
  ·have new : ∀ y ∈ L, y.1 ≠ Rm.ldb (rs i) := fun y hy e => by
    have h5 := h.lp y hy; rw [e, t1, hPi] at h5; exact absurd h1 (not_lt h5)
   intro y hy z hz e; rcases List.mem_append.1 hy with hy | hy
   ·rcases List.mem_append.1 hz with hz | hz
    ·exact h.lf y hy z hz e
    ·rw [List.mem_singleton] at hz; subst hz; exact absurd e (new y hy)
   ·rw [List.mem_singleton] at hy; subst hy; rcases List.mem_append.1 hz with hz | hz
    ·exact absurd e.symm (new z hz)
    ·rw [List.mem_singleton] at hz; subst hz; rfl
  ·intro y hy; rcases List.mem_append.1 hy with hy | hy
   ·exact le_trans (h.lp y hy) (upP_le hle _)
   ·rw [List.mem_singleton] at hy; subst hy; show le (Rm.ldb (rs i)) (upP P i _ (Rm.ldb (rs i)).t); rw [t1, upP_same]; exact le_refl _
  ·intro y hy; rcases List.mem_append.1 hy with hy | hy
   ·exact h.lv y hy
   ·rw [List.mem_singleton] at hy; subst hy; exact h2
  ·refine ⟨hd.nn, hd.me, ?_, ?_, hd.l⟩
   ·show Ac i _ H (Na.M.prs (rs i).a (Rm.ldb (rs i)) (Nl.M.nx (rs i).l)); have hok := Na.M.prs_ok hd.a.ok (Rm.ldb (rs i)) (Nl.M.nx (rs i).l); rw [Na.M.prs_yes hpb] at hok ⊢; exact ⟨hd.a.b0, hok, upP_same.symm, hd.a.al, hd.a.ac⟩
   ·show Pr n i _ H A _ (Np.M.lds (rs i).p (rs i).a.p (Nl.M.nx (rs i).l)); have hbb : (Np.M.lds (rs i).p (rs i).a.p (Nl.M.nx (rs i).l)).b = Rm.ldb (rs i) := h3; refine ⟨t3.trans hd.p.nn, t4.trans hd.p.me, hd.p.ok.lds _ _, fun _ => ?_, fun _ u hu e => ?_, fun u hu e => le_trans (hd.p.own u hu e) (upP_le hle _), by rw [h4]; decide, fun _ k hk => ?_, fun _ s w hw => ?_, fun e => ?_⟩
    ·rw [hbb, t2]; exact ⟨List.mem_append_right _ (List.mem_singleton.2 rfl), t1⟩
    ·have h5 := hd.p.own u hu (by rw [e, hbb]; exact t1); rw [e, hbb, hPi] at h5; exact absurd h1 (not_lt h5)
    ·rw [t5] at hk; cases hk
    ·rw [t6] at hw; cases hw
    ·rw [h4] at e; cases e
  ·intro x hx; obtain ⟨x1, x2, x3, x4, x5, x6, x7⟩ := toF_nt hx; have := hd.nn; have := hd.me; refine ⟨by omega, by omega, fun _ => ?_, fun e => by omega, fun e => by omega, fun e => by omega, fun e => by omega⟩; rw [x6, x7]; exact List.mem_append_right _ (List.mem_singleton.2 rfl)
 ·rw [if_neg hc, if_neg hc]; exact ⟨P, H, A, L, fun _ h => h, h.still hi hd (by simp)⟩
end
section
variable {n : Nat} {P : Int → E} {H : Hs} {A : List V} {L : Ls} {rs : Nat → R} {way : List NT} {D : ByteArray → Prop}
def Was (n : Nat) (H : Hs) (D : ByteArray → Prop) (rs : Nat → R) (way : List NT) : Prop := ∃ P' H' A' L', (∀ x ∈ H, x ∈ H') ∧ Sys n rs way P' H' A' L' D
theorem Was.of (h : Sys n rs way P H A L D) : Was n H D rs way := ⟨P, H, A, L, fun _ h => h, h⟩
theorem Pr.top {i : Int} {p : Np.M.S} (h : Pr n i P H A L p) (hl : ∀ y ∈ L, le y.1 (P y.1.t)) (e : 1 ≤ p.st) : le p.b (P i) := by
 have := hl _ (h.led e).1; rw [(h.led e).2] at this; exact this
theorem Sys.asks (h : Sys n rs way P H A L D) {i : Nat} (hi : i < n) {r' : R} {out : List NT} {l : List V} (hl : ∀ u ∈ l, Vok u ∧ Safe n P H A u.s u.b u.v) (hd : ∀ u ∈ A ++ l, ∀ w ∈ l, u.s = w.s → u.b = w.b → u.v = w.v) (ht : ∀ u ∈ l, u.b.t = i) (hv : ∀ u ∈ l, D u.v) (nd : Nd n (i : Int) P H (A ++ l) L r') (nt : ∀ x ∈ out, Nt n P H (A ++ l) L x) : Sys n (upR rs i r') (way ++ out) P H (A ++ l) L D := by
 refine h.act hi ⟨fun _ => le_refl _, fun _ h => h, fun _ h => .inl h, fun _ h => List.mem_append_left _ h, fun _ h => h⟩ (fun _ _ => rfl) (fun _ h => .inl h) (fun u hu => ?_) (h.gh.ask hl hd) h.lf h.lp h.lv nd nt (fun u hu => ?_)
 ·rcases List.mem_append.1 hu with hu | hu
  ·exact .inl hu
  ·exact .inr (ht u hu)
 ·rcases List.mem_append.1 hu with hu | hu
  ·exact h.dv u hu
  ·exact hv u hu
theorem toE3_nt {i : Int} {r : R} {v : V} (hn : r.n = (n : Int)) (hm : r.me = i) (hi : 0 ≤ i ∧ i < n) (hv : v ∈ A) : ∀ x ∈ Rm.toE r 3 v, Nt n P H A L x := by
 intro x hx; obtain ⟨x1, x2, x3, x4, x5, x6, x7⟩ := toF_nt hx; refine ⟨by omega, by omega, fun e => by omega, fun e => by omega, fun _ w hw => ?_, fun e => by omega, fun e => by omega⟩; rw [x5, List.mem_singleton] at hw; rw [hw]; exact hv
theorem Sys.propose (h : Sys n rs way P H A L D) {i : Nat} (hi : i < n) {v : ByteArray} (hv : Np.M.ppc (rs i).p v = 0 → D v) : Was n H D (upR rs i (Rm.ppS (rs i) v)) (way ++ Rm.ppN (rs i) v) := by
 have hd := h.nd i hi; unfold Rm.ppN Rm.ppS; by_cases hc : Np.M.ppc (rs i).p v = 0
 ·rw [if_pos hc]; have e1 : Np.M.ppv (rs i).p v = ⟨(rs i).p.nx, (rs i).p.b, v⟩ := by unfold Np.M.ppv; rw [if_pos hc]
  have e2 : Np.M.pps (rs i).p v = { (rs i).p with nx := (rs i).p.nx + 1 } := by unfold Np.M.pps; rw [if_pos hc]
  have hcc : v.size ≤ 4096 ∧ (rs i).p.nx < 1024 ∧ 2 ≤ (rs i).p.st := by
   unfold Np.M.ppc at hc
   split at hc
   ·omega
   ·split at hc
    ·omega
    ·split at hc
     ·omega
     ·omega
  obtain ⟨c1, c2, c3⟩ := hcc; have hok := hd.p.ok.pps v; have ok := hd.p.ok; have hfx := ok.fx; have haf := ok.af; have ha0 := ok.a0; have h3 : (rs i).p.st = 3 := by have := hd.p.ne2; have := ok.t3; omega
  rw [e1]; rw [e2] at hok ⊢; obtain ⟨hb1, hb2⟩ := hd.p.led (by omega); obtain ⟨Q, q1, q2⟩ := hd.p.s3 h3; refine ⟨P, H, A ++ [⟨(rs i).p.nx, (rs i).p.b, v⟩], L, fun _ h => h, h.asks hi (fun u hu => ?_) (fun u hu w hw es eb => ?_) (fun u hu => ?_) (fun u hu => ?_) ⟨hd.nn, hd.me, hd.a, ?_, hd.l⟩ (toE3_nt hd.nn hd.me (by omega) (List.mem_append_right _ (List.mem_singleton.2 rfl)))⟩
  ·rw [List.mem_singleton] at hu; subst hu; refine ⟨⟨by show 0 ≤ (rs i).p.nx; omega, c2, h.lv _ hb1, c1⟩, Q, q1, fun k hk hq => (q2 k hk hq).1, .inl fun k hk hq u hu es hl => ?_⟩; have := (q2 k hk hq).2 u hu hl; have es' : u.s = (rs i).p.nx := es; omega
  ·rw [List.mem_singleton] at hw; subst hw; rcases List.mem_append.1 hu with hu | hu
   ·have := (hd.p.cur (by omega) u hu eb).2; have es' : u.s = (rs i).p.nx := es; omega
   ·rw [List.mem_singleton] at hu; subst hu; rfl
  ·rw [List.mem_singleton] at hu; subst hu; exact hb2
  ·rw [List.mem_singleton] at hu; subst hu; exact hv hc
  ·refine ⟨hd.p.nn, hd.p.me, hok, hd.p.led, fun _ u hu eb => ?_, fun u hu et => ?_, hd.p.ne2, hd.p.s1, fun e => ?_, hd.p.s3⟩
   ·rcases List.mem_append.1 hu with hu | hu
    ·have := (hd.p.cur (by omega) u hu eb).2; exact ⟨c3, by show u.s < (rs i).p.nx + 1; omega⟩
    ·rw [List.mem_singleton] at hu; subst hu; exact ⟨c3, by show (rs i).p.nx < (rs i).p.nx + 1; omega⟩
   ·rcases List.mem_append.1 hu with hu | hu
    ·exact hd.p.own u hu et
    ·rw [List.mem_singleton] at hu; subst hu; exact hd.p.top h.lp (by omega)
   ·have e' : (rs i).p.st = 1 := e; omega
 ·rw [if_neg hc]; have e : Np.M.pps (rs i).p v = (rs i).p := by unfold Np.M.pps; rw [if_neg hc]
  rw [e]; exact .of (h.still hi ⟨hd.nn, hd.me, hd.a, hd.p, hd.l⟩ (by simp))
theorem Sys.ask (h : Sys n rs way P H A L D) {i : Nat} (hi : i < n) (z : Int) : Sys n (upR rs i (rs i)) (way ++ Rm.akN (rs i) z) P H A L D := by
 have hd := h.nd i hi; refine h.still hi hd fun x hx => ?_; unfold Rm.akN at hx
 split at hx
 ·next e =>
  rw [List.mem_singleton] at hx; subst hx; unfold Rm.isN at e; simp only [Bool.and_eq_true, decide_eq_true_eq] at e; have := hd.nn; have := hd.me; exact ⟨by simp only; omega, by simp only; omega, by simp, by simp, by simp, by simp, by simp⟩
 ·cases hx
theorem Pr.zero {i : Nat} (hn : 1 ≤ n ∧ n ≤ 7) (hi : i < n) (own : ∀ u ∈ A, u.b.t = (i : Int) → le u.b (P i)) : Pr n i P H A L (Np.M.S0 n i) :=
 ⟨rfl, rfl, .zero (by unfold Np.M.nde; simp; omega), fun e => absurd e (by show ¬ (1 : Int) ≤ 0; decide), fun e => absurd e (by show ¬ (1 : Int) ≤ 0; decide), own, by show (0 : Int) ≠ 2; decide, fun e => absurd e (by show ¬ (0 : Int) = 1; decide), fun e => absurd e (by show ¬ (0 : Int) = 1; decide), fun e => absurd e (by show ¬ (0 : Int) = 3; decide)⟩
theorem Le.zero (hn : 1 ≤ n ∧ n ≤ 7) {l : Nl.M.S} (h1 : l.n = n) (h2 : l.base = 0) (h3 : ∀ k, l.td k = none) (h4 : ∀ k, l.vs k = []) : Le n H l := by
 refine ⟨h1, h2, ⟨by omega, by omega, fun k v e => ?_, fun k e => h4 k, fun k => .inl (h4 k)⟩, fun s v e => ?_, fun s j e => ?_⟩
 ·rw [h3] at e; cases e
 ·rw [h3] at e; cases e
 ·rw [h4] at e; cases e
theorem Sys.crash (h : Sys n rs way P H A L D) {i : Nat} (hi : i < n) : Sys n (upR rs i (Rm.crS (rs i))) way P H A L D := by
 have hd := h.nd i hi; have := h.still (out := []) hi (r' := Rm.crS (rs i)) ?_ (by simp)
 ·rw [List.append_nil] at this; exact this
 ·refine ⟨hd.nn, hd.me, hd.a, ?_, ?_⟩
  ·show Pr n i P H A L (Np.M.S0 (rs i).n (rs i).me); rw [hd.nn, hd.me]; exact .zero h.hn hi hd.p.own
  ·show Le n H (Rm.lf (rs i).n (rs i).a.base); rw [hd.nn, hd.a.b0]; refine .zero h.hn rfl ?_ (fun k => ?_) (fun k => rfl)
   ·show Nl.M.tb (Nl.M.s0 n) 0 = 0; have h1 : (Nl.M.s0 (n : Int)).base = 0 := rfl; have h2 := (Nl.M.Ok.zero (n := (n : Int)) (by unfold Nl.M.nde; simp; have := h.hn; omega)).nx.2.2.1; unfold Nl.M.tb; rw [h1] at h2 ⊢; omega
   ·show (if k < _ then none else (none : Option ByteArray)) = none
    split <;> rfl
theorem Pr.step {i : Int} {p : Np.M.S} (h : Pr n i P H A L p) (b : E) : Pr n i P H A L (Np.M.sts p b) := by
 have hok := h.ok.sts b; unfold Np.M.sts at hok ⊢; split
 ·next e =>
  rw [if_pos e] at hok; exact ⟨h.nn, h.me, hok, fun e => absurd e (by show ¬ (1 : Int) ≤ 0; decide), fun e => absurd e (by show ¬ (1 : Int) ≤ 0; decide), h.own, by show (0 : Int) ≠ 2; decide, fun e => absurd e (by show ¬ (0 : Int) = 1; decide), fun e => absurd e (by show ¬ (0 : Int) = 1; decide), fun e => absurd e (by show ¬ (0 : Int) = 3; decide)⟩
 ·exact h
theorem Sys.take1 (h : Sys n rs way P H A L D) {i : Nat} (hi : i < n) {x : NT} (hx : Nt n P H A L x) (hk : x.k = 1) : Was n H D (upR rs i (Rm.q1S (rs i) x.b x.s)) (way ++ Rm.q1N (rs i) x.f x.b x.s) := by
 have hd := h.nd i hi; unfold Rm.q1S Rm.q1N; cases hb : Rm.q1b (rs i) x.b x.s with
 | false =>
  simp only [Bool.false_eq_true, if_false]; exact .of (h.still hi ⟨hd.nn, hd.me, hd.a, hd.p.step _, hd.l⟩ (by simp))
 | true =>
  simp only [if_true]; have hpb : Na.M.prb (rs i).a x.b x.s = true := by
   unfold Rm.q1b at hb; rw [Bool.and_eq_true] at hb; exact hb.2
  have hge : le (P i) x.b := by
   have := cmp_ge.1 (Na.M.may_yes (Na.M.prb_may hpb)); rw [hd.a.pp] at this; exact this
  have hok := Na.M.prs_ok hd.a.ok x.b x.s; have hl : Na.M.prl (rs i).a x.b x.s = Na.M.vts (rs i).a.l x.s := by unfold Na.M.prl; rw [if_pos hpb]
  rw [hl]; rw [Na.M.prs_yes hpb] at hok ⊢; have g : Gw P (upP P i x.b) H H A A L L := ⟨upP_le hge, fun _ h => h, fun _ h => .inl h, fun _ h => h, fun _ h => h⟩; refine ⟨upP P i x.b, H, A, L, fun _ h => h, h.act hi g (fun j hj => upP_other hj) (fun _ h => .inl h) (fun _ h => .inl h) (h.gh.rise (upP_le hge)) h.lf (fun y hy => le_trans (h.lp y hy) (upP_le hge _)) h.lv ⟨hd.nn, hd.me, ⟨hd.a.b0, hok, upP_same.symm, hd.a.al, hd.a.ac⟩, (hd.p.step _).grow g (fun _ h _ => h), hd.l⟩ (fun y hy => ?_) h.dv⟩; rw [List.mem_singleton] at hy; subst hy; have := hd.me; have := hx.f; refine ⟨by simp only; omega, by simp only; omega, by simp, fun _ => ⟨?_, fun w hw => ?_, x.s, hx.k1 hk, fun u hu hlt hs => ?_⟩, by simp, by simp, by simp⟩
  ·show le x.b (upP P i x.b (rs i).me); rw [hd.me, upP_same]; exact le_refl _
  ·have hw' := (Na.M.mem_vts.1 hw).1; refine ⟨?_, ?_⟩
   ·show ((rs i).me, w) ∈ H; rw [hd.me]; exact hd.a.al w hw'
   ·have h1 := cmp_ge.1 (hd.a.ok.pr w hw'); rw [hd.a.pp] at h1; exact le_trans h1 hge
  ·have hu' : ((rs i).me, u) ∈ H := hu; rw [hd.me] at hu'; obtain ⟨w, w1, w2, w3⟩ := hd.a.ac u hu'; exact ⟨w, Na.M.mem_vts.2 ⟨w1, by rw [w2]; exact hs⟩, w2, w3⟩
theorem Sys.take3 (h : Sys n rs way P H A L D) {i : Nat} (hi : i < n) {v : V} (hv : v ∈ A) : Was n H D (upR rs i (Rm.q3S (rs i) v)) (way ++ Rm.q3N (rs i) v) := by
 have hd := h.nd i hi; unfold Rm.q3S Rm.q3N; cases hb : Na.M.acb (rs i).a v with
 | false =>
  simp only [Bool.false_eq_true, if_false]; rw [Na.M.acs_no hb]; exact .of (h.still hi ⟨hd.nn, hd.me, hd.a, hd.p.step _, hd.l⟩ (by simp))
 | true =>
  simp only [if_true]; have hge : le (P i) v.b := by
   have := cmp_ge.1 (Na.M.may_yes (Na.M.acb_yes hb).1); rw [hd.a.pp] at this; exact this
  have hok := Na.M.acs_ok hd.a.ok v; rw [Na.M.acs_yes hb] at hok ⊢; have hle := upP_le hge; have g : Gw P (upP P i v.b) H (H ++ [((i : Int), v)]) A A L L := by
   refine ⟨hle, fun _ h => List.mem_append_left _ h, fun y hy => ?_, fun _ h => h, fun _ h => h⟩; rcases List.mem_append.1 hy with hy | hy
   ·exact .inl hy
   ·rw [List.mem_singleton] at hy; subst hy; exact .inr hge
  refine ⟨upP P i v.b, H ++ [((i : Int), v)], A, L, fun _ h => List.mem_append_left _ h, h.act hi g (fun j hj => upP_other hj) (fun y hy => ?_) (fun _ h => .inl h) (h.gh.vote hle hv hge (by rw [upP_same]; exact le_refl _)) h.lf (fun y hy => le_trans (h.lp y hy) (hle _)) h.lv ⟨hd.nn, hd.me, ⟨hd.a.b0, hok, upP_same.symm, fun u hu => ?_, fun u hu => ?_⟩, (hd.p.step _).grow g (fun _ h _ => h), hd.l.grow g.h⟩ (fun y hy => ?_) h.dv⟩
  ·rcases List.mem_append.1 hy with hy | hy
   ·exact .inl hy
   ·rw [List.mem_singleton] at hy; subst hy; exact .inr rfl
  ·rcases Na.M.mem_put hu with hu | hu
   ·subst hu; exact List.mem_append_right _ (List.mem_singleton.2 rfl)
   ·exact List.mem_append_left _ (hd.a.al u hu.1)
  ·have key : ∃ w ∈ v :: (rs i).a.l, w.s = u.s ∧ le u.b w.b := by
    rcases List.mem_append.1 hu with hu | hu
    ·obtain ⟨w, w1, w2, w3⟩ := hd.a.ac u hu; exact ⟨w, List.mem_cons_of_mem _ w1, w2, w3⟩
    ·rw [List.mem_singleton] at hu; cases hu; exact ⟨v, List.mem_cons_self, rfl, le_refl _⟩
   obtain ⟨w, w1, w2, w3⟩ := key; by_cases hs : w.s = v.s
   ·refine ⟨v, Na.M.put_mem (.inl rfl), hs.symm.trans w2, ?_⟩; rcases List.mem_cons.1 w1 with w1 | w1
    ·rw [← w1]; exact w3
    ·have h1 := cmp_ge.1 (hd.a.ok.pr w w1); rw [hd.a.pp] at h1; exact le_trans w3 (le_trans h1 hge)
   ·rcases List.mem_cons.1 w1 with w1 | w1
    ·rw [w1] at hs; exact absurd rfl hs
    ·exact ⟨w, Na.M.put_mem (.inr ⟨w1, hs⟩), w2, w3⟩
  ·obtain ⟨x1, x2, x3, x4, x5, x6, x7⟩ := toF_nt hy; have := hd.nn; have := hd.me; refine ⟨by omega, by omega, fun e => by omega, fun e => by omega, fun e => by omega, fun _ w hw => ?_, fun e => by omega⟩; rw [x5, List.mem_singleton] at hw; rw [hw, x2, hd.me]; exact List.mem_append_right _ (List.mem_singleton.2 rfl)
end
theorem pick_le (o : Option V) (v : V) : le v.b (Np.M.pick2 o v).b ∧ (∀ u, o = some u → le u.b (Np.M.pick2 o v).b) ∧ (Np.M.pick2 o v = v ∨ o = some (Np.M.pick2 o v)) := by
 unfold Np.M.pick2; cases o with
 | none => exact ⟨le_refl _, fun u e => (by cases e), .inl rfl⟩
 | some u =>
  simp only; by_cases h : 0 < cmpE v.b u.b
  ·rw [if_pos h]; exact ⟨le_refl _, fun w e => by cases e; exact lt_le (cmp_gt.1 h), .inl rfl⟩
  ·rw [if_neg h]; exact ⟨cmp_le.1 (by omega), fun w e => by cases e; exact le_refl _, .inr rfl⟩
structure Cnt (s c : Np.M.S) (l : List V) : Prop where
 from' : ∀ t w, c.f t = some w → s.f t = some w ∨ (w ∈ l ∧ w.s = t)
 keep : ∀ t w, s.f t = some w → ∃ w', c.f t = some w' ∧ le w.b w'.b
 all : ∀ u ∈ l, Np.M.may s.ask u = true → ∃ w, c.f u.s = some w ∧ le u.b w.b
 fin : s.fin ≤ c.fin
 low : (∀ t w, s.f t = some w → t < s.fin) → ∀ t w, c.f t = some w → t < c.fin
theorem cnt1_is (s : Np.M.S) (v : V) : Cnt s (Np.M.cnt1 s v) [v] := by
 unfold Np.M.cnt1; by_cases h : Np.M.may s.ask v = true
 ·rw [if_pos h]; obtain ⟨p1, p2, p3⟩ := pick_le (s.f v.s) v; refine ⟨fun t w e => ?_, fun t w e => ?_, fun u hu hm => ?_, by show s.fin ≤ max s.fin (v.s + 1); omega, fun hl t w e => ?_⟩
  ·simp only [Np.M.fup] at e
   split at e
   ·next et =>
    cases e; rcases p3 with p3 | p3
    ·exact .inr ⟨by rw [p3]; exact List.mem_singleton.2 rfl, by rw [p3]; exact et.symm⟩
    ·exact .inl (by rw [et]; exact p3)
   ·exact .inl e
  ·simp only [Np.M.fup]; by_cases et : t = v.s
   ·rw [if_pos et]; exact ⟨_, rfl, p2 w (by rw [← et]; exact e)⟩
   ·rw [if_neg et]; exact ⟨w, e, le_refl _⟩
  ·rw [List.mem_singleton] at hu; subst hu; simp only [Np.M.fup, if_true]
   exact ⟨_, rfl, p1⟩
  ·show t < max s.fin (v.s + 1); simp only [Np.M.fup] at e
   split at e
   ·omega
   ·have := hl t w e; omega
 ·rw [if_neg h]; refine ⟨fun t w e => .inl e, fun t w e => ⟨w, e, le_refl _⟩, fun u hu hm => ?_, Int.le_refl _, fun hl => hl⟩; rw [List.mem_singleton] at hu; subst hu; exact absurd hm h
theorem cntL_is (l : List V) : ∀ s : Np.M.S, Cnt s (Np.M.cntL s l) l := by
 induction l with
 | nil => exact fun s => ⟨fun t w e => .inl e, fun t w e => ⟨w, e, le_refl _⟩, fun u hu => (by cases hu), Int.le_refl _, fun hl => hl⟩
 | cons v r ih =>
  intro s; have h1 := cnt1_is s v; have h2 := ih (Np.M.cnt1 s v); have ha := (Np.M.cnt1_keep s v).2.2.2.2.1; have e0 : Np.M.cntL s (v :: r) = Np.M.cntL (Np.M.cnt1 s v) r := rfl; rw [e0]; refine ⟨fun t w e => ?_, fun t w e => ?_, fun u hu hm => ?_, Int.le_trans h1.fin h2.fin, fun hl => h2.low (h1.low hl)⟩
  ·rcases h2.from' t w e with h | h
   ·rcases h1.from' t w h with h | h
    ·exact .inl h
    ·exact .inr ⟨by rw [List.mem_singleton] at h; rw [h.1]; exact List.mem_cons_self, h.2⟩
   ·exact .inr ⟨List.mem_cons_of_mem _ h.1, h.2⟩
  ·obtain ⟨w1, e1, l1⟩ := h1.keep t w e; obtain ⟨w2, e2, l2⟩ := h2.keep t w1 e1; exact ⟨w2, e2, le_trans l1 l2⟩
  ·rcases List.mem_cons.1 hu with hu | hu
   ·obtain ⟨w1, e1, l1⟩ := h1.all u (by rw [hu]; exact List.mem_singleton.2 rfl) hm; obtain ⟨w2, e2, l2⟩ := h2.keep _ w1 e1; exact ⟨w2, e2, le_trans l1 l2⟩
   ·exact h2.all u hu (by rw [ha]; exact hm)
theorem wcnt_ck (g : Nat → Bool) : ∀ k, Np.M.wcnt g k = ck g k
 | 0 => rfl
 | k + 1 => by rw [Np.M.wcnt, ck, wcnt_ck g k]
theorem ck_cut (g : Nat → Bool) (n : Nat) (h : ∀ k, g k = true → k < n) : ∀ j, ck g (n + j) = ck g n
 | 0 => rfl
 | j + 1 => by
  rw [show n + (j + 1) = n + j + 1 by omega, ck, ck_cut g n h j]; cases e : g (n + j) with
  | false => simp
  | true => have := h _ e; omega
section
variable {n : Nat} {P : Int → E} {H : Hs} {A : List V} {L : Ls} {rs : Nat → R} {way : List NT} {D : ByteArray → Prop}
structure Mid (n : Nat) (P : Int → E) (H : Hs) (A : List V) (p : Np.M.S) (g : Nat → Bool) (c : Np.M.S) : Prop where
 s1 : ∀ k : Nat, g k = true → k < n ∧ le p.b (P k) ∧ ∀ u : V, ((k : Int), u) ∈ H → lt u.b p.b → p.ask ≤ u.s → ∃ w, c.f u.s = some w ∧ le u.b w.b
 fv : ∀ s w, c.f s = some w → w ∈ A ∧ w.s = s ∧ lt w.b p.b ∧ s < c.fin
theorem mid_of (h : Sys n rs way P H A L D) {i : Nat} (hi : i < n) {x : NT} (hx : Nt n P H A L x) (hk : x.k = 2) (hm : Np.M.prm (rs i).p x.f x.b = true) :
  Mid n P H A (rs i).p (Np.M.wset (rs i).p.who x.f.toNat) (Np.M.cntL { (rs i).p with who := Np.M.wset (rs i).p.who x.f.toNat } x.v) ∧ (rs i).p.st = 1 := by
 have hd := h.nd i hi; unfold Np.M.prm at hm; simp only [Bool.and_eq_true, decide_eq_true_eq] at hm; obtain ⟨⟨⟨⟨m1, m2, m3⟩, m4⟩, m5⟩, m6⟩ := hm; have hb : x.b = (rs i).p.b := by
  generalize x.b = a at m2 m3 ⊢; generalize (rs i).p.b = c at m2 m3 ⊢; obtain ⟨a1, a2⟩ := a; obtain ⟨c1, c2⟩ := c; simp only at m2 m3; rw [m2, m3]
 obtain ⟨k1, k2, s0, k3, k4⟩ := hx.k2 hk; obtain ⟨l1, l2⟩ := hd.p.led (by omega); have hs0 : s0 = (rs i).p.ask := h.lf _ k3 _ l1 hb; have hc := cntL_is x.v { (rs i).p with who := Np.M.wset (rs i).p.who x.f.toNat }
 have hf : ((x.f.toNat : Nat) : Int) = x.f := by omega
 have hvA : ∀ w ∈ x.v, w ∈ A := fun w hw => h.gh.acc _ (k2 w hw).1; have hmay : ∀ w ∈ x.v, (rs i).p.ask ≤ w.s → Np.M.may (rs i).p.ask w = true := fun w hw hs => by
  obtain ⟨o1, o2, o3, o4⟩ := h.gh.ok w (hvA w hw); unfold Np.M.may Np.M.slot; simp only [Bool.and_eq_true, decide_eq_true_eq]; exact ⟨⟨⟨hs, o1, o2⟩, o3⟩, o4⟩
 refine ⟨⟨fun k hk => ?_, fun s w e => ?_⟩, m1⟩
 ·unfold Np.M.wset at hk
  split at hk
  ·next e =>
   subst e; refine ⟨by have := hx.f; omega, by rw [← hb, hf]; exact k1, fun u hu hl hs => ?_⟩; obtain ⟨w, w1, w2, w3⟩ := k4 u (by rw [← hf]; exact hu) (by rw [hb]; exact hl) (by rw [hs0]; exact hs); obtain ⟨w', e1, e2⟩ := hc.all w w1 (hmay w w1 (by rw [w2]; exact hs)); exact ⟨w', by rw [← w2]; exact e1, le_trans w3 e2⟩
  ·obtain ⟨h1, h2, h3⟩ := hd.p.s1 m1 k hk; refine ⟨h1, h2, fun u hu hl hs => ?_⟩; obtain ⟨w, e1, e2⟩ := h3 u hu hl hs; obtain ⟨w', e3, e4⟩ := hc.keep _ w e1; exact ⟨w', e3, le_trans e2 e4⟩
 ·have hlow := hc.low (fun t w e => (hd.p.fv m1 t w e).2.2.2) s w e; rcases hc.from' s w e with e | ⟨e1, e2⟩
  ·obtain ⟨f1, f2, f3, f4⟩ := hd.p.fv m1 s w e; exact ⟨f1, f2, f3, hlow⟩
  ·refine ⟨hvA w e1, e2, ?_, hlow⟩; have h5 := (k2 w e1).2; rw [hb] at h5; rcases le_cases h5 with h6 | h6
   ·have := (hd.p.cur (by omega) w (hvA w e1) h6).1; omega
   ·exact h6
theorem Sys.take2 (h : Sys n rs way P H A L D) (hD : D ⟨#[]⟩) {i : Nat} (hi : i < n) {x : NT} (hx : Nt n P H A L x) (hk : x.k = 2) : Was n H D (upR rs i (Rm.q2S (rs i) x.f x.b x.v)) (way ++ Rm.q2N (rs i) x.f x.b x.v) := by
 have hd := h.nd i hi; unfold Rm.q2S Rm.q2N Rm.q2P; cases hm : Np.M.prm (rs i).p x.f x.b with
 | false =>
  have e1 : Np.M.prb (rs i).p x.f x.b = false := by unfold Np.M.prb; rw [hm]; rfl
  have e2 : Np.M.prs (rs i).p x.f x.b x.v = (rs i).p := by unfold Np.M.prs; rw [hm]; rfl
  rw [e1, e2]; exact .of (h.still hi ⟨hd.nn, hd.me, hd.a, hd.p, hd.l⟩ (by simp))
 | true =>
  obtain ⟨⟨s1, fv⟩, hst⟩ := mid_of h hi hx hk hm; have hkeep := Np.M.cntL_keep x.v { (rs i).p with who := Np.M.wset (rs i).p.who x.f.toNat }
  have hokc := hd.p.ok.prs x.f x.b x.v; have hen0 : Np.M.enough (rs i).p x.f = true → M.quo n ≤ (ck (Np.M.wset (rs i).p.who x.f.toNat) n : Nat) := fun e => by
   have hn := h.hn; unfold Np.M.enough at e; rw [decide_eq_true_eq, hd.p.nn, wcnt_ck] at e; have h7 := ck_cut (Np.M.wset (rs i).p.who x.f.toNat) n (fun k hk => (s1 k hk).1) (7 - n); rw [show n + (7 - n) = 7 by omega] at h7; rw [h7] at e; exact e
  unfold Np.M.prb; unfold Np.M.prs at hokc ⊢; rw [if_pos hm] at hokc; rw [if_pos hm, hm, Bool.true_and]; generalize Np.M.wset (rs i).p.who x.f.toNat = g at *; generalize Np.M.cntL { (rs i).p with who := g } x.v = c at *
  obtain ⟨c1, c2, c3, c4, c5, c6, c7⟩ := hkeep; simp only at c1 c2 c3 c4 c5 c6; obtain ⟨l1, l2⟩ := hd.p.led (by omega); have nocur : ∀ u ∈ A, u.b = (rs i).p.b → False := fun u hu e => by
   have := (hd.p.cur (by omega) u hu e).1; omega
  cases he : Np.M.enough (rs i).p x.f with
  | false =>
   simp only [he, Bool.false_eq_true, if_false] at hokc ⊢; refine .of (h.still hi ⟨hd.nn, hd.me, hd.a, ⟨c1.trans hd.p.nn, c2.trans hd.p.me, hokc, fun _ => by rw [c4, c5]; exact ⟨l1, l2⟩, fun _ u hu e => (nocur u hu (by rw [e, c4])).elim, hd.p.own, by rw [c3, hst]; decide, fun _ => by rw [c4, c5, c6]; exact s1, fun _ => by rw [c4]; exact fv, fun e => by rw [c3, hst] at e; cases e⟩, hd.l⟩ (by simp))
  | true =>
   simp only [he, if_true] at hokc ⊢; have hen : M.quo n ≤ (ck g n : Nat) := hen0 he; have hbt := hd.p.top h.lp (by omega); have hfl : Np.M.fls { c with st := 2 } = { c with st := 3, f := fun _ => none } := by unfold Np.M.fls; rfl
   have hok3 := hokc.fls; have hfx := hokc.fx; have haf := hokc.af; have ha0 := hokc.a0; have hx1 := hokc.x1; have hsz := hokc.sz; simp only at hfx haf ha0 hx1 hsz; have hfo : ∀ u ∈ Np.M.flo { c with st := 2 }, u.b = (rs i).p.b ∧ (rs i).p.ask ≤ u.s ∧ u.s < c.fin ∧ u.v = Np.M.val (c.f u.s) := by
    intro u hu; unfold Np.M.flo Np.M.fl at hu; rw [if_pos rfl] at hu; obtain ⟨j, hj, rfl⟩ := List.mem_map.1 hu; rw [List.mem_range] at hj; simp only at hj; refine ⟨c4, ?_, ?_, rfl⟩
    ·simp only [Np.M.fl1]; omega
    ·simp only [Np.M.fl1]; omega
   rw [hfl] at hok3 ⊢; generalize Np.M.flo { c with st := 2 } = l at *
   refine ⟨P, H, A ++ l, L, fun _ h => h, h.asks hi (fun u hu => ?_) (fun u hu w hw es eb => ?_) (fun u hu => ?_) (fun u hu => ?_) ⟨hd.nn, hd.me, hd.a, ?_, hd.l⟩ (fun y hy => ?_)⟩
   ·obtain ⟨u1, u2, u3, u4⟩ := hfo u hu; refine ⟨⟨by omega, by omega, by rw [u1]; exact h.lv _ l1, ?_⟩, g, hen, fun k hk hq => by rw [u1]; exact (s1 k hq).2.1, ?_⟩
    ·rw [u4]; cases e : c.f u.s with
     | none => decide
     | some w => exact hsz _ _ e
    ·cases e : c.f u.s with
     | none =>
      left
      intro k hk hq w hw es hl; rw [u1] at hl; obtain ⟨z, z1, z2⟩ := (s1 k hq).2.2 w hw hl (by omega); rw [es, e] at z1; cases z1
     | some z =>
      right
      obtain ⟨f1, f2, f3, f4⟩ := fv _ _ e; rw [e] at u4; refine ⟨z.b, by rw [u1]; exact f3, ?_, fun k hk hq w hw es hl => ?_⟩
      ·have : (⟨u.s, z.b, u.v⟩ : V) = z := by rw [u4, ← f2]; rfl
       rw [this]; exact f1
      ·rw [u1] at hl; obtain ⟨y, y1, y2⟩ := (s1 k hq).2.2 w hw hl (by omega); rw [es, e] at y1; cases y1; exact y2
   ·obtain ⟨w1, w2, w3, w4⟩ := hfo w hw; rcases List.mem_append.1 hu with hu | hu
    ·exact (nocur u hu (by rw [eb, w1])).elim
    ·rw [(hfo u hu).2.2.2, w4, es]
   ·rw [(hfo u hu).1]; exact l2
   ·rw [(hfo u hu).2.2.2]; cases e : c.f u.s with
    | none => exact hD
    | some w => exact h.dv _ (fv _ _ e).1
   ·refine ⟨c1.trans hd.p.nn, c2.trans hd.p.me, hok3, fun _ => ?_, fun _ u hu e => ?_, fun u hu e => ?_, by show (3 : Int) ≠ 2; decide, fun e => absurd e (by show ¬ (3 : Int) = 1; decide), fun e => absurd e (by show ¬ (3 : Int) = 1; decide), fun _ => ⟨g, hen, fun k hk hq => ⟨?_, fun u hu hl => ?_⟩⟩⟩
    ·show (c.b, c.ask) ∈ L ∧ c.b.t = i; rw [c4, c5]; exact ⟨l1, l2⟩
    ·have e' : u.b = c.b := e; rcases List.mem_append.1 hu with hu | hu
     ·exact (nocur u hu (by rw [e', c4])).elim
     ·obtain ⟨u1, u2, u3, u4⟩ := hfo u hu; exact ⟨by show (2 : Int) ≤ 3; decide, by show u.s < c.nx; omega⟩
    ·rcases List.mem_append.1 hu with hu | hu
     ·exact hd.p.own u hu e
     ·rw [(hfo u hu).1]; exact hbt
    ·show le c.b (P k); rw [c4]; exact (s1 k hq).2.1
    ·show u.s < c.fin; have hl' : lt u.b (rs i).p.b := by rw [← c4]; exact hl
     by_cases hs : (rs i).p.ask ≤ u.s
     ·obtain ⟨w, w1, w2⟩ := (s1 k hq).2.2 u hu hl' hs; exact (fv _ _ w1).2.2.2
     ·omega
   ·unfold Rm.q2F at hy; obtain ⟨v, hv, hy⟩ := List.mem_flatMap.1 hy; exact toE3_nt hd.nn hd.me (by omega) (List.mem_append_right _ hv) y hy
end
theorem ck_same {f g : Nat → Bool} : ∀ k, (∀ i, i < k → f i = g i) → ck f k = ck g k
 | 0, _ => rfl
 | k + 1, h => by rw [ck, ck, ck_same k fun i hi => h i (by omega), h k (by omega)]
theorem wq_yes {x h : W} (e : Nl.M.wq x h = true) : x.g = h.g ∧ x.b = h.b ∧ x.v = h.v := by
 unfold Nl.M.wq at e; simp only [Bool.and_eq_true, beq_iff_eq] at e; obtain ⟨e1, ⟨e2, e3⟩, e4⟩ := e; refine ⟨e1, ?_, ?_⟩
 ·generalize x.b = a at e2 e3 ⊢; generalize h.b = c at e2 e3 ⊢; obtain ⟨a1, a2⟩ := a; obtain ⟨c1, c2⟩ := c; simp only at e2 e3; rw [e2, e3]
 ·rw [ByteArray.toList_eq, ByteArray.toList_eq] at e4; exact ByteArray.ext (Array.toList_inj.1 e4)
section
variable {n : Nat} {P : Int → E} {H : Hs} {A : List V} {L : Ls} {rs : Nat → R} {way : List NT} {D : ByteArray → Prop}
def Hrd (H : Hs) (s : Int) (l : List W) : Prop := ∀ j : Nat, (l.getD j w0).g = true → ((j : Int), (⟨s, (l.getD j w0).b, (l.getD j w0).v⟩ : V)) ∈ H
theorem Hrd.row {l : Nl.M.S} (h : Le n H l) (s : Int) : Hrd H s (Nl.M.row l s) := by
 unfold Nl.M.row; split
 ·intro j e; exfalso; rw [List.getD_eq_getElem?_getD, List.getElem?_replicate] at e
  split at e <;> cases e
 ·exact h.vs s
theorem Hrd.put {l : List W} {f : Nat} {x : V} (h : Hrd H x.s l) (hx : ((f : Int), x) ∈ H) : Hrd H x.s (Nl.M.hl l f x) := by
 unfold Nl.M.hl; split
 ·intro j; rw [List.getD_eq_getElem?_getD, List.getElem?_set]; by_cases e : f = j
  ·subst e; rw [if_pos rfl]; by_cases hf : f < l.length
   ·rw [if_pos hf]; exact fun _ => hx
   ·rw [if_neg hf]; intro e; cases e
  ·rw [if_neg e, ← List.getD_eq_getElem?_getD]; exact h j
 ·exact h
theorem Hrd.agree {l : List W} {x : V} (h : Hrd H x.s l) (hl : l.length = n) (ha : Nl.M.hag n l (Nl.M.hh x) = true) : Chosen n H x.s x.b x.v := by
 unfold Nl.M.hag at ha; rw [decide_eq_true_eq, hl] at ha; refine ⟨_, ha, fun i hi hq => ?_⟩; obtain ⟨e1, e2, e3⟩ := wq_yes hq; have := h i (by rw [e1]; rfl); rw [e2, e3] at this; exact this
theorem Le.tl {l : Nl.M.S} (h : Le n H l) {s : Int} {v : ByteArray} (hm : Nl.M.may l s v = true) (hc : ∃ b, Chosen n H s b v) : Le n H (Nl.M.tl l s v) := by
 refine ⟨h.nn, h.base, h.ok.tl hm, fun k u e => ?_, fun k j => ?_⟩
 ·have e' : Nl.M.fup l.td s (some v) k = some u := e; by_cases hk : k = s
  ·subst hk; rw [Nl.M.fup_same] at e'; cases e'; exact hc
  ·rw [Nl.M.fup_other _ hk] at e'; exact h.td k u e'
 ·show ((Nl.M.fup l.vs s [] k).getD j w0).g = true → ((j : Int), (⟨k, ((Nl.M.fup l.vs s [] k).getD j w0).b, ((Nl.M.fup l.vs s [] k).getD j w0).v⟩ : V)) ∈ H; by_cases hk : k = s
  ·subst hk; rw [Nl.M.fup_same]; intro e; cases e
  ·rw [Nl.M.fup_other _ hk]; exact h.vs k j
theorem Le.sv {l : Nl.M.S} (h : Le n H l) {s : Int} {R : List W} (ok : Nl.M.Ok (Nl.M.sv (Nl.M.rws l s) s R)) (hr : Hrd H s R) : Le n H (Nl.M.sv (Nl.M.rws l s) s R) := by
 obtain ⟨r1, r2, r3, r4, r5⟩ := Nl.M.rws_td l s; refine ⟨r2.trans h.nn, r3.trans h.base, ok, fun k u e => ?_, fun k j => ?_⟩
 ·have e' : (Nl.M.rws l s).td k = some u := e; rw [r1] at e'; exact h.td k u e'
 ·show ((Nl.M.fup (Nl.M.rws l s).vs s R k).getD j w0).g = true → ((j : Int), (⟨k, ((Nl.M.fup (Nl.M.rws l s).vs s R k).getD j w0).b, ((Nl.M.fup (Nl.M.rws l s).vs s R k).getD j w0).v⟩ : V)) ∈ H; by_cases hk : k = s
  ·subst hk; rw [Nl.M.fup_same]; exact hr j
  ·rw [Nl.M.fup_other _ hk]; have e : (Nl.M.rws l s).vs k = l.vs k := by
    unfold Nl.M.rws; split
    ·exact Nl.M.fup_other _ hk
    ·rfl
   rw [e]; exact h.vs k j
theorem Le.hs {l : Nl.M.S} (h : Le n H l) {f : Int} {x : V} (hx : (f, x) ∈ H) : Le n H (Nl.M.hs l f x) := by
 unfold Nl.M.hs; split
 ·rename_i hk
  obtain ⟨k0, k1, k2, k3⟩ := Nl.M.hok_yes hk; obtain ⟨m1, m2, m3, m4⟩ := Nl.M.may_yes k3; obtain ⟨r1, r2, r3, r4, r5⟩ := Nl.M.rws_td l x.s; have hsv : Nl.M.Ok (Nl.M.sv (Nl.M.rws l x.s) x.s (Nl.M.hl (Nl.M.row l x.s) f.toNat x)) := (h.ok.rws m4).sv (by rw [r1]; exact m4) (by rw [Nl.M.hl_len, Nl.M.row_len h.ok, r2]); have hr : Hrd H x.s (Nl.M.hl (Nl.M.row l x.s) f.toNat x) := (Hrd.row h x.s).put (by rw [show ((f.toNat : Nat) : Int) = f by omega]; exact hx); have hS := h.sv hsv hr; split
  ·rename_i ha
   refine hS.tl (by rw [Nl.M.may_of x.s x.v (show (Nl.M.sv (Nl.M.rws l x.s) x.s (Nl.M.hl (Nl.M.row l x.s) f.toNat x)).td = l.td from r1) r3]; exact k3) ⟨x.b, ?_⟩; rw [h.nn] at ha; exact hr.agree (by rw [Nl.M.hl_len, Nl.M.row_len h.ok, h.nn]; omega) ha
  ·exact hS
 ·exact h
theorem Le.ts {l : Nl.M.S} (h : Le n H l) {s : Int} {v : ByteArray} (hc : ∃ b, Chosen n H s b v) : Le n H (Nl.M.ts l s v) := by
 unfold Nl.M.ts; split
 ·next e => exact h.tl e hc
 ·exact h
theorem Le.q6 : ∀ (v : List V) {l : Nl.M.S}, Le n H l → (∀ w ∈ v, ∃ b, Chosen n H w.s b w.v) → Le n H (Rm.q6L l v)
 | [], _, h, _ => h
 | x :: v, l, h, hv => Le.q6 v (h.ts (hv x List.mem_cons_self)) fun w hw => hv w (List.mem_cons_of_mem _ hw)
theorem Le.log {l : Nl.M.S} (h : Le n H l) {s : Int} (hs : 0 ≤ s) (j : Nat) (hj : j < (Nl.M.lgs l s).length) : ∃ b, Chosen n H (s + j) b ((Nl.M.lgs l s)[j]) := by
 obtain ⟨h1, h2, h3, h4⟩ := h.ok.nx; have hb := h.base; have hmax : max s l.base = s := by omega
 have hlen : (Nl.M.lgs l s).length = (Nl.M.nx l - s).toNat := by
  unfold Nl.M.lgs Nl.M.lgn; rw [Nl.M.lg_len, hmax]
 rw [hlen] at hj; have hv : (Nl.M.lgs l s)[j]'(by rw [hlen]; exact hj) = (l.td (s + (j : Nat))).getD ⟨#[]⟩ := by
  unfold Nl.M.lgs Nl.M.lgn; simp only [hmax]; exact Nl.M.lg_get _ _ _ _ hj
 have := h1 (s + j) (by omega) (by omega); obtain ⟨v, e⟩ := Option.isSome_iff_exists.1 this; rw [hv, e]; exact h.td _ _ e
theorem Sys.take4 (h : Sys n rs way P H A L D) {i : Nat} (hi : i < n) {f : Int} {x : V} (hx : (f, x) ∈ H) : Sys n (upR rs i (Rm.q4S (rs i) f x)) (way ++ []) P H A L D := by
 have hd := h.nd i hi; exact h.still hi ⟨hd.nn, hd.me, hd.a, hd.p, hd.l.hs hx⟩ (by simp)
theorem Sys.take6 (h : Sys n rs way P H A L D) {i : Nat} (hi : i < n) {v : List V} (hv : ∀ w ∈ v, ∃ b, Chosen n H w.s b w.v) : Sys n (upR rs i (Rm.q6S (rs i) v)) (way ++ []) P H A L D := by
 have hd := h.nd i hi; exact h.still hi ⟨hd.nn, hd.me, hd.a, hd.p, .q6 v hd.l hv⟩ (by simp)
theorem Sys.take5 (h : Sys n rs way P H A L D) {i : Nat} (hi : i < n) {f : Int} (hf : 0 ≤ f ∧ f < n) (s : Int) : Sys n (upR rs i (rs i)) (way ++ Rm.q5N (rs i) f s) P H A L D := by
 have hd := h.nd i hi; refine h.still hi hd fun y hy => ?_; unfold Rm.q5N at hy; rw [hd.l.base] at hy
 split at hy
 ·cases hy
 ·split at hy
  ·cases hy
  ·rw [List.mem_singleton] at hy; subst hy; have := hd.me; refine ⟨by simp only; omega, hf, by simp, by simp, by simp, by simp, fun _ w hw => ?_⟩; unfold Rm.vts at hw; obtain ⟨j, hj, rfl⟩ := List.mem_map.1 hw; rw [List.mem_range] at hj; unfold Rm.q5n at hj; have hj' : j < (Nl.M.lgs (rs i).l s).length := by omega
   obtain ⟨b, hb⟩ := hd.l.log (by omega) j hj'; refine ⟨b, ?_⟩; simp only; rw [List.getD_eq_getElem?_getD, List.getElem?_eq_getElem hj', Option.getD_some]; exact hb
theorem upR_self (rs : Nat → R) (i : Nat) : upR rs i (rs i) = rs := by
 funext j
 unfold upR; split
 ·next e => rw [e]
 ·rfl
theorem kd_is (x : NT) : (Rm.kd x = 1 ∧ x.k = 1) ∨ (Rm.kd x = 2 ∧ x.k = 2) ∨ (Rm.kd x = 3 ∧ x.k = 3 ∧ x.v.length = 1) ∨ (Rm.kd x = 4 ∧ x.k = 4 ∧ x.v.length = 1) ∨ Rm.kd x = 5 ∨ (Rm.kd x = 6 ∧ x.k = 6) ∨ Rm.kd x = 0 := by
 unfold Rm.kd; split
 ·next h => exact .inl ⟨rfl, h⟩
 split
 ·next h => exact .inr (.inl ⟨rfl, h⟩)
 split
 ·next h => exact .inr (.inr (.inl ⟨rfl, h⟩))
 split
 ·next h => exact .inr (.inr (.inr (.inl ⟨rfl, h⟩)))
 split
 ·exact .inr (.inr (.inr (.inr (.inl rfl))))
 split
 ·next h => exact .inr (.inr (.inr (.inr (.inr (.inl ⟨rfl, h⟩)))))
 ·exact .inr (.inr (.inr (.inr (.inr (.inr rfl)))))
theorem one_mem {v : List V} (h : v.length = 1) : v.headD Rm.v0 ∈ v := by
 match v, h with
 | [w], _ => exact List.mem_singleton.2 rfl
theorem Sys.take (h : Sys n rs way P H A L D) (hD : D ⟨#[]⟩) {i : Nat} (hi : i < n) {x : NT} (hx : Nt n P H A L x) : Was n H D (upR rs i (Rm.tkS (rs i) x)) (way ++ Rm.tkN (rs i) x) := by
 unfold Rm.tkS Rm.tkN; split
 ·unfold Rm.doS Rm.doN; rcases kd_is x with ⟨e, k⟩ | ⟨e, k⟩ | ⟨e, k, o⟩ | ⟨e, k, o⟩ | e | ⟨e, k⟩ | e <;> rw [e]
  ·exact h.take1 hi hx k
  ·exact h.take2 hD hi hx k
  ·exact h.take3 hi (hx.k3 k _ (one_mem o))
  ·exact .of (h.take4 hi (hx.k4 k _ (one_mem o)))
  ·exact .of (h.take5 hi hx.f _)
  ·exact .of (h.take6 hi (hx.k6 k))
  ·show Was n H D (upR rs i (rs i)) (way ++ []); rw [upR_self, List.append_nil]; exact .of h
 ·rw [upR_self, List.append_nil]; exact .of h
def Lg (n : Nat) (H : Hs) (a : List ByteArray) : Prop := ∀ (j : Nat) (h : j < a.length), ∃ b, Chosen n H j b a[j]
theorem Lg.mono {a : List ByteArray} {H' : Hs} (h : Lg n H a) (g : ∀ x ∈ H, x ∈ H') : Lg n H' a := fun j hj => by
 obtain ⟨b, hb⟩ := h j hj; exact ⟨b, hb.mono g⟩
theorem Sys.zero (hn : 1 ≤ n ∧ n ≤ 7) : Sys n (fun i => Rm.r0 n i) [] (fun _ => ⟨0, 0⟩) [] [] [] D := by
 refine ⟨hn, ⟨by simp, by simp, by simp, by simp, by simp⟩, by simp, by simp, by simp, fun i hi => ⟨rfl, rfl, ⟨rfl, .zero, rfl, fun u hu => (by cases hu), fun u hu => (by cases hu)⟩, .zero hn hi (by simp), .zero hn rfl rfl (fun _ => rfl) (fun _ => rfl)⟩, by simp, by simp⟩
end
structure T where
 n : Nat
 rs : Nat → R
 way : List NT
def zn : NT := ⟨0, 0, 0, 0, Rm.e0, []⟩
def t0 (n : Nat) : T := ⟨n, fun i => Rm.r0 n i, []⟩
def isT (t : T) (i : Int) : Bool := decide (0 ≤ i) && decide (i < t.n)
def say (t : T) (i : Nat) (r : R) (out : List NT) : T := { t with rs := upR t.rs i r, way := t.way ++ out.take (1024 - t.way.length) }
def at' (i : Int) (m : Nat) : Nat := (i % (m : Int)).toNat
def ldT (t : T) (i : Int) : T := if isT t i then say t i.toNat (Rm.ldS (t.rs i.toNat)) (Rm.ldN (t.rs i.toNat)) else t
def ppcT (t : T) (i : Int) (v : ByteArray) : Int := if isT t i then Np.M.ppc (t.rs i.toNat).p v else 1
def ppT (t : T) (i : Int) (v : ByteArray) : T := if isT t i then say t i.toNat (Rm.ppS (t.rs i.toNat) v) (Rm.ppN (t.rs i.toNat) v) else t
def akT (t : T) (i z : Int) : T := if isT t i then say t i.toNat (t.rs i.toNat) (Rm.akN (t.rs i.toNat) z) else t
def drT (t : T) (k : Int) : T := { t with way := t.way.eraseIdx (at' k t.way.length) }
def atT (t : T) (k : Int) : NT := t.way.getD (at' k t.way.length) zn
def dlT (t : T) (k : Int) : T := if t.way.length = 0 then t else say (drT t k) (atT t k).t.toNat (Rm.tkS (t.rs (atT t k).t.toNat) (atT t k)) (Rm.tkN (t.rs (atT t k).t.toNat) (atT t k))
def dbT (t : T) (k : Int) : T := if t.way.length = 0 ∨ 1024 ≤ t.way.length then t else { t with way := t.way ++ [atT t k] }
def crT (t : T) (i : Int) : T := if isT t i then { t with rs := upR t.rs i.toNat (Rm.crS (t.rs i.toNat)) } else t
def logT (t : T) (i : Int) : List ByteArray := if isT t i then Rm.logL (t.rs i.toNat) else []
theorem isT_yes {t : T} {i : Int} (h : isT t i = true) : i.toNat < t.n := by
 unfold isT at h; simp only [Bool.and_eq_true, decide_eq_true_eq] at h; omega
theorem at_lt (i : Int) {m : Nat} (h : 0 < m) : at' i m < m := by
 unfold at'; have h1 := Int.emod_nonneg i (show (m : Int) ≠ 0 by omega); have h2 := Int.emod_lt_of_pos i (show (0 : Int) < m by omega); omega
theorem atT_mem {t : T} {k : Int} (h : t.way.length ≠ 0) : atT t k ∈ t.way := by
 unfold atT; have := at_lt k (show 0 < t.way.length by omega); rw [List.getD_eq_getElem?_getD, List.getElem?_eq_getElem this, Option.getD_some]; exact List.getElem_mem this
def Wel (t : T) (D : ByteArray → Prop) (long : List ByteArray) : Prop := ∃ P H A L, Sys t.n t.rs t.way P H A L D ∧ Lg t.n H long
section
variable {t : T} {D : ByteArray → Prop} {long : List ByteArray}
theorem Wel.zero {n : Nat} (hn : 1 ≤ n ∧ n ≤ 7) : Wel (t0 n) D [] := ⟨_, _, _, _, Sys.zero hn, fun j h => by cases h⟩
theorem say_mem {l out : List NT} {m : Nat} : ∀ x ∈ l ++ out.take m, x ∈ l ++ out := fun x hx => by
 rcases List.mem_append.1 hx with h | h
 ·exact List.mem_append_left _ h
 ·exact List.mem_append_right _ (List.mem_of_mem_take h)
theorem wel_say {H : Hs} {i : Nat} {r : R} {out : List NT} (h : Was t.n H D (upR t.rs i r) (t.way ++ out)) (hl : Lg t.n H long) : Wel (say t i r out) D long := by
 obtain ⟨P, H', A, L, g, h1⟩ := h; exact ⟨P, H', A, L, h1.fewer say_mem, hl.mono g⟩
theorem Wel.lead (h : Wel t D long) (i : Int) : Wel (ldT t i) D long := by
 unfold ldT; split
 ·next e =>
  obtain ⟨P, H, A, L, h1, h2⟩ := h; exact wel_say (h1.lead (isT_yes e)) h2
 ·exact h
theorem Wel.propose (h : Wel t D long) (i : Int) {v : ByteArray} (hv : ppcT t i v = 0 → D v) : Wel (ppT t i v) D long := by
 unfold ppT; unfold ppcT at hv; split
 ·next e =>
  rw [if_pos e] at hv; obtain ⟨P, H, A, L, h1, h2⟩ := h; exact wel_say (h1.propose (isT_yes e) hv) h2
 ·exact h
theorem Wel.ask (h : Wel t D long) (i z : Int) : Wel (akT t i z) D long := by
 unfold akT; split
 ·next e =>
  obtain ⟨P, H, A, L, h1, h2⟩ := h; exact wel_say (.of (h1.ask (isT_yes e) z)) h2
 ·exact h
theorem Wel.drop (h : Wel t D long) (k : Int) : Wel (drT t k) D long := by
 obtain ⟨P, H, A, L, h1, h2⟩ := h; exact ⟨P, H, A, L, h1.fewer fun x hx => List.mem_of_mem_eraseIdx hx, h2⟩
theorem Wel.deliver (h : Wel t D long) (hD : D ⟨#[]⟩) (k : Int) : Wel (dlT t k) D long := by
 unfold dlT; split
 ·exact h
 ·next e =>
  obtain ⟨P, H, A, L, h1, h2⟩ := h; have hm := h1.nt _ (atT_mem (k := k) e); have h3 : Sys (drT t k).n (drT t k).rs (drT t k).way P H A L D := h1.fewer fun x hx => List.mem_of_mem_eraseIdx hx; exact wel_say (t := drT t k) (h3.take hD (by have := hm.t; show _ < t.n; omega) hm) h2
theorem Wel.double (h : Wel t D long) (k : Int) : Wel (dbT t k) D long := by
 unfold dbT; split
 ·exact h
 ·next e =>
  obtain ⟨P, H, A, L, h1, h2⟩ := h; refine ⟨P, H, A, L, h1.fewer fun x hx => ?_, h2⟩; rcases List.mem_append.1 hx with hx | hx
  ·exact hx
  ·rw [List.mem_singleton] at hx; rw [hx]; exact atT_mem (by omega)
theorem Wel.crash (h : Wel t D long) (i : Int) : Wel (crT t i) D long := by
 unfold crT; split
 ·next e =>
  obtain ⟨P, H, A, L, h1, h2⟩ := h; exact ⟨P, H, A, L, h1.crash (isT_yes e), h2⟩
 ·exact h
theorem say_len (t : T) (i : Nat) (r : R) (out : List NT) (h : t.way.length ≤ 1024) : (say t i r out).way.length ≤ 1024 := by
 unfold say; rw [List.length_append, List.length_take]; omega
end
def Nb (x : NT) : Prop := x.v.length ≤ 1024 ∧ ∀ y ∈ x.v, 0 ≤ y.s ∧ y.s < 1024
section
variable {n : Nat} {i : Int} {P : Int → E} {H : Hs} {A : List V} {L : Ls} {r : R}
theorem sts_c (p : Np.M.S) (b : E) : (Np.M.sts p b).c = p.c := by unfold Np.M.sts; split <;> rfl
theorem prs_c (p : Np.M.S) (k : Int) (b : E) (l : List V) : (Np.M.prs p k b l).c ≤ p.c + l.length := by
 have h := (Np.M.cntL_keep l { p with who := Np.M.wset p.who k.toNat }).2.2.2.2.2.2
 unfold Np.M.prs; split
 ·split
  ·exact h
  ·exact h
 ·exact Nat.le_add_right _ _
theorem fls_c (p : Np.M.S) : (Np.M.fls p).c = p.c := by unfold Np.M.fls; split <;> rfl
theorem ts_c (l : Nl.M.S) (k : Int) (v : ByteArray) : (Nl.M.ts l k v).c ≤ l.c + 1 := by
 unfold Nl.M.ts; split
 ·exact Nat.le_refl _
 ·exact Nat.le_succ _
theorem q6_c : ∀ (v : List V) (l : Nl.M.S), (Rm.q6L l v).c ≤ l.c + v.length
 | [], l => Nat.le_refl _
 | x :: v, l => by
  have h1 := q6_c v (Nl.M.ts l x.s x.v); have h2 := ts_c l x.s x.v; have e : Rm.q6L l (x :: v) = Rm.q6L (Nl.M.ts l x.s x.v) v := rfl; rw [e, List.length_cons]; omega
theorem hs_c (l : Nl.M.S) (f : Int) (x : V) : (Nl.M.hs l f x).c ≤ l.c + 2 := by
 have h := (Nl.M.rws_td l x.s).2.2.2.2; unfold Nl.M.hs; split
 ·split
  ·show (Nl.M.rws l x.s).c + 1 ≤ _; omega
  ·show (Nl.M.rws l x.s).c ≤ _; omega
 ·omega
theorem tk_c (r : R) (x : NT) : (Rm.tkS r x).p.c ≤ r.p.c + x.v.length ∧ (Rm.tkS r x).l.c ≤ r.l.c + x.v.length + 2 := by
 unfold Rm.tkS; split
 ·unfold Rm.doS; rcases kd_is x with ⟨e, k⟩ | ⟨e, k⟩ | ⟨e, k, o⟩ | ⟨e, k, o⟩ | e | ⟨e, k⟩ | e <;> rw [e]
  ·refine ⟨?_, by show r.l.c ≤ _; omega⟩; show (Np.M.sts r.p x.b).c ≤ _; rw [sts_c]; omega
  ·refine ⟨?_, by show r.l.c ≤ _; omega⟩; have := prs_c r.p x.f x.b x.v; show (if Np.M.prb r.p x.f x.b then Np.M.fls (Rm.q2P r x.f x.b x.v) else Rm.q2P r x.f x.b x.v).c ≤ _; split
   ·rw [fls_c]; exact this
   ·exact this
  ·refine ⟨?_, by show r.l.c ≤ _; omega⟩; show (Np.M.sts r.p _).c ≤ _; rw [sts_c]; omega
  ·refine ⟨by show r.p.c ≤ _; omega, ?_⟩; have := hs_c r.l x.f (x.v.headD Rm.v0); show (Nl.M.hs r.l x.f (x.v.headD Rm.v0)).c ≤ _; omega
  ·exact ⟨by show r.p.c ≤ _; omega, by show r.l.c ≤ _; omega⟩
  ·refine ⟨by show r.p.c ≤ _; omega, ?_⟩; have := q6_c x.v r.l; show (Rm.q6L r.l x.v).c ≤ _; omega
  ·exact ⟨by show r.p.c ≤ _; omega, by show r.l.c ≤ _; omega⟩
 ·exact ⟨by omega, by omega⟩
theorem toF_nb {r : R} {k s : Int} {b : E} {v : List V} (h : v.length ≤ 1024) (h2 : ∀ y ∈ v, 0 ≤ y.s ∧ y.s < 1024) : ∀ x ∈ Rm.toF r k s b v r.n.toNat, Nb x := by
 intro x hx; obtain ⟨x1, x2, x3, x4, x5, x6, x7⟩ := toF_nt hx; unfold Nb; rw [x5]; exact ⟨h, h2⟩
theorem one_nb {r : R} {k : Int} {u : V} (h : 0 ≤ u.s ∧ u.s < 1024) : ∀ x ∈ Rm.toE r k u, Nb x :=
 toF_nb (by simp) (by simpa using h)
theorem tk_nb (h : Nd n i P H A L r) (hn : 1 ≤ n ∧ n ≤ 7) (x : NT) : (∀ y ∈ Rm.tkN r x, Nb y) ∧ (Rm.tkN r x).length ≤ 7168 := by
 have hr := h.nn; unfold Rm.tkN; split
 ·unfold Rm.doN; rcases kd_is x with ⟨e, k⟩ | ⟨e, k⟩ | ⟨e, k, o⟩ | ⟨e, k, o⟩ | e | ⟨e, k⟩ | e <;> rw [e]
  ·show (∀ y ∈ Rm.q1N r x.f x.b x.s, Nb y) ∧ (Rm.q1N r x.f x.b x.s).length ≤ 7168; unfold Rm.q1N; split
   ·refine ⟨fun y hy => ?_, by simp⟩; rw [List.mem_singleton] at hy; subst hy; unfold Nb Na.M.prl; simp only; split
    ·refine ⟨Nat.le_trans (Na.M.vts_le _ _) h.a.ok.len, fun y hy => ?_⟩; have hy' := (Na.M.mem_vts.1 hy).1; have := h.a.ok.lo y hy'; have := h.a.ok.hi y hy'; have := h.a.ok.b0; omega
    ·simp
   ·simp
  ·show (∀ y ∈ Rm.q2N r x.f x.b x.v, Nb y) ∧ (Rm.q2N r x.f x.b x.v).length ≤ 7168; unfold Rm.q2N; split
   ·have ok : Np.M.Ok (Rm.q2P r x.f x.b x.v) := h.p.ok.prs _ _ _; have hlen := flo_len ok; have hs : ∀ u ∈ Np.M.flo (Rm.q2P r x.f x.b x.v), 0 ≤ u.s ∧ u.s < 1024 := by
     intro u hu; have h1 := ok.a0; have h2 := ok.fx; have h3 := ok.x1; have h4 := ok.af; generalize Rm.q2P r x.f x.b x.v = p at *; unfold Np.M.flo Np.M.fl at hu
     split at hu
     ·obtain ⟨j, hj, rfl⟩ := List.mem_map.1 hu; rw [List.mem_range] at hj; simp only [Np.M.fl1]; omega
     ·cases hu
    generalize Np.M.flo (Rm.q2P r x.f x.b x.v) = l at hlen hs; refine ⟨fun y hy => ?_, ?_⟩
    ·obtain ⟨u, hu, hy⟩ := List.mem_flatMap.1 hy; exact one_nb (hs u hu) y hy
    ·have : ∀ l : List V, (Rm.q2F r l).length = l.length * r.n.toNat := by
      intro l
      induction l with
      | nil => simp [Rm.q2F]
      | cons u l ih =>
       have e0 : Rm.q2F r (u :: l) = Rm.toE r 3 u ++ Rm.q2F r l := rfl; rw [e0, List.length_append, ih, List.length_cons, Nat.succ_mul]; unfold Rm.toE; rw [Rm.toF_len]; omega
     rw [this]; have := Nat.mul_le_mul hlen (show r.n.toNat ≤ 7 by omega); omega
   ·simp
  ·show (∀ y ∈ Rm.q3N r (x.v.headD Rm.v0), Nb y) ∧ (Rm.q3N r (x.v.headD Rm.v0)).length ≤ 7168; unfold Rm.q3N; split
   ·next e =>
    obtain ⟨a1, a2, a3, a4⟩ := Na.M.acb_yes e; have := h.a.ok.b0; refine ⟨one_nb (by omega), ?_⟩; unfold Rm.toE; rw [Rm.toF_len]; omega
   ·simp
  ·simp
  ·show (∀ y ∈ Rm.q5N r x.f x.s, Nb y) ∧ (Rm.q5N r x.f x.s).length ≤ 7168; unfold Rm.q5N; split
   ·simp
   ·split
    ·simp
    ·next e1 e2 =>
     refine ⟨fun y hy => ?_, by simp⟩; rw [List.mem_singleton] at hy; subst hy; unfold Nb; simp only; rw [Rm.vts_len]; refine ⟨by omega, fun y hy => ?_⟩; unfold Rm.vts at hy; obtain ⟨j, hj, rfl⟩ := List.mem_map.1 hy; rw [List.mem_range] at hj; unfold Rm.q5n Nl.M.lgs Nl.M.lgn at hj; rw [Nl.M.lg_len] at hj; have := h.l.ok.nx.2.2.2; have := h.l.ok.base; simp only; omega
  ·simp
  ·simp
 ·simp
theorem ld_nb (h : Nd n i P H A L r) (hn : 1 ≤ n ∧ n ≤ 7) : (∀ y ∈ Rm.ldN r, Nb y) ∧ (Rm.ldN r).length ≤ 7 ∧ (Rm.ldS r).p.c = r.p.c ∧ (Rm.ldS r).l.c = r.l.c := by
 have hr := h.nn; unfold Rm.ldN Rm.ldS; split
 ·refine ⟨toF_nb (by simp) (by simp), by rw [Rm.toF_len]; omega, ?_, rfl⟩; show (Np.M.lds _ _ _).c = _; unfold Np.M.lds
  split <;> rfl
 ·simp
theorem pp_nb (h : Nd n i P H A L r) (hn : 1 ≤ n ∧ n ≤ 7) (v : ByteArray) : (∀ y ∈ Rm.ppN r v, Nb y) ∧ (Rm.ppN r v).length ≤ 7 ∧ (Rm.ppS r v).p.c = r.p.c ∧ (Rm.ppS r v).l.c = r.l.c := by
 have hr := h.nn; have h1 := h.p.ok.a0; have h2 := h.p.ok.fx; have h4 := h.p.ok.af; unfold Rm.ppN; refine ⟨?_, ?_, ?_, rfl⟩
 ·split
  ·next e =>
   refine one_nb ?_; unfold Np.M.ppv; rw [if_pos e]; simp only; unfold Np.M.ppc at e
   split at e
   ·omega
   ·split at e
    ·omega
    ·omega
  ·simp
 ·split
  ·unfold Rm.toE; rw [Rm.toF_len]; omega
  ·simp
 ·show (Np.M.pps r.p v).c = _; unfold Np.M.pps
  split <;> rfl
theorem cr_c (h : Nd n i P H A L r) : (Rm.crS r).p.c = 0 ∧ (Rm.crS r).l.c = 0 := by
 refine ⟨rfl, ?_⟩; show (Rm.lf r.n r.a.base).c = 0; rw [h.a.b0]; rfl
end
structure Bd (t : T) (m : Nat) : Prop where
 way : ∀ x ∈ t.way, Nb x
 len : t.way.length ≤ 1024
 c : ∀ i, i < t.n → (t.rs i).p.c ≤ 1024 * m ∧ (t.rs i).l.c ≤ 1100 * m
section
variable {t : T} {m : Nat} {D : ByteArray → Prop} {long : List ByteArray}
theorem Bd.up (h : Bd t m) : Bd t (m + 1) := ⟨h.way, h.len, fun i hi => by have := h.c i hi; omega⟩
theorem Bd.say (h : Bd t m) {i : Nat} {r : R} {out : List NT} (ho : ∀ y ∈ out, Nb y) (h1 : i < t.n → r.p.c ≤ 1024 * (m + 1)) (h2 : i < t.n → r.l.c ≤ 1100 * (m + 1)) : Bd (say t i r out) (m + 1) := by
 refine ⟨fun x hx => ?_, say_len t i r out h.len, fun j hj => ?_⟩
 ·rcases List.mem_append.1 hx with hx | hx
  ·exact h.way x hx
  ·exact ho x (List.mem_of_mem_take hx)
 ·show (upR t.rs i r j).p.c ≤ _ ∧ (upR t.rs i r j).l.c ≤ _; unfold upR; split
  ·next e => subst e; exact ⟨h1 hj, h2 hj⟩
  ·have := h.c j hj; omega
theorem Bd.zero (n : Nat) : Bd (t0 n) 0 := ⟨by simp [t0], by simp [t0], fun i hi => ⟨Nat.le_refl _, Nat.le_refl _⟩⟩
theorem Bd.lead (h : Bd t m) (w : Wel t D long) (i : Int) : Bd (ldT t i) (m + 1) := by
 unfold ldT; split
 ·next e =>
  obtain ⟨P, H, A, L, w1, w2⟩ := w; obtain ⟨g1, g2, g3, g4⟩ := ld_nb (w1.nd _ (isT_yes e)) w1.hn; have := h.c _ (isT_yes e); exact h.say g1 (fun _ => by rw [g3]; omega) (fun _ => by rw [g4]; omega)
 ·exact h.up
theorem Bd.propose (h : Bd t m) (w : Wel t D long) (i : Int) (v : ByteArray) : Bd (ppT t i v) (m + 1) := by
 unfold ppT; split
 ·next e =>
  obtain ⟨P, H, A, L, w1, w2⟩ := w; obtain ⟨g1, g2, g3, g4⟩ := pp_nb (w1.nd _ (isT_yes e)) w1.hn v; have := h.c _ (isT_yes e); exact h.say g1 (fun _ => by rw [g3]; omega) (fun _ => by rw [g4]; omega)
 ·exact h.up
theorem Bd.ask (h : Bd t m) (i z : Int) : Bd (akT t i z) (m + 1) := by
 unfold akT; split
 ·next e =>
  have := h.c _ (isT_yes e); refine h.say (fun y hy => ?_) (fun _ => by omega) (fun _ => by omega); unfold Rm.akN at hy
  split at hy
  ·rw [List.mem_singleton] at hy; subst hy; exact ⟨by simp, by simp⟩
  ·cases hy
 ·exact h.up
theorem Bd.drop (h : Bd t m) (k : Int) : Bd (drT t k) m :=
 ⟨fun x hx => h.way x (List.mem_of_mem_eraseIdx hx), Nat.le_trans (List.length_eraseIdx_le _ _) h.len, h.c⟩
theorem Bd.deliver (h : Bd t m) (w : Wel t D long) (k : Int) : Bd (dlT t k) (m + 1) := by
 unfold dlT; split
 ·exact h.up
 ·next e =>
  obtain ⟨P, H, A, L, w1, w2⟩ := w; have hm := w1.nt _ (atT_mem (k := k) e); have hb := (h.way _ (atT_mem (k := k) e)).1; have ht : (atT t k).t.toNat < t.n := by have := hm.t; omega
  obtain ⟨g1, g2⟩ := tk_nb (w1.nd _ ht) w1.hn (atT t k); obtain ⟨c1, c2⟩ := tk_c (t.rs (atT t k).t.toNat) (atT t k); have := h.c _ ht; exact (h.drop k).say g1 (fun _ => by omega) (fun _ => by omega)
theorem Bd.double (h : Bd t m) (k : Int) : Bd (dbT t k) m := by
 unfold dbT; split
 ·exact h
 ·next e =>
  refine ⟨fun x hx => ?_, by simp only [List.length_append, List.length_singleton]; omega, h.c⟩; rcases List.mem_append.1 hx with hx | hx
  ·exact h.way x hx
  ·rw [List.mem_singleton] at hx; rw [hx]; exact h.way _ (atT_mem (by omega))
theorem Bd.crash (h : Bd t m) (w : Wel t D long) (i : Int) : Bd (crT t i) m := by
 unfold crT; split
 ·next e =>
  obtain ⟨P, H, A, L, w1, w2⟩ := w; obtain ⟨g1, g2⟩ := cr_c (w1.nd _ (isT_yes e)); refine ⟨h.way, h.len, fun j hj => ?_⟩; show (upR t.rs i.toNat _ j).p.c ≤ _ ∧ (upR t.rs i.toNat _ j).l.c ≤ _; unfold upR; split
  ·rw [g1, g2]; exact ⟨Nat.zero_le _, Nat.zero_le _⟩
  ·exact h.c j hj
 ·exact h
end
def ddT (t : T) (k a b : Int) (v : ByteArray) : T :=
 if k = 0 then dlT t a else if k = 1 then drT t a else if k = 2 then dbT t a else if k = 3 then ldT t a else if k = 4 then ppT t a v else if k = 5 then (if isT t b then akT t a b else t) else if k = 6 then crT t a else t
def ddb (t : T) (k a b : Int) (v : ByteArray) : Bool :=
 if k = 0 then !(t.way.length == 0) else if k = 1 then !(t.way.length == 0) else if k = 2 then !(t.way.length == 0) && decide (t.way.length < 1024) else if k = 3 then isT t a else if k = 4 then ppcT t a v == 0 else if k = 5 then isT t a && isT t b else if k = 6 then isT t a else false
section
variable {t : T} {m : Nat} {D : ByteArray → Prop} {long : List ByteArray}
theorem Wel.deed (h : Wel t D long) (hD : D ⟨#[]⟩) (k a b : Int) (v : ByteArray) (hv : k = 4 → ppcT t a v = 0 → D v) : Wel (ddT t k a b v) D long := by
 unfold ddT; split
 ·exact h.deliver hD a
 split
 ·exact h.drop a
 split
 ·exact h.double a
 split
 ·exact h.lead a
 split
 ·next e => exact h.propose a (hv e)
 split
 ·split
  ·exact h.ask a b
  ·exact h
 split
 ·exact h.crash a
 ·exact h
theorem Bd.deed (h : Bd t m) (w : Wel t D long) (k a b : Int) (v : ByteArray) : Bd (ddT t k a b v) (m + 1) := by
 unfold ddT; split
 ·exact h.deliver w a
 split
 ·exact (h.drop a).up
 split
 ·exact (h.double a).up
 split
 ·exact h.lead w a
 split
 ·exact h.propose w a v
 split
 ·split
  ·exact h.ask a b
  ·exact h.up
 split
 ·exact (h.crash w a).up
 ·exact h.up
theorem ddT_n (t : T) (k a b : Int) (v : ByteArray) : (ddT t k a b v).n = t.n := by
 unfold ddT dlT drT dbT ldT ppT akT crT
 repeat' split
 all_goals rfl
end
end Go.Proofs.YtgodnpngdbelhaaGreat.Tm
