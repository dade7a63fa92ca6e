import Derived.Test.YtlnedgjikkhplaaGreatGP01
import Derived.Test.YtlnedgjikkhplaaGreatRows
set_option maxRecDepth 100000
set_option maxHeartbeats 8000000
set_option linter.unusedVariables false
set_option linter.unusedSimpArgs false
namespace Go.Proofs.YtlnedgjikkhplaaGreat.Du
open Na.M (E V S S0 cmpE vld prs acs trs prb acb may put Up vts)
open Nc.M (enc encT)
abbrev R := E ⊕ (V ⊕ Int)
abbrev R.pr (b : E) : R := Sum.inl b
abbrev R.vo (v : V) : R := Sum.inr (Sum.inl v)
abbrev R.tr (u : Int) : R := Sum.inr (Sum.inr u)
theorem R.split {motive : R → Prop} (r : R) (pr : ∀ b, motive (R.pr b)) (vo : ∀ v, motive (R.vo v)) (tr : ∀ u, motive (R.tr u)) : motive r :=
 match r with
 | .inl b => pr b
 | .inr (.inl v) => vo v
 | .inr (.inr u) => tr u
def I64 (n : Int) : Prop := -9223372036854775808 ≤ n ∧ n ≤ 9223372036854775807
def Wf : R → Prop
 | .inl b => I64 b.i ∧ I64 b.t
 | .inr (.inl v) => I64 v.s ∧ I64 v.b.i ∧ I64 v.b.t ∧ v.v.size ≤ 4096
 | .inr (.inr u) => I64 u
def encB (b : E) : List UInt8 := enc b.i ++ enc b.t
def kb : R → List UInt8
 | .inl b => 1 :: encB b
 | .inr (.inl v) => 2 :: (enc v.s ++ (encB v.b ++ encT v.v.data.toList))
 | .inr (.inr u) => 3 :: enc u
def body (e k : Nat) (r : R) : List UInt8 := enc e ++ (enc k ++ kb r)
def raw (e k : Nat) (r : R) : List UInt8 := encT (K2.sealed (body e k r))
def fil (n : Nat) : Nat := (n + 63) / 64 * 64 - n
def rec (e k : Nat) (r : R) : List UInt8 := raw e k r ++ List.replicate (fil (raw e k r).length) 0
def sec (e k : Nat) (r : R) : Nat := ((raw e k r).length + 63) / 64
theorem rec_len (e k : Nat) (r : R) : (rec e k r).length = sec e k r * 64 := by
 unfold rec sec fil; rw [List.length_append, List.length_replicate]
 omega
theorem raw_pos (e k : Nat) (r : R) : 1 ≤ (raw e k r).length := Nc.M.encT_pos _
theorem sec_pos (e k : Nat) (r : R) : 1 ≤ sec e k r := by
 have := raw_pos e k r
 unfold sec
 omega
def recs (e : Nat) : Nat → List R → List UInt8
 | _, [] => []
 | k, r :: l => rec e k r ++ recs e (k + 1) l
def secs (e : Nat) : Nat → List R → Nat
 | _, [] => 0
 | k, r :: l => sec e k r + secs e (k + 1) l
theorem recs_len (e : Nat) : ∀ (l : List R) (k : Nat), (recs e k l).length = secs e k l * 64
 | [], _ => rfl
 | r :: l, k => by
  rw [recs, secs, List.length_append, rec_len, recs_len e l (k + 1)]
  omega
theorem recs_app (e : Nat) : ∀ (l q : List R) (k : Nat), recs e k (l ++ q) = recs e k l ++ recs e (k + l.length) q
 | [], q, k => rfl
 | r :: l, q, k => by
  rw [List.cons_append, recs, recs, recs_app e l q (k + 1), List.append_assoc, List.length_cons, show k + 1 + l.length = k + (l.length + 1) by omega]
theorem secs_app (e : Nat) : ∀ (l q : List R) (k : Nat), secs e k (l ++ q) = secs e k l + secs e (k + l.length) q
 | [], q, k => by simp [secs]
 | r :: l, q, k => by
  rw [List.cons_append, secs, secs, secs_app e l q (k + 1), List.length_cons, show k + 1 + l.length = k + (l.length + 1) by omega, Nat.add_assoc]
theorem secs_ge (e : Nat) : ∀ (l : List R) (k : Nat), l.length ≤ secs e k l
 | [], _ => Nat.zero_le _
 | r :: l, k => by
  have := secs_ge e l (k + 1)
  have := sec_pos e k r
  rw [secs, List.length_cons]
  omega
def redo (a : S) : R → S
 | .inl b => prs a b a.base
 | .inr (.inl v) => acs a v
 | .inr (.inr u) => trs a u
def mk (l : List R) : S := l.foldl redo S0
theorem mk_snoc (l : List R) (r : R) : mk (l ++ [r]) = redo (mk l) r := by
 unfold mk; rw [List.foldl_append]
 rfl
theorem redo_ok {a : S} (h : Na.M.Ok a) (r : R) : Na.M.Ok (redo a r) := by
 cases r using R.split with
 | pr b => exact Na.M.prs_ok h b _
 | vo v => exact Na.M.acs_ok h v
 | tr u => exact Na.M.trs_ok h u
theorem fold_ok : ∀ (l : List R) {a : S}, Na.M.Ok a → Na.M.Ok (l.foldl redo a)
 | [], a, h => h
 | r :: l, a, h => fold_ok l (redo_ok h r)
theorem mk_ok (l : List R) : Na.M.Ok (mk l) := fold_ok l Na.M.Ok.zero
structure Vd (a : S) : Prop where
 p : vld a.p = true
 l : ∀ x ∈ a.l, vld x.b = true
theorem Vd.zero : Vd S0 := ⟨by decide, by simp [S0]⟩
theorem may_vld {a : S} {b : E} (h : may a b = true) : vld b = true := by
 unfold may at h
 simp at h
 exact h.1
theorem Vd.prs {a : S} (h : Vd a) (b : E) (k : Int) : Vd (prs a b k) := by
 cases hb : prb a b k with
 | false => rw [Na.M.prs_no hb]; exact h
 | true => rw [Na.M.prs_yes hb]; exact ⟨may_vld (Na.M.prb_may hb), h.l⟩
theorem Vd.acs {a : S} (h : Vd a) (v : V) : Vd (acs a v) := by
 cases hb : acb a v with
 | false => rw [Na.M.acs_no hb]; exact h
 | true =>
  rw [Na.M.acs_yes hb]
  have h1 := may_vld (Na.M.acb_yes hb).1
  refine ⟨h1, fun x hx => ?_⟩
  rcases Na.M.mem_put hx with rfl | ⟨hx', _⟩
  ·exact h1
  ·exact h.l x hx'
theorem Vd.trs {a : S} (h : Vd a) (u : Int) : Vd (trs a u) := ⟨h.p, fun x hx => h.l x (Na.M.mem_vts.1 hx).1⟩
theorem Vd.redo {a : S} (h : Vd a) (r : R) : Vd (redo a r) := by
 cases r using R.split with
 | pr b => exact h.prs b _
 | vo v => exact h.acs v
 | tr u => exact h.trs u
theorem Vd.fold : ∀ (l : List R) {a : S}, Vd a → Vd (l.foldl Du.redo a)
 | [], a, h => h
 | r :: l, a, h => Vd.fold l (h.redo r)
theorem mk_vd (l : List R) : Vd (mk l) := Vd.fold l Vd.zero
theorem E_ext {a b : E} (h1 : a.i = b.i) (h2 : a.t = b.t) : a = b := by
 cases a; cases b; simp_all
def lt (a b : V) : Prop := cmpE a.b b.b < 0 ∨ (cmpE a.b b.b = 0 ∧ a.s < b.s)
theorem cmpE_flip (a b : E) : cmpE b a = - cmpE a b := (Na.M.order a b a).1
theorem cmpE_zero {a b : E} : cmpE a b = 0 ↔ a = b := by
 constructor
 ·intro h
  have := (Na.M.order a b a).2.1.1 h
  exact E_ext this.1 this.2
 ·rintro rfl
  exact Na.M.cmp_self a
theorem cmpE_le {a b c : E} (h1 : cmpE a b ≤ 0) (h2 : cmpE b c ≤ 0) : cmpE a c ≤ 0 := (Na.M.order a b c).2.2.2.1 h1 h2
theorem lt_trans' {a b c : V} (h1 : lt a b) (h2 : lt b c) : lt a c := by
 have e1 := cmpE_le (a := a.b) (b := b.b) (c := c.b)
 unfold lt at *
 have hz := @cmpE_zero a.b b.b
 have hz2 := @cmpE_zero b.b c.b
 have hz3 := @cmpE_zero a.b c.b
 rcases h1 with h1 | ⟨h1, h3⟩ <;> rcases h2 with h2 | ⟨h2, h4⟩
 ·left
  have := e1 (by omega) (by omega)
  rcases Int.lt_or_eq_of_le this with h | h
  ·exact h
  ·have e := hz3.1 h
   rw [e, cmpE_flip] at h1
   omega
 ·rw [hz2.1 h2] at h1; exact .inl h1
 ·rw [← hz.1 h1] at h2; exact .inl h2
 ·right
  rw [← hz2.1 h2]
  exact ⟨h1, by omega⟩
theorem lt_irrefl' (a : V) : ¬ lt a a := by
 unfold lt; rw [Na.M.cmp_self]
 omega
theorem lt_tri (a b : V) : lt a b ∨ (a.b = b.b ∧ a.s = b.s) ∨ lt b a := by
 unfold lt; rw [cmpE_flip a.b b.b]
 rcases Int.lt_trichotomy (cmpE a.b b.b) 0 with h | h | h
 ·exact .inl (.inl h)
 ·rcases Int.lt_trichotomy a.s b.s with h2 | h2 | h2
  ·exact .inl (.inr ⟨h, h2⟩)
  ·exact .inr (.inl ⟨cmpE_zero.1 h, h2⟩)
  ·exact .inr (.inr (.inr ⟨by omega, h2⟩))
 ·exact .inr (.inr (.inl (by omega)))
def ins (v : V) : List V → List V
 | [] => [v]
 | x :: l => if cmpE x.b v.b ≤ 0 then x :: ins v l else v :: x :: l
def byB (l : List V) : List V := l.foldl (fun a v => ins v a) []
theorem ins_perm (v : V) : ∀ l : List V, (ins v l).Perm (v :: l)
 | [] => List.Perm.refl _
 | x :: l => by
  rw [ins]
  split
  ·exact ((ins_perm v l).cons x).trans (List.Perm.swap v x l)
  ·exact List.Perm.refl _
theorem foldl_perm : ∀ (l a : List V), (l.foldl (fun a v => ins v a) a).Perm (l ++ a)
 | [], a => List.Perm.refl _
 | v :: l, a => by
  rw [List.foldl_cons]
  refine (foldl_perm l (ins v a)).trans ?_
  refine (List.Perm.append_left l (ins_perm v a)).trans ?_
  exact List.perm_middle
theorem byB_perm (l : List V) : (byB l).Perm l := by
 have := foldl_perm l []
 rw [List.append_nil] at this
 exact this
theorem mem_ins {v x : V} {l : List V} : x ∈ ins v l ↔ x = v ∨ x ∈ l := by
 rw [(ins_perm v l).mem_iff, List.mem_cons]
theorem ins_sorted (v : V) : ∀ l : List V, l.Pairwise lt → (∀ x ∈ l, x.s < v.s) → (ins v l).Pairwise lt
 | [], _, _ => by simp [ins]
 | x :: l, h, hs => by
  have hc := List.pairwise_cons.1 h
  have hx : x.s < v.s := hs x (by simp)
  rw [ins]
  split
  ·rename_i hle
   refine List.pairwise_cons.2 ⟨fun y hy => ?_, ins_sorted v l hc.2 fun y hy => hs y (by simp [hy])⟩
   rcases mem_ins.1 hy with rfl | hy'
   ·unfold lt; omega
   ·exact hc.1 y hy'
  ·rename_i hle
   have hv : lt v x := by unfold lt; rw [cmpE_flip x.b v.b]; omega
   refine List.pairwise_cons.2 ⟨fun y hy => ?_, h⟩
   rcases List.mem_cons.1 hy with rfl | hy'
   ·exact hv
   ·exact lt_trans' hv (hc.1 y hy')
theorem foldl_sorted : ∀ (l a : List V), Up l → a.Pairwise lt → (∀ x ∈ a, ∀ y ∈ l, x.s < y.s) → (l.foldl (fun a v => ins v a) a).Pairwise lt
 | [], a, _, h, _ => h
 | v :: l, a, hu, h, hs => by
  have hc := List.pairwise_cons.1 hu
  rw [List.foldl_cons]
  refine foldl_sorted l (ins v a) hc.2 (ins_sorted v a h fun x hx => hs x hx v (by simp)) fun x hx y hy => ?_
  rcases mem_ins.1 hx with rfl | hx'
  ·exact hc.1 y hy
  ·exact hs x hx' y (by simp [hy])
theorem byB_sorted {l : List V} (hu : Up l) : (byB l).Pairwise lt := foldl_sorted l [] hu List.Pairwise.nil (by simp)
theorem sorted_uniq : ∀ (l q : List V), l.Perm q → l.Pairwise lt → q.Pairwise lt → l = q
 | [], q, h, _, _ => (List.nil_perm.1 h).symm
 | x :: l, [], h, _, _ => absurd (List.perm_nil.1 h) (by simp)
 | x :: l, y :: q, h, hl, hq => by
  have hcl := List.pairwise_cons.1 hl
  have hcq := List.pairwise_cons.1 hq
  have e : x = y := by
   have h1 : x ∈ y :: q := h.mem_iff.1 (by simp)
   have h2 : y ∈ x :: l := h.mem_iff.2 (by simp)
   rcases List.mem_cons.1 h1 with e | h1'
   ·exact e
   ·rcases List.mem_cons.1 h2 with e | h2'
    ·exact e.symm
    ·exact absurd (lt_trans' (hcl.1 y h2') (hcq.1 x h1')) (lt_irrefl' x)
  subst e; rw [sorted_uniq l q (List.perm_cons x |>.1 h) hcl.2 hcq.2]
def few (a : S) : List R := (if a.base = 0 then [] else [R.tr a.base]) ++ ((byB a.l).map R.vo ++ (if a.p.i = 0 ∧ a.p.t = 0 then [] else [R.pr a.p]))
theorem up_uniq : ∀ (l q : List V), Up l → Up q → (∀ x, x ∈ l ↔ x ∈ q) → l = q
 | [], [], _, _, _ => rfl
 | [], y :: q, _, _, h => absurd ((h y).2 (by simp)) (by simp)
 | x :: l, [], _, _, h => absurd ((h x).1 (by simp)) (by simp)
 | x :: l, y :: q, hl, hq, h => by
  have hcl := List.pairwise_cons.1 hl
  have hcq := List.pairwise_cons.1 hq
  have e : x = y := by
   rcases List.mem_cons.1 ((h x).1 (by simp)) with e | h1
   ·exact e
   ·rcases List.mem_cons.1 ((h y).2 (by simp)) with e | h2
    ·exact e.symm
    ·have := hcl.1 y h2
     have := hcq.1 x h1
     omega
  subst e; rw [up_uniq l q hcl.2 hcq.2 fun z => ?_]
  constructor
  ·intro hz
   rcases List.mem_cons.1 ((h z).1 (by simp [hz])) with e | h1
   ·subst e; have := hcl.1 z hz; omega
   ·exact h1
  ·intro hz
   rcases List.mem_cons.1 ((h z).2 (by simp [hz])) with e | h1
   ·subst e; have := hcq.1 z hz; omega
   ·exact h1
theorem redo_votes : ∀ (q : List V) (a : S), Up a.l → q.Pairwise lt → (∀ x ∈ q, vld x.b = true ∧ a.base ≤ x.s ∧ x.s < 1024 ∧ x.v.size ≤ 4096 ∧ cmpE a.p x.b ≤ 0) → (q.Pairwise fun x y => x.s ≠ y.s) → (∀ x ∈ q, ∀ y ∈ a.l, x.s ≠ y.s) →
  ∃ p l, (q.map R.vo).foldl redo a = ⟨p, a.base, l⟩ ∧ Up l ∧ (∀ x, x ∈ l ↔ x ∈ q ∨ x ∈ a.l) ∧ (p = a.p ∨ ∃ x ∈ q, p = x.b)
 | [], a, hu, _, _, _, _ => ⟨a.p, a.l, rfl, hu, by simp, .inl rfl⟩
 | v :: q, a, hu, hq, hv, hd, ha => by
  obtain ⟨h1, h2, h3, h4, h5⟩ := hv v (by simp)
  have hb : acb a v = true := by
   unfold acb may; rw [h1, cmpE_flip a.p v.b]
   simp
   omega
  have hcq := List.pairwise_cons.1 hq
  have hcd := List.pairwise_cons.1 hd
  have e : acs a v = ⟨v.b, a.base, put a.l v⟩ := Na.M.acs_yes hb
  obtain ⟨p, l, e2, u2, m2, p2⟩ := redo_votes q ⟨v.b, a.base, put a.l v⟩ (Na.M.up_put hu v) hcq.2 (fun x hx => by
   obtain ⟨k1, k2, k3, k4, _⟩ := hv x (by simp [hx])
   refine ⟨k1, k2, k3, k4, ?_⟩
   have := hcq.1 x hx
   unfold lt at this
   show cmpE v.b x.b ≤ 0
   omega) hcd.2 (fun x hx y hy => by
   rcases Na.M.mem_put hy with rfl | ⟨hy', _⟩
   ·exact fun e => hcd.1 x hx e.symm
   ·exact ha x (by simp [hx]) y hy')
  refine ⟨p, l, ?_, u2, fun x => ?_, ?_⟩
  ·rw [List.map_cons, List.foldl_cons]
   show List.foldl redo (acs a v) _ = _
   rw [e, e2]
  ·rw [m2]
   constructor
   ·rintro (h | h)
    ·exact .inl (by simp [h])
    ·rcases Na.M.mem_put h with rfl | ⟨h', _⟩
     ·exact .inl (by simp)
     ·exact .inr h'
   ·rintro (h | h)
    ·rcases List.mem_cons.1 h with rfl | h'
     ·exact .inr (Na.M.put_mem (.inl rfl))
     ·exact .inl h'
    ·exact .inr (Na.M.put_mem (.inr ⟨h, fun e => ha v (by simp) x h e.symm⟩))
  ·rcases p2 with rfl | ⟨x, hx, rfl⟩
   ·exact .inr ⟨v, by simp, rfl⟩
   ·exact .inr ⟨x, by simp [hx], rfl⟩
theorem vld_ge {b : E} (h : vld b = true) : cmpE ⟨0, 0⟩ b ≤ 0 := by
 unfold vld at h
 simp at h
 rcases Na.M.cmpE_three ⟨0, 0⟩ b with ⟨_, e⟩ | ⟨_, e⟩ | ⟨h2, e⟩
 ·omega
 ·omega
 ·simp only at h2; omega
theorem mk_few {a : S} (h : Na.M.Ok a) (hv : Vd a) : mk (few a) = a := by
 have hb0 := h.b0
 have hb1 := h.b1
 have e0 : (if a.base = 0 then [] else [R.tr a.base]).foldl redo S0 = ⟨⟨0, 0⟩, a.base, []⟩ := by
  by_cases hb : a.base = 0
  ·rw [if_pos hb, hb]; rfl
  ·rw [if_neg hb]
   show trs S0 a.base = _
   unfold trs S0; rw [show max (0 : Int) (min a.base 1024) = a.base by omega]
   rfl
 have hm := byB_perm a.l
 obtain ⟨p, l, e1, u1, m1, p1⟩ := redo_votes (byB a.l) ⟨⟨0, 0⟩, a.base, []⟩ List.Pairwise.nil (byB_sorted h.up) (fun x hx => by
  have hx' := hm.mem_iff.1 hx
  exact ⟨hv.l x hx', h.lo x hx', by have := h.hi x hx'; omega, h.vs x hx', vld_ge (hv.l x hx')⟩) (by
  have : (a.l.Pairwise fun x y => x.s ≠ y.s) := h.up.imp fun h => by omega
  exact this.perm hm.symm fun h e => h e.symm) (by simp)
 have el : l = a.l := up_uniq l a.l u1 h.up fun x => by rw [m1, hm.mem_iff]; simp
 subst el
 have hp : cmpE p a.p ≤ 0 := by
  rcases p1 with rfl | ⟨x, hx, rfl⟩
  ·exact vld_ge hv.p
  ·rw [cmpE_flip a.p]
   have := h.pr x (hm.mem_iff.1 hx)
   omega
 unfold mk few; rw [List.foldl_append, e0, List.foldl_append, e1]
 by_cases hz' : a.p.i = 0 ∧ a.p.t = 0
 ·rw [if_pos hz']
  have hz : a.p = ⟨0, 0⟩ := E_ext hz'.1 hz'.2
  show (⟨p, a.base, a.l⟩ : S) = a
  have : p = a.p := by
   rcases p1 with rfl | ⟨x, hx, rfl⟩
   ·exact hz.symm
   ·have h1 := vld_ge (hv.l x (hm.mem_iff.1 hx))
    rw [← hz, cmpE_flip] at h1
    exact cmpE_zero.1 (by omega)
  rw [this]
 ·rw [if_neg hz']
  show prs ⟨p, a.base, a.l⟩ a.p a.base = a
  have hb : prb ⟨p, a.base, a.l⟩ a.p a.base = true := by
   unfold prb may; rw [hv.p, cmpE_flip p a.p]
   simp
   omega
  rw [Na.M.prs_yes hb]
end Go.Proofs.YtlnedgjikkhplaaGreat.Du
namespace Go.Proofs.YtlnedgjikkhplaaGreat.Na
open Go.RowKit
open M (E V)
theorem Hf {p : Prop} (h : p) : Hid p := h
theorem below_drewN {B : Nat} {a w : World} (h : Below B a w) (n : Nat) : Below B a (w.drewN n) := ⟨h.os, h.tape, h.output, h.size, h.block⟩
theorem bel1 (w : World) (o : Obj) : Below w.heap.size w (w.alloc o) := (Below.refl w.heap.size w).alloc Lr o
theorem Bu {B : Nat} {w w1 w2 : World} (h : Below B w w1) (h2 : Below w1.heap.size w1 w2) (hB : B ≤ w.heap.size) : Below B w w2 := h.trans (h2.mono (Nat.le_trans hB h.size))
theorem row1 {w : World} {k : Nat} {v0 : Value} {t : TypeId} (h : w.heap[k]? = some (.cells #[v0] t (0, 0))) : w.cell? ⟨k, 0, none⟩ = some v0 ∧ ∀ j, w.frozen? ⟨k, j, none⟩ = false :=
 ⟨by rw [cell_of_row w k 0 _ _ _ h]; rfl, fun j => frozen_of_row w k j _ _ h⟩
theorem row2 {w : World} {k : Nat} {v0 v1 : Value} {t : TypeId} (h : w.heap[k]? = some (.cells #[v0, v1] t (0, 0))) :
  (w.cell? ⟨k, 0, none⟩ = some v0 ∧ w.cell? ⟨k, 1, none⟩ = some v1) ∧ ∀ j, w.frozen? ⟨k, j, none⟩ = false :=
 ⟨⟨by rw [cell_of_row w k 0 _ _ _ h]; rfl, by rw [cell_of_row w k 1 _ _ _ h]; rfl⟩, fun j => frozen_of_row w k j _ _ h⟩
theorem cell_one (w : World) (B : Nat) (v : Value) (t : TypeId) (h : w.heap[B]? = some (.cells #[v] t (0, 0))) : ∀ (j : Nat) (x : Value), [v][j]? = some x → w.cell? ((⟨B, 0, none⟩ : Addr).add j) = some x := by
 intro j x hx
 have hadd : (⟨B, 0, none⟩ : Addr).add j = ⟨B, j, none⟩ := by unfold Addr.add; split <;> simp_all
 rw [hadd, cell_of_row _ _ j _ _ _ h]
 simpa using hx
theorem row4 {w : World} {k : Nat} {v0 v1 v2 v3 : Value} {t : TypeId} (h : w.heap[k]? = some (.cells #[v0, v1, v2, v3] t (0, 0))) :
  (w.cell? ⟨k, 0, none⟩ = some v0 ∧ w.cell? ⟨k, 1, none⟩ = some v1 ∧ w.cell? ⟨k, 2, none⟩ = some v2 ∧ w.cell? ⟨k, 3, none⟩ = some v3) ∧ ∀ j, w.frozen? ⟨k, j, none⟩ = false :=
 ⟨⟨by rw [cell_of_row w k 0 _ _ _ h]; rfl, by rw [cell_of_row w k 1 _ _ _ h]; rfl, by rw [cell_of_row w k 2 _ _ _ h]; rfl, by rw [cell_of_row w k 3 _ _ _ h]; rfl⟩, fun j => frozen_of_row w k j _ _ h⟩
theorem Br {W W' : World} {B : Nat} {o : Obj} (h : W.heap[B]? = some o) (hb : Below W.heap.size W W') : W'.heap[B]? = some o := (hb.block B (Array.getElem?_eq_some_iff.1 h).1).trans h
def blk (a : Option Addr) (k : Nat) : Prop := ∃ off s, a = some ⟨k, off, s⟩
structure Rw (w : World) (v : Value) (w' : World) (v' : Value) : Prop where
 g : w.grownBy w' v.ownBlock
 n : ∀ k, v'.ownBlock = some k → v.ownBlock = some k ∨ w.heap.size ≤ k
theorem Rw.refl (w : World) (v : Value) : Rw w v w v := ⟨⟨rfl, rfl, rfl, Nat.le_refl _, fun _ _ _ => rfl⟩, fun k h => .inl h⟩
theorem Rw.trans {w w1 w2 : World} {v v1 v2 : Value} (h : Rw w v w1 v1) (k : Rw w1 v1 w2 v2) : Rw w v w2 v2 := by
 refine ⟨⟨k.g.os.trans h.g.os, k.g.tape.trans h.g.tape, k.g.output.trans h.g.output, Nat.le_trans h.g.size k.g.size, fun b hb hne => ?_⟩, fun b hb => ?_⟩
 ·rw [k.g.block b (Nat.lt_of_lt_of_le hb h.g.size) (fun e => by
   rcases h.n b e.symm with h' | h'
   ·exact hne h'.symm
   ·omega)]
  exact h.g.block b hb hne
 ·rcases k.n b hb with h' | h'
  ·exact h.n b h'
  ·exact .inr (Nat.le_trans h.g.size h')
theorem Rw.ofBelow {w w1 : World} (v : Value) (h : Below w.heap.size w w1) : Rw w v w1 v := ⟨⟨h.os, h.tape, h.output, h.size, fun k hk _ => h.block k hk⟩, fun k h => .inl h⟩
theorem Rw.drewN {w w1 : World} {v v1 : Value} (h : Rw w v w1 v1) (n : Nat) : Rw w v (w1.drewN n) v1 := ⟨⟨h.g.os, h.g.tape, h.g.output, h.g.size, h.g.block⟩, h.n⟩
theorem Rw.below {B : Nat} {w w1 : World} {v v1 : Value} (h : Rw w v w1 v1) (hv : ∀ k, v.ownBlock = some k → B ≤ k) (hB : B ≤ w.heap.size) : Below B w w1 :=
 ⟨h.g.os, h.g.tape, h.g.output, h.g.size, fun k hk => h.g.block k (by omega) (fun e => by have := hv k e.symm; omega)⟩
theorem rw_lies {w w3 : World} {v : Value} {g n cp H : Nat} (hgrow : w.grownBy w3 v.ownBlock) (hat : v.ownBlock = some g ∨ g = H) (hH : w.heap.size = H) : Rw w v w3 (.slice (some ⟨g, 0, none⟩) n cp) := by
 refine ⟨hgrow, fun k hk => ?_⟩
 simp only [Value.ownBlock, Option.some.injEq] at hk
 subst hk
 rcases hat with h | h
 ·exact .inl h
 ·exact .inr (by omega)
theorem owns_keepBut {w w1 : World} {base : Nat} {t : TypeId} {s : Nat} {v : Value} {n : Nat} {cs : List Value} (h : w.ownsRow base t s v n cs) (hb : ∀ k, k < w.heap.size → v.ownBlock = some k → w1.heap[k]? = w.heap[k]?) : w1.ownsRow base t s v n cs := by
 refine ⟨h.1, ?_⟩
 rcases h.2 with ⟨rfl, h0⟩ | ⟨g, cap, cur, rfl, hb', hh, hc, hm, hs, ht⟩
 ·exact .inl ⟨rfl, h0⟩
 ·exact .inr ⟨g, cap, cur, rfl, hb', (hb g (Array.getElem?_eq_some_iff.1 hh).1 rfl).trans hh, hc, hm, hs, ht⟩
theorem owns_low {w : World} {base base' : Nat} {t : TypeId} {s : Nat} {v : Value} {n : Nat} {cs : List Value} (h : w.ownsRow base t s v n cs) (hb : base' ≤ base) : w.ownsRow base' t s v n cs := by
 refine ⟨h.1, ?_⟩
 rcases h.2 with ⟨rfl, h0⟩ | ⟨g, cap, cur, rfl, hb', hh, hc, hm, hs, ht⟩
 ·exact .inl ⟨rfl, h0⟩
 ·exact .inr ⟨g, cap, cur, rfl, by omega, hh, hc, hm, hs, ht⟩
structure Ly (α : Type) where
 n : Nat
 cs : α → List Value
 len : ∀ x, (cs x).length = n
 one : ∀ x, ∀ v ∈ cs x, v.oneCell' = true
 pos : 0 < n
def Ly.cells {α : Type} (Y : Ly α) : List α → List Value
 | [] => []
 | x :: r => Y.cs x ++ Ly.cells Y r
section
variable {α : Type} (Y : Ly α)
theorem Ly.app : ∀ l q, Y.cells (l ++ q) = Y.cells l ++ Y.cells q
 | [], q => rfl
 | p :: r, q => by rw [List.cons_append, Ly.cells, Ly.app r q, Ly.cells, List.append_assoc]
theorem Ly.clen : ∀ l, (Y.cells l).length = l.length * Y.n
 | [] => by simp [Ly.cells]
 | p :: r => by rw [Ly.cells, List.length_append, Ly.clen r, Y.len, List.length_cons, Nat.add_mul]; omega
theorem Ly.get : ∀ (l : List α) (j : Nat) (h : j < l.length) (o : Nat) (ho : o < Y.n), (Y.cells l)[j * Y.n + o]? = some ((Y.cs l[j])[o]'(by rw [Y.len]; exact ho))
 | [], j, h, o, ho => by simp at h
 | p :: r, 0, h, o, ho => by
  rw [Ly.cells, Nat.zero_mul, Nat.zero_add, List.getElem?_append_left (by rw [Y.len]; exact ho), List.getElem?_eq_getElem (by rw [Y.len]; exact ho)]
  rfl
 | p :: r, j + 1, h, o, ho => by
  have := Ly.get r j (by simpa using h) o ho
  have e : (j + 1) * Y.n + o - (Y.cs p).length = j * Y.n + o := by rw [Y.len, Nat.add_mul]; omega
  rw [Ly.cells, List.getElem?_append_right (by rw [Y.len, Nat.add_mul]; omega), e]
  exact this
theorem Ly.take : ∀ (l : List α) (k : Nat), (Y.cells l).take (k * Y.n) = Y.cells (l.take k)
 | l, 0 => by simp [Ly.cells]
 | [], k + 1 => by simp [Ly.cells]
 | p :: r, k + 1 => by
  rw [Ly.cells, List.take_succ_cons, Ly.cells, ← Ly.take r k, List.take_append, Y.len, List.take_of_length_le (by rw [Y.len, Nat.add_mul]; omega), show (k + 1) * Y.n - Y.n = k * Y.n by rw [Nat.add_mul]; omega]
theorem Ly.drop : ∀ (l : List α) (k : Nat), (Y.cells l).drop (k * Y.n) = Y.cells (l.drop k)
 | l, 0 => by simp
 | [], k + 1 => by simp [Ly.cells]
 | p :: r, k + 1 => by
  rw [Ly.cells, List.drop_succ_cons, ← Ly.drop r k, List.drop_append, Y.len, List.drop_of_length_le (by rw [Y.len, Nat.add_mul]; omega), show (k + 1) * Y.n - Y.n = k * Y.n by rw [Nat.add_mul]; omega, List.nil_append]
theorem Ly.ones : ∀ (l : List α), ∀ v ∈ Y.cells l, v.oneCell' = true
 | [], v, h => by simp [Ly.cells] at h
 | p :: r, v, h => by
  rw [Ly.cells, List.mem_append] at h
  rcases h with h | h
  ·exact Y.one p v h
  ·exact Ly.ones r v h
theorem Ly.set1 : ∀ (l : List α) (i : Nat) (h : i < l.length) (o : Nat) (ho : o < Y.n) (x : α) (u : Value) (hx : Y.cs x = (Y.cs l[i]).set o u), (Y.cells l).set (i * Y.n + o) u = Y.cells (l.set i x)
 | [], i, h, o, ho, x, u, hx => by simp at h
 | e :: r, 0, h, o, ho, x, u, hx => by
  rw [Ly.cells, List.set_cons_zero, Ly.cells, hx, Nat.zero_mul, Nat.zero_add, List.set_append_left _ _ (by rw [Y.len]; exact ho)]
  rfl
 | e :: r, i + 1, h, o, ho, x, u, hx => by
  have := Ly.set1 r i (by simpa using h) o ho x u (by simpa using hx)
  rw [Ly.cells, List.set_cons_succ, Ly.cells, ← this, List.set_append_right _ _ (by rw [Y.len, Nat.add_mul]; omega), show (i + 1) * Y.n + o - (Y.cs e).length = i * Y.n + o by rw [Y.len, Nat.add_mul]; omega]
def AtL (w : World) (a : Option Addr) (l : List α) : Prop :=
 ∀ j (h : j < l.length), ∃ b off, a = some ⟨b, off, none⟩ ∧ ∀ o (ho : o < Y.n), w.cell? ⟨b, off + j * Y.n + o, none⟩ = some ((Y.cs l[j])[o]'(by rw [Y.len]; exact ho))
variable {Y}
theorem AtL.keepBut {w w' : World} {a : Option Addr} {l : List α} (h : AtL Y w a l) (hb : ∀ k, k < w.heap.size → blk a k → w'.heap[k]? = w.heap[k]?) : AtL Y w' a l := by
 intro j hj
 obtain ⟨b, off, rfl, h0⟩ := h j hj
 have hk := hb b (World.block_lt_of_cell? w _ (h0 0 Y.pos)) ⟨off, none, rfl⟩
 exact ⟨b, off, rfl, fun o ho => (World.cell?_of_block (w := w) (a := ⟨b, off + j * Y.n + o, none⟩) hk).trans (h0 o ho)⟩
theorem AtL.keep {w w' : World} {a : Option Addr} {l : List α} (h : AtL Y w a l) (hb : Below w.heap.size w w') : AtL Y w' a l := h.keepBut fun k hk _ => hb.block k hk
theorem AtL.nil (w : World) (a : Option Addr) : AtL Y w a [] := fun j h => by simp at h
theorem add_n (b off j : Nat) : (⟨b, off, none⟩ : Addr).add j = ⟨b, off + j, none⟩ := by unfold Addr.add; split <;> simp_all
theorem AtL.cells {w : World} {b off : Nat} {l : List α} (h : AtL Y w (some ⟨b, off, none⟩) l) : ∀ j u, (Y.cells l)[j]? = some u → w.cell? ((⟨b, off, none⟩ : Addr).add j) = some u := by
 intro j u hu
 have hjl : j < l.length * Y.n := by
  have := (List.getElem?_eq_some_iff.1 hu).1
  rw [Y.clen] at this
  exact this
 have hn := Y.pos
 rw [add_n]
 have hq : j / Y.n < l.length := Nat.div_lt_of_lt_mul (by rw [Nat.mul_comm]; exact hjl)
 have hm : j % Y.n < Y.n := Nat.mod_lt _ hn
 obtain ⟨b', off', e, h0⟩ := h (j / Y.n) hq
 cases e
 have hdm : j / Y.n * Y.n + j % Y.n = j := by rw [Nat.mul_comm]; exact Nat.div_add_mod j Y.n
 have h1 := h0 (j % Y.n) hm
 have h2 := Y.get l (j / Y.n) hq (j % Y.n) hm
 rw [hdm, hu] at h2; rw [Nat.add_assoc, hdm] at h1; rw [h1, ← h2]
theorem AtL.take {w : World} {a : Option Addr} {l : List α} (h : AtL Y w a l) (q : Nat) : AtL Y w a (l.take q) := by
 intro j hj
 simp only [List.length_take] at hj
 simp only [List.getElem_take]
 exact h j (by omega)
theorem AtL.drop {w : World} {b off : Nat} {l : List α} (h : AtL Y w (some ⟨b, off, none⟩) l) (q : Nat) : AtL Y w (some ⟨b, off + q * Y.n, none⟩) (l.drop q) := by
 intro j hj
 simp only [List.length_drop] at hj
 simp only [List.getElem_drop]
 obtain ⟨b', off', e, h0⟩ := h (q + j) (by omega)
 cases e
 refine ⟨b, off + q * Y.n, rfl, fun o ho => ?_⟩
 rw [show off + q * Y.n + j * Y.n + o = off + (q + j) * Y.n + o by rw [Nat.add_mul]; omega]
 exact h0 o ho
variable (Y)
def OwnL (t : TypeId) (w : World) (base : Nat) (v : Value) (l : List α) : Prop := w.ownsRow base t Y.n v l.length (Y.cells l)
structure XL (w : World) (a : Option Addr) (cap : Nat) (l : List α) : Prop where
 at' : AtL Y w a l
 le : l.length ≤ cap
 mx : cap ≤ maxLen
 nil : a = none → cap = 0
variable {Y}
section
variable {t : TypeId} {w w1 : World} {base base' : Nat} {v : Value} {l : List α}
theorem OwnL.nil (t : TypeId) (w : World) (base : Nat) : OwnL Y t w base (.slice none 0 0) [] := World.ownsRow_nil _ _ _ _
theorem OwnL.keepBut (h : OwnL Y t w base v l) (hb : ∀ k, k < w.heap.size → v.ownBlock = some k → w1.heap[k]? = w.heap[k]?) : OwnL Y t w1 base v l := owns_keepBut h hb
theorem OwnL.keep (h : OwnL Y t w base v l) (hb : Below w.heap.size w w1) : OwnL Y t w1 base v l := owns_keepBut h fun k hk _ => hb.block k hk
theorem OwnL.low (h : OwnL Y t w base v l) (hb : base' ≤ base) : OwnL Y t w base' v l := owns_low h hb
theorem OwnL.lt (h : OwnL Y t w base v l) {b : Nat} (hb : v.ownBlock = some b) : base ≤ b ∧ b < w.heap.size := World.ownsRow.lt h b hb
theorem XL.keepBut {w w' : World} {a : Option Addr} {cap : Nat} {l : List α} (h : XL Y w a cap l) (hb : ∀ k, k < w.heap.size → blk a k → w'.heap[k]? = w.heap[k]?) : XL Y w' a cap l := ⟨h.at'.keepBut hb, h.le, h.mx, h.nil⟩
theorem XL.keep {w w' : World} {a : Option Addr} {cap : Nat} {l : List α} (h : XL Y w a cap l) (hb : Below w.heap.size w w') : XL Y w' a cap l := ⟨h.at'.keep hb, h.le, h.mx, h.nil⟩
theorem XL.emp (w : World) : XL Y w none 0 [] := ⟨AtL.nil _ _, by simp, by decide, fun _ => rfl⟩
theorem OwnL.at (h : OwnL Y t w base v l) : ∃ a cap, v = .slice a l.length cap ∧ XL Y w a cap l ∧ (∀ k, blk a k → base ≤ k ∧ v.ownBlock = some k ∧ k < w.heap.size) := by
 rcases h.2 with ⟨rfl, h0⟩ | ⟨g, cap, cur, rfl, hb', hh, hc, hm, hs, ht⟩
 ·have e : l = [] := List.length_eq_zero_iff.1 h0
  subst e
  exact ⟨_, 0, rfl, XL.emp w, (fun k hk => by obtain ⟨_, _, h⟩ := hk; cases h)⟩
 ·refine ⟨some ⟨g, 0, none⟩, cap, rfl, ⟨fun j hj => ⟨g, 0, rfl, fun o ho => ?_⟩, hc, hm, fun h => by cases h⟩, (fun k hk => by obtain ⟨_, _, h⟩ := hk; simp at h; obtain ⟨rfl, _⟩ := h; exact ⟨hb', rfl, (Array.getElem?_eq_some_iff.1 hh).1⟩)⟩
  have := World.ownsRow.cells h (g := g) rfl (j * Y.n + o) _ (Y.get l j hj o ho)
  rw [add_n] at this; rw [Nat.add_assoc]
  exact this
theorem OwnL.set1 (h : OwnL Y t w base v l) (i : Nat) (hi : i < l.length) (o : Nat) (ho : o < Y.n) :
  ∃ g cap, v = .slice (some ⟨g, 0, none⟩) l.length cap ∧ base ≤ g ∧ g < w.heap.size ∧ w.cell? ⟨g, i * Y.n + o, none⟩ = some ((Y.cs l[i])[o]'(by rw [Y.len]; exact ho)) ∧ (∀ j, w.frozen? ⟨g, j, none⟩ = false) ∧ ∀ (x : α) (u : Value), Y.cs x = (Y.cs l[i]).set o u → OwnL Y t (w.setCell ⟨g, i * Y.n + o, none⟩ u) base v (l.set i x) := by
 have hlt := fun b hb => h.lt (b := b) hb
 unfold OwnL at h
 rcases h.2 with ⟨rfl, h0⟩ | ⟨g, cap, cur, hv, hb', hh, hc, hm, hs, ht⟩
 ·omega
 ·have key := World.ownsRow.cells h (g := g) (by rw [hv]; rfl) _ _ (Y.get l i hi o ho)
  rw [add_n, Nat.zero_add] at key
  refine ⟨g, cap, hv, hb', (hlt g (by rw [hv]; rfl)).2, key, fun j => frozen_of_row w g _ _ _ hh, fun x u hx => ⟨by rw [Y.clen], .inr ⟨g, cap, _, by rw [hv]; simp, hb', heap_setCell_same w g _ _ _ _ hh, by simp; omega, hm, by simp; omega, ?_⟩⟩⟩
  rw [Array.toList_setIfInBounds, List.take_set, List.length_set, ht, Y.set1 l i hi o ho x u hx]
end
variable (Y)
structure Ti (T t : TypeId) : Prop where
 u : Tryz.prog.underlying T = some (.slice t)
 i : ∃ inf z, Tryz.prog.info? t = some inf ∧ inf.zero = some z ∧ inf.size = Y.n ∧ inf.bytes ≤ 100 ∧ z.cells.size = Y.n
variable {Y}
theorem run_appL {T t : TypeId} (hT : Ti Y T t) (w : World) (ty : TypeId) (base : Nat) (v : Value) (l s : List α) (b off c n : Nat) (hown : OwnL Y t w base v l) (hs : AtL Y w (some ⟨b, off, none⟩) s) (hn : n = s.length) (hb : base ≤ w.heap.size) (hl : l.length + s.length ≤ 1000000) :
  ∃ a' c' w', (Builtin.append_ #[T, T] ty #[v, .slice (some ⟨b, off, none⟩) n c]).run Tryz.prog w = .ok (.slice a' (l.length + s.length) c') w' ∧ OwnL Y t w' base (.slice a' (l.length + s.length) c') (l ++ s) ∧ Rw w v w' (.slice a' (l.length + s.length) c') := by
 subst hn
 obtain ⟨inf, z, hi, hz, hsz, hby, hzs⟩ := hT.i
 have hbytes : (l.length + s.length) * inf.bytes ≤ 140737488355328 := Nat.le_trans (Nat.mul_le_mul hl hby) (by omega)
 obtain ⟨v', w', hr, h2, h3, _, h5⟩ := run_append_own_at (P := Tryz.prog) w base T ty t inf z Y.n inf.bytes hT.u hi hz hsz rfl hzs Y.pos v l.length (Y.cells l) hown ⟨b, off, none⟩ s.length c (Y.cells s) (Y.clen s) hs.cells (Y.ones s) (by unfold maxLen; omega) hbytes hb
 have ho : OwnL Y t w' base v' (l ++ s) := by
  unfold OwnL; rw [Y.app, List.length_append]
  exact h2
 obtain ⟨a', c', rfl, _, _⟩ := ho.at
 rw [List.length_append] at hr ho h5 h2
 refine ⟨a', c', w', hr, ho, h3, fun k hk => ?_⟩
 rcases h5 with h5 | h5
 ·exact .inl (by rw [← h5]; exact hk)
 ·rw [h5] at hk
  cases hk
  exact .inr Lr
theorem append_ty {T : TypeId} (v u : Value) (w : World) (ty ty' : TypeId) : (Builtin.append_ #[T, T] ty #[v, u]).run Tryz.prog w = (Builtin.append_ #[T, T] ty' #[v, u]).run Tryz.prog w := rfl
theorem run_appL_ty {T t : TypeId} (hT : Ti Y T t) (w : World) (base : Nat) (v : Value) (l s : List α) (b off c n : Nat) (hown : OwnL Y t w base v l) (hs : AtL Y w (some ⟨b, off, none⟩) s) (hn : n = s.length) (hb : base ≤ w.heap.size) (hl : l.length + s.length ≤ 1000000) :
  ∃ a' c' w', (∀ ty, (Builtin.append_ #[T, T] ty #[v, .slice (some ⟨b, off, none⟩) n c]).run Tryz.prog w = .ok (.slice a' (l.length + s.length) c') w') ∧ OwnL Y t w' base (.slice a' (l.length + s.length) c') (l ++ s) ∧ Rw w v w' (.slice a' (l.length + s.length) c') := by
 obtain ⟨a', c', w', h1, h2, h3⟩ := run_appL hT w 0 base v l s b off c n hown hs hn hb hl
 exact ⟨a', c', w', fun ty => (append_ty _ _ _ ty 0).trans h1, h2, h3⟩
theorem run_append_nil0 {T t : TypeId} (hT : Ti Y T t) (w : World) (ty : TypeId) (a : Option Addr) (c : Nat) : (Builtin.append_ #[T, T] ty #[.slice none 0 0, .slice a 0 c]).run Tryz.prog w = .ok (.slice none 0 0) w := by
 obtain ⟨inf, z, hi, hz, hsz, hby, hzs⟩ := hT.i
 cases a with
 | none => simp [Builtin.append_, run_underlying hT.u, sizeOf, typeInfo, hi, Builtin.lenOf, Builtin.firstCells]
 | some ad =>
  have hl := run_loadCells_list (P := Tryz.prog) w ad [] (by simp)
  simp at hl
  simp [Builtin.append_, run_underlying hT.u, sizeOf, typeInfo, hi, Builtin.lenOf, Builtin.firstCells, hl]
theorem run_copyL {T t : TypeId} (hT : Ti Y T t) (w : World) (ty : TypeId) (a : Option Addr) (c : Nat) (s : List α) (hs : XL Y w a c s) (hl : s.length ≤ 1000000) :
  ∃ a' c' w', (Builtin.append_ #[T, T] ty #[.slice none 0 0, .slice a s.length c]).run Tryz.prog w = .ok (.slice a' s.length c') w' ∧ OwnL Y t w' w.heap.size (.slice a' s.length c') s ∧ Below w.heap.size w w' := by
 cases s with
 | nil => exact ⟨none, 0, w, run_append_nil0 hT w ty a c, OwnL.nil _ _ _, Below.refl _ _⟩
 | cons e r =>
  obtain ⟨b, off, rfl, _⟩ := hs.at' 0 (by simp)
  obtain ⟨a', c', w', h1, h2, h3⟩ := run_appL hT w ty w.heap.size (.slice none 0 0) [] (e :: r) b off c _ (OwnL.nil _ _ _) hs.at' rfl Lr (by simp at hl ⊢; omega)
  simp only [List.length_nil, Nat.zero_add, List.nil_append] at h1 h2 h3
  exact ⟨a', c', w', h1, h2, h3.below (fun k hk => by simp [Value.ownBlock] at hk) Lr⟩
theorem atL_one {w : World} {k : Nat} {t : TypeId} {x : α} (h : w.heap[k]? = some (.cells (Y.cs x).toArray t (0, 0))) : AtL Y w (some ⟨k, 0, none⟩) [x] := by
 intro j hj
 have : j = 0 := by simpa using hj
 subst this
 refine ⟨k, 0, rfl, fun o ho => ?_⟩
 rw [cell_of_row w k _ _ _ _ h]
 simp [Y.len, ho]
end
theorem step_append_known {P : Program} {w : World} {ops : Array Oper} {o : Oper} {a : Act} {C : Act → World → Prop} {Q : Exit → Act → World → Prop} {E : Prop} (hgd : o.guard = none) (s x : Operand) (t : TypeId)
  (ho : o.op = .call { callee := .builtin .append, args := #[s, x], argTypes := #[t, t] }) (v sv : Value) (hs : a.eval s = v) (hx : a.eval x = sv) (v' : Value) (w' : World)
  (hr : (Builtin.append_ #[t, t] o.type #[v, sv]).run P w = .ok v' w') (h : C (a.put o.dst v') w') : if Region.wanted o (yielded ops a.tmps) = true then Oper.wp P o a w C Q else E := by
 have hw : Region.wanted o (yielded ops a.tmps) = true := by simp [Region.wanted, hgd]
 rw [if_pos hw]; unfold Oper.wp execOp
 simp only [ho, resolve, invoke, builtin, Sem.run_bind, Sem.run_pure, Result.andThen_ok, List.map_toArray, List.map_cons, List.map_nil, hs, hx, hr]
 exact h
theorem wpList_append_known {P : Program} {w : World} {ops : Array Oper} {rest : List Oper} {o : Oper} {a : Act} {Q : Exit → Act → World → Prop} (hgd : o.guard = none) (s x : Operand) (t : TypeId)
  (ho : o.op = .call { callee := .builtin .append, args := #[s, x], argTypes := #[t, t] }) (v sv : Value) (hs : a.eval s = v) (hx : a.eval x = sv) (v' : Value) (w' : World)
  (hr : (Builtin.append_ #[t, t] o.type #[v, sv]).run P w = .ok v' w') (h : wpList P ops Q rest (a.put o.dst v') w') : wpList P ops Q (o :: rest) a w := by
 refine wpList_plain hgd fun K' hK' => ?_
 unfold Oper.wp execOp
 simp only [ho, resolve, invoke, builtin, Sem.run_bind, Sem.run_pure, Result.andThen_ok, List.map_toArray, List.map_cons, List.map_nil, hs, hx, hr]
 exact hK' _ _ h
def bl : Ly E := ⟨2, fun x => [.int .i64 x.i, .int .i64 x.t], fun _ => rfl, fun x v h => by simp at h; rcases h with rfl | rfl <;> rfl, by decide⟩
def vl : Ly V := ⟨4, fun x => [.int .i64 x.s, .int .i64 x.b.i, .int .i64 x.b.t, .string x.v], fun _ => rfl, fun x v h => by simp at h; rcases h with rfl | rfl | rfl | rfl <;> rfl, by decide⟩
theorem AtL.getV {w : World} {a : Option Addr} {l : List V} (h : AtL vl w a l) (j : Nat) (hj : j < l.length) : ∃ b off, a = some ⟨b, off, none⟩ ∧ w.cell? ⟨b, off + j * 4, none⟩ = some (.int .i64 l[j].s) ∧ w.cell? ⟨b, off + j * 4 + 1, none⟩ = some (.int .i64 l[j].b.i) ∧ w.cell? ⟨b, off + j * 4 + 2, none⟩ = some (.int .i64 l[j].b.t) ∧ w.cell? ⟨b, off + j * 4 + 3, none⟩ = some (.string l[j].v) := by
 obtain ⟨b, off, e, h0⟩ := h j hj
 exact ⟨b, off, e, h0 0 (by decide), h0 1 (by decide), h0 2 (by decide), h0 3 (by decide)⟩
theorem hi33 : Tryz.prog.info? 48 = some Tryz.t48 := by kernel_rfl
theorem hz33 : Tryz.t48.zero = some (.agg #[.int .i64 0, .int .i64 0, .int .i64 0, .string ⟨#[]⟩]) := rfl
theorem hs33 : Tryz.t48.size = 4 := rfl
theorem hb33 : Tryz.t48.bytes = 40 := rfl
theorem Tryz.size48 : (Tryz.prog.info? 48).map (·.size) = some 4 := by kernel_rfl
theorem Tryz.size36 : (Tryz.prog.info? 36).map (·.size) = some 2 := by kernel_rfl
theorem tiV : Ti vl 37 48 := ⟨Tryz.underlying37, Tryz.t48, .agg #[.int .i64 0, .int .i64 0, .int .i64 0, .string ⟨#[]⟩], hi33, rfl, rfl, by decide, rfl⟩
structure Fr (w : World) (F : Nat → Prop) (w' : World) (G : Nat → Prop) : Prop where
 os : w'.os = w.os
 tape : w'.tape = w.tape
 output : w'.output = w.output
 size : w.heap.size ≤ w'.heap.size
 block : ∀ k, k < w.heap.size → ¬ F k → w'.heap[k]? = w.heap[k]?
 n : ∀ k, G k → F k ∨ w.heap.size ≤ k
theorem Fr.refl (w : World) (F : Nat → Prop) : Fr w F w F := ⟨rfl, rfl, rfl, Nat.le_refl _, fun _ _ _ => rfl, fun k h => .inl h⟩
theorem Fr.ofBelow {w w1 : World} {F : Nat → Prop} (h : Below w.heap.size w w1) : Fr w F w1 F := ⟨h.os, h.tape, h.output, h.size, fun k hk _ => h.block k hk, fun k h => .inl h⟩
theorem Fr.trans {w w1 w2 : World} {F G H : Nat → Prop} (h : Fr w F w1 G) (k : Fr w1 G w2 H) : Fr w F w2 H := by
 refine ⟨k.os.trans h.os, k.tape.trans h.tape, k.output.trans h.output, Nat.le_trans h.size k.size, fun c hc hF => ?_, fun c hc => ?_⟩
 ·rw [k.block c (Nat.lt_of_lt_of_le hc h.size) (fun e => by
   rcases h.n c e with h' | h'
   ·exact hF h'
   ·omega)]
  exact h.block c hc hF
 ·rcases k.n c hc with h' | h'
  ·exact h.n c h'
  ·exact .inr (Nat.le_trans h.size h')
theorem Fr.below {B : Nat} {w w1 : World} {F G : Nat → Prop} (h : Fr w F w1 G) (hF : ∀ k, F k → B ≤ k) (hB : B ≤ w.heap.size) : Below B w w1 :=
 ⟨h.os, h.tape, h.output, h.size, fun k hk => h.block k (by omega) (fun e => by have := hF k e; omega)⟩
theorem Fr.drew {w w1 : World} {F G : Nat → Prop} (h : Fr w F w1 G) : Fr w F w1.drew G := ⟨h.os, h.tape, h.output, h.size, h.block, h.n⟩
theorem Fr.drewN {w w1 : World} {F G : Nat → Prop} (h : Fr w F w1 G) (n : Nat) : Fr w F (w1.drewN n) G := ⟨h.os, h.tape, h.output, h.size, h.block, h.n⟩
theorem Fr.up {w w1 w2 : World} {F G : Nat → Prop} (h : Fr w F w1 G) (k : Below w1.heap.size w1 w2) : Fr w F w2 G := h.trans (Fr.ofBelow k)
end Go.Proofs.YtlnedgjikkhplaaGreat.Na
