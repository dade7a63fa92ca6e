/-
  What a node is told to do; a node is asked to lead, to ask, to crash.
-/
import Derived.Test.YtgodnpngdbelhaaG29
namespace Go.Proofs.Ytgodnpngdbelhaa
open Go.RowKit Go.Maps
set_option linter.unusedVariables false
open M (E V)
open Rm (NT R)
open Tm (T)
section
variable {w0 w w' w1 : World} {b g c : Nat} {F : Nat → Nat → Prop} {bs : Nat → Nat} {u u' : Value} {ys ys' : List RN} {t : T} {G X : Nat → Prop} {r : R} {F1 : Nat → Prop} {br : Nat}
abbrev no (_ : Nat) : Prop := False
abbrev yes (_ : World) : Prop := True
theorem RS.n17 (h : RS w0 w F1 br r) : 1 ≤ r.n ∧ r.n ≤ 7 := by
  obtain ⟨ba, bp, bl, Fa, Fp, Fl, rfl, hp⟩ := h
  exact hp.n17
theorem ldN_len (hn : r.n ≤ 7) : (Rm.ldN r).length ≤ 7 := by
  unfold Rm.ldN
  split
  · rw [Rm.toF_len]; omega
  · simp
theorem ppN_len (hn : r.n ≤ 7) (v : ByteArray) : (Rm.ppN r v).length ≤ 7 := by
  unfold Rm.ppN
  split
  · unfold Rm.toE; rw [Rm.toF_len]; omega
  · simp
theorem akN_len (d : Int) : (Rm.akN r d).length ≤ 1 := by
  unfold Rm.akN
  split <;> simp
theorem RS.leadC (h : RS w0 w F1 br r) : Calls Try.prog 28 #[ptr br] w (ClO w0 w F1 no br (Rm.ldS r) (Rm.ldN r) yes) := by
  obtain ⟨ba, bp, bl, Fa, Fp, Fl, rfl, hp⟩ := h
  have cl := hp.lead
  clear hp
  go_enter Try.func28, Try.ntmps28
  go_wp2_with fail
  refine cl.mono ?_
  clear cl
  rintro e w1 ⟨u, G, rfl, h1, h2, h3⟩
  have HQ : Hid (ClO w0 w (uni br Fa Fp Fl) no br (Rm.ldS r) (Rm.ldN r) yes (.returned u) w1) := ⟨u, G, rfl, h1, h2, h3.fx _, trivial⟩
  clear h1 h2 h3
  go_wp2
  go_ret
  exact HQ.out
theorem RS.askC (h : RS w0 w F1 br r) (p : Nat) (d : Int) (hp1 : w.cell? ⟨p, 0, none⟩ = some (.int .i64 d)) : Calls Try.prog 32 #[ptr br, ptr p] w (ClO w0 w F1 no br r (Rm.akN r d) yes) := by
  have HR := Hid_of h
  obtain ⟨ba, bp, bl, Fa, Fp, Fl, rfl, hp⟩ := h
  have cl := hp.ask d
  clear hp
  go_enter Try.func32, Try.ntmps32
  go_wp2_with fail
  refine cl.mono ?_
  clear cl
  rintro e w1 ⟨u, rfl, h1, h2⟩
  have HQ : Hid (ClO w0 w (uni br Fa Fp Fl) no br r (Rm.akN r d) yes (.returned u) w1) := ⟨u, _, rfl, h1, HR.out.keep h2, (Fr.ofBelow h2).fx _, trivial⟩
  clear h1 h2
  go_wp2
  go_ret
  exact HQ.out
theorem RS.crashC (h : RS w0 w F1 br r) : Calls Try.prog 39 #[ptr br] w (ClO w0 w F1 no br (Rm.crS r) [] yes) := by
  obtain ⟨ba, bp, bl, Fa, Fp, Fl, rfl, hp⟩ := h
  have cl := hp.crash
  clear hp
  go_enter Try.func39, Try.ntmps39
  go_wp2_with fail
  refine cl.mono ?_
  clear cl
  rintro e w1 ⟨G, rfl, h2, h3⟩
  have HQ : Hid (ClO w0 w (uni br Fa Fp Fl) no br (Rm.crS r) [] yes (.returned (.slice none 0 0)) w1) := ⟨_, G, rfl, NO.nil _ _ _, h2, h3.fx _, trivial⟩
  clear h2 h3
  go_wp2
  go_ret
  exact HQ.out
theorem RS.takeC (h : RS w0 w F1 br r) (p : Nat) (y : RN) (hp1 : w.heap[p]? = some (.cells (nl.cs y).toArray 63 (0, 0))) (hy : XN w (fun q => ¬ F1 q) y) (hwf : ∀ x ∈ y.x.v, (Lit.int .i64 x.s).wf = true) (hc1 : r.p.c + y.x.v.length ≤ 900000) (hc2 : r.l.c + y.x.v.length ≤ 900000) :
    Calls Try.prog 35 #[ptr br, ptr p] w (ClO w0 w F1 no br (Rm.tkS r y.x) (Rm.tkN r y.x) yes) := by
  obtain ⟨ba, bp, bl, Fa, Fp, Fl, rfl, hp⟩ := h
  have cl := hp.take y hy.xl (fun _ k hk => hy.blk k hk) hwf hc1 hc2
  clear hp hwf hc1 hc2 hy
  obtain ⟨⟨k, f, t, s, ⟨bi, bt⟩, v⟩, ad, c⟩ := y
  obtain ⟨⟨x0, x1, x2, x3, x4, x5, x6⟩, _⟩ := row7 hp1
  simp only at x0 x1 x2 x3 x4 x5 x6
  have HCL := Hid_of cl
  clear cl hp1
  go_enter Try.func35, Try.ntmps35
  go_wp2_with fail
  refine HCL.out.mono ?_
  clear HCL
  rintro e w1 ⟨u, G, rfl, h1, h2, h3⟩
  have HQ : Hid (ClO w0 w (uni br Fa Fp Fl) no br (Rm.tkS r ⟨k, f, t, s, ⟨bi, bt⟩, v⟩) (Rm.tkN r ⟨k, f, t, s, ⟨bi, bt⟩, v⟩) yes (.returned u) w1) := ⟨u, G, rfl, h1, h2, h3.fx _, trivial⟩
  clear h1 h2 h3
  go_wp2
  go_ret
  exact HQ.out
theorem NO.aside {w w' : World} {G : Nat → Prop} {u : Value} {l : List NT} (h : NO w G u w' l) {p : Nat} (hp : p < w.heap.size) (v : Value) : NO w G u (w'.setCell ⟨p, 0, none⟩ v) l := by
  obtain ⟨ys, h1, h2⟩ := h
  exact ⟨ys, h1.keepBut (by simp) (fun k _ hk => heap_setCell_other w' ⟨p, 0, none⟩ k _ (by simp; omega)), h2⟩
theorem RS.proposeC (h : RS w0 w F1 br r) (v : ByteArray) (p q : Nat) (x : Value) (hp1 : w.cell? ⟨p, 0, none⟩ = some (.string v)) (hq1 : w.heap[q]? = some (.cells #[x] 37 (0, 0))) (hqn : ¬ F1 q) (hq0 : w0.heap.size ≤ q) :
    Calls Try.prog 30 #[ptr br, ptr p, ptr q] w (ClO w0 w F1 (· = q) br (Rm.ppS r v) (Rm.ppN r v) fun W => W.heap[q]? = some (.cells #[.int .i64 (Np.M.ppc r.p v)] 37 (0, 0))) := by
  obtain ⟨ba, bp, bl, Fa, Fp, Fl, rfl, hp⟩ := h
  have cl := hp.propose v
  have HP := Hid_of hp
  have HQ1 := Hid_of hq1
  have HQN := Hid_of hqn
  have HQ0 := Hid_of hq0
  clear hp hqn hq1 hq0
  go_enter Try.func30, Try.ntmps30
  go_wp2_with fail
  refine cl.mono ?_
  clear cl
  rintro e w1 ⟨u, rfl, h1, h2, h3⟩
  have hql := (Array.getElem?_eq_some_iff.1 HQ1.out).1
  have hrow := (h3.block q hql HQN.out).trans HQ1.out
  obtain ⟨z0, zf⟩ := row1 hrow
  have zf0 := zf 0
  have HF : Hid (ClO w0 w (uni br Fa Fp Fl) (· = q) br (Rm.ppS r v) (Rm.ppN r v) (fun W => W.heap[q]? = some (.cells #[.int .i64 (Np.M.ppc r.p v)] 37 (0, 0))) (.returned u) (w1.setCell ⟨q, 0, none⟩ (.int .i64 (Np.M.ppc r.p v)))) := by
    have hfo := fr_one w1 q 0 (.int .i64 (Np.M.ppc r.p v))
    refine ⟨u, _, rfl, h1.aside hql _, (h2.aside (not_n h3 HQN.out hql) HQ0.out 0 _).rs, ⟨hfo.os.trans h3.os, hfo.tape.trans h3.tape, hfo.output.trans h3.output, Nat.le_trans h3.size hfo.size, fun k hk hn hx => (hfo.block k (Nat.lt_of_lt_of_le hk h3.size) hx).trans (h3.block k hk hn), h3.n⟩, ?_⟩
    show (w1.setCell ⟨q, 0, none⟩ (.int .i64 (Np.M.ppc r.p v))).heap[q]? = _
    rw [heap_setCell_same w1 q 0 _ _ _ hrow]
    rfl
  clear h1 h2 h3 hql hrow zf
  go_wp2
  go_ret
  exact HF.out
end
end Go.Proofs.Ytgodnpngdbelhaa
namespace Go.Proofs.Ytgodnpngdbelhaa
open Go.RowKit Go.Maps
set_option linter.unusedVariables false
open M (E V)
open Rm (NT R)
open Tm (T)
section
variable {w0 w w' w1 : World} {b g c : Nat} {F : Nat → Nat → Prop} {bs : Nat → Nat} {u u' : Value} {ys ys' : List RN} {t : T} {G X : Nat → Prop} {r : R} {F1 : Nat → Prop} {br : Nat}
/-- What a method leaves. -/
def MO (w0 w : World) (G : Nat → Prop) (b : Nat) (r : Value) (t' : T) (e : Ending) (w' : World) : Prop := ∃ G', e = .returned r ∧ TO w0 w' G' b t' ∧ Fr w G w' G'
theorem doT_n (t : T) (i : Int) (r' : R) (l : List NT) : (doT t i r' l).n = t.n := by
  unfold doT
  split <;> rfl
theorem RunO.mo {W : World} {i : Int} {r' : R} {l : List NT} {e : Ending} (hb : Below w.heap.size w W) (h : RunO w0 W b g c F bs u ys t no yes i r' l e w') : MO w0 w (UG b t.n F u g ys) b (.bool (Tm.isT t i)) (doT t i r' l) e w' := by
  obtain ⟨F', u', ys', rfl, h1, h2, -, -, h5⟩ := h
  have h4 := h1.to
  rw [doT_n] at h4
  exact ⟨_, rfl, h4, fr_ug ((Fr.ofBelow hb).trans h2.fr0) fun z hz => (h5 z hz).imp id fun e k hk => Nat.le_trans hb.size (e k hk)⟩
theorem no_ok {w : World} {G : Nat → Prop} {g : Nat} {ys : List RN} {B : Nat} : ∀ k, no k → k < w.heap.size ∧ ¬ G k ∧ B ≤ k ∧ k ≠ g ∧ ∀ y ∈ ys, ¬ blk y.ad k := fun k h => h.elim
theorem TO.lead (h : TO w0 w G b t) (i : Int) : Calls Try.prog 14 #[ptr b, .int .i64 i] w (MO w0 w G b (.bool (Tm.isT t i)) (Tm.ldT t i)) := by
  obtain ⟨g, c, F, bs, u, ys, rfl, hp⟩ := h
  have hl : Tm.isT t i = true → (Rm.ldN (t.rs i.toNat)).length ≤ 1000000 := fun hi => by
    have := ldN_len (hp.rs i.toNat (Tm.isT_yes hi)).n17.2
    omega
  have hD : doT t i (Rm.ldS (t.rs i.toNat)) (Rm.ldN (t.rs i.toNat)) = Tm.ldT t i := rfl
  have cl := hp.run28 (X := no) (Q := yes) i (Rm.ldS (t.rs i.toNat)) (if Tm.isT t i = true then Rm.ldN (t.rs i.toNat) else []) (by split; exact hl (by assumption); simp) no_ok (fun _ _ _ _ => trivial) (fun hi W hb => by rw [if_pos hi]; exact ((hp.rs i.toNat (Tm.isT_yes hi)).keep hb).leadC)
  have HD : Hid (doT t i (Rm.ldS (t.rs i.toNat)) (if Tm.isT t i = true then Rm.ldN (t.rs i.toNat) else []) = Tm.ldT t i) := Hid_of (by
    rw [← hD]
    unfold doT
    split
    · rfl
    · rfl)
  clear hp hl hD
  go_enter Try.func14, Try.ntmps14
  go_wp2_with fail
  refine cl.mono ?_
  clear cl
  rintro e w1 hr
  have HM := Hid_of (hr.mo (Below.refl _ _))
  rw [HD.out] at HM
  obtain ⟨G', rfl, h1, h2⟩ := HM.out
  have HQ : Hid (MO w0 w (UG b t.n F u g ys) b (.bool (Tm.isT t i)) (Tm.ldT t i) (.returned (.bool (Tm.isT t i))) w1) := ⟨G', rfl, h1, h2⟩
  clear hr HM h1 h2
  generalize Tm.isT t i = bi at *
  go_wp2
  go_ret
  exact HQ.out
theorem TO.crash (h : TO w0 w G b t) (i : Int) : Calls Try.prog 22 #[ptr b, .int .i64 i] w (MO w0 w G b (.bool (Tm.isT t i)) (Tm.crT t i)) := by
  obtain ⟨g, c, F, bs, u, ys, rfl, hp⟩ := h
  have cl := hp.run39 (X := no) (Q := yes) i (Rm.crS (t.rs i.toNat)) [] (by simp) no_ok (fun _ _ _ _ => trivial) (fun hi W hb => ((hp.rs i.toNat (Tm.isT_yes hi)).keep hb).crashC)
  have HD : Hid (doT t i (Rm.crS (t.rs i.toNat)) [] = Tm.crT t i) := Hid_of (by
    unfold doT Tm.crT Tm.say
    split
    · simp
    · rfl)
  clear hp
  go_enter Try.func22, Try.ntmps22
  go_wp2_with fail
  refine cl.mono ?_
  clear cl
  rintro e w1 hr
  have HM := Hid_of (hr.mo (Below.refl _ _))
  rw [HD.out] at HM
  obtain ⟨G', rfl, h1, h2⟩ := HM.out
  have HQ : Hid (MO w0 w (UG b t.n F u g ys) b (.bool (Tm.isT t i)) (Tm.crT t i) (.returned (.bool (Tm.isT t i))) w1) := ⟨G', rfl, h1, h2⟩
  clear hr HM h1 h2
  generalize Tm.isT t i = bi at *
  go_wp2
  go_ret
  exact HQ.out
/-- Asked by one that is none, or for one that is none, nothing is done. -/
def akD (t : T) (i z : Int) : T := if Tm.isT t z = true then Tm.akT t i z else t
theorem TO.ask (h : TO w0 w G b t) (i z : Int) : Calls Try.prog 18 #[ptr b, .int .i64 i, .int .i64 z] w (MO w0 w G b (.bool (Tm.isT t i && Tm.isT t z)) (akD t i z)) := by
  obtain ⟨g, c, F, bs, u, ys, rfl, hp⟩ := h
  obtain ⟨W1, HW1⟩ : ∃ W1, Hid (w.alloc (.cells #[.int .i64 z] 3) = W1) := ⟨_, Hid_of rfl⟩
  have hb1 : Below w.heap.size w W1 := by rw [← HW1.out]; exact bel1 w _
  have hz1 : W1.heap[w.heap.size]? = some (.cells #[.int .i64 z] 3 (0, 0)) := by rw [← HW1.out]; exact heap_alloc_last w _
  obtain ⟨gz, hgz⟩ : ∃ gz, w.heap.size = gz := ⟨_, rfl⟩
  rw [hgz] at hz1
  have h1 := hp.keep hb1
  have cn := h1.node' z
  obtain ⟨c0, _⟩ := row1 hz1
  cases hz : Tm.isT t z with
  | false =>
    have hv : nodeV t bs z = .pointer none := by unfold nodeV; rw [hz]; rfl
    rw [hv] at cn
    have HQ : Hid (MO w0 w (UG b t.n F u g ys) b (.bool (Tm.isT t i && false)) (akD t i z) (.returned (.bool false)) W1) := by
      refine ⟨_, by rw [Bool.and_false], ?_, Fr.ofBelow hb1⟩
      unfold akD
      rw [if_neg (by rw [hz]; decide)]
      exact h1.to
    have HGZ := Hid_of hgz
    clear hp h1 hb1 hz1 hgz hv hz
    go_enter Try.func18, Try.ntmps18
    go_upto_region 1 with fail
    rw [HW1.out, HGZ.out]
    clear HW1
    go_wp2_with fail
    refine cn.mono ?_
    rintro e w1 ⟨rfl, rfl⟩
    clear cn
    go_wp2
    go_ret
    exact HQ.out
  | true =>
    have hv : nodeV t bs z = ptr (bs z.toNat) := by unfold nodeV; rw [hz]; rfl
    rw [hv] at cn
    have hb2 : Below w.heap.size w W1.drew := Below.trans hb1 ((Below.drew (Below.refl _ _)).mono hb1.size)
    have hak : (Rm.akN (t.rs i.toNat) z).length ≤ 1000000 := by have := akN_len (r := t.rs i.toNat) z; omega
    have cl := h1.run32 (X := no) (Q := yes) i (ptr gz) (t.rs i.toNat) (Rm.akN (t.rs i.toNat) z) hak no_ok (fun _ _ _ _ => trivial) (fun hi W hb => ((h1.rs i.toNat (Tm.isT_yes hi)).keep hb).askC gz z ((row1 (bel_row hz1 hb)).1))
    have HD : Hid (doT t i (t.rs i.toNat) (Rm.akN (t.rs i.toNat) z) = akD t i z) := Hid_of (by unfold akD; rw [if_pos hz]; rfl)
    have HGZ := Hid_of hgz
    have HB1 := Hid_of hb1
    clear hp h1 hb1 hz1 hgz hv hz hak hb2
    go_enter Try.func18, Try.ntmps18
    go_upto_region 1 with fail
    rw [HW1.out, HGZ.out]
    clear HW1
    go_wp2_with fail
    refine cn.mono ?_
    rintro e w1 ⟨rfl, rfl⟩
    clear cn
    go_wp2_with fail
    refine cl.mono ?_
    clear cl
    rintro e w2 hr
    have HM := Hid_of (hr.mo HB1.out)
    rw [HD.out] at HM
    obtain ⟨G', rfl, h1, h2⟩ := HM.out
    have HQ : Hid (MO w0 w (UG b t.n F u g ys) b (.bool (Tm.isT t i && true)) (akD t i z) (.returned (.bool (Tm.isT t i))) w2) := ⟨G', by rw [Bool.and_true], h1, h2⟩
    clear hr HM h1 h2
    generalize Tm.isT t i = bi at *
    go_wp2
    go_ret
    exact HQ.out
end
end Go.Proofs.Ytgodnpngdbelhaa
namespace Go.Proofs.Ytgodnpngdbelhaa
open Go.RowKit Go.Maps
set_option linter.unusedVariables false
open M (E V)
open Rm (NT R)
open Tm (T)
section
variable {w0 w w' w1 : World} {b g c : Nat} {F : Nat → Nat → Prop} {bs : Nat → Nat} {u u' : Value} {ys ys' : List RN} {t : T} {G X : Nat → Prop} {r : R} {F1 : Nat → Prop} {br : Nat}
theorem TO.propose (h : TO w0 w G b t) (i : Int) (v : ByteArray) : Calls Try.prog 16 #[ptr b, .int .i64 i, .string v] w (MO w0 w G b (.int .i64 (Tm.ppcT t i v)) (Tm.ppT t i v)) := by
  obtain ⟨g, c, F, bs, u, ys, rfl, hp⟩ := h
  obtain ⟨W1, HW1⟩ : ∃ W1, Hid (w.alloc (.cells #[.string v] 9) = W1) := ⟨_, Hid_of rfl⟩
  have hb1 : Below w.heap.size w W1 := by rw [← HW1.out]; exact bel1 w _
  have hz1 : W1.heap[w.heap.size]? = some (.cells #[.string v] 9 (0, 0)) := by rw [← HW1.out]; exact heap_alloc_last w _
  obtain ⟨gz, hgz⟩ : ∃ gz, w.heap.size = gz := ⟨_, rfl⟩
  rw [hgz] at hz1
  obtain ⟨W2, HW2⟩ : ∃ W2, Hid (W1.alloc (.cells #[.int .i64 1] 37) = W2) := ⟨_, Hid_of rfl⟩
  have hb2 : Below W1.heap.size W1 W2 := by rw [← HW2.out]; exact bel1 W1 _
  have hz2 : W2.heap[W1.heap.size]? = some (.cells #[.int .i64 1] 37 (0, 0)) := by rw [← HW2.out]; exact heap_alloc_last W1 _
  obtain ⟨gy, hgy⟩ : ∃ gy, W1.heap.size = gy := ⟨_, rfl⟩
  rw [hgy] at hz2
  have hb12 := bel_up hb1 hb2 (Nat.le_refl _)
  have h2 := hp.keep hb12
  have hz12 := bel_row hz1 hb2
  have hgzy : w.heap.size < gy := by rw [← hgy]; exact Nat.lt_of_lt_of_le (by rw [hgz]; exact (Array.getElem?_eq_some_iff.1 hz1).1) (Nat.le_refl _)
  have hgyl : gy < W2.heap.size := (Array.getElem?_eq_some_iff.1 hz2).1
  have hX : ∀ k, k = gy → k < W2.heap.size ∧ ¬ TG b t.n F u k ∧ w0.heap.size ≤ k ∧ k ≠ g ∧ ∀ y ∈ ys, ¬ blk y.ad k := by
    rintro k rfl
    refine ⟨hgyl, fun e => ?_, ?_, ?_, fun y hy e => ?_⟩
    · have := (hp.mine _ e).2; omega
    · have := hp.bel.size; omega
    · have := hp.gz; omega
    · have := ((hp.ob.ow.all y hy).blk _ e).1; omega
  have hl : Tm.isT t i = true → (Rm.ppN (t.rs i.toNat) v).length ≤ 1000000 := fun hi => by
    have := ppN_len (hp.rs i.toNat (Tm.isT_yes hi)).n17.2 v
    omega
  have cl := h2.run30 (X := (· = gy)) (Q := fun W => W.heap[gy]? = some (.cells #[.int .i64 (Np.M.ppc (t.rs i.toNat).p v)] 37 (0, 0))) i (ptr gz) (ptr gy) (Rm.ppS (t.rs i.toNat) v) (if Tm.isT t i = true then Rm.ppN (t.rs i.toNat) v else []) (by split; exact hl (by assumption); simp) hX (fun W W' hq hk => (hk gy rfl).trans hq)
    (fun hi W hb => by rw [if_pos hi]; exact ((h2.rs i.toNat (Tm.isT_yes hi)).keep hb).proposeC v gz gy _ ((row1 (bel_row hz12 hb)).1) (bel_row hz2 hb) (fun e => (hX gy rfl).2.1 (.inl (.inr ⟨_, Tm.isT_yes hi, e⟩))) ((hX gy rfl).2.2.1))
  have HD : Hid (doT t i (Rm.ppS (t.rs i.toNat) v) (if Tm.isT t i = true then Rm.ppN (t.rs i.toNat) v else []) = Tm.ppT t i v) := Hid_of (by
    unfold doT Tm.ppT
    split
    · rfl
    · rfl)
  have HFIN : Hid (∀ w3 e, RunO w0 W2 b g c F bs u ys t (· = gy) (fun W => W.heap[gy]? = some (.cells #[.int .i64 (Np.M.ppc (t.rs i.toNat).p v)] 37 (0, 0))) i (Rm.ppS (t.rs i.toNat) v) (if Tm.isT t i = true then Rm.ppN (t.rs i.toNat) v else []) e w3 →
      ∃ bi, e = .returned (.bool bi) ∧ w3.cell? ⟨gy, 0, none⟩ = some (.int .i64 (Tm.ppcT t i v)) ∧ MO w0 w (UG b t.n F u g ys) b (.int .i64 (Tm.ppcT t i v)) (Tm.ppT t i v) (.returned (.int .i64 (Tm.ppcT t i v))) w3) := by
    rintro w3 e ⟨F', u', ys', rfl, k1, k2, k3, k4, k6⟩
    refine ⟨_, rfl, ?_, ?_⟩
    · cases hi : Tm.isT t i with
      | true =>
        have := k3 hi
        unfold Tm.ppcT
        rw [if_pos hi]
        exact (row1 this).1
      | false =>
        have := bel_row hz2 (k4 hi)
        unfold Tm.ppcT
        rw [if_neg (by rw [hi]; decide)]
        exact (row1 this).1
    · have k5 := k1.to
      rw [doT_n, HD.out] at k5
      refine ⟨_, rfl, k5, fr_ug ⟨k2.os.trans hb12.os, k2.tape.trans hb12.tape, k2.output.trans hb12.output, Nat.le_trans hb12.size k2.size, fun k hk hn => ?_, fun k hk => ?_⟩ fun z hz => (k6 z hz).imp id fun e k hk => Nat.le_trans hb12.size (e k hk)⟩
      · rw [k2.block k (Nat.lt_of_lt_of_le hk hb12.size) hn (fun e => by omega)]
        exact hb12.block k hk
      · exact (k2.n k hk).imp id (fun e => Nat.le_trans hb12.size e)
  have HGZ := Hid_of hgz
  have HGY := Hid_of hgy
  clear hp h2 hb1 hb2 hb12 hz1 hz2 hz12 hgz hgy hgzy hgyl hX hl
  go_enter Try.func16, Try.ntmps16
  go_upto_region 1 with fail
  rw [HW1.out, HGZ.out]
  clear HW1
  go_upto_region 2 with fail
  rw [HW2.out, HGY.out]
  clear HW2
  go_wp2_with fail
  refine cl.mono ?_
  clear cl
  rintro e w3 hr
  obtain ⟨bi, rfl, x0, hm⟩ := HFIN.out w3 e hr
  have HM := Hid_of hm
  clear hr hm
  generalize Tm.ppcT t i v = cd at *
  go_wp2
  go_ret
  exact HM.out
/-- What the arrival of a note wants. -/
structure Rdy (t : T) (k : Int) : Prop where
  len : t.way.length ≤ 1024
  dst : t.way.length ≠ 0 → Tm.isT t (Tm.atT t k).t = true
  wf : t.way.length ≠ 0 → ∀ x ∈ (Tm.atT t k).v, (Lit.int .i64 x.s).wf = true
  c : t.way.length ≠ 0 → (t.rs (Tm.atT t k).t.toNat).p.c + (Tm.atT t k).v.length ≤ 900000 ∧ (t.rs (Tm.atT t k).t.toNat).l.c + (Tm.atT t k).v.length ≤ 900000
  out : t.way.length ≠ 0 → (Rm.tkN (t.rs (Tm.atT t k).t.toNat) (Tm.atT t k)).length ≤ 1000000
theorem drT_nil (k : Int) (h : t.way.length = 0) : Tm.drT t k = t := by
  obtain ⟨n, rs, way⟩ := t
  simp only at h
  obtain rfl := List.length_eq_zero_iff.1 h
  rfl
theorem TO.drop (h : TO w0 w G b t) (k : Int) (hm : t.way.length ≤ 1024) : Calls Try.prog 20 #[ptr b, .int .i64 k] w (MO w0 w G b (.bool (!(t.way.length == 0))) (Tm.drT t k)) := by
  obtain ⟨g, c, F, bs, u, ys, rfl, hp⟩ := h
  have ct := hp.take k hm
  have HP := Hid_of hp
  have HFIN : Hid (∀ e w1, TakeO w0 w b g c F bs u ys t k e w1 → ∃ y : RN, e = .returned (.tuple #[nV y, .bool (!(t.way.length == 0))]) ∧ ∀ w2, Below w1.heap.size w1 w2 → MO w0 w (UG b t.n F u g ys) b (.bool (!(t.way.length == 0))) (Tm.drT t k) (.returned (.bool (!(t.way.length == 0)))) w2) := by
    rintro e w1 (⟨h0, rfl, hb⟩ | ⟨h0, y, u', ys', rfl, hyx, h1, h2, h3, h4, -⟩)
    · refine ⟨zR, by rw [h0]; rfl, fun w2 hb2 => ⟨_, rfl, ?_, Fr.ofBelow (bel_up hb hb2 (Nat.le_refl _))⟩⟩
      rw [drT_nil k h0]
      exact (hp.keep (bel_up hb hb2 (Nat.le_refl _))).to
    · refine ⟨y, by rw [beq_false_of_ne h0]; rfl, fun w2 hb2 => ⟨_, rfl, (h1.keep hb2).to, fr_ug (h2.up hb2) fun z hz => .inl (h4 z hz)⟩⟩
  clear hp hm HP
  generalize (!(t.way.length == 0)) = bo at *
  go_enter Try.func20, Try.ntmps20
  go_wp2_with fail
  refine ct.mono ?_
  clear ct
  rintro e w1 hr
  obtain ⟨⟨⟨yk, yf, yt, ysl, ⟨yi, yj⟩, yv⟩, yad, yc⟩, rfl, hm⟩ := HFIN.out e w1 hr
  have HM := Hid_of (fun o => hm (w1.alloc o) (bel1 w1 o))
  clear hr hm HFIN
  go_wp2
  go_ret
  exact HM.out _
theorem TO.deliver (h : TO w0 w G b t) (k : Int) (hr : Rdy t k) : Calls Try.prog 19 #[ptr b, .int .i64 k] w (MO w0 w G b (.bool (!(t.way.length == 0))) (Tm.dlT t k)) := by
  obtain ⟨g, c, F, bs, u, ys, rfl, hp⟩ := h
  have ct := hp.take k hr.len
  by_cases h0 : t.way.length = 0
  · have hbo : (!(t.way.length == 0)) = false := by rw [h0]; rfl
    rw [hbo]
    have HK : Hid (∀ w1 o, Below w.heap.size w w1 → MO w0 w (UG b t.n F u g ys) b (.bool false) (Tm.dlT t k) (.returned (.bool false)) (w1.alloc o)) := fun w1 o hb => by
      have hb2 := bel_up hb (bel1 w1 o) (Nat.le_refl _)
      refine ⟨_, rfl, ?_, Fr.ofBelow hb2⟩
      unfold Tm.dlT
      rw [if_pos h0]
      exact (hp.keep hb2).to
    have H0 := Hid_of h0
    clear hp hr hbo h0
    go_enter Try.func19, Try.ntmps19
    go_wp2_with fail
    refine ct.mono ?_
    clear ct
    rintro e w1 (⟨-, rfl, hb⟩ | ⟨h0, -⟩)
    · have HM := Hid_of (fun o => HK.out w1 o hb)
      clear hb HK
      unfold zR Tm.zn Rm.e0
      go_wp2
      go_ret
      exact HM.out _
    · exact absurd H0.out h0
  · have hbo : (!(t.way.length == 0)) = true := by rw [beq_false_of_ne h0]; rfl
    rw [hbo]
    have HR := Hid_of hr
    have HH := Hid_of h0
    have hdst := hr.dst h0
    have HD : Hid (doT (Tm.drT t k) (Tm.atT t k).t (Rm.tkS (t.rs (Tm.atT t k).t.toNat) (Tm.atT t k)) (Rm.tkN (t.rs (Tm.atT t k).t.toNat) (Tm.atT t k)) = Tm.dlT t k) := Hid_of (by
      unfold doT Tm.dlT
      rw [if_neg h0, if_pos (show Tm.isT (Tm.drT t k) (Tm.atT t k).t = true from hdst)])
    have HDST := Hid_of hdst
    clear hp hr hbo h0 hdst
    go_enter Try.func19, Try.ntmps19
    go_wp2_with fail
    refine ct.mono ?_
    clear ct
    rintro e w1 (⟨h0, -⟩ | ⟨-, y, u', ys', rfl, hyx, h1, h2, h3, h4, -⟩)
    · exact absurd h0 HH.out
    · obtain ⟨W2, HW2⟩ : ∃ W2, Hid (w1.alloc (.cells (nl.cs y).toArray 63) = W2) := ⟨_, Hid_of rfl⟩
      have hb2 : Below w1.heap.size w1 W2 := by rw [← HW2.out]; exact bel1 w1 _
      have hz2 : W2.heap[w1.heap.size]? = some (.cells (nl.cs y).toArray 63 (0, 0)) := by rw [← HW2.out]; exact heap_alloc_last w1 _
      obtain ⟨gy, hgy⟩ : ∃ gy, w1.heap.size = gy := ⟨_, rfl⟩
      rw [hgy] at hz2
      have h12 := h1.keep hb2
      have cl := h12.run35 (X := no) (Q := yes) (Tm.atT t k).t (ptr gy) (Rm.tkS (t.rs (Tm.atT t k).t.toNat) (Tm.atT t k)) (Rm.tkN (t.rs (Tm.atT t k).t.toNat) (Tm.atT t k)) (HR.out.out HH.out) no_ok (fun _ _ _ _ => trivial) (fun hi W hb => by
        have hy4 := (h3.keep hb2).keep hb
        have := ((h12.rs _ (Tm.isT_yes hi)).keep hb).takeC gy y (bel_row hz2 hb) (hy4.imp fun q _ hq e => hq.2 (.inl (.inr ⟨_, Tm.isT_yes hi, e⟩))) (by rw [hyx]; exact HR.out.wf HH.out) (by rw [hyx]; exact (HR.out.c HH.out).1) (by rw [hyx]; exact (HR.out.c HH.out).2)
        rw [hyx] at this
        exact this)
      have HFIN : Hid (∀ e w3, RunO w0 W2 b g c F bs u' ys' (Tm.drT t k) no yes (Tm.atT t k).t (Rm.tkS (t.rs (Tm.atT t k).t.toNat) (Tm.atT t k)) (Rm.tkN (t.rs (Tm.atT t k).t.toNat) (Tm.atT t k)) e w3 → e = .returned (.bool true) ∧ MO w0 w (UG b t.n F u g ys) b (.bool true) (Tm.dlT t k) (.returned (.bool true)) w3) := fun e w3 hro => by
        obtain ⟨G', he, k1, k2⟩ := hro.mo hb2
        rw [HD.out] at k1
        have hi : Tm.isT (Tm.drT t k) (Tm.atT t k).t = true := HDST.out
        rw [hi] at he
        exact ⟨he, G', rfl, k1, (fr_ug h2 fun z hz => .inl (h4 z hz)).trans k2⟩
      have hyt : y.x.t = (Tm.atT t k).t := by rw [hyx]
      rw [← hyt] at cl
      have HYT := Hid_of hyt
      have HGY := Hid_of hgy
      have hz3 := Hid_of hz2
      clear h1 h2 h3 h4 h12 hb2 hz2 hgy hyx hyt
      obtain ⟨⟨yk, yf, yt, ysl, ⟨yi, yj⟩, yv⟩, yad, yc⟩ := y
      obtain ⟨⟨x0, x1, x2, x3, x4, x5, x6⟩, _⟩ := row7 hz3.out
      simp only at x0 x1 x2 x3 x4 x5 x6 HYT cl
      rw [← HYT.out] at HFIN
      go_upto_region 2 with fail
      rw [show w1.alloc (.cells #[.int .i64 yk, .int .i64 yf, .int .i64 yt, .int .i64 ysl, .int .i64 yi, .int .i64 yj, .slice yad yv.length yc] 63) = W2 from HW2.out, HGY.out]
      go_wp2_with fail
      refine cl.mono ?_
      clear cl
      rintro e w3 hro
      obtain ⟨rfl, hm⟩ := HFIN.out e w3 hro
      have HM := Hid_of hm
      clear hro hm
      go_wp2
      go_ret
      exact HM.out
end
end Go.Proofs.Ytgodnpngdbelhaa
namespace Go.Proofs.Ytgodnpngdbelhaa
open Go.RowKit Go.Maps
set_option linter.unusedVariables false
open M (E V)
open Rm (NT R)
open Tm (T)
section
variable {w0 w w' w1 : World} {b g c : Nat} {F : Nat → Nat → Prop} {bs : Nat → Nat} {u u' : Value} {ys ys' : List RN} {t : T} {G X : Nat → Prop} {r : R} {F1 : Nat → Prop} {br : Nat}
theorem fr_ug' {n : Nat} {F' : Nat → Nat → Prop} {y : RN} (h : Fr w (TG b n F u) w' (TG b n F' u')) (hy : y ∈ ys) (hs : ∀ z ∈ ys', z ∈ ys ∨ z.ad = y.ad) : Fr w (UG b n F u g ys) w' (UG b n F' u' g ys') := by
  refine ⟨h.os, h.tape, h.output, h.size, fun k hk hn => h.block k hk (fun e => hn (.inl e)), fun k hk => ?_⟩
  rcases hk with hk | hk | ⟨z, hz, hk⟩
  · exact (h.n k hk).imp .inl id
  · exact .inl (.inr (.inl hk))
  · rcases hs z hz with h' | h'
    · exact .inl (.inr (.inr ⟨z, h', hk⟩))
    · exact .inl (.inr (.inr ⟨y, hy, h' ▸ hk⟩))
theorem addT_n (t : T) (x : NT) : (addT t x).n = t.n := by
  unfold addT
  split <;> rfl
theorem TO.double (h : TO w0 w G b t) (k : Int) (hm : t.way.length ≤ 1024) : Calls Try.prog 21 #[ptr b, .int .i64 k] w (MO w0 w G b (.bool (!(t.way.length == 0) && decide (t.way.length < 1024))) (Tm.dbT t k)) := by
  obtain ⟨g, c, F, bs, u, ys, rfl, hp⟩ := h
  have cp := hp.place k hm
  by_cases h0 : t.way.length = 0
  · have hv : placeV t k = .tuple #[.int .i64 0, .bool false] := by unfold placeV; rw [if_pos h0]
    rw [hv] at cp
    have hbo : (!(t.way.length == 0) && decide (t.way.length < 1024)) = false := by rw [h0]; rfl
    have HM : Hid (MO w0 w (UG b t.n F u g ys) b (.bool false) (Tm.dbT t k) (.returned (.bool false)) w) := by
      refine ⟨_, rfl, ?_, Fr.refl _ _⟩
      unfold Tm.dbT
      rw [if_pos (.inl h0)]
      exact hp.to
    rw [hbo]
    clear hp hv hbo h0 hm
    go_enter Try.func21, Try.ntmps21
    go_wp2_with fail
    refine cp.mono ?_
    clear cp
    rintro e w1 ⟨rfl, rfl⟩
    go_wp2
    go_ret
    exact HM.out
  · have hv : placeV t k = .tuple #[.int .i64 ((Tm.at' k t.way.length : Nat) : Int), .bool true] := by unfold placeV; rw [if_neg h0]
    rw [hv] at cp
    have hbo : (!(t.way.length == 0) && decide (t.way.length < 1024)) = decide (t.way.length < 1024) := by rw [beq_false_of_ne h0]; rfl
    rw [hbo]
    have hlen := hp.len
    have hp0 : Tm.at' k t.way.length < ys.length := by rw [hlen]; exact Tm.at_lt k (by omega)
    have hyx := atT_at hp.my hp0
    have hD : Tm.dbT t k = addT t (Tm.atT t k) := by
      unfold Tm.dbT addT
      by_cases h1 : t.way.length < 1024
      · rw [if_neg (by omega), if_pos h1]
      · rw [if_pos (.inr (by omega)), if_neg h1]
    have hcn : Hid (∀ w2 e, WayO w0 w b g c F bs u ys (ys[Tm.at' k t.way.length]).ad t (addT t (Tm.atT t k)) e (.bool (decide (t.way.length < 1024))) w2 → e = .returned (.bool (decide (t.way.length < 1024))) ∧ MO w0 w (UG b t.n F u g ys) b (.bool (decide (t.way.length < 1024))) (Tm.dbT t k) (.returned (.bool (decide (t.way.length < 1024)))) w2) := by
      rintro w2 e ⟨u2, ys2, rfl, k1, k2, k4⟩
      have k3 := k1.to
      rw [addT_n, ← hD] at k3
      exact ⟨rfl, _, rfl, k3, fr_ug' k2 (List.getElem_mem hp0) k4⟩
    generalize Tm.at' k t.way.length = p at *
    have hym : ys[p] ∈ ys := List.getElem_mem hp0
    obtain ⟨⟨c0, c1⟩, cf⟩ := row2 hp.row
    obtain ⟨ad, cc, hu, hx⟩ := hp.ob.ow.at
    obtain ⟨q, off, ea, n0, n1, n2, n3, n4, n5, n6⟩ := AtL.getN hx.xl.at' p hp0
    obtain ⟨y, HY⟩ : ∃ y, Hid (ys[p] = y) := ⟨_, Hid_of rfl⟩
    rw [HY.out] at n0 n1 n2 n3 n4 n5 n6 hyx hym hcn
    have hyo := hp.ob.ow.all y hym
    have hyn := hp.ob.all y hym
    have ca := hp.add y ⟨hyo.xl, fun j hj => ⟨(hyo.blk j hj).1, (hyo.blk j hj).2.1, fun e => by
      rcases e with e | e
      · exact hyn j hj e
      · exact (hyo.blk j hj).2.2 e⟩⟩
    rw [hyx] at ca
    obtain ⟨⟨yk, yf, yt, ysl, ⟨yi, yj⟩, yv⟩, yad, yc⟩ := y
    simp only at n0 n1 n2 n3 n4 n5 n6
    subst ea
    have hpi : (p : Int) < (ys.length : Int) := by omega
    clear hv hbo hyx hD hym hyo hyn hx hp
    rw [hu] at c1
    have HC := Hid_of ca
    clear ca hu HY hlen
    generalize ys.length = n at *
    obtain ⟨bo, hbo⟩ : ∃ bo, decide (t.way.length < 1024) = bo := ⟨_, rfl⟩
    rw [hbo] at hcn HC ⊢
    clear hbo h0
    go_enter Try.func21, Try.ntmps21
    go_wp2_with fail
    refine cp.mono ?_
    clear cp
    rintro e w1 ⟨rfl, rfl⟩
    go_wp2_with fail
    refine HC.out.mono ?_
    rintro e w2 hw
    obtain ⟨rfl, hm⟩ := hcn.out w2 e hw
    have HM := Hid_of hm
    clear hw hm HC hcn n0 n1 n2 n3 n4 n5 n6
    go_wp2
    go_ret
    exact HM.out
end
end Go.Proofs.Ytgodnpngdbelhaa
