import Derived.Test.YtgodnpngdbelhaaGreatGP24
import Derived.SliceStrings
import Derived.ChangeOld
import Derived.OpenShut
import Derived.ShutString
import Derived.SizedLaws
set_option maxRecDepth 100000
set_option maxHeartbeats 8000000
set_option linter.unusedVariables false
set_option linter.unusedSimpArgs false
open Go.Proofs.Tryz
namespace Go.Proofs.YtgodnpngdbelhaaGreat
open Go.RowKit Go.Maps
open M (E V)
open Rm (NT R)
open Tm (T)
section
variable {w0 w w' w1 : World} {b g c : Nat} {F : Nat → Nat → Prop} {bs : Nat → Nat} {u u' : Value} {ys ys' : List RN} {t : T} {G X : Nat → Prop} {r : R} {F1 : Nat → Prop} {br : Nat}
def MO (w0 w : World) (G : Nat → Prop) (b : Nat) (r : Value) (t' : T) (e : Ending) (w' : World) : Prop := ∃ G', e = .returned r ∧ TO w0 w' G' b t' ∧ Fr w G w' G'
theorem doT_n (t : T) (i : Int) (r' : R) (l : List NT) : (doT t i r' l).n = t.n := by
 unfold doT
 split <;> rfl
theorem RunO.mo {W : World} {i : Int} {r' : R} {l : List NT} {e : Ending} (hb : Bl w W) (h : RunO w0 W b g c F bs u ys t no yes i r' l e w') : MO w0 w (UG b t.n F u g ys) b (.bool (Tm.isT t i)) (doT t i r' l) e w' := by
 obtain ⟨F', u', ys', rfl, h1, h2, -, -, h5⟩ := h; have h4 := h1.to; rw [doT_n] at h4
 exact ⟨_, rfl, h4, fr_ug ((Fr.ofBelow hb).trans h2.fr0) fun z hz => (h5 z hz).imp id fun e k hk => Nat.le_trans hb.size (e k hk)⟩
theorem no_ok {w : World} {G : Nat → Prop} {g : Nat} {ys : List RN} {B : Nat} : ∀ k, no k → k < w.heap.size ∧ ¬ G k ∧ B ≤ k ∧ k ≠ g ∧ ∀ y ∈ ys, ¬ blk y.ad k := fun k h => h.elim
theorem TO.lead (h : TO w0 w G b t) (i : Int) : Calls prog 16 #[ptr b, .int .i64 i] w (MO w0 w G b (.bool (Tm.isT t i)) (Tm.ldT t i)) := by
 obtain ⟨g, c, F, bs, u, ys, rfl, hp⟩ := h; have hl : Tm.isT t i = true → (Rm.ldN (t.rs i.toNat)).length ≤ 1000000 := fun hi => by
  have := ldN_len (hp.rs i.toNat (Tm.isT_yes hi)).n17.2; omega
 have hD : doT t i (Rm.ldS (t.rs i.toNat)) (Rm.ldN (t.rs i.toNat)) = Tm.ldT t i := rfl; have cl := hp.run28 (X := no) (Q := yes) i (Rm.ldS (t.rs i.toNat)) (if Tm.isT t i = true then Rm.ldN (t.rs i.toNat) else []) (by split; exact hl (by assumption); simp) no_ok (fun _ _ _ _ => trivial) (fun hi W hb => by rw [if_pos hi]; exact ((hp.rs i.toNat (Tm.isT_yes hi)).keep hb).leadC); have HD : Hid (doT t i (Rm.ldS (t.rs i.toNat)) (if Tm.isT t i = true then Rm.ldN (t.rs i.toNat) else []) = Tm.ldT t i) := Hf (by
  rw [← hD]; unfold doT; split
  ·rfl
  ·rfl)
 clear hp hl hD; go_enter func16, ntmps16; go_wp2_with fail; refine cl.mono ?_; clear cl; rintro e w1 hr; have HM := Hf (hr.mo (Below.refl _ _)); rw [HD.out] at HM; obtain ⟨G', rfl, h1, h2⟩ := HM.out; have HQ : Hid (MO w0 w (UG b t.n F u g ys) b (.bool (Tm.isT t i)) (Tm.ldT t i) (.returned (.bool (Tm.isT t i))) w1) := ⟨G', rfl, h1, h2⟩; clear hr HM h1 h2; generalize Tm.isT t i = bi at *; go_wp2; go_ret; exact HQ.out
theorem TO.crash (h : TO w0 w G b t) (i : Int) : Calls prog 33 #[ptr b, .int .i64 i] w (MO w0 w G b (.bool (Tm.isT t i)) (Tm.crT t i)) := by
 obtain ⟨g, c, F, bs, u, ys, rfl, hp⟩ := h; have cl := hp.run39 (X := no) (Q := yes) i (Rm.crS (t.rs i.toNat)) [] (by simp) no_ok (fun _ _ _ _ => trivial) (fun hi W hb => ((hp.rs i.toNat (Tm.isT_yes hi)).keep hb).crashC); have HD : Hid (doT t i (Rm.crS (t.rs i.toNat)) [] = Tm.crT t i) := Hf (by
  unfold doT Tm.crT Tm.say; split
  ·simp
  ·rfl)
 clear hp; go_enter func33, ntmps33; go_wp2_with fail; refine cl.mono ?_; clear cl; rintro e w1 hr; have HM := Hf (hr.mo (Below.refl _ _)); rw [HD.out] at HM; obtain ⟨G', rfl, h1, h2⟩ := HM.out; have HQ : Hid (MO w0 w (UG b t.n F u g ys) b (.bool (Tm.isT t i)) (Tm.crT t i) (.returned (.bool (Tm.isT t i))) w1) := ⟨G', rfl, h1, h2⟩; clear hr HM h1 h2; generalize Tm.isT t i = bi at *; go_wp2; go_ret; exact HQ.out
def akD (t : T) (i z : Int) : T := if Tm.isT t z = true then Tm.akT t i z else t
theorem TO.ask (h : TO w0 w G b t) (i z : Int) : Calls prog 32 #[ptr b, .int .i64 i, .int .i64 z] w (MO w0 w G b (.bool (Tm.isT t i && Tm.isT t z)) (akD t i z)) := by
 obtain ⟨g, c, F, bs, u, ys, rfl, hp⟩ := h; obtain ⟨W1, HW1⟩ := Nh (w.alloc (.cells #[.int .i64 z] 3)); have hb1 := Ab HW1; have hz1 := Ac HW1; obtain ⟨gz, hgz⟩ := Nq (w.heap.size); rw [hgz] at hz1; have h1 := hp.keep hb1; have cn := h1.node' z; obtain ⟨c0, _⟩ := row1 hz1; cases hz : Tm.isT t z with
 | false =>
  have hv : nodeV t bs z = .pointer none := by unfold nodeV; rw [hz]; rfl
  rw [hv] at cn; have HQ : Hid (MO w0 w (UG b t.n F u g ys) b (.bool (Tm.isT t i && false)) (akD t i z) (.returned (.bool false)) W1) := by
   refine ⟨_, by rw [Bool.and_false], ?_, Fr.ofBelow hb1⟩; unfold akD; rw [if_neg (by rw [hz]; decide)]; exact h1.to
  have HGZ := Hf hgz; clear hp h1 hb1 hz1 hgz hv hz; go_enter func32, ntmps32; go_upto_region 1 with fail
  rw [HW1.out, HGZ.out]; clear HW1; go_wp2_with fail; refine cn.mono ?_; rintro e w1 ⟨rfl, rfl⟩; clear cn; go_wp2; go_ret; exact HQ.out
 | true =>
  have hv : nodeV t bs z = ptr (bs z.toNat) := by unfold nodeV; rw [hz]; rfl
  rw [hv] at cn; have hb2 : Bl w W1.drew := Below.trans hb1 ((Below.drew (Below.refl _ _)).mono hb1.size); have hak : (Rm.akN (t.rs i.toNat) z).length ≤ 1000000 := by have := akN_len (r := t.rs i.toNat) z; omega
  have cl := h1.run32 (X := no) (Q := yes) i (ptr gz) (t.rs i.toNat) (Rm.akN (t.rs i.toNat) z) hak no_ok (fun _ _ _ _ => trivial) (fun hi W hb => ((h1.rs i.toNat (Tm.isT_yes hi)).keep hb).askC gz z ((row1 (Br hz1 hb)).1)); have HD : Hid (doT t i (t.rs i.toNat) (Rm.akN (t.rs i.toNat) z) = akD t i z) := Hf (by unfold akD; rw [if_pos hz]; rfl); have HGZ := Hf hgz; have HB1 := Hf hb1; clear hp h1 hb1 hz1 hgz hv hz hak hb2; go_enter func32, ntmps32; go_upto_region 1 with fail
  rw [HW1.out, HGZ.out]; clear HW1; go_wp2_with fail; refine cn.mono ?_; rintro e w1 ⟨rfl, rfl⟩; clear cn; go_wp2_with fail; refine cl.mono ?_; clear cl; rintro e w2 hr; have HM := Hf (hr.mo HB1.out); rw [HD.out] at HM; obtain ⟨G', rfl, h1, h2⟩ := HM.out; have HQ : Hid (MO w0 w (UG b t.n F u g ys) b (.bool (Tm.isT t i && true)) (akD t i z) (.returned (.bool (Tm.isT t i))) w2) := ⟨G', by rw [Bool.and_true], h1, h2⟩; clear hr HM h1 h2; generalize Tm.isT t i = bi at *; go_wp2; go_ret; exact HQ.out
end
section
variable {w0 w w' w1 : World} {b g c : Nat} {F : Nat → Nat → Prop} {bs : Nat → Nat} {u u' : Value} {ys ys' : List RN} {t : T} {G X : Nat → Prop} {r : R} {F1 : Nat → Prop} {br : Nat}
theorem TO.propose (h : TO w0 w G b t) (i : Int) (v : ByteArray) : Calls prog 18 #[ptr b, .int .i64 i, .string v] w (MO w0 w G b (.int .i64 (Tm.ppcT t i v)) (Tm.ppT t i v)) := by
 obtain ⟨g, c, F, bs, u, ys, rfl, hp⟩ := h; obtain ⟨W1, HW1⟩ := Nh (w.alloc (.cells #[.string v] 9)); have hb1 := Ab HW1; have hz1 := Ac HW1; obtain ⟨gz, hgz⟩ := Nq (w.heap.size); rw [hgz] at hz1; obtain ⟨W2, HW2⟩ := Nh (W1.alloc (.cells #[.int .i64 1] 60)); have hb2 := Ab HW2; have hz2 := Ac HW2; obtain ⟨gy, hgy⟩ := Nq (W1.heap.size); rw [hgy] at hz2; have hb12 := Bu hb1 hb2 Lr; have h2 := hp.keep hb12; have hz12 := Br hz1 hb2; have hgzy : w.heap.size < gy := by rw [← hgy]; exact Nat.lt_of_lt_of_le (by rw [hgz]; exact (Array.getElem?_eq_some_iff.1 hz1).1) Lr
 have hgyl : gy < W2.heap.size := (Array.getElem?_eq_some_iff.1 hz2).1; have hX : ∀ k, k = gy → k < W2.heap.size ∧ ¬ TG b t.n F u k ∧ w0.heap.size ≤ k ∧ k ≠ g ∧ ∀ y ∈ ys, ¬ blk y.ad k := by
  rintro k rfl; refine ⟨hgyl, fun e => ?_, ?_, ?_, fun y hy e => ?_⟩
  ·have := (hp.mine _ e).2; omega
  ·have := hp.bel.size; omega
  ·have := hp.gz; omega
  ·have := ((hp.ob.ow.all y hy).blk _ e).1; omega
 have hl : Tm.isT t i = true → (Rm.ppN (t.rs i.toNat) v).length ≤ 1000000 := fun hi => by
  have := ppN_len (hp.rs i.toNat (Tm.isT_yes hi)).n17.2 v; omega
 have cl := h2.run30 (X := (· = gy)) (Q := fun W => W.heap[gy]? = some (.cells #[.int .i64 (Np.M.ppc (t.rs i.toNat).p v)] 60 (0, 0))) i (ptr gz) (ptr gy) (Rm.ppS (t.rs i.toNat) v) (if Tm.isT t i = true then Rm.ppN (t.rs i.toNat) v else []) (by split; exact hl (by assumption); simp) hX (fun W W' hq hk => (hk gy rfl).trans hq)
  (fun hi W hb => by rw [if_pos hi]; exact ((h2.rs i.toNat (Tm.isT_yes hi)).keep hb).proposeC v gz gy _ ((row1 (Br hz12 hb)).1) (Br hz2 hb) (fun e => (hX gy rfl).2.1 (.inl (.inr ⟨_, Tm.isT_yes hi, e⟩))) ((hX gy rfl).2.2.1))
 have HD : Hid (doT t i (Rm.ppS (t.rs i.toNat) v) (if Tm.isT t i = true then Rm.ppN (t.rs i.toNat) v else []) = Tm.ppT t i v) := Hf (by
  unfold doT Tm.ppT; split
  ·rfl
  ·rfl)
 have HFIN : Hid (∀ w3 e, RunO w0 W2 b g c F bs u ys t (· = gy) (fun W => W.heap[gy]? = some (.cells #[.int .i64 (Np.M.ppc (t.rs i.toNat).p v)] 60 (0, 0))) i (Rm.ppS (t.rs i.toNat) v) (if Tm.isT t i = true then Rm.ppN (t.rs i.toNat) v else []) e w3 →
   ∃ bi, e = .returned (.bool bi) ∧ w3.cell? ⟨gy, 0, none⟩ = some (.int .i64 (Tm.ppcT t i v)) ∧ MO w0 w (UG b t.n F u g ys) b (.int .i64 (Tm.ppcT t i v)) (Tm.ppT t i v) (.returned (.int .i64 (Tm.ppcT t i v))) w3) := by
  rintro w3 e ⟨F', u', ys', rfl, k1, k2, k3, k4, k6⟩; refine ⟨_, rfl, ?_, ?_⟩
  ·cases hi : Tm.isT t i with
   | true =>
    have := k3 hi; unfold Tm.ppcT; rw [if_pos hi]; exact (row1 this).1
   | false =>
    have := Br hz2 (k4 hi); unfold Tm.ppcT; rw [if_neg (by rw [hi]; decide)]; exact (row1 this).1
  ·have k5 := k1.to; rw [doT_n, HD.out] at k5; refine ⟨_, rfl, k5, fr_ug ⟨k2.os.trans hb12.os, k2.tape.trans hb12.tape, k2.output.trans hb12.output, Nat.le_trans hb12.size k2.size, fun k hk hn => ?_, fun k hk => ?_⟩ fun z hz => (k6 z hz).imp id fun e k hk => Nat.le_trans hb12.size (e k hk)⟩
   ·rw [k2.block k (Nat.lt_of_lt_of_le hk hb12.size) hn (fun e => by omega)]; exact hb12.block k hk
   ·exact (k2.n k hk).imp id (fun e => Nat.le_trans hb12.size e)
 have HGZ := Hf hgz; have HGY := Hf hgy; clear hp h2 hb1 hb2 hb12 hz1 hz2 hz12 hgz hgy hgzy hgyl hX hl; go_enter func18, ntmps18; go_upto_region 1 with fail
 rw [HW1.out, HGZ.out]; clear HW1; go_upto_region 2 with fail
 rw [HW2.out, HGY.out]; clear HW2; go_wp2_with fail; refine cl.mono ?_; clear cl; rintro e w3 hr; obtain ⟨bi, rfl, x0, hm⟩ := HFIN.out w3 e hr; have HM := Hf hm; clear hr hm; generalize Tm.ppcT t i v = cd at *; go_wp2; go_ret; exact HM.out
structure Rdy (t : T) (k : Int) : Prop where
 len : t.way.length ≤ 1024
 dst : t.way.length ≠ 0 → Tm.isT t (Tm.atT t k).t = true
 wf : t.way.length ≠ 0 → ∀ x ∈ (Tm.atT t k).v, (Lit.int .i64 x.s).wf = true
 c : t.way.length ≠ 0 → (t.rs (Tm.atT t k).t.toNat).p.c + (Tm.atT t k).v.length ≤ 900000 ∧ (t.rs (Tm.atT t k).t.toNat).l.c + (Tm.atT t k).v.length ≤ 900000
 out : t.way.length ≠ 0 → (Rm.tkN (t.rs (Tm.atT t k).t.toNat) (Tm.atT t k)).length ≤ 1000000
theorem drT_nil (k : Int) (h : t.way.length = 0) : Tm.drT t k = t := by
 obtain ⟨n, rs, way⟩ := t; simp only at h; obtain rfl := List.length_eq_zero_iff.1 h; rfl
theorem TO.drop (h : TO w0 w G b t) (k : Int) (hm : t.way.length ≤ 1024) : Calls prog 30 #[ptr b, .int .i64 k] w (MO w0 w G b (.bool (!(t.way.length == 0))) (Tm.drT t k)) := by
 obtain ⟨g, c, F, bs, u, ys, rfl, hp⟩ := h; have ct := hp.take k hm; have HP := Hf hp; have HFIN : Hid (∀ e w1, TakeO w0 w b g c F bs u ys t k e w1 → ∃ y : RN, e = .returned (.tuple #[nV y, .bool (!(t.way.length == 0))]) ∧ ∀ w2, Bl w1 w2 → MO w0 w (UG b t.n F u g ys) b (.bool (!(t.way.length == 0))) (Tm.drT t k) (.returned (.bool (!(t.way.length == 0)))) w2) := by
  rintro e w1 (⟨h0, rfl, hb⟩ | ⟨h0, y, u', ys', rfl, hyx, h1, h2, h3, h4, -⟩)
  ·refine ⟨zR, by rw [h0]; rfl, fun w2 hb2 => ⟨_, rfl, ?_, Fr.ofBelow (Bu hb hb2 Lr)⟩⟩; rw [drT_nil k h0]; exact (hp.keep (Bu hb hb2 Lr)).to
  ·refine ⟨y, by rw [beq_false_of_ne h0]; rfl, fun w2 hb2 => ⟨_, rfl, (h1.keep hb2).to, fr_ug (h2.up hb2) fun z hz => .inl (h4 z hz)⟩⟩
 clear hp hm HP; generalize (!(t.way.length == 0)) = bo at *; go_enter func30, ntmps30; go_wp2_with fail; refine ct.mono ?_; clear ct; rintro e w1 hr; obtain ⟨⟨⟨yk, yf, yt, ysl, ⟨yi, yj⟩, yv⟩, yad, yc⟩, rfl, hm⟩ := HFIN.out e w1 hr; have HM := Hf (fun o => hm (w1.alloc o) (bel1 w1 o)); clear hr hm HFIN; go_wp2; go_ret; exact HM.out _
theorem TO.deliver (h : TO w0 w G b t) (k : Int) (hr : Rdy t k) : Calls prog 19 #[ptr b, .int .i64 k] w (MO w0 w G b (.bool (!(t.way.length == 0))) (Tm.dlT t k)) := by
 obtain ⟨g, c, F, bs, u, ys, rfl, hp⟩ := h; have ct := hp.take k hr.len; by_cases h0 : t.way.length = 0
 ·have hbo : (!(t.way.length == 0)) = false := by rw [h0]; rfl
  rw [hbo]; have HK : Hid (∀ w1 o, Bl w w1 → MO w0 w (UG b t.n F u g ys) b (.bool false) (Tm.dlT t k) (.returned (.bool false)) (w1.alloc o)) := fun w1 o hb => by
   have hb2 := Bu hb (bel1 w1 o) Lr; refine ⟨_, rfl, ?_, Fr.ofBelow hb2⟩; unfold Tm.dlT; rw [if_pos h0]; exact (hp.keep hb2).to
  have H0 := Hf h0; clear hp hr hbo h0; go_enter func19, ntmps19; go_wp2_with fail; refine ct.mono ?_; clear ct; rintro e w1 (⟨-, rfl, hb⟩ | ⟨h0, -⟩)
  ·have HM := Hf (fun o => HK.out w1 o hb); clear hb HK; unfold zR Tm.zn Rm.e0; go_wp2; go_ret; exact HM.out _
  ·exact absurd H0.out h0
 ·have hbo : (!(t.way.length == 0)) = true := by rw [beq_false_of_ne h0]; rfl
  rw [hbo]; have HR := Hf hr; have HH := Hf h0; have hdst := hr.dst h0; have HD : Hid (doT (Tm.drT t k) (Tm.atT t k).t (Rm.tkS (t.rs (Tm.atT t k).t.toNat) (Tm.atT t k)) (Rm.tkN (t.rs (Tm.atT t k).t.toNat) (Tm.atT t k)) = Tm.dlT t k) := Hf (by
   unfold doT Tm.dlT; rw [if_neg h0, if_pos (show Tm.isT (Tm.drT t k) (Tm.atT t k).t = true from hdst)])
  have HDST := Hf hdst; clear hp hr hbo h0 hdst; go_enter func19, ntmps19; go_wp2_with fail; refine ct.mono ?_; clear ct; rintro e w1 (⟨h0, -⟩ | ⟨-, y, u', ys', rfl, hyx, h1, h2, h3, h4, -⟩)
  ·exact absurd h0 HH.out
  ·obtain ⟨W2, HW2⟩ := Nh (w1.alloc (.cells (nl.cs y).toArray 72)); have hb2 := Ab HW2; have hz2 := Ac HW2; obtain ⟨gy, hgy⟩ := Nq (w1.heap.size); rw [hgy] at hz2; have h12 := h1.keep hb2; have cl := h12.run35 (X := no) (Q := yes) (Tm.atT t k).t (ptr gy) (Rm.tkS (t.rs (Tm.atT t k).t.toNat) (Tm.atT t k)) (Rm.tkN (t.rs (Tm.atT t k).t.toNat) (Tm.atT t k)) (HR.out.out HH.out) no_ok (fun _ _ _ _ => trivial) (fun hi W hb => by
    have hy4 := (h3.keep hb2).keep hb; have := ((h12.rs _ (Tm.isT_yes hi)).keep hb).takeC gy y (Br hz2 hb) (hy4.imp fun q _ hq e => hq.2 (.inl (.inr ⟨_, Tm.isT_yes hi, e⟩))) (by rw [hyx]; exact HR.out.wf HH.out) (by rw [hyx]; exact (HR.out.c HH.out).1) (by rw [hyx]; exact (HR.out.c HH.out).2); rw [hyx] at this; exact this)
   have HFIN : Hid (∀ e w3, RunO w0 W2 b g c F bs u' ys' (Tm.drT t k) no yes (Tm.atT t k).t (Rm.tkS (t.rs (Tm.atT t k).t.toNat) (Tm.atT t k)) (Rm.tkN (t.rs (Tm.atT t k).t.toNat) (Tm.atT t k)) e w3 → e = .returned (.bool true) ∧ MO w0 w (UG b t.n F u g ys) b (.bool true) (Tm.dlT t k) (.returned (.bool true)) w3) := fun e w3 hro => by
    obtain ⟨G', he, k1, k2⟩ := hro.mo hb2; rw [HD.out] at k1; have hi : Tm.isT (Tm.drT t k) (Tm.atT t k).t = true := HDST.out; rw [hi] at he; exact ⟨he, G', rfl, k1, (fr_ug h2 fun z hz => .inl (h4 z hz)).trans k2⟩
   have hyt : y.x.t = (Tm.atT t k).t := by rw [hyx]
   rw [← hyt] at cl; have HYT := Hf hyt; have HGY := Hf hgy; have hz3 := Hf hz2; clear h1 h2 h3 h4 h12 hb2 hz2 hgy hyx hyt; obtain ⟨⟨yk, yf, yt, ysl, ⟨yi, yj⟩, yv⟩, yad, yc⟩ := y; obtain ⟨⟨x0, x1, x2, x3, x4, x5, x6⟩, _⟩ := row7 hz3.out; simp only at x0 x1 x2 x3 x4 x5 x6 HYT cl; rw [← HYT.out] at HFIN; go_upto_region 2 with fail
   rw [show w1.alloc (.cells #[.int .i64 yk, .int .i64 yf, .int .i64 yt, .int .i64 ysl, .int .i64 yi, .int .i64 yj, .slice yad yv.length yc] 72) = W2 from HW2.out, HGY.out]; go_wp2_with fail; refine cl.mono ?_; clear cl; rintro e w3 hro; obtain ⟨rfl, hm⟩ := HFIN.out e w3 hro; have HM := Hf hm; clear hro hm; go_wp2; go_ret; exact HM.out
end
section
variable {w0 w w' w1 : World} {b g c : Nat} {F : Nat → Nat → Prop} {bs : Nat → Nat} {u u' : Value} {ys ys' : List RN} {t : T} {G X : Nat → Prop} {r : R} {F1 : Nat → Prop} {br : Nat}
theorem fr_ug' {n : Nat} {F' : Nat → Nat → Prop} {y : RN} (h : Fr w (TG b n F u) w' (TG b n F' u')) (hy : y ∈ ys) (hs : ∀ z ∈ ys', z ∈ ys ∨ z.ad = y.ad) : Fr w (UG b n F u g ys) w' (UG b n F' u' g ys') := by
 refine ⟨h.os, h.tape, h.output, h.size, fun k hk hn => h.block k hk (fun e => hn (.inl e)), fun k hk => ?_⟩; rcases hk with hk | hk | ⟨z, hz, hk⟩
 ·exact (h.n k hk).imp .inl id
 ·exact .inl (.inr (.inl hk))
 ·rcases hs z hz with h' | h'
  ·exact .inl (.inr (.inr ⟨z, h', hk⟩))
  ·exact .inl (.inr (.inr ⟨y, hy, h' ▸ hk⟩))
theorem addT_n (t : T) (x : NT) : (addT t x).n = t.n := by
 unfold addT
 split <;> rfl
theorem TO.double (h : TO w0 w G b t) (k : Int) (hm : t.way.length ≤ 1024) : Calls prog 31 #[ptr b, .int .i64 k] w (MO w0 w G b (.bool (!(t.way.length == 0) && decide (t.way.length < 1024))) (Tm.dbT t k)) := by
 obtain ⟨g, c, F, bs, u, ys, rfl, hp⟩ := h; have cp := hp.place k hm; by_cases h0 : t.way.length = 0
 ·have hv : placeV t k = .tuple #[.int .i64 0, .bool false] := by unfold placeV; rw [if_pos h0]
  rw [hv] at cp; have hbo : (!(t.way.length == 0) && decide (t.way.length < 1024)) = false := by rw [h0]; rfl
  have HM : Hid (MO w0 w (UG b t.n F u g ys) b (.bool false) (Tm.dbT t k) (.returned (.bool false)) w) := by
   refine ⟨_, rfl, ?_, Fr.refl _ _⟩; unfold Tm.dbT; rw [if_pos (.inl h0)]; exact hp.to
  rw [hbo]; clear hp hv hbo h0 hm; go_enter func31, ntmps31; go_wp2_with fail; refine cp.mono ?_; clear cp; rintro e w1 ⟨rfl, rfl⟩; go_wp2; go_ret; exact HM.out
 ·have hv : placeV t k = .tuple #[.int .i64 ((Tm.at' k t.way.length : Nat) : Int), .bool true] := by unfold placeV; rw [if_neg h0]
  rw [hv] at cp; have hbo : (!(t.way.length == 0) && decide (t.way.length < 1024)) = decide (t.way.length < 1024) := by rw [beq_false_of_ne h0]; rfl
  rw [hbo]; have hlen := hp.len; have hp0 : Tm.at' k t.way.length < ys.length := by rw [hlen]; exact Tm.at_lt k (by omega)
  have hyx := atT_at hp.my hp0; have hD : Tm.dbT t k = addT t (Tm.atT t k) := by
   unfold Tm.dbT addT; by_cases h1 : t.way.length < 1024
   ·rw [if_neg (by omega), if_pos h1]
   ·rw [if_pos (.inr (by omega)), if_neg h1]
  have hcn : Hid (∀ w2 e, WayO w0 w b g c F bs u ys (ys[Tm.at' k t.way.length]).ad t (addT t (Tm.atT t k)) e (.bool (decide (t.way.length < 1024))) w2 → e = .returned (.bool (decide (t.way.length < 1024))) ∧ MO w0 w (UG b t.n F u g ys) b (.bool (decide (t.way.length < 1024))) (Tm.dbT t k) (.returned (.bool (decide (t.way.length < 1024)))) w2) := by
   rintro w2 e ⟨u2, ys2, rfl, k1, k2, k4⟩; have k3 := k1.to; rw [addT_n, ← hD] at k3; exact ⟨rfl, _, rfl, k3, fr_ug' k2 (List.getElem_mem hp0) k4⟩
  generalize Tm.at' k t.way.length = p at *; have hym : ys[p] ∈ ys := List.getElem_mem hp0; obtain ⟨⟨c0, c1⟩, cf⟩ := row2 hp.row; obtain ⟨ad, cc, hu, hx⟩ := hp.ob.ow.at; obtain ⟨q, off, ea, n0, n1, n2, n3, n4, n5, n6⟩ := AtL.getN hx.xl.at' p hp0; obtain ⟨y, HY⟩ := Nh (ys[p]); rw [HY.out] at n0 n1 n2 n3 n4 n5 n6 hyx hym hcn; have hyo := hp.ob.ow.all y hym; have hyn := hp.ob.all y hym; have ca := hp.add y ⟨hyo.xl, fun j hj => ⟨(hyo.blk j hj).1, (hyo.blk j hj).2.1, fun e => by
   rcases e with e | e
   ·exact hyn j hj e
   ·exact (hyo.blk j hj).2.2 e⟩⟩
  rw [hyx] at ca; obtain ⟨⟨yk, yf, yt, ysl, ⟨yi, yj⟩, yv⟩, yad, yc⟩ := y; simp only at n0 n1 n2 n3 n4 n5 n6; subst ea; have hpi : (p : Int) < (ys.length : Int) := by omega
  clear hv hbo hyx hD hym hyo hyn hx hp; rw [hu] at c1; have HC := Hf ca; clear ca hu HY hlen; generalize ys.length = n at *; obtain ⟨bo, hbo⟩ := Nq (decide (t.way.length < 1024)); rw [hbo] at hcn HC ⊢; clear hbo h0; go_enter func31, ntmps31; go_wp2_with fail; refine cp.mono ?_; clear cp; rintro e w1 ⟨rfl, rfl⟩; go_wp2_with fail; refine HC.out.mono ?_; rintro e w2 hw; obtain ⟨rfl, hm⟩ := hcn.out w2 e hw; have HM := Hf hm; clear hw hm HC hcn n0 n1 n2 n3 n4 n5 n6; go_wp2; go_ret; exact HM.out
end
structure NL (w wr : World) (b n j : Nat) (v : Value) (F : Nat → Nat → Prop) (bs : Nat → Nat) : Prop where
 row : wr.heap[b]? = some (.cells #[v, .slice none 0 0] 64 (0, 0))
 own : OwnL pl 65 wr w.heap.size v ((List.range j).map bs)
 rs : ∀ i, i < j → RS w wr (F i) (bs i) (Rm.r0 n i)
 ap : ∀ i l, i < j → l < j → i ≠ l → ∀ k, F i k → ¬ F l k
 nb : ∀ i, i < j → ¬ F i b
 vn : ∀ k, v.ownBlock = some k → k ≠ b ∧ ∀ i, i < j → ¬ F i k
 lo : w.heap.size ≤ b
 bel : Bl w wr
section
variable {w wr w2 w' : World} {b n j : Nat} {v v' : Value} {F : Nat → Nat → Prop} {bs : Nat → Nat} {G : Nat → Prop}
theorem NL.lt (h : NL w wr b n j v F bs) : b < wr.heap.size := (Array.getElem?_eq_some_iff.1 h.row).1
theorem NL.keep (h : NL w wr b n j v F bs) (hb : Bl wr w') : NL w w' b n j v F bs :=
 ⟨Br h.row hb, h.own.keep hb, fun i hi => (h.rs i hi).keep hb, h.ap, h.nb, h.vn, h.lo, Bu h.bel hb Lr⟩
def upB (bs : Nat → Nat) (i b : Nat) : Nat → Nat := fun l => if l = i then b else bs l
theorem map_upB (bs : Nat → Nat) (j b : Nat) : (List.range (j + 1)).map (upB bs j b) = (List.range j).map bs ++ [b] := by
 rw [List.range_succ, List.map_append]; congr 1
 ·apply List.map_congr_left
  intro i hi; have := List.mem_range.1 hi; unfold upB; rw [if_neg (by omega)]
 ·simp [upB]
theorem NL.more (h : NL w wr b n j v F bs) {b' : Nat} (hr : RS w wr G b' (Rm.r0 n j)) (hG : ∀ i, i < j → ∀ k, F i k → ¬ G k) (hGb : ¬ G b) (hGv : ∀ k, v.ownBlock = some k → ¬ G k) (ho : OwnL pl 65 w' w.heap.size v' ((List.range j).map bs ++ [b'])) (hrw : Rw wr v w' v') :
  NL w (w'.setCell ⟨b, 0, none⟩ v') b n (j + 1) v' (upF F j G) (upB bs j b') := by
 have hf := rw_fr hrw; have hfo := fr_one w' b 0 v'; have hlo : ∀ k, v.ownBlock = some k → w.heap.size ≤ k := fun k hk => (h.own.lt hk).1; have hbl : ∀ k, k = b → w.heap.size ≤ k := fun k e => by have := h.lo; omega
 have hrow : w'.heap[b]? = some (.cells #[v, .slice none 0 0] 64 (0, 0)) := (hf.block b h.lt (fun e => (h.vn b e).1 rfl)).trans h.row; have hv' : ∀ k, v'.ownBlock = some k → v.ownBlock = some k ∨ wr.heap.size ≤ k := hrw.n; have hv1 : ∀ k, v'.ownBlock = some k → k ≠ b := fun k hk e => by
  rcases hv' k hk with h' | h'
  ·exact (h.vn k h').1 e
  ·have := h.lt; omega
 refine ⟨?_, ?_, fun i hi => ?_, fun i l hi hl hil k => ?_, fun i hi => ?_, fun k hk => ⟨hv1 k hk, fun i hi e => ?_⟩, h.lo, ?_⟩
 ·rw [heap_setCell_same w' b 0 _ _ _ hrow]; rfl
 ·rw [map_upB]; exact ho.keepBut fun k hk hk2 => hfo.block k hk (fun e => hv1 k hk2 e)
 ·by_cases hij : i = j
  ·subst hij; rw [upF_same, show upB bs i b' i = b' from if_pos rfl]; exact (hr.step hf (fun k hk e => hGv k e hk) hlo).step hfo (fun k hk e => hGb (e ▸ hk)) hbl
  ·have hi' : i < j := by omega
   rw [upF_other _ _ hij, show upB bs j b' i = bs i from if_neg hij]; exact ((h.rs i hi').step hf (fun k hk e => (h.vn k e).2 i hi' hk) hlo).step hfo (fun k hk e => h.nb i hi' (e ▸ hk)) hbl
 ·by_cases h1 : i = j
  ·subst h1; by_cases h2 : l = i
   ·exact absurd h2.symm hil
   ·rw [upF_same, upF_other _ _ h2]; exact fun hk e => hG l (by omega) k e hk
  ·by_cases h2 : l = j
   ·subst h2; rw [upF_same, upF_other _ _ h1]; exact hG i (by omega) k
   ·rw [upF_other _ _ h1, upF_other _ _ h2]; exact h.ap i l (by omega) (by omega) hil k
 ·by_cases h1 : i = j
  ·subst h1; rw [upF_same]; exact hGb
  ·rw [upF_other _ _ h1]; exact h.nb i (by omega)
 ·by_cases h1 : i = j
  ·subst h1; rw [upF_same] at e; rcases hv' k hk with h' | h'
   ·exact hGv k h' e
   ·have := (hr.mine k e).2; omega
  ·rw [upF_other _ _ h1] at e; rcases hv' k hk with h' | h'
   ·exact (h.vn k h').2 i (by omega) e
   ·have := ((h.rs i (by omega)).mine k e).2; omega
 ·exact (h.bel.trans (hf.below hlo h.bel.size)).trans (hfo.below hbl (Nat.le_trans h.bel.size hf.size))
theorem NL.fin (h : NL w wr b n n v F bs) (hn : 1 ≤ n ∧ n ≤ 7) : ∃ G, TO w wr G b (Tm.t0 n) := by
 obtain ⟨ad, cc, hv, hx, hbk⟩ := h.own.at; rcases h.own.2 with ⟨-, e⟩ | ⟨g, cap, cur, hv2, hb, hh, -⟩
 ·rw [List.length_map, List.length_range] at e; omega
 ·have hl : ((List.range n).map bs).length = n := by simp
  rw [hl] at hv hv2; rw [hv2] at hv; simp only [Value.slice.injEq, true_and] at hv; obtain ⟨e1, e2⟩ := hv; subst e1 e2; have hgo : v.ownBlock = some g := (hbk g ⟨0, none, rfl⟩).2.1; subst hv2; have hg := h.vn g hgo; exact ⟨_, g, cap, F, bs, .slice none 0 0, [], rfl, ⟨hn, h.row, hx, (hbk g ⟨0, none, rfl⟩).2.2, h.rs, h.ap, h.nb, fun e => by
   rcases e with e | ⟨i, hi, e⟩
   ·exact hg.1 e
   ·exact hg.2 i hi e, by simp [Value.ownBlock], ⟨OW.nil _ _, fun k hk => by simp [Value.ownBlock] at hk, fun y hy => (by cases hy)⟩, rfl, h.lo, hb⟩⟩
end
theorem new_yes (w0 w : World) (hb : Bl w0 w) (n me : Int) (h : Np.M.nde n me = true) : Calls prog 20 #[.int .i64 n, .int .i64 me] w fun e w' => ∃ b G, e = .returned (ptr b) ∧ RS w0 w' G b (Rm.r0 n me) ∧ Bl w w' ∧ ∀ k, G k → w.heap.size ≤ k := by
 refine (new_any w0 w hb n me).mono fun e w' hn => ?_; rcases hn with ⟨hx, -⟩ | ⟨-, hx⟩
 ·rw [h] at hx; cases hx
 ·exact hx
def NewT (w : World) (n : Int) (e : Ending) (w' : World) : Prop :=
 (¬ (1 ≤ n ∧ n ≤ 7) ∧ e = .returned (.pointer none) ∧ w' = w) ∨ ((1 ≤ n ∧ n ≤ 7) ∧ ∃ b G, e = .returned (ptr b) ∧ TO w w' G b (Tm.t0 n.toNat) ∧ Bl w w')
theorem newT_any (n : Int) (w : World) : Calls prog 6 #[.int .i64 n] w (NewT w n) := by
 by_cases h0 : n < 1
 ·have hd : decide (n < 1) = true := decide_eq_true h0; have HK : Hid (NewT w n (.returned (.pointer none)) w) := .inl ⟨by omega, rfl, rfl⟩; go_enter func6, ntmps6; go_wp2; go_ret; exact HK.out
 ·have hd : decide (n < 1) = false := decide_eq_false h0; by_cases h1 : 7 < n
  ·have hd : decide (7 < n) = true := decide_eq_true h1; have HK : Hid (NewT w n (.returned (.pointer none)) w) := .inl ⟨by omega, rfl, rfl⟩; go_enter func6, ntmps6; go_wp2; go_ret; exact HK.out
  ·have hd : decide (7 < n) = false := decide_eq_false h1; obtain ⟨m, rfl⟩ : ∃ m : Nat, n = (m : Int) := ⟨n.toNat, by omega⟩; have HM := Hf (show 1 ≤ m ∧ m ≤ 7 by omega); obtain ⟨W1, HW1⟩ := Nh (w.alloc (.cells #[.slice none 0 0, .slice none 0 0] 64)); have hb1 := Ab HW1; have hz1 := Ac HW1; obtain ⟨gz, hgz⟩ := Nq (w.heap.size); rw [hgz] at hz1; have HL0 : Hid (NL w W1 gz m 0 (.slice none 0 0) (fun _ _ => False) (fun _ => 0)) := ⟨hz1, OwnL.nil _ _ _, fun i hi => (by omega), fun i l hi => (by omega), fun i hi => (by omega), fun k hk => (by simp [Value.ownBlock] at hk), by omega, hb1⟩; have HGZ := Hf hgz; clear hb1 hz1 hgz; go_enter func6, ntmps6; go_upto_region 4 with fail
   rw [HW1.out, HGZ.out]; clear HW1; go_wp2_with fail; go_loopw [14] (fun i wr => ∃ (j : Nat) (v : Value) (F : Nat → Nat → Prop) (bs : Nat → Nat), j ≤ m ∧ i = .int .i64 j ∧ NL w wr gz m j v F bs) (fun i _ => m - (intOf i).toNat)
   case atStart => exact ⟨0, _, _, _, Nat.zero_le _, rfl, HL0.out⟩
   case round =>
    clear HL0; obtain ⟨j, v, F, bs, hj, rfl, hn⟩ := hrel; by_cases hlt : j < m
    ·have hji : (j : Int) < (m : Int) := by omega
     obtain ⟨ad, cc, hv, -, -⟩ := hn.own.at; rw [List.length_map, List.length_range] at hv; subst hv; have hnd : Np.M.nde (m : Int) (j : Int) = true := by
      have := HM.out; unfold Np.M.nde; simp only [Bool.and_eq_true, decide_eq_true_eq]; omega
     have HN := Hf hn; have HND := Hf hnd; have HW : Hid (∀ w2 b' G, RS w w2 G b' (Rm.r0 m j) → Bl wr w2 → (∀ k, G k → wr.heap.size ≤ k) → w2.cell? ⟨gz, 0, none⟩ = some (.slice ad j cc) ∧ (w2.alloc (.cells #[ptr b'] 65)).cell? ⟨gz, 0, none⟩ = some (.slice ad j cc) ∧
       ∃ a' c' w3, (∀ ty, (Builtin.append_ #[62, 62] ty #[.slice ad j cc, .slice (some ⟨w2.heap.size, 0, none⟩) 1 1]).run prog (w2.alloc (.cells #[ptr b'] 65)) = .ok (.slice a' (j + 1) c') w3) ∧
        (w3.cell? ⟨gz, 0, none⟩ = some (.slice ad j cc) ∧ w3.frozen? ⟨gz, 0, none⟩ = false) ∧
        ∀ W, W = w3.setCell ⟨gz, 0, none⟩ (.slice a' (j + 1) c') → ∃ v F bs, NL w W gz m (j + 1) v F bs) := by
      intro w2 b' G hrs hb2 hG; have h2 := HN.out.keep hb2; have h3 := h2.keep (bel1 w2 (.cells #[ptr b'] 65)); obtain ⟨⟨k1, _⟩, _⟩ := row2 h2.row; obtain ⟨⟨k2, _⟩, _⟩ := row2 h3.row; refine ⟨k1, k2, ?_⟩; have hml := HM.out; obtain ⟨a', c', w3, hrun, ho, hrw⟩ := run_appL_ty tiP (w2.alloc (.cells #[ptr b'] 65)) w.heap.size (.slice ad j cc) ((List.range j).map bs) [b'] w2.heap.size 0 1 1 h3.own (atL_one (Y := pl) (t := 65) (heap_alloc_last w2 _)) rfl h3.bel.size (by simp; omega); have hl : ((List.range j).map bs).length + [b'].length = j + 1 := by simp
      rw [hl] at hrun ho hrw; have hrow3 : w3.heap[gz]? = some (.cells #[.slice ad j cc, .slice none 0 0] 64 (0, 0)) := ((rw_fr hrw).block gz h3.lt (fun e => (h3.vn gz e).1 rfl)).trans h3.row; refine ⟨a', c', w3, hrun, ⟨(row2 hrow3).1.1, (row2 hrow3).2 0⟩, ?_⟩; rintro W rfl; exact ⟨_, _, _, h3.more (hrs.keep (bel1 w2 _)) (fun i hi k hk e => by have := ((HN.out.rs i hi).mine k hk).2; have := hG k e; omega) (fun e => by have := HN.out.lt; have := hG _ e; omega) (fun k hk e => by have := (HN.out.own.lt hk).2; have := hG k e; omega) ho hrw⟩
     obtain ⟨⟨c0, _⟩, _⟩ := row2 hn.row; clear hn hnd; go_upto_region 7 with fail
     go_region_law (first
      | (go_simp; go_at_call 20; refine (new_yes w _ (Below.trans HN.out.bel ((Below.drew (Below.refl _ _)).mono HN.out.bel.size)) m j HND.out).mono ?_; rintro e w2 ⟨b', G, rfl, hrs, hb2, hG⟩; obtain ⟨k1, k2, a', c', w3, hrun, ⟨m1, m2⟩, hfin⟩ := HW.out w2 b' G hrs (Below.trans (Below.drew (Below.refl _ _)) hb2) hG; have HF := Hf hfin; clear hfin hb2 hrs hG; go_simp)
      | (refine Na.step_append_run rfl (.tmp 21) (.tmp 25) 62 rfl _ _ (by simp [Act.eval]) (by simp [Act.eval]) _ _ (hrun _) ?_))
     all_goals
      obtain ⟨v', F', bs', hnl⟩ := HF.out _ rfl; have HNL := Hf hnl; clear hnl HF; go_wp2_with fail; go_roundw
      case rel => exact ⟨j + 1, v', F', bs', by omega, by go_num, HNL.out⟩
      case measure => simp [intOf]; omega
    ·obtain rfl : j = m := by omega
     have HK : Hid (NewT w (j : Int) (.returned (ptr gz)) wr) := by
      obtain ⟨G, hto⟩ := hn.fin HM.out; exact .inr ⟨by have := HM.out; omega, gz, G, rfl, hto, hn.bel⟩
     clear hn; go_wp2; go_ret; exact HK.out
end Go.Proofs.YtgodnpngdbelhaaGreat
namespace Go.Proofs.YtgodnpngdbelhaaGreat
open Go.ChangeShapes Go.WideShapes Go.ChangeAt Go.RowKit
open M (E V)
structure D where
 k : Int
 a : Int
 b : Int
 v : ByteArray
def D.ok (d : D) : Prop := (Lit.int .i64 d.k).wf = true ∧ (Lit.int .i64 d.a).wf = true ∧ (Lit.int .i64 d.b).wf = true ∧ d.v.size ≤ maxLen
def dl : Ly D := ⟨4, fun d => [.int .i64 d.k, .int .i64 d.a, .int .i64 d.b, .string d.v], fun _ => rfl, fun x v h => by simp at h; rcases h with rfl | rfl | rfl | rfl <;> rfl, by decide⟩
theorem AtL.getD {w : World} {a : Option Addr} {l : List D} (h : AtL dl w a l) (j : Nat) (hj : j < l.length) : ∃ b off, a = some ⟨b, off, none⟩ ∧ w.cell? ⟨b, off + j * 4, none⟩ = some (.int .i64 l[j].k) ∧ w.cell? ⟨b, off + j * 4 + 1, none⟩ = some (.int .i64 l[j].a) ∧ w.cell? ⟨b, off + j * 4 + 2, none⟩ = some (.int .i64 l[j].b) ∧ w.cell? ⟨b, off + j * 4 + 3, none⟩ = some (.string l[j].v) := by
 obtain ⟨b, off, e, h0⟩ := h j hj; exact ⟨b, off, e, h0 0 (by decide), h0 1 (by decide), h0 2 (by decide), h0 3 (by decide)⟩
theorem Tryz.cells3 : prog.cellsOf 3 = 1 := by kernel_rfl
theorem Tryz.cells9 : prog.cellsOf 9 = 1 := by kernel_rfl
theorem Tryz.cells35 : prog.cellsOf 35 = 4 := by kernel_rfl
theorem spot_of {w : World} {a : Addr} {v : Value} (h : w.cell? (a.add 0) = some v) : a.spot = none := by
 have hs := World.cell?_spot h; simpa [Addr.add] using hs
section
variable {H : Type} {enc : TypeId × Value → H} {w : World} {base : Nat} {spare : Nat → Bool} {held : Bool} {fuel : Nat}
theorem open_deed {cs : List Value} {x : DataW H × List MemPlace} (h : DataW.trod enc prog w base spare held fuel 35 cs = some x) : ∃ d : D, cs = dl.cs d ∧ d.ok := by
 obtain ⟨xs, n, rfl, hx, hl, hxs, hf⟩ := DataW.trod_struct underlying35 h; rw [Tryz.cells35] at hl; obtain ⟨c0, c1, c2, c3, rfl⟩ : ∃ c0 c1 c2 c3, cs = [c0, c1, c2, c3] := by
  match cs, hl with
  | [a, b, c, d], _ => exact ⟨a, b, c, d, rfl⟩
 have hxs3 : xs.length = 4 := hxs; obtain ⟨x0, x1, x2, x3, rfl⟩ : ∃ x0 x1 x2 x3, xs = [x0, x1, x2, x3] := by
  match xs, hxs3 with
  | [a, b, c, d], _ => exact ⟨a, b, c, d, rfl⟩
 have f0 : DataW.trod enc prog w base spare held n 3 [c0] = some x0 := by have := hf 0 _ rfl; simpa [Tryz.cells3] using this
 have f1 : DataW.trod enc prog w base spare held n 3 [c1] = some x1 := by have := hf 1 _ rfl; simpa [Tryz.cells3] using this
 have f2 : DataW.trod enc prog w base spare held n 3 [c2] = some x2 := by have := hf 2 _ rfl; simpa [Tryz.cells3] using this
 have f3 : DataW.trod enc prog w base spare held n 9 [c3] = some x3 := by have := hf 3 _ rfl; simpa [Tryz.cells9] using this
 obtain ⟨n0, e0, _, w0⟩ := DataW.trod_int underlying3 f0; obtain ⟨n1, e1, _, w1⟩ := DataW.trod_int underlying3 f1; obtain ⟨n2, e2, _, w2⟩ := DataW.trod_int underlying3 f2; obtain ⟨s3, e3, _, w3⟩ := DataW.trod_string underlying9 f3; simp only [List.cons.injEq, and_true] at e0 e1 e2 e3; subst e0 e1 e2 e3; exact ⟨⟨n0, n1, n2, s3⟩, rfl, w0, w1, w2, w3⟩
theorem open_row {α : Type} {Y : Ly α} {T t : TypeId} {ok : α → Prop} (z : α) (hu : prog.underlying T = some (.slice t)) (hc : prog.cellsOf t = Y.n) (hop : ∀ (n : Nat) (cs : List Value) (x : DataW H × List MemPlace) (h : Bool) (sp : Nat → Bool), DataW.trod enc prog w base sp h n t cs = some x → ∃ d : α, cs = Y.cs d ∧ ok d)
  {cs : List Value} {x : DataW H × List MemPlace} (h : DataW.trod enc prog w base spare held fuel T cs = some x) :
  ∃ a len cap, ∃ l : List α, cs = [.slice a len cap] ∧ len = l.length ∧ AtL Y w a l ∧ l.length ≤ maxLen ∧ (∀ d ∈ l, ok d) := by
 rcases DataW.trod_slice hu h with ⟨hcs, _⟩ | ⟨a, len, cap, elems, rest, n, _, hcs, _, hb, hl, hm, hlen, hel, hsp, hns⟩
 ·exact ⟨none, 0, 0, [], hcs, rfl, AtL.nil _ _, Nat.zero_le _, by simp⟩
 ·have each : ∀ i, i < len → ∃ d : α, (∀ o (ho : o < Y.n), w.cell? ((a.add (i * Y.n)).add o) = some ((Y.cs d)[o]'(by rw [Y.len]; exact ho))) ∧ ok d := by
   intro i hi; have he := hel i hi; rw [List.getElem?_eq_getElem (by omega), Option.bind_eq_some_iff, hc] at he; obtain ⟨cs', hcs', ht⟩ := he; obtain ⟨d, rfl, hok⟩ := hop _ _ _ _ _ ht; obtain ⟨_, _, hcc⟩ := World.cells?_some hcs'; refine ⟨d, fun o ho => ?_, hok⟩; have k0 := hcc o ho; rw [List.getElem?_eq_getElem (by rw [Y.len]; exact ho)] at k0; exact k0
  have ⟨f, hf⟩ : ∃ f : Nat → α, ∀ i, i < len → (∀ o (ho : o < Y.n), w.cell? ((a.add (i * Y.n)).add o) = some ((Y.cs (f i))[o]'(by rw [Y.len]; exact ho))) ∧ ok (f i) := by
   refine ⟨fun i => if h : i < len then Classical.choose (each i h) else z, fun i hi => ?_⟩; have hs := Classical.choose_spec (each i hi); simp only [dif_pos hi]; exact hs
  refine ⟨some a, len, cap, (List.range len).map f, hcs, by simp, fun j hj => ?_, by simp; omega, fun d hd => ?_⟩
  ·rw [List.length_map, List.length_range] at hj; have hsp : a.spot = none := by
    have q := (hf 0 (by omega)).1 0 Y.pos; rw [Nat.zero_mul, Addr.add_add] at q; exact spot_of (by simpa using q)
   obtain ⟨b, off, sp⟩ := a; simp only at hsp; subst hsp; refine ⟨b, off, rfl, fun o ho => ?_⟩; have q := (hf j hj).1 o ho; rw [add_n, add_n] at q; simp only [List.getElem_map, List.getElem_range]; exact q
  ·obtain ⟨i, hi, rfl⟩ := List.mem_map.1 hd; exact (hf i (List.mem_range.1 hi)).2
theorem open_deeds {cs : List Value} {x : DataW H × List MemPlace} (h : DataW.trod enc prog w base spare held fuel 22 cs = some x) :
  ∃ a len cap, ∃ l : List D, cs = [.slice a len cap] ∧ len = l.length ∧ AtL dl w a l ∧ l.length ≤ maxLen ∧ ∀ d ∈ l, d.ok :=
 open_row ⟨0, 0, 0, ⟨#[]⟩⟩ underlying22 Tryz.cells35 (fun _ _ _ _ _ h => open_deed h) h
end
theorem own : ownKnob prog.godebug = none := by kernel_rfl
theorem laidOut : laidOutB prog = true := by kernel_rfl
def Few (l : List D) : Prop := l.length ≤ 200 ∧ ∀ d ∈ l, d.v.size ≤ 100
theorem few_any (a : Option Addr) (cap : Nat) (l : List D) (w : World) (hl : l.length ≤ maxLen) (hd : AtL dl w a l) (hok : ∀ d ∈ l, d.ok) :
  Calls prog 4 #[.slice a l.length cap] w fun e w' => ∃ b, e = .returned (.bool b) ∧ (b = true → Few l) ∧ w' = w := by
 by_cases h80 : 200 < l.length
 ·go_enter func4, ntmps4; go_wp2; go_ret; exact ⟨false, rfl, (fun h => by cases h), rfl⟩
 ·have HOK := Hf hok; clear hok; go_enter func4, ntmps4; go_wp2; go_loopw [3] (fun i wr => ∃ k : Nat, k ≤ l.length ∧ i = .int .i64 k ∧ wr = w ∧ Hid (∀ j (h : j < l.length), j < k → l[j].v.size ≤ 100)) (fun i _ => l.length - (intOf i).toNat)
  case atStart => exact ⟨0, by omega, rfl, rfl, fun j h hj => by omega⟩
  case round =>
   obtain ⟨k, hk, rfl, rfl, HF⟩ := hrel; by_cases hlt : k < l.length
   ·obtain ⟨b, off, rfl, c0, c1, c2, c3⟩ := AtL.getD hd k hlt; have hsz : l[k].v.size ≤ 9223372036854775807 := by have := (HOK.out l[k] (List.getElem_mem hlt)).2.2.2; unfold maxLen at this; omega
    have HN : Hid (l[k].v.size ≤ 100 → ∀ j (h : j < l.length), j < k + 1 → l[j].v.size ≤ 100) := fun h j hj hjk => by
     rcases Nat.lt_or_ge j k with h' | h'
     ·exact HF.out j hj h'
     ·obtain rfl : j = k := by omega
      exact h
    clear hd HOK HF; generalize l[k].v = s at *; generalize l[k].k = dk at *; generalize l[k].a = da at *; generalize l[k].b = db at *; by_cases h7 : 100 < s.size
    ·have hdd : decide ((100 : Int) < (s.size : Int)) = true := by simp; omega
     go_wp2; go_ret; exact ⟨false, rfl, (fun h => by cases h), rfl⟩
    ·have hdd : decide ((100 : Int) < (s.size : Int)) = false := by simp; omega
     have HN2 := Hf (HN.out (by omega)); clear HN; go_wp2; go_roundw
     case rel => exact ⟨k + 1, by omega, by go_num, by first | rfl | trivial, HN2.out⟩
     case measure => simp [intOf]; omega
   ·obtain rfl : k = l.length := by omega
    clear hd HOK; have HFIN : Hid (Few l) := ⟨by omega, fun d hd => by
     obtain ⟨j, hj, rfl⟩ := List.getElem_of_mem hd; exact HF.out j hj hj⟩
    clear HF; go_wp2; go_ret; exact ⟨true, rfl, fun _ => HFIN.out, rfl⟩
end Go.Proofs.YtgodnpngdbelhaaGreat
