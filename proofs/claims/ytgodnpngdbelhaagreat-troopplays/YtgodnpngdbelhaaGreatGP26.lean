import Derived.Test.YtgodnpngdbelhaaGreatGP25
set_option maxRecDepth 100000
set_option maxHeartbeats 8000000
set_option linter.unusedVariables false
set_option linter.unusedSimpArgs false
open Go.Proofs.Tryz
namespace Go.Proofs.YtgodnpngdbelhaaGreat
open Go.RowKit Go.Maps
open M (E V)
open Rm (NT R)
open Tm (T)
section
variable {w0 w w' : World} {G : Nat → Prop} {b : Nat} {t : T} {D : ByteArray → Prop} {long : List ByteArray} {m : Nat}
theorem TO.keep (h : TO w0 w G b t) (hb : Bl w w') : TO w0 w' G b t := by
 obtain ⟨g, c, F, bs, u, ys, rfl, hp⟩ := h; exact (hp.keep hb).to
theorem TO.mine (h : TO w0 w G b t) : ∀ k, G k → w0.heap.size ≤ k ∧ k < w.heap.size := by
 obtain ⟨g, c, F, bs, u, ys, rfl, hp⟩ := h; exact hp.mineU
theorem TO.step (h : TO w0 w G b t) {H H' : Nat → Prop} (hf : Fr w H w' H') (hH : ∀ k, H k → ¬ G k ∧ w0.heap.size ≤ k) : TO w0 w' G b t := by
 obtain ⟨g, c, F, bs, u, ys, rfl, hp⟩ := h; exact (hp.step hf fun k hk => ⟨fun e => (hH k hk).1 (.inl e), (hH k hk).2, fun e => (hH k hk).1 (.inr (.inl e)), fun y hy e => (hH k hk).1 (.inr (.inr ⟨y, hy, e⟩))⟩).to
theorem TO.bel (h : TO w0 w G b t) : Bl w0 w := by
 obtain ⟨g, c, F, bs, u, ys, rfl, hp⟩ := h; exact hp.bel
theorem TO.log (h : TO w0 w G b t) (i : Int) : Calls prog 14 #[ptr b, .int .i64 i] w fun e w' => ∃ ad c, e = .returned (.slice ad (Tm.logT t i).length c) ∧ XL Nl.tl w' ad c (Tm.logT t i) ∧ (∀ j, blk ad j → w.heap.size ≤ j ∧ j < w'.heap.size) ∧ Bl w w' := by
 obtain ⟨g, c, F, bs, u, ys, rfl, hp⟩ := h; exact hp.log i
theorem TO.leads (h : TO w0 w G b t) (i : Int) : Calls prog 15 #[ptr b, .int .i64 i] w fun e w' => e = .returned (.bool (leadT t i)) ∧ w' = w := by
 obtain ⟨g, c, F, bs, u, ys, rfl, hp⟩ := h; exact hp.leads i
theorem TO.waiting (h : TO w0 w G b t) : Calls prog 10 #[ptr b] w fun e w' => e = .returned (.int .i64 t.way.length) ∧ w' = w := by
 obtain ⟨g, c, F, bs, u, ys, rfl, hp⟩ := h; exact hp.waiting
theorem wf_slot {s : Int} (h : 0 ≤ s ∧ s < 1024) : (Lit.int .i64 s).wf = true := wf_few h.1 (by omega)
theorem rdy_of (h : Tm.Wel t D long) (hb : Tm.Bd t m) (hm : m ≤ 800) (k : Int) : Rdy t k := by
 obtain ⟨P, H, A, L, hs, -⟩ := h; have hd : t.way.length ≠ 0 → Tm.isT t (Tm.atT t k).t = true := fun h0 => by
  have := (hs.nt _ (Tm.atT_mem (k := k) h0)).t; unfold Tm.isT; simp only [Bool.and_eq_true, decide_eq_true_eq]; exact this
 refine ⟨hb.len, hd, fun h0 x hx => wf_slot ((hb.way _ (Tm.atT_mem h0)).2 x hx), fun h0 => ?_, fun h0 => ?_⟩
 ·have h1 := (hb.way _ (Tm.atT_mem (k := k) h0)).1; have h2 := hb.c _ (Tm.isT_yes (hd h0)); omega
 ·have h1 := (Tm.tk_nb (hs.nd _ (Tm.isT_yes (hd h0))) hs.hn (Tm.atT t k)).2; omega
theorem Bd_le {m' : Nat} (h : Tm.Bd t m) (hm : m ≤ m') : Tm.Bd t m' := ⟨h.way, h.len, fun i hi => by have := h.c i hi; omega⟩
end
abbrev dV (d : D) : Value := .agg #[.int .i64 d.k, .int .i64 d.a, .int .i64 d.b, .string d.v]
set_option maxRecDepth 100000
set_option maxHeartbeats 1000000
section
variable {w0 w w' : World} {G : Nat → Prop} {b : Nat} {t : T}
theorem MO.conv {W : World} {r r' : Value} {t1 t2 : T} {e : Ending} (hb : Bl w W) (hr : r = r') (ht : t1 = t2) (h : MO w0 W G b r t1 e w') : e = .returned r ∧ MO w0 w G b r' t2 (.returned r') w' := by
 obtain ⟨G', rfl, k1, k2⟩ := h; subst hr ht; exact ⟨rfl, G', rfl, k1, (Fr.ofBelow hb).trans k2⟩
theorem TO.do0 (h : TO w0 w G b t) (d : D) (hk : d.k = 0) (hr : d.k = 0 → Rdy t d.a) : Calls prog 9 #[ptr b, dV d] w (MO w0 w G b (.bool (Tm.ddb t d.k d.a d.b d.v)) (Tm.ddT t d.k d.a d.b d.v)) := by
 obtain ⟨k, a, z, v⟩ := d; simp only at hk; subst hk; simp only; obtain ⟨W1, HW1⟩ := Nh (w.alloc (.cells #[.int .i64 0, .int .i64 a, .int .i64 z, .string v] 35)); have hb1 := Ab HW1; have hz1 := Ac HW1; obtain ⟨gz, hgz⟩ := Nq (w.heap.size); rw [hgz] at hz1; obtain ⟨c0, _⟩ := row4 hz1; have cl := (h.keep hb1).deliver a (hr rfl); have HF : Hid (∀ e w', MO w0 W1 G b (.bool (!(t.way.length == 0))) (Tm.dlT t a) e w' → e = .returned (.bool (!(t.way.length == 0))) ∧ MO w0 w G b (.bool (Tm.ddb t 0 a z v)) (Tm.ddT t 0 a z v) (.returned (.bool (!(t.way.length == 0)))) w') := fun e w' hm => hm.conv hb1 rfl rfl; have HGZ := Hf hgz; clear h hb1 hz1 hgz; generalize Tm.ddb t 0 a z v = bo at *; generalize Tm.ddT t 0 a z v = tt at *; generalize Tm.dlT t a = t2 at *; obtain ⟨bx, hbx⟩ := Nq ((!(t.way.length == 0))); rw [hbx] at cl HF; clear hbx; go_enter func9, ntmps9; go_upto_region 1 with fail
 rw [HW1.out, HGZ.out]; clear HW1; go_wp2_with fail; refine cl.mono ?_; clear cl; rintro e w1 hmo; obtain ⟨rfl, hm⟩ := HF.out e w1 hmo; have HM := Hf hm; clear hmo hm HF; go_wp2; go_ret; exact HM.out
theorem TO.do1 (h : TO w0 w G b t) (d : D) (hk : d.k = 1) (hm : t.way.length ≤ 1024) : Calls prog 9 #[ptr b, dV d] w (MO w0 w G b (.bool (Tm.ddb t d.k d.a d.b d.v)) (Tm.ddT t d.k d.a d.b d.v)) := by
 obtain ⟨k, a, z, v⟩ := d; simp only at hk; subst hk; simp only; obtain ⟨W1, HW1⟩ := Nh (w.alloc (.cells #[.int .i64 1, .int .i64 a, .int .i64 z, .string v] 35)); have hb1 := Ab HW1; have hz1 := Ac HW1; obtain ⟨gz, hgz⟩ := Nq (w.heap.size); rw [hgz] at hz1; obtain ⟨c0, _⟩ := row4 hz1; have cl := (h.keep hb1).drop a hm; have HF : Hid (∀ e w', MO w0 W1 G b (.bool (!(t.way.length == 0))) (Tm.drT t a) e w' → e = .returned (.bool (!(t.way.length == 0))) ∧ MO w0 w G b (.bool (Tm.ddb t 1 a z v)) (Tm.ddT t 1 a z v) (.returned (.bool (!(t.way.length == 0)))) w') := fun e w' hm => hm.conv hb1 rfl rfl; have HGZ := Hf hgz; clear h hb1 hz1 hgz; generalize Tm.ddb t 1 a z v = bo at *; generalize Tm.ddT t 1 a z v = tt at *; generalize Tm.drT t a = t2 at *; obtain ⟨bx, hbx⟩ := Nq ((!(t.way.length == 0))); rw [hbx] at cl HF; clear hbx; go_enter func9, ntmps9; go_upto_region 1 with fail
 rw [HW1.out, HGZ.out]; clear HW1; go_wp2_with fail; refine cl.mono ?_; clear cl; rintro e w1 hmo; obtain ⟨rfl, hm⟩ := HF.out e w1 hmo; have HM := Hf hm; clear hmo hm HF; go_wp2; go_ret; exact HM.out
theorem TO.do2 (h : TO w0 w G b t) (d : D) (hk : d.k = 2) (hm : t.way.length ≤ 1024) : Calls prog 9 #[ptr b, dV d] w (MO w0 w G b (.bool (Tm.ddb t d.k d.a d.b d.v)) (Tm.ddT t d.k d.a d.b d.v)) := by
 obtain ⟨k, a, z, v⟩ := d; simp only at hk; subst hk; simp only; obtain ⟨W1, HW1⟩ := Nh (w.alloc (.cells #[.int .i64 2, .int .i64 a, .int .i64 z, .string v] 35)); have hb1 := Ab HW1; have hz1 := Ac HW1; obtain ⟨gz, hgz⟩ := Nq (w.heap.size); rw [hgz] at hz1; obtain ⟨c0, _⟩ := row4 hz1; have cl := (h.keep hb1).double a hm; have HF : Hid (∀ e w', MO w0 W1 G b (.bool (!(t.way.length == 0) && decide (t.way.length < 1024))) (Tm.dbT t a) e w' → e = .returned (.bool (!(t.way.length == 0) && decide (t.way.length < 1024))) ∧ MO w0 w G b (.bool (Tm.ddb t 2 a z v)) (Tm.ddT t 2 a z v) (.returned (.bool (!(t.way.length == 0) && decide (t.way.length < 1024)))) w') := fun e w' hm => hm.conv hb1 rfl rfl; have HGZ := Hf hgz; clear h hb1 hz1 hgz; generalize Tm.ddb t 2 a z v = bo at *; generalize Tm.ddT t 2 a z v = tt at *; generalize Tm.dbT t a = t2 at *; obtain ⟨bx, hbx⟩ := Nq ((!(t.way.length == 0) && decide (t.way.length < 1024))); rw [hbx] at cl HF; clear hbx; go_enter func9, ntmps9; go_upto_region 1 with fail
 rw [HW1.out, HGZ.out]; clear HW1; go_wp2_with fail; refine cl.mono ?_; clear cl; rintro e w1 hmo; obtain ⟨rfl, hm⟩ := HF.out e w1 hmo; have HM := Hf hm; clear hmo hm HF; go_wp2; go_ret; exact HM.out
theorem TO.do3 (h : TO w0 w G b t) (d : D) (hk : d.k = 3) : Calls prog 9 #[ptr b, dV d] w (MO w0 w G b (.bool (Tm.ddb t d.k d.a d.b d.v)) (Tm.ddT t d.k d.a d.b d.v)) := by
 obtain ⟨k, a, z, v⟩ := d; simp only at hk; subst hk; simp only; obtain ⟨W1, HW1⟩ := Nh (w.alloc (.cells #[.int .i64 3, .int .i64 a, .int .i64 z, .string v] 35)); have hb1 := Ab HW1; have hz1 := Ac HW1; obtain ⟨gz, hgz⟩ := Nq (w.heap.size); rw [hgz] at hz1; obtain ⟨c0, _⟩ := row4 hz1; have cl := (h.keep hb1).lead a; have HF : Hid (∀ e w', MO w0 W1 G b (.bool (Tm.isT t a)) (Tm.ldT t a) e w' → e = .returned (.bool (Tm.isT t a)) ∧ MO w0 w G b (.bool (Tm.ddb t 3 a z v)) (Tm.ddT t 3 a z v) (.returned (.bool (Tm.isT t a))) w') := fun e w' hm => hm.conv hb1 rfl rfl; have HGZ := Hf hgz; clear h hb1 hz1 hgz; generalize Tm.ddb t 3 a z v = bo at *; generalize Tm.ddT t 3 a z v = tt at *; generalize Tm.ldT t a = t2 at *; obtain ⟨bx, hbx⟩ := Nq ((Tm.isT t a)); rw [hbx] at cl HF; clear hbx; go_enter func9, ntmps9; go_upto_region 1 with fail
 rw [HW1.out, HGZ.out]; clear HW1; go_wp2_with fail; refine cl.mono ?_; clear cl; rintro e w1 hmo; obtain ⟨rfl, hm⟩ := HF.out e w1 hmo; have HM := Hf hm; clear hmo hm HF; go_wp2; go_ret; exact HM.out
theorem TO.do4 (h : TO w0 w G b t) (d : D) (hk : d.k = 4) : Calls prog 9 #[ptr b, dV d] w (MO w0 w G b (.bool (Tm.ddb t d.k d.a d.b d.v)) (Tm.ddT t d.k d.a d.b d.v)) := by
 obtain ⟨k, a, z, v⟩ := d; simp only at hk; subst hk; simp only; obtain ⟨W1, HW1⟩ := Nh (w.alloc (.cells #[.int .i64 4, .int .i64 a, .int .i64 z, .string v] 35)); have hb1 := Ab HW1; have hz1 := Ac HW1; obtain ⟨gz, hgz⟩ := Nq (w.heap.size); rw [hgz] at hz1; obtain ⟨c0, _⟩ := row4 hz1; have cl := (h.keep hb1).propose a v; have HF : Hid (∀ e w', MO w0 W1 G b (.int .i64 (Tm.ppcT t a v)) (Tm.ppT t a v) e w' → e = .returned (.int .i64 (Tm.ppcT t a v)) ∧ MO w0 w G b (.bool (Tm.ppcT t a v == 0)) (Tm.ddT t 4 a z v) (.returned (.bool (Tm.ppcT t a v == 0))) w') := fun e w' hm => by
  obtain ⟨G', rfl, k1, k2⟩ := hm; exact ⟨rfl, G', rfl, k1, (Fr.ofBelow hb1).trans k2⟩
 have HGZ := Hf hgz; have HBO : Tm.ddb t 4 a z v = (Tm.ppcT t a v == 0) := rfl; rw [HBO]; clear h hb1 hz1 hgz HBO; generalize Tm.ddT t 4 a z v = tt at *; generalize Tm.ppT t a v = t2 at *; obtain ⟨bx, hbx⟩ := Nq (Tm.ppcT t a v); rw [hbx] at cl HF ⊢; clear hbx; go_enter func9, ntmps9; go_upto_region 1 with fail
 rw [HW1.out, HGZ.out]; clear HW1; go_wp2_with fail; refine cl.mono ?_; clear cl; rintro e w1 hmo; obtain ⟨rfl, hm⟩ := HF.out e w1 hmo; have HM := Hf hm; clear hmo hm HF; go_wp2; go_ret; exact HM.out
theorem TO.do5 (h : TO w0 w G b t) (d : D) (hk : d.k = 5) : Calls prog 9 #[ptr b, dV d] w (MO w0 w G b (.bool (Tm.ddb t d.k d.a d.b d.v)) (Tm.ddT t d.k d.a d.b d.v)) := by
 obtain ⟨k, a, z, v⟩ := d; simp only at hk; subst hk; simp only; obtain ⟨W1, HW1⟩ := Nh (w.alloc (.cells #[.int .i64 5, .int .i64 a, .int .i64 z, .string v] 35)); have hb1 := Ab HW1; have hz1 := Ac HW1; obtain ⟨gz, hgz⟩ := Nq (w.heap.size); rw [hgz] at hz1; obtain ⟨c0, _⟩ := row4 hz1; have cl := (h.keep hb1).ask a z; have HF : Hid (∀ e w', MO w0 W1 G b (.bool (Tm.isT t a && Tm.isT t z)) (akD t a z) e w' → e = .returned (.bool (Tm.isT t a && Tm.isT t z)) ∧ MO w0 w G b (.bool (Tm.ddb t 5 a z v)) (Tm.ddT t 5 a z v) (.returned (.bool (Tm.isT t a && Tm.isT t z))) w') := fun e w' hm => hm.conv hb1 rfl rfl; have HGZ := Hf hgz; clear h hb1 hz1 hgz; generalize Tm.ddb t 5 a z v = bo at *; generalize Tm.ddT t 5 a z v = tt at *; generalize akD t a z = t2 at *; obtain ⟨bx, hbx⟩ := Nq ((Tm.isT t a && Tm.isT t z)); rw [hbx] at cl HF; clear hbx; go_enter func9, ntmps9; go_upto_region 1 with fail
 rw [HW1.out, HGZ.out]; clear HW1; go_wp2_with fail; refine cl.mono ?_; clear cl; rintro e w1 hmo; obtain ⟨rfl, hm⟩ := HF.out e w1 hmo; have HM := Hf hm; clear hmo hm HF; go_wp2; go_ret; exact HM.out
theorem TO.do6 (h : TO w0 w G b t) (d : D) (hk : d.k = 6) : Calls prog 9 #[ptr b, dV d] w (MO w0 w G b (.bool (Tm.ddb t d.k d.a d.b d.v)) (Tm.ddT t d.k d.a d.b d.v)) := by
 obtain ⟨k, a, z, v⟩ := d; simp only at hk; subst hk; simp only; obtain ⟨W1, HW1⟩ := Nh (w.alloc (.cells #[.int .i64 6, .int .i64 a, .int .i64 z, .string v] 35)); have hb1 := Ab HW1; have hz1 := Ac HW1; obtain ⟨gz, hgz⟩ := Nq (w.heap.size); rw [hgz] at hz1; obtain ⟨c0, _⟩ := row4 hz1; have cl := (h.keep hb1).crash a; have HF : Hid (∀ e w', MO w0 W1 G b (.bool (Tm.isT t a)) (Tm.crT t a) e w' → e = .returned (.bool (Tm.isT t a)) ∧ MO w0 w G b (.bool (Tm.ddb t 6 a z v)) (Tm.ddT t 6 a z v) (.returned (.bool (Tm.isT t a))) w') := fun e w' hm => hm.conv hb1 rfl rfl; have HGZ := Hf hgz; clear h hb1 hz1 hgz; generalize Tm.ddb t 6 a z v = bo at *; generalize Tm.ddT t 6 a z v = tt at *; generalize Tm.crT t a = t2 at *; obtain ⟨bx, hbx⟩ := Nq ((Tm.isT t a)); rw [hbx] at cl HF; clear hbx; go_enter func9, ntmps9; go_upto_region 1 with fail
 rw [HW1.out, HGZ.out]; clear HW1; go_wp2_with fail; refine cl.mono ?_; clear cl; rintro e w1 hmo; obtain ⟨rfl, hm⟩ := HF.out e w1 hmo; have HM := Hf hm; clear hmo hm HF; go_wp2; go_ret; exact HM.out
theorem TO.do_any (h : TO w0 w G b t) (d : D) (hr : d.k = 0 → Rdy t d.a) (hm : t.way.length ≤ 1024) : Calls prog 9 #[ptr b, dV d] w (MO w0 w G b (.bool (Tm.ddb t d.k d.a d.b d.v)) (Tm.ddT t d.k d.a d.b d.v)) := by
 by_cases h0 : d.k = 0
 ·exact h.do0 d h0 hr
 by_cases h1 : d.k = 1
 ·exact h.do1 d h1 hm
 by_cases h2 : d.k = 2
 ·exact h.do2 d h2 hm
 by_cases h3 : d.k = 3
 ·exact h.do3 d h3
 by_cases h4 : d.k = 4
 ·exact h.do4 d h4
 by_cases h5 : d.k = 5
 ·exact h.do5 d h5
 by_cases h6 : d.k = 6
 ·exact h.do6 d h6
 obtain ⟨k, a, z, v⟩ := d; simp only at h0 h1 h2 h3 h4 h5 h6 ⊢; have hd : Tm.ddT t k a z v = t := by unfold Tm.ddT; rw [if_neg h0, if_neg h1, if_neg h2, if_neg h3, if_neg h4, if_neg h5, if_neg h6]
 have hb : Tm.ddb t k a z v = false := by unfold Tm.ddb; rw [if_neg h0, if_neg h1, if_neg h2, if_neg h3, if_neg h4, if_neg h5, if_neg h6]
 rw [hd, hb]; obtain ⟨W1, HW1⟩ := Nh (w.alloc (.cells #[.int .i64 k, .int .i64 a, .int .i64 z, .string v] 35)); have hb1 := Ab HW1; have hz1 := Ac HW1; obtain ⟨gz, hgz⟩ := Nq (w.heap.size); rw [hgz] at hz1; obtain ⟨c0, _⟩ := row4 hz1; have HM : Hid (MO w0 w G b (.bool false) t (.returned (.bool false)) W1) := ⟨G, rfl, h.keep hb1, Fr.ofBelow hb1⟩; have HGZ := Hf hgz; clear h hr hm hb1 hz1 hgz hd hb; go_enter func9, ntmps9; go_upto_region 1 with fail
 rw [HW1.out, HGZ.out]; clear HW1; go_wp2; go_ret; exact HM.out
end
end Go.Proofs.YtgodnpngdbelhaaGreat
namespace Go.Proofs.YtgodnpngdbelhaaGreat.Tm
open Go.Proofs.YtgodnpngdbelhaaGreat.M (E V cmpE cmpE_three)
open Go.Proofs.YtgodnpngdbelhaaGreat.Rm (NT R)
open Nl.M (ck W w0)
def all : Nat → T → T
 | 0, t => t
 | f + 1, t => if t.way.length = 0 then t else all f (dlT t 0)
theorem ck_low (m : Nat) : ∀ k, ck (fun i => decide (i < m)) k = min m k
 | 0 => by simp [ck]
 | k + 1 => by
  rw [ck, ck_low m k]; by_cases h : k < m
  ·rw [decide_eq_true h]; simp; omega
  ·rw [decide_eq_false h]; simp; omega
section
variable {n : Nat} {l : List ByteArray} {u : V} {r : Nl.M.S}
end
section
variable {n node : Nat} {b : E} {l : List ByteArray} {u : V} {r : R} {rs : Nat → R}
end
section
variable {n node : Nat} {b : E} {r : R} {rs : Nat → R}
end
end Go.Proofs.YtgodnpngdbelhaaGreat.Tm
namespace Go.Proofs.YtgodnpngdbelhaaGreat
open Go.RowKit Go.Maps
open M (E V)
open Rm (NT R)
open Tm (T)
section
variable {w0 w w' : World} {G : Nat → Prop} {b : Nat} {t : T} {D : ByteArray → Prop} {long : List ByteArray} {m : Nat}
theorem all_done (f : Nat) {t : T} (h : t.way.length = 0) : Tm.all f t = t := by
 cases f with
 | zero => rfl
 | succ f => unfold Tm.all; rw [if_pos h]
theorem TO.all (h : TO w0 w G b t) (f : Nat) (hf : f ≤ 300) (hw : Tm.Wel t D long) (hD : D ⟨#[]⟩) (hb : Tm.Bd t m) (hm : m + f ≤ 800) (he : (Tm.all f t).way.length = 0) :
  Calls prog 17 #[ptr b] w fun e w' => e = .returned (.tuple #[]) ∧ ∃ G', TO w0 w' G' b (Tm.all f t) ∧ Fr w G w' G' ∧ Tm.Wel (Tm.all f t) D long ∧ Tm.Bd (Tm.all f t) (m + f) := by
 have HE := Hf he; have HD := Hf hD; have HL : Hid (∃ (i : Nat) (ti : T) (G' : Nat → Prop), i ≤ f ∧ (Value.int .i64 0) = .int .i64 i ∧ TO w0 w G' b ti ∧ Fr w G w G' ∧ Tm.Wel ti D long ∧ Tm.Bd ti (m + i) ∧ Tm.all (f - i) ti = Tm.all f t) := ⟨0, t, G, Nat.zero_le _, rfl, h, Fr.refl _ _, hw, hb, rfl⟩; clear h hw hD hb he; obtain ⟨tf, htf⟩ := Nq (Tm.all f t); rw [htf] at HE HL ⊢; clear htf; go_enter func17, ntmps17; go_wp2_with fail; go_loopw [2] (fun i' wr => ∃ (i : Nat) (ti : T) (G' : Nat → Prop), i ≤ f ∧ i' = .int .i64 i ∧ TO w0 wr G' b ti ∧ Fr w G wr G' ∧ Tm.Wel ti D long ∧ Tm.Bd ti (m + i) ∧ Tm.all (f - i) ti = tf) (fun i' _ => 300 - (intOf i').toNat)
 case atStart => exact HL.out
 case round =>
  clear HL; obtain ⟨i, ti, G', hi, rfl, hto, hfr, hwl, hbd, hal⟩ := hrel; by_cases h0 : ti.way.length = 0
  ·have HQ : Hid (∃ G', TO w0 wr G' b tf ∧ Fr w G wr G' ∧ Tm.Wel tf D long ∧ Tm.Bd tf (m + f)) := by
    rw [all_done _ h0] at hal; subst hal; exact ⟨G', hto, hfr, hwl, Bd_le hbd (by omega)⟩
   have cw := hto.waiting; rw [h0] at cw; clear hto hfr hwl hbd hal h0; by_cases h3 : i < 300
   ·have hi3 : (i : Int) < 300 := by omega
    go_wp2_with fail; refine cw.mono ?_; clear cw; rintro e w2 ⟨rfl, rfl⟩; go_wp2; go_end0; exact ⟨rfl, HQ.out⟩
   ·have hi3 : ¬ (i : Int) < 300 := by omega
    clear cw; go_wp2; go_end0; exact ⟨rfl, HQ.out⟩
  ·have hif : i < f := by
    rcases Nat.lt_or_ge i f with h' | h'
    ·exact h'
    ·have e0 : f - i = 0 := by omega
     rw [e0] at hal; have := HE.out; rw [← hal] at this; exact absurd this h0
   have hi3 : (i : Int) < 300 := by omega
   have hnx : Tm.all (f - (i + 1)) (Tm.dlT ti 0) = tf := by
    rw [← hal, show f - i = (f - (i + 1)) + 1 by omega]
    conv => rhs; unfold Tm.all
    rw [if_neg h0]
   have cw := hto.waiting; have cl := hto.deliver 0 (rdy_of hwl hbd (by omega) 0); have HN : Hid (∀ e w2, MO w0 wr G' b (.bool (!(ti.way.length == 0))) (Tm.dlT ti 0) e w2 → ∃ bo, e = .returned (.bool bo) ∧ ∃ (ti' : T) (G2 : Nat → Prop), TO w0 w2 G2 b ti' ∧ Fr w G w2 G2 ∧ Tm.Wel ti' D long ∧ Tm.Bd ti' (m + (i + 1)) ∧ Tm.all (f - (i + 1)) ti' = tf) := by
    rintro e w2 ⟨G2, rfl, k1, k2⟩
    exact ⟨_, rfl, _, G2, k1, hfr.trans k2, hwl.deliver HD.out 0, (hbd.deliver hwl 0), hnx⟩
   have hwi : (0 : Int) < (ti.way.length : Int) := by omega
   clear hto hfr hwl hbd hal hnx; generalize ti.way.length = q at *; go_wp2_with fail; refine cw.mono ?_; clear cw; rintro e w2 ⟨rfl, rfl⟩; go_wp2_with fail; refine cl.mono ?_; clear cl; rintro e w3 hmo; obtain ⟨bo, rfl, ti', G2, k1, k2, k3, k4, k5⟩ := HN.out e w3 hmo; have K1 := Hf k1; have K2 := Hf k2; have K3 := Hf k3; have K4 := Hf k4; have K5 := Hf k5; clear hmo k1 k2 k3 k4 k5 HN; go_wp2_with fail; go_roundw
   case rel => exact ⟨i + 1, ti', G2, hif, by go_num, K1.out, K2.out, K3.out, K4.out, K5.out⟩
   case measure => simp [intOf]; omega
end
end Go.Proofs.YtgodnpngdbelhaaGreat
namespace Go.Proofs.YtgodnpngdbelhaaGreat
open Go.RowKit Go.Maps
open M (E V)
open Dl (X)
def tdl : Ly (Int × ByteArray) := ⟨2, fun y => [.int .i64 y.1, .string y.2], fun _ => rfl, fun x v h => by simp at h; rcases h with rfl | rfl <;> rfl, by decide⟩
def vsl : Ly (Int × V) := ⟨5, fun y => [.int .i64 y.1, .int .i64 y.2.s, .int .i64 y.2.b.i, .int .i64 y.2.b.t, .string y.2.v], fun _ => rfl, fun x v h => by simp at h; rcases h with rfl | rfl | rfl | rfl | rfl <;> rfl, by decide⟩
theorem tiTd : Ti tdl 49 156 := ⟨underlying49, Tryz.t156, .agg #[.int .i64 0, .string ⟨#[]⟩], by kernel_rfl, rfl, rfl, by decide, rfl⟩
theorem tiVs : Ti vsl 50 194 := ⟨underlying50, Tryz.t194, .agg #[.int .i64 0, .int .i64 0, .int .i64 0, .int .i64 0, .string ⟨#[]⟩], by kernel_rfl, rfl, rfl, by decide, rfl⟩
structure LA where
 ta : Option Addr
 tc : Nat
 va : Option Addr
 vc : Nat
abbrev lV (x : X) (a : LA) : Value := .agg #[.int .i64 x.n, .int .i64 x.base, .slice a.ta x.td.length a.tc, .slice a.va x.vs.length a.vc]
abbrev lC (x : X) (a : LA) : Obj := .cells #[.int .i64 x.n, .int .i64 x.base, .slice a.ta x.td.length a.tc, .slice a.va x.vs.length a.vc] 52 (0, 0)
structure LL (w : World) (x : X) (a : LA) : Prop where
 t : XL tdl w a.ta a.tc x.td
 v : XL vsl w a.va a.vc x.vs
 lt : ∀ q, blk a.ta q ∨ blk a.va q → q < w.heap.size
theorem LL.keep {w w' : World} {x : X} {a : LA} (h : LL w x a) (hb : Bl w w') : LL w' x a := ⟨h.t.keep hb, h.v.keep hb, fun q hq => Nat.lt_of_lt_of_le (h.lt q hq) hb.size⟩
theorem LL.emp (w : World) (n base : Int) : LL w (Dl.x0 n base) ⟨none, 0, none, 0⟩ := ⟨XL.emp _, XL.emp _, fun q hq => by rcases hq with hq | hq <;> (obtain ⟨_, _, e⟩ := hq; cases e)⟩
def LNew (w : World) (a a' : LA) : Prop := ∀ q, blk a'.ta q ∨ blk a'.va q → (blk a.ta q ∨ blk a.va q) ∨ w.heap.size ≤ q
theorem LNew.refl (w : World) (a : LA) : LNew w a a := fun q hq => .inl hq
theorem AtL.getTd {w : World} {a : Option Addr} {l : List (Int × ByteArray)} (h : AtL tdl w a l) (j : Nat) (hj : j < l.length) : ∃ b off, a = some ⟨b, off, none⟩ ∧ w.cell? ⟨b, off + j * 2, none⟩ = some (.int .i64 l[j].1) ∧ w.cell? ⟨b, off + j * 2 + 1, none⟩ = some (.string l[j].2) := by
 obtain ⟨b, off, e, h0⟩ := h j hj; exact ⟨b, off, e, h0 0 (by decide), h0 1 (by decide)⟩
theorem AtL.getVs {w : World} {a : Option Addr} {l : List (Int × V)} (h : AtL vsl w a l) (j : Nat) (hj : j < l.length) : ∃ b off, a = some ⟨b, off, none⟩ ∧ w.cell? ⟨b, off + j * 5, none⟩ = some (.int .i64 l[j].1) ∧ w.cell? ⟨b, off + j * 5 + 1, none⟩ = some (.int .i64 l[j].2.s) ∧ w.cell? ⟨b, off + j * 5 + 2, none⟩ = some (.int .i64 l[j].2.b.i) ∧ w.cell? ⟨b, off + j * 5 + 3, none⟩ = some (.int .i64 l[j].2.b.t) ∧ w.cell? ⟨b, off + j * 5 + 4, none⟩ = some (.string l[j].2.v) := by
 obtain ⟨b, off, e, h0⟩ := h j hj; exact ⟨b, off, e, h0 0 (by decide), h0 1 (by decide), h0 2 (by decide), h0 3 (by decide), h0 4 (by decide)⟩
def toldV (o : Option ByteArray) : Value := match o with
 | some v => .tuple #[.string v, .bool true]
 | none => .tuple #[.string ⟨#[]⟩, .bool false]
theorem fnd_take (l : List (Int × ByteArray)) (k : Int) (j : Nat) (h : j < l.length) (hn : Dl.fnd (l.take j) k = none) : Dl.fnd (l.take (j + 1)) k = if l[j].1 = k then some l[j].2 else none := by
 have e : l.take (j + 1) = l.take j ++ [(l[j].1, l[j].2)] := (List.take_append_getElem h).symm; rw [e, Dl.fnd_app, hn]; by_cases hk : k = l[j].1
 ·rw [if_pos hk, if_pos hk.symm]
 ·rw [if_neg hk, if_neg (fun e => hk e.symm)]
theorem fnd_more (l : List (Int × ByteArray)) (k : Int) (j : Nat) (h : j ≤ l.length) (v : ByteArray) (hs : Dl.fnd (l.take j) k = some v) : Dl.fnd l k = some v := by
 unfold Dl.fnd at *; rw [← List.take_append_drop j l, List.find?_append]; cases hf : (l.take j).find? fun y => decide (y.1 = k) with
 | none => rw [hf] at hs; cases hs
 | some y => rw [hf] at hs; simpa using hs
section
variable {w w' : World} {x : X} {a : LA}
theorem rtold_any (h : LL w x a) (k : Int) (hlen : x.td.length ≤ 1000000) : Calls prog 65 #[lV x a, .int .i64 k] w fun e w' => e = .returned (toldV (Dl.told x k)) ∧ Bl w w' := by
 have HL := Hf h; obtain ⟨W1, HW1⟩ := Nh (w.alloc (lC x a)); have hb1 := Ab HW1; have hz1 := Ac HW1; obtain ⟨gz, hgz⟩ := Nq (w.heap.size); have HB1 := Hf hb1; have HGZ := Hf hgz; rw [hgz] at hz1; obtain ⟨⟨c0, c1, c2, c3⟩, _⟩ := row4 hz1; clear h hz1 hgz hb1; obtain ⟨m, hm⟩ := Nq (x.td.length); have HM := Hf hm; rw [hm] at hlen c2; simp only [lC, hm] at HW1; go_enter func65, ntmps65; go_upto_region 1 with fail
 rw [HW1.out, HGZ.out]; clear HW1; go_wp2_with fail; go_loopw [6] (fun i wr => ∃ j : Nat, j ≤ m ∧ i = .int .i64 j ∧ wr = W1 ∧ (x.base ≤ k → Dl.fnd (x.td.take j) k = none)) (fun i _ => m - (intOf i).toNat)
 case atStart => exact ⟨0, Nat.zero_le _, rfl, rfl, fun _ => rfl⟩
 case round =>
  obtain ⟨j, hj, rfl, rfl, hfn⟩ := hrel; by_cases hlt : j < m
  ·have hji : (j : Int) < (m : Int) := by omega
   have hjl : j < x.td.length := by rw [HM.out]; exact hlt
   obtain ⟨b1, o1, ha, y0, y1⟩ := AtL.getTd (HL.out.keep HB1.out).t.at' j hjl; have HNX := Hf (fun hb => fnd_take x.td k j hjl (hfn hb)); have HMO := Hf (fnd_more x.td k (j + 1) (by omega)); generalize x.td[j] = z at *; obtain ⟨z1, z2⟩ := z; simp only at y0 y1 HNX; rw [ha] at c2; clear hfn hjl; by_cases hk : z1 = k
   ·by_cases hb : x.base ≤ k
    ·have hbd : decide (x.base ≤ k) = true := decide_eq_true hb; have HK : Hid (toldV (Dl.told x k) = .tuple #[.string z2, .bool true]) := Hf (by
      have h1 := HNX.out hb; rw [if_pos hk] at h1; unfold Dl.told; rw [if_pos hb, HMO.out z2 h1]
      rfl)
     subst hk; clear HNX HMO ha; go_wp2; go_ret2; exact ⟨by rw [HK.out]; rfl, HB1.out⟩
    ·have hbd : decide (x.base ≤ k) = false := decide_eq_false hb; have HR : Hid (x.base ≤ k → Dl.fnd (x.td.take (j + 1)) k = none) := fun e => absurd e hb; subst hk; clear HNX HMO ha; go_wp2_with fail; go_roundw
     case rel => exact ⟨j + 1, by omega, by go_num, by first | rfl | trivial, HR.out⟩
     case measure => simp [intOf]; omega
   ·have HR : Hid (x.base ≤ k → Dl.fnd (x.td.take (j + 1)) k = none) := fun e => by have := HNX.out e; rw [if_neg hk] at this; exact this
    clear HNX HMO ha; go_wp2_with fail; go_roundw
    case rel => exact ⟨j + 1, by omega, by go_num, by first | rfl | trivial, HR.out⟩
    case measure => simp [intOf]; omega
  ·obtain rfl : j = m := by omega
   have HK : Hid (toldV (Dl.told x k) = .tuple #[.string ⟨#[]⟩, .bool false]) := Hf (by
    unfold Dl.told; split
    ·next e =>
     have := hfn e; rw [← HM.out, List.take_length] at this; rw [this]; rfl
    ·rfl)
   clear hfn; go_wp2; go_ret2; exact ⟨by rw [HK.out]; rfl, HB1.out⟩
end
section
variable {w w' : World} {x : X} {a : LA}
theorem toldV_some (o : Option ByteArray) : toldV o = .tuple #[.string (o.getD ⟨#[]⟩), .bool o.isSome] := by cases o <;> rfl
theorem rlmay_any (h : LL w x a) (k : Int) (v : ByteArray) (hv : v.size ≤ 9223372036854775807) (hlen : x.td.length ≤ 1000000) : Calls prog 111 #[lV x a, .int .i64 k, .string v] w fun e w' => e = .returned (.bool (Dl.may x k v)) ∧ Bl w w' := by
 obtain ⟨W1, HW1⟩ := Nh (w.alloc (lC x a)); have hb1 := Ab HW1; have hz1 := Ac HW1; obtain ⟨gz, hgz⟩ := Nq (w.heap.size); have HB1 := Hf hb1; have HGZ := Hf hgz; rw [hgz] at hz1; obtain ⟨c0, _⟩ := row4 hz1; have HZ1 := Hf hz1; have ct := rtold_any (h.keep hb1) k hlen; rw [toldV_some] at ct; have HM : Hid (Dl.may x k v = (!(Dl.told x k).isSome && decide (x.base ≤ k) && decide (k < 1024) && decide (v.size ≤ 4096))) := Hf rfl; clear h hz1 hgz hb1; obtain ⟨m, hm⟩ := Nq (x.td.length); have hdv : decide ((v.size : Int) ≤ 4096) = decide (v.size ≤ 4096) := by
  by_cases e : v.size ≤ 4096
  ·rw [decide_eq_true e, decide_eq_true (by omega)]
  ·rw [decide_eq_false e, decide_eq_false (by omega)]
 have HDV := Hf hdv; clear hm hlen hdv; obtain ⟨b0, h0⟩ := Nq ((Dl.told x k).isSome); obtain ⟨b1, h1⟩ := Nq (decide (x.base ≤ k)); obtain ⟨b2, h2⟩ := Nq (decide (k < 1024)); obtain ⟨b3, h3⟩ := Nq (decide (v.size ≤ 4096)); rw [h0, h1, h2, h3] at HM; rw [h3] at HDV; rw [h0] at ct; generalize (Dl.told x k).getD ⟨#[]⟩ = tv at *; clear h0; have h3' := HDV.out; clear HDV h3; go_enter func111, ntmps111; go_upto_region 1 with fail
 rw [HW1.out, HGZ.out]; clear HW1; go_wp2_with fail; refine ct.mono ?_; clear ct; rintro e w2 ⟨rfl, hb2⟩; obtain ⟨d0, _⟩ := row4 (Br HZ1.out hb2); have HB := Hf (Bu HB1.out hb2 Lr); clear hb2; cases b0 <;> cases b1 <;> cases b2
 all_goals
  first
  | simp only [decide_eq_true_eq, decide_eq_false_iff_not] at h1 h2
  go_wp2; go_ret; exact ⟨by rw [HM.out]; rfl, HB.out⟩
theorem rlnext_any {s : Nl.M.S} (h : LL w x a) (hR : Dl.Rel s x) (hlen : x.td.length ≤ 1000000) : Calls prog 64 #[lV x a] w fun e w' => e = .returned (.int .i64 (Nl.M.nx s)) ∧ Bl w w' := by
 obtain ⟨W1, HW1⟩ := Nh (w.alloc (lC x a)); have hb1 := Ab HW1; have hz1 := Ac HW1; obtain ⟨gz, hgz⟩ := Nq (w.heap.size); have HB1 := Hf hb1; have HGZ := Hf hgz; rw [hgz] at hz1; obtain ⟨⟨c0, c1, c2, c3⟩, _⟩ := row4 hz1; have HZ1 := Hf hz1; have HL := Hf (h.keep hb1); have hnx := hR.ok.nx; have hbs := hR.ok.base; have HT := Hf hR.td; have hbb : x.base = s.base := hR.base; obtain ⟨q, hq⟩ := Nq (Nl.M.nx s); rw [hq] at hnx; have HQ := Hf hq; have HNX := Hf hnx; obtain ⟨-, -, hn3, hn4⟩ := hnx; rw [hbb] at c1; have HBB := Hf hbb; generalize s.base = bs at *; clear h hz1 hgz hb1 hR hq hbb; have HLEN := Hf hlen; clear hlen; go_enter func64, ntmps64; go_upto_region 1 with fail
 rw [HW1.out, HGZ.out]; clear HW1; go_wp2_with fail; go_loopw [3] (fun i wr => ∃ k : Int, bs ≤ k ∧ k ≤ q ∧ i = .int .i64 k ∧ Bl W1 wr) (fun i _ => (q - intOf i).toNat)
 case atStart => exact ⟨bs, Int.le_refl _, hn3, rfl, Below.refl _ _⟩
 case round =>
  obtain ⟨k, hk1, hk2, rfl, hbl⟩ := hrel; have hwk : IntKind.i64.wrap (k + 1) = k + 1 := by rw [IntKind.wrap_i64]; omega
  by_cases h10 : k < 1024
  ·have hd : decide (k < 1024) = true := decide_eq_true h10; obtain ⟨d0, _⟩ := row4 (Br HZ1.out hbl); have ct := rtold_any (HL.out.keep hbl) k HLEN.out; rw [toldV_some, ← HT.out k] at ct; have HB := Hf hbl; by_cases hkq : k < q
   ·have hs := HNX.out.1 k hk1 hkq; rw [hs] at ct; generalize (s.td k).getD ⟨#[]⟩ = tv at *; clear hs hbl; go_wp2_with fail; refine ct.mono ?_; clear ct; rintro e w2 ⟨rfl, hb2⟩; have HB2 := Hf (Bu HB.out hb2 Lr); clear hb2; go_wp2_with fail; go_roundw
    case rel => exact ⟨k + 1, by omega, by omega, by go_num, HB2.out⟩
    case measure => simp [intOf]; omega
   ·obtain rfl : k = q := by omega
    rw [HNX.out.2.1] at ct; simp only [Option.isSome_none, Option.getD_none] at ct; clear hbl; go_wp2_with fail; refine ct.mono ?_; clear ct; rintro e w2 ⟨rfl, hb2⟩; have HB2 := Hf (Bu HB.out hb2 Lr); clear hb2; go_wp2; go_ret; exact ⟨by rw [HQ.out]; rfl, Bu HB1.out HB2.out Lr⟩
  ·have hd : decide (k < 1024) = false := decide_eq_false h10; obtain rfl : k = q := by omega
   have HB := Hf hbl; clear hbl; go_wp2; go_ret; exact ⟨by rw [HQ.out]; rfl, Bu HB1.out HB.out Lr⟩
theorem rllog_any {s : Nl.M.S} (h : LL w x a) (hR : Dl.Rel s x) (fr : Int) (hlen : x.td.length ≤ 1000000) : Calls prog 34 #[lV x a, .int .i64 fr] w fun e w' => ∃ ad c, e = .returned (.slice ad (Nl.M.lgs s fr).length c) ∧ XL Nl.tl w' ad c (Nl.M.lgs s fr) ∧ (∀ j, blk ad j → w.heap.size ≤ j ∧ j < w'.heap.size) ∧ Bl w w' := by
 obtain ⟨W1, HW1⟩ := Nh (w.alloc (lC x a)); have hb1 := Ab HW1; have hz1 := Ac HW1; obtain ⟨gz, hgz⟩ := Nq (w.heap.size); have HB1 := Hf hb1; have HGZ := Hf hgz; rw [hgz] at hz1; obtain ⟨⟨c0, c1, c2, c3⟩, _⟩ := row4 hz1; have HZ1 := Hf hz1; have HL := Hf (h.keep hb1); have HR := Hf hR; have hnx := hR.ok.nx; have hbs := hR.ok.base; have hbb : x.base = s.base := hR.base; have HT := Hf hR.td; obtain ⟨kk, hkk⟩ := Nq (max fr s.base); obtain ⟨m, hm⟩ := Nq (Nl.M.lgn s fr); have hlg : Nl.M.lgs s fr = Nl.M.lg s.td kk m := by unfold Nl.M.lgs; rw [hkk, hm]
 have hmv : m = (Nl.M.nx s - kk).toNat := by rw [← hm, ← hkk]; rfl
 have HLG := Hf hlg; obtain ⟨q, hq⟩ := Nq (Nl.M.nx s); have HQ := Hf hq; rw [hq] at hmv hnx; obtain ⟨-, -, hn3, hn4⟩ := hnx; rw [hbb] at c1; have hmx : max fr s.base = kk := hkk; have hkb : s.base ≤ kk := by omega
 have hmA : (m : Int) ≤ max (q - kk) 0 := by omega
 have hmB : q - kk ≤ (m : Int) := by omega
 have HLEN := Hf hlen; generalize s.base = bs at *; clear h hz1 hgz hb1 hR hq hbb hlg hlen hm hkk hmv; go_enter func34, ntmps34; go_upto_region 1 with fail
 rw [HW1.out, HGZ.out]; clear HW1; go_wp2_with fail; go_loopw [5, 6] (fun v i wr => ∃ j : Nat, j ≤ m ∧ i = .int .i64 (kk + j) ∧ OwnL Nl.tl 9 wr W1.heap.size v (Nl.M.lg s.td kk j) ∧ Bl W1 wr) (fun v i _ => (kk + m - intOf i).toNat)
 case atStart => exact ⟨0, Nat.zero_le _, by simp, OwnL.nil _ _ _, Below.refl _ _⟩
 case round =>
  obtain ⟨j, hj, rfl, ho, hbl⟩ := hrel; have hbig : kk + j ≤ max kk 1024 := by omega
  obtain ⟨d0, _⟩ := row4 (Br HZ1.out hbl); have cn := rlnext_any (HL.out.keep hbl) HR.out HLEN.out; rw [HQ.out] at cn; have HO := Hf ho; have HB := Hf hbl; clear ho hbl; by_cases hlt : j < m
  ·have hkq : kk + (j : Int) < q := by omega
   have hwk : IntKind.i64.wrap (kk + (j : Int) + 1) = kk + (j : Int) + 1 := by rw [IntKind.wrap_i64]; omega
   go_wp2_with fail; refine cn.mono ?_; clear cn; rintro e w2 ⟨rfl, hb2⟩; have hB2 := Bu HB.out hb2 Lr; obtain ⟨e0, _⟩ := row4 (Br HZ1.out hB2); have ct := rtold_any (HL.out.keep hB2) (kk + j) HLEN.out; rw [toldV_some, ← HT.out (kk + j)] at ct; have HB2 := Hf hB2; have HO2 := Hf (HO.out.keep hb2); clear hB2 hb2 d0; obtain ⟨bo, hbo⟩ := Nq ((s.td (kk + j)).isSome); rw [hbo] at ct; have HLS : Hid (Nl.M.lg s.td kk (j + 1) = Nl.M.lg s.td kk j ++ [(s.td (kk + j)).getD ⟨#[]⟩]) := Hf rfl; generalize (s.td (kk + j)).getD ⟨#[]⟩ = tv at *; clear hbo; go_wp2_with fail; refine ct.mono ?_; clear ct; rintro e w3 ⟨rfl, hb3⟩; have HO3 := HO2.out.keep hb3; have HB3 := Hf (Bu HB2.out hb3 Lr); clear hb3 e0; obtain ⟨av, cv, hv, -, -⟩ := HO3.at; rw [Nl.M.lg_len] at hv; subst hv; obtain ⟨W4, HW4⟩ := Nh (w3.alloc (.cells #[.string tv] 9)); have hb4 := Ab HW4; have hr4 := Ac HW4; have hw4 : W1.heap.size ≤ W4.heap.size := Nat.le_trans HB3.out.size hb4.size; obtain ⟨a', c', w5, hrun, ho5, hrw⟩ := run_appL_ty Nl.tiT W4 W1.heap.size (.slice av j cv) (Nl.M.lg s.td kk j) [tv] w3.heap.size 0 1 1 (HO3.keep hb4) (tl_at hr4) rfl hw4 (by rw [Nl.M.lg_len]; simp; omega); have hl1 : (Nl.M.lg s.td kk j).length + [tv].length = j + 1 := by rw [Nl.M.lg_len]; rfl
   rw [hl1] at hrun ho5 hrw; have HO5 : Hid (OwnL Nl.tl 9 w5 W1.heap.size (.slice a' (j + 1) c') (Nl.M.lg s.td kk (j + 1))) := by rw [HLS.out]; exact ho5
   have hB5 : Bl W1 w5 := (Bu HB3.out hb4 Lr).trans (hrw.below (B := W1.heap.size) (fun k hk => ((HO3.keep hb4).lt hk).1) hw4); have HB5 := Hf hB5; clear hb4 hr4 hw4 ho5 hrw hl1 hB5; go_upto_region 6 with fail
   go_wp2_with (first | (rw [HW4.out]) | (at_builtin; refine wpList_append_known rfl _ _ 38 rfl _ _ rfl rfl _ _ (hrun _) ?_)); go_roundw
   case rel => exact ⟨j + 1, by omega, by go_num, HO5.out, HB5.out⟩
   case measure => simp [intOf]; omega
  ·have hkq : ¬ kk + (j : Int) < q := by omega
   obtain rfl : j = m := by omega
   go_wp2_with fail; refine cn.mono ?_; clear cn; rintro e w2 ⟨rfl, hb2⟩; have hB2 := Bu HB.out hb2 Lr; obtain ⟨av, cv, hv, hx, hbk⟩ := (HO.out.keep hb2).at; rw [Nl.M.lg_len] at hv; have HF : Hid (∃ ad c, Ending.returned (.slice av j cv) = .returned (.slice ad (Nl.M.lgs s fr).length c) ∧ XL Nl.tl w2 ad c (Nl.M.lgs s fr) ∧ (∀ i, blk ad i → w.heap.size ≤ i ∧ i < w2.heap.size) ∧ Bl w w2) := by
    rw [HLG.out, Nl.M.lg_len]; exact ⟨av, cv, rfl, hx, fun i hi => ⟨Nat.le_trans HB1.out.size (hbk i hi).1, (hbk i hi).2.2⟩, Bu HB1.out hB2 Lr⟩
   subst hv; clear hB2 hb2 hx hbk; go_wp2; go_ret; exact HF.out
end
end Go.Proofs.YtgodnpngdbelhaaGreat
namespace Go.Proofs.YtgodnpngdbelhaaGreat
open Go.RowKit
open M (E V)
theorem rvalid_any (x : E) (w : World) : Calls prog 114 #[.agg #[.int .i64 x.i, .int .i64 x.t]] w fun e w' => e = .returned (.bool (M.vld x)) ∧ Bl w w' := by
 obtain ⟨i, t⟩ := x; simp only; have HB := Hf (bel1 w (.cells #[.int .i64 i, .int .i64 t] 42)); have HV : Hid (M.vld ⟨i, t⟩ = (decide (0 ≤ i) && decide (i ≤ 2147483647) && decide (0 ≤ t) && decide (t ≤ 6))) := rfl; rw [HV.out]; clear HV; by_cases h0 : 0 ≤ i
 ·have dh0 : decide (0 ≤ i) = true := decide_eq_true h0; by_cases h1 : i < 2147483648
  ·have dh1 : decide (i < 2147483648) = true := decide_eq_true h1; by_cases h2 : 0 ≤ t
   ·have dh2 : decide (0 ≤ t) = true := decide_eq_true h2; by_cases h3 : t < 7
    ·have dh3 : decide (t < 7) = true := decide_eq_true h3; have eh0 : decide (0 ≤ i) = true := decide_eq_true (by omega); have eh1 : decide (i ≤ 2147483647) = true := decide_eq_true (by omega); have eh2 : decide (0 ≤ t) = true := decide_eq_true (by omega); have eh3 : decide (t ≤ 6) = true := decide_eq_true (by omega); rw [eh0, eh1, eh2, eh3]; clear eh0 eh1 eh2 eh3 h0 h1 h2 h3; go_enter func114, ntmps114; go_wp2; go_ret; exact ⟨rfl, HB.out⟩
    ·have dh3 : decide (t < 7) = false := decide_eq_false h3; have eh0 : decide (0 ≤ i) = true := decide_eq_true (by omega); have eh1 : decide (i ≤ 2147483647) = true := decide_eq_true (by omega); have eh2 : decide (0 ≤ t) = true := decide_eq_true (by omega); have eh3 : decide (t ≤ 6) = false := decide_eq_false (by omega); rw [eh0, eh1, eh2, eh3]; clear eh0 eh1 eh2 eh3 h0 h1 h2 h3; go_enter func114, ntmps114; go_wp2; go_ret; exact ⟨rfl, HB.out⟩
   ·have dh2 : decide (0 ≤ t) = false := decide_eq_false h2; have eh0 : decide (0 ≤ i) = true := decide_eq_true (by omega); have eh1 : decide (i ≤ 2147483647) = true := decide_eq_true (by omega); have eh2 : decide (0 ≤ t) = false := decide_eq_false (by omega); rw [eh0, eh1, eh2]; clear eh0 eh1 eh2 h0 h1 h2; go_enter func114, ntmps114; go_wp2; go_ret; exact ⟨rfl, HB.out⟩
  ·have dh1 : decide (i < 2147483648) = false := decide_eq_false h1; have eh0 : decide (0 ≤ i) = true := decide_eq_true (by omega); have eh1 : decide (i ≤ 2147483647) = false := decide_eq_false (by omega); rw [eh0, eh1]; clear eh0 eh1 h0 h1; go_enter func114, ntmps114; go_wp2; go_ret; exact ⟨rfl, HB.out⟩
 ·have dh0 : decide (0 ≤ i) = false := decide_eq_false h0; have eh0 : decide (0 ≤ i) = false := decide_eq_false (by omega); rw [eh0]; clear eh0 h0; go_enter func114, ntmps114; go_wp2; go_ret; exact ⟨rfl, HB.out⟩
theorem f117_res : Tryz.f117.results = #[.cell 4 42] := rfl
theorem rnext_any (x : E) (n : Int) (w : World) : Calls prog 117 #[.agg #[.int .i64 x.i, .int .i64 x.t], .int .i64 n] w fun e w' => e = .returned (.agg #[.int .i64 (M.nxt x n).i, .int .i64 (M.nxt x n).t]) ∧ Bl w w' := by
 obtain ⟨i, t⟩ := x; simp only; have HB := Hf (fun a b => Bu (bel1 w (.cells #[.int .i64 i, .int .i64 t] 42)) (bel1 _ (.cells #[a, b] 42)) Lr); by_cases h0 : i < 0
 ·have HQ : Hid (M.nxt ⟨i, t⟩ n = ⟨0, 0⟩) := Hf (by unfold M.nxt; rw [if_pos (.inl h0)]); have d0 : decide (i < 0) = true := decide_eq_true h0; rw [HQ.out]; clear HQ h0; go_enter func117, ntmps117; go_wp2; refine bodyPost_ret (v := .agg #[.int .i64 0, .int .i64 0]) ?_ rfl ⟨rfl, HB.out _ _⟩; exact results_cell_row f117_res _ _ (w.heap.size + 1) 42 _ (0, 0) _ rfl (heap_alloc2_new w _ _) underlying42 rfl Tryz.size42
 ·have d0 : decide (i < 0) = false := decide_eq_false h0; by_cases h1 : 2147483647 ≤ i
  ·have HQ : Hid (M.nxt ⟨i, t⟩ n = ⟨0, 0⟩) := Hf (by unfold M.nxt; rw [if_pos (.inr h1)]); have d1 : decide (2147483647 ≤ i) = true := decide_eq_true h1; rw [HQ.out]; clear HQ h0 h1; go_enter func117, ntmps117; go_wp2; refine bodyPost_ret (v := .agg #[.int .i64 0, .int .i64 0]) ?_ rfl ⟨rfl, HB.out _ _⟩; exact results_cell_row f117_res _ _ (w.heap.size + 1) 42 _ (0, 0) _ rfl (heap_alloc2_new w _ _) underlying42 rfl Tryz.size42
  ·have d1 : decide (2147483647 ≤ i) = false := decide_eq_false h1; have HQ : Hid (M.nxt ⟨i, t⟩ n = ⟨i + 1, M.nod n⟩) := Hf (by unfold M.nxt; rw [if_neg (by simp only; omega)]); have hw : IntKind.i64.wrap (i + 1) = i + 1 := by rw [IntKind.wrap_i64]; omega
   rw [HQ.out]; clear HQ; have HN : Hid (min (max n 0) 6 = M.nod n) := rfl; clear h0 h1; go_enter func117, ntmps117; go_wp2; rw [HN.out]; refine bodyPost_ret (v := .agg #[.int .i64 (i + 1), .int .i64 (M.nod n)]) ?_ rfl ⟨rfl, HB.out _ _⟩; exact results_cell_row f117_res _ _ (w.heap.size + 1) 42 _ (0, 0) _ rfl (heap_alloc2_new w _ _) underlying42 rfl Tryz.size42
theorem rcmp_any (x y : E) (w : World) :
  Calls prog 115 #[.agg #[.int .i64 x.i, .int .i64 x.t], .agg #[.int .i64 y.i, .int .i64 y.t]] w fun e w' => e = .returned (.int .i64 (M.cmpE x y)) ∧ Bl w w' := by
 have HC := Hf (M.cmpE_three x y); generalize M.cmpE x y = r at *; obtain ⟨a, b⟩ := x; obtain ⟨c, d⟩ := y; simp only at HC ⊢; have HB := Hf (Bu (bel1 w (.cells #[.int .i64 a, .int .i64 b] 42)) (bel1 _ (.cells #[.int .i64 c, .int .i64 d] 42)) Lr); have he := eq42 a b c d; rcases HC.out with ⟨h, rfl⟩ | ⟨h, rfl⟩ | ⟨h, rfl⟩
 ·by_cases h0 : a < c
  ·have d0 : decide (a < c) = true := decide_eq_true h0; clear h HC h0; go_enter func115, ntmps115; go_wp2; go_ret; exact ⟨rfl, HB.out⟩
  ·have d0 : decide (a < c) = false := decide_eq_false h0; obtain rfl : a = c := by omega
   have d1 : decide (b < d) = true := decide_eq_true (by omega); clear h HC h0; go_enter func115, ntmps115; go_wp2; go_ret; exact ⟨rfl, HB.out⟩
 ·obtain ⟨rfl, rfl⟩ := h; clear HC; go_enter func115, ntmps115; go_wp2; go_ret; exact ⟨rfl, HB.out⟩
 ·by_cases h0 : a = c
  ·obtain rfl := h0; have d1 : decide (b < d) = false := decide_eq_false (by omega); have d2 : decide (b = d) = false := decide_eq_false (by omega); clear h HC; go_enter func115, ntmps115; go_wp2; go_ret; exact ⟨rfl, HB.out⟩
  ·have d0 : decide (a < c) = false := decide_eq_false (by omega); have d2 : decide (a = c) = false := decide_eq_false h0; have d3 : (a == c) = false := by simpa using h0
   clear h HC; go_enter func115, ntmps115; go_wp2; go_ret; exact ⟨rfl, HB.out⟩
end Go.Proofs.YtgodnpngdbelhaaGreat
