import Derived.Test.YtgodnpngdbelhaaGreatGP22
set_option maxRecDepth 100000
set_option maxHeartbeats 8000000
set_option linter.unusedVariables false
set_option linter.unusedSimpArgs false
open Go.Proofs.Tryz
namespace Go.Proofs.YtgodnpngdbelhaaGreat
open Go.RowKit Go.Maps
open M (E V)
open Rm (NT R)
open Tm (T)
section
variable {w0 w w' w1 : World} {b g c : Nat} {F : Nat → Nat → Prop} {bs : Nat → Nat} {u u' : Value} {ys ys' : List RN} {t : T} {G X : Nat → Prop}
def addT (t : T) (x : NT) : T := if t.way.length < 1024 then { t with way := t.way ++ [x] } else t
def WayO (w0 w : World) (b g c : Nat) (F : Nat → Nat → Prop) (bs : Nat → Nat) (u : Value) (ys : List RN) (yad : Option Addr) (t t' : T) (e : Ending) (r : Value) (w' : World) : Prop :=
 ∃ u' ys', e = .returned r ∧ TP w0 w' b g c F bs u' ys' t' ∧ Fr w (TG b t.n F u) w' (TG b t.n F u') ∧ ∀ z ∈ ys', z ∈ ys ∨ z.ad = yad
theorem TP.add (h : TP w0 w b g c F bs u ys t) (y : RN) (hy : XN w (fun q => w0.heap.size ≤ q ∧ ¬ TG b t.n F u q) y) :
  Calls prog 59 #[ptr b, nV y] w fun e w' => WayO w0 w b g c F bs u ys y.ad t (addT t y.x) e (.bool (decide (t.way.length < 1024))) w' := by
 obtain ⟨⟨yk, yf, yt, ys', ⟨yi, yj⟩, yv⟩, yad, yc⟩ := y; obtain ⟨W1, HW1⟩ := Nh (w.alloc (.cells #[.int .i64 yk, .int .i64 yf, .int .i64 yt, .int .i64 ys', .int .i64 yi, .int .i64 yj, .slice yad yv.length yc] 72)); have hb1 := Ab HW1; have hz1 := Ac HW1; obtain ⟨gz, hgz⟩ := Nq (w.heap.size); have h1 := h.keep hb1; have hy1 := hy.keep hb1; obtain ⟨c0, cf⟩ := row2 h1.row; obtain ⟨ad, cc, hu, -⟩ := h1.slice; obtain ⟨⟨_, k1⟩, _⟩ := row2 (h1.keep (bel1 W1 (.cells #[.int .i64 yk, .int .i64 yf, .int .i64 yt, .int .i64 ys', .int .i64 yi, .int .i64 yj, .slice yad yv.length yc] 72))).row; by_cases hlen : t.way.length < 1024
 ·have hd : decide (t.way.length < 1024) = true := decide_eq_true hlen; have hA : Hid (addT t ⟨yk, yf, yt, ys', ⟨yi, yj⟩, yv⟩ = { t with way := t.way ++ [⟨yk, yf, yt, ys', ⟨yi, yj⟩, yv⟩] }) := by unfold addT; rw [if_pos hlen]; rfl
  have hW : Hid (∃ a' c' w2, (∀ ty, (Builtin.append_ #[28, 28] ty #[.slice ad t.way.length cc, .slice (some ⟨W1.heap.size, 0, none⟩) 1 1]).run prog (W1.alloc (.cells #[.int .i64 yk, .int .i64 yf, .int .i64 yt, .int .i64 ys', .int .i64 yi, .int .i64 yj, .slice yad yv.length yc] 72)).drew = .ok (.slice a' (t.way.length + 1) c') w2) ∧
    (w2.cell? ⟨b, 1, none⟩ = some (.slice ad t.way.length cc) ∧ w2.frozen? ⟨b, 1, none⟩ = false) ∧
    ∀ W, W = w2.setCell ⟨b, 1, none⟩ (.slice a' (t.way.length + 1) c') → WayO w0 w b g c F bs u ys yad t (addT t ⟨yk, yf, yt, ys', ⟨yi, yj⟩, yv⟩) (.returned (.bool true)) (.bool true) W) := by
   have hbd : Bl W1 W1.drew := Below.drew (Below.refl _ _); have h2 := h1.keep hbd; obtain ⟨a', c', w2, hrun, ho, hrw⟩ := h2.ob.ow.app1 ⟨⟨yk, yf, yt, ys', ⟨yi, yj⟩, yv⟩, yad, yc⟩ ((hy1.keep hbd).imp fun k hk hp => ⟨hp.1, fun e => hp.2 (.inr e)⟩) h2.bel.size (by rw [h.len]; omega); rw [h.len] at hrun ho hrw; obtain ⟨r1, r2⟩ := h2.app ho hrw (fun z hz => by
    rcases List.mem_append.1 hz with hz | hz
    ·exact .inl hz
    ·obtain rfl := List.mem_singleton.1 hz; exact .inr fun k hk e => ((hy1.keep hbd).blk k hk).2.2 (.inl e))
   have hrow : w2.heap[b]? = some (trow g c t.n u) := (hrw.g.block b h2.lt (fun e => h2.ob.own b e.symm (.inl rfl))).trans h2.row; obtain ⟨⟨_, m1⟩, m2⟩ := row2 hrow; rw [hu] at hrun m1; refine ⟨a', c', w2, hrun, ⟨m1, m2 1⟩, ?_⟩; rintro W rfl; rw [List.map_append, h2.my] at r1; rw [hA.out]; exact ⟨_, _, rfl, r1, (Fr.ofBelow (Bu hb1 hbd Lr)).trans r2, fun z hz => by
    rcases List.mem_append.1 hz with hz | hz
    ·exact .inl hz
    ·obtain rfl := List.mem_singleton.1 hz; exact .inr rfl⟩
  obtain ⟨a', c', w2, hrun, ⟨m1, m2⟩, hfin⟩ := hW.out; have HF := Hf hfin; have hgz' : gz < W1.heap.size := by rw [← hgz]; exact (Array.getElem?_eq_some_iff.1 hz1).1
  rw [hgz] at hz1; obtain ⟨x0, _⟩ := row7 hz1; subst hu; have cf0 := cf 0; have HGZ := Hf hgz; clear hW hfin h1 hy1 h hy hb1 hz1 hA cf hgz; rw [hd]; generalize t.way.length = m at *; have hmi : ¬ ((1024 : Int) ≤ (m : Int)) := by omega
  go_enter func59, ntmps59; go_upto_region 1 with fail; rw [HW1.out, HGZ.out]; clear HW1; go_wp2_with fail; go_region_law (refine Na.step_append_run rfl (.tmp 15) (.tmp 17) 28 rfl _ _ (by simp [Act.eval]) (by simp [Act.eval]) _ _ (hrun _) ?_)
  all_goals
   go_wp2; go_ret; exact HF.out _ rfl
 ·have hd : decide (t.way.length < 1024) = false := decide_eq_false hlen; have hQ : Hid (WayO w0 w b g c F bs u ys yad t (addT t ⟨yk, yf, yt, ys', ⟨yi, yj⟩, yv⟩) (.returned (.bool false)) (.bool false) W1) := by
   unfold addT; rw [if_neg hlen]; exact ⟨_, _, rfl, h1, Fr.ofBelow hb1, fun z hz => .inl hz⟩
  subst hu; rw [hd]; clear h1 hy1 h hy hb1 hz1 cf; generalize t.way.length = m at *; have hmi : (1024 : Int) ≤ (m : Int) := by omega
  go_enter func59, ntmps59; go_upto_region 1 with fail; rw [HW1.out]; clear HW1; go_wp2; go_ret; exact hQ.out
theorem TP.place (h : TP w0 w b g c F bs u ys t) (k : Int) (hm : t.way.length ≤ 1024) : Calls prog 58 #[ptr b, .int .i64 k] w fun e w' => e = .returned (placeV t k) ∧ w' = w := by
 have cw := h.waiting; by_cases h0 : t.way.length = 0
 ·have hv : Hid (placeV t k = .tuple #[.int .i64 0, .bool false]) := by unfold placeV; rw [if_pos h0]; exact Hf rfl
  rw [h0] at cw; clear h h0 hm; go_enter func58, ntmps58; go_wp2_with fail; refine cw.mono ?_; rintro e w1 ⟨rfl, rfl⟩; clear cw; go_wp2; go_ret2; exact ⟨by rw [hv.out]; rfl, rfl⟩
 ·have hv : Hid (placeV t k = .tuple #[.int .i64 ((Tm.at' k t.way.length : Nat) : Int), .bool true]) := by unfold placeV; rw [if_neg h0]; exact Hf rfl
  generalize t.way.length = m at *; have hr := at_rem k m (by omega); have hw : wrap64 (Int.tmod k m + m) = Int.tmod k m + m := by
   have h1 := Int.lt_tmod_of_pos k (show (0 : Int) < (m : Int) by omega); have h2 := Int.tmod_lt_of_pos k (show (0 : Int) < (m : Int) by omega); unfold wrap64; omega
  have hm0 : ((m : Int) == 0) = false := beq_false_of_ne (by omega); have HR := Hf hr; clear h hr hm0; go_enter func58, ntmps58; go_wp2_with fail; refine cw.mono ?_; rintro e w1 ⟨rfl, rfl⟩; clear cw; go_wp2; go_ret2; exact ⟨by rw [hv.out, ← HR.out]; rfl, rfl⟩
theorem atT_at {t : T} {k : Int} {ys : List RN} (hy : ys.map RN.x = t.way) (h : Tm.at' k t.way.length < ys.length) : (ys[Tm.at' k t.way.length]).x = Tm.atT t k := by
 unfold Tm.atT; have h2 : Tm.at' k t.way.length < (ys.map RN.x).length := by rw [List.length_map]; exact h
 have h3 : (ys.map RN.x)[Tm.at' k t.way.length]'h2 = (ys[Tm.at' k t.way.length]).x := List.getElem_map _; have h4 : Tm.at' k t.way.length < t.way.length := by rw [hy] at h2; exact h2
 rw [List.getD_eq_getElem?_getD, List.getElem?_eq_getElem h4]; simp only [hy] at h3; rw [← h3]; rfl
def put7 (w : World) (g : Nat) (a0 a1 a2 a3 a4 a5 a6 : Value) : World := ((((((w.setCell ⟨g, 0, none⟩ a0).setCell ⟨g, 1, none⟩ a1).setCell ⟨g, 2, none⟩ a2).setCell ⟨g, 3, none⟩ a3).setCell ⟨g, 4, none⟩ a4).setCell ⟨g, 5, none⟩ a5).setCell ⟨g, 6, none⟩ a6
theorem put7_row {w : World} {g : Nat} {t : TypeId} {v0 v1 v2 v3 v4 v5 v6 : Value} (h : w.heap[g]? = some (.cells #[v0, v1, v2, v3, v4, v5, v6] t (0, 0))) (a0 a1 a2 a3 a4 a5 a6 : Value) : (put7 w g a0 a1 a2 a3 a4 a5 a6).heap[g]? = some (.cells #[a0, a1, a2, a3, a4, a5, a6] t (0, 0)) := by
 have h0 : (w.setCell ⟨g, 0, none⟩ a0).heap[g]? = some (.cells #[a0, v1, v2, v3, v4, v5, v6] t (0, 0)) := heap_setCell_same w g 0 _ _ _ h; have h1 : ((w.setCell ⟨g, 0, none⟩ a0).setCell ⟨g, 1, none⟩ a1).heap[g]? = some (.cells #[a0, a1, v2, v3, v4, v5, v6] t (0, 0)) := heap_setCell_same (w.setCell ⟨g, 0, none⟩ a0) g 1 _ _ _ h0; have h2 : (((w.setCell ⟨g, 0, none⟩ a0).setCell ⟨g, 1, none⟩ a1).setCell ⟨g, 2, none⟩ a2).heap[g]? = some (.cells #[a0, a1, a2, v3, v4, v5, v6] t (0, 0)) := heap_setCell_same ((w.setCell ⟨g, 0, none⟩ a0).setCell ⟨g, 1, none⟩ a1) g 2 _ _ _ h1; have h3 : ((((w.setCell ⟨g, 0, none⟩ a0).setCell ⟨g, 1, none⟩ a1).setCell ⟨g, 2, none⟩ a2).setCell ⟨g, 3, none⟩ a3).heap[g]? = some (.cells #[a0, a1, a2, a3, v4, v5, v6] t (0, 0)) := heap_setCell_same (((w.setCell ⟨g, 0, none⟩ a0).setCell ⟨g, 1, none⟩ a1).setCell ⟨g, 2, none⟩ a2) g 3 _ _ _ h2; have h4 : (((((w.setCell ⟨g, 0, none⟩ a0).setCell ⟨g, 1, none⟩ a1).setCell ⟨g, 2, none⟩ a2).setCell ⟨g, 3, none⟩ a3).setCell ⟨g, 4, none⟩ a4).heap[g]? = some (.cells #[a0, a1, a2, a3, a4, v5, v6] t (0, 0)) := heap_setCell_same ((((w.setCell ⟨g, 0, none⟩ a0).setCell ⟨g, 1, none⟩ a1).setCell ⟨g, 2, none⟩ a2).setCell ⟨g, 3, none⟩ a3) g 4 _ _ _ h3
 have h5 : ((((((w.setCell ⟨g, 0, none⟩ a0).setCell ⟨g, 1, none⟩ a1).setCell ⟨g, 2, none⟩ a2).setCell ⟨g, 3, none⟩ a3).setCell ⟨g, 4, none⟩ a4).setCell ⟨g, 5, none⟩ a5).heap[g]? = some (.cells #[a0, a1, a2, a3, a4, a5, v6] t (0, 0)) := heap_setCell_same (((((w.setCell ⟨g, 0, none⟩ a0).setCell ⟨g, 1, none⟩ a1).setCell ⟨g, 2, none⟩ a2).setCell ⟨g, 3, none⟩ a3).setCell ⟨g, 4, none⟩ a4) g 5 _ _ _ h4; have h6 : (((((((w.setCell ⟨g, 0, none⟩ a0).setCell ⟨g, 1, none⟩ a1).setCell ⟨g, 2, none⟩ a2).setCell ⟨g, 3, none⟩ a3).setCell ⟨g, 4, none⟩ a4).setCell ⟨g, 5, none⟩ a5).setCell ⟨g, 6, none⟩ a6).heap[g]? = some (.cells #[a0, a1, a2, a3, a4, a5, a6] t (0, 0)) := heap_setCell_same ((((((w.setCell ⟨g, 0, none⟩ a0).setCell ⟨g, 1, none⟩ a1).setCell ⟨g, 2, none⟩ a2).setCell ⟨g, 3, none⟩ a3).setCell ⟨g, 4, none⟩ a4).setCell ⟨g, 5, none⟩ a5) g 6 _ _ _ h5; exact h6
theorem put7_fr (w : World) (g : Nat) (a0 a1 a2 a3 a4 a5 a6 : Value) : Fr w (· = g) (put7 w g a0 a1 a2 a3 a4 a5 a6) (· = g) :=
 ((((((fr_one w g 0 a0).trans (fr_one _ g 1 a1)).trans (fr_one _ g 2 a2)).trans (fr_one _ g 3 a3)).trans (fr_one _ g 4 a4)).trans (fr_one _ g 5 a5)).trans (fr_one _ g 6 a6)
theorem f43_res : Tryz.f43.results = #[.cell 4 72, .tmp 5] := rfl
theorem Tryz.size72' : (prog.info? 72).map (·.size) = some 7 := by kernel_rfl
theorem res7 (tmps : Array Value) (w : World) (g : Nat) (a0 a1 a2 a3 a4 a5 a6 : Value) (hp : tmps.getD 4 undef = .pointer (some ⟨g, 0, none⟩)) (hg : w.heap[g]? = some (.cells #[a0, a1, a2, a3, a4, a5, a6] 72 (0, 0))) :
  (results Tryz.f43 tmps).run prog w = .ok (.tuple #[.agg #[a0, a1, a2, a3, a4, a5, a6], tmps.getD 5 undef]) w := by
 have hp' : tmps[4]?.getD undef = .pointer (some ⟨g, 0, none⟩) := by simpa using hp
 rw [results_cell_tmp f43_res]; simp [asAddr, hp', run_loadVar_row w g 72 72 #[a0, a1, a2, a3, a4, a5, a6] (0, 0) _ hg underlying72 rfl Tryz.size72']
theorem TP.step (h : TP w0 w b g c F bs u ys t) {H H' : Nat → Prop} (hf : Fr w H w' H') (hH : ∀ k, H k → ¬ TG b t.n F u k ∧ w0.heap.size ≤ k ∧ k ≠ g ∧ ∀ y ∈ ys, ¬ blk y.ad k) : TP w0 w' b g c F bs u ys t := by
 have hlo : ∀ k, H k → w0.heap.size ≤ k := fun k hk => (hH k hk).2.1; refine ⟨h.hn, (hf.block b h.lt (fun e => (hH b e).1 (.inl (.inl rfl)))).trans h.row, h.nod.keepBut fun k hk hk2 => ?_, Nat.lt_of_lt_of_le h.gz hf.size, fun i hi => (h.rs i hi).step hf (fun k hk e => (hH k e).1 (.inl (.inr ⟨i, hi, hk⟩))) hlo, h.ap, h.nb, h.ng, h.ug, ⟨⟨h.ob.ow.own.keepBut fun k hk hk2 => hf.block k hk (fun e => (hH k e).1 (.inr hk2)), fun y hy => ?_⟩, h.ob.own, h.ob.all⟩, h.my, h.lo, h.lg⟩
 ·obtain rfl := blk_add hk2; exact hf.block k hk (fun e => (hH k e).2.2.1 rfl)
 ·have h1 := h.ob.ow.all y hy; exact ⟨h1.xl.keepBut fun k hk hk2 => hf.block k hk (fun e => (hH k e).2.2.2 y hy hk2), fun k hk => ⟨Nat.lt_of_lt_of_le (h1.blk k hk).1 hf.size, (h1.blk k hk).2⟩⟩
def zR : RN := ⟨Tm.zn, none, 0⟩
def TakeO (w0 w : World) (b g c : Nat) (F : Nat → Nat → Prop) (bs : Nat → Nat) (u : Value) (ys : List RN) (t : T) (k : Int) (e : Ending) (w' : World) : Prop :=
 (t.way.length = 0 ∧ e = .returned (.tuple #[nV zR, .bool false]) ∧ Bl w w') ∨
 (t.way.length ≠ 0 ∧ ∃ y u' ys', e = .returned (.tuple #[nV y, .bool true]) ∧ y.x = Tm.atT t k ∧ TP w0 w' b g c F bs u' ys' (Tm.drT t k) ∧ Fr w (TG b t.n F u) w' (TG b t.n F u') ∧ XN w' (fun q => w0.heap.size ≤ q ∧ ¬ TG b t.n F u' q) y ∧ (∀ z ∈ ys', z ∈ ys) ∧ y ∈ ys)
theorem TP.take (h : TP w0 w b g c F bs u ys t) (k : Int) (hm : t.way.length ≤ 1024) : Calls prog 43 #[ptr b, .int .i64 k] w (TakeO w0 w b g c F bs u ys t k) := by
 obtain ⟨W1, HW1⟩ := Nh (w.alloc (.cells #[.int .i64 0, .int .i64 0, .int .i64 0, .int .i64 0, .int .i64 0, .int .i64 0, .slice none 0 0] 72)); have hb1 := Ab HW1; have hz1 := Ac HW1; obtain ⟨gz, hgz⟩ := Nq (w.heap.size); rw [hgz] at hz1; have h1 := h.keep hb1; have cp := h1.place k hm; by_cases h0 : t.way.length = 0
 ·have hv : placeV t k = .tuple #[.int .i64 0, .bool false] := by unfold placeV; rw [if_pos h0]
  rw [hv] at cp; obtain ⟨z0, zf⟩ := row7 hz1; have zf0 := zf 0; have zf1 := zf 1; have zf2 := zf 2; have zf3 := zf 3; have zf4 := zf 4; have zf5 := zf 5; have zf6 := zf 6; have HK : Hid (∀ w', Bl w w' → TakeO w0 w b g c F bs u ys t k (.returned (.tuple #[nV zR, .bool false])) w') := fun w' hb => .inl ⟨h0, rfl, hb⟩; have HB1 := Hf hb1; have HGZ := Hf hgz; have HZ1 := Hf hz1; clear h h1 hv h0 hb1 hz1 hgz zf hm; go_enter func43, ntmps43; go_upto_region 1 with fail
  rw [HW1.out, HGZ.out]; clear HW1; go_wp2_with fail; refine cp.mono ?_; rintro e w1 ⟨rfl, rfl⟩; clear cp; go_wp2; refine bodyPost_ret (v := .tuple #[nV zR, .bool false]) ?_ rfl (HK.out _ (HB1.out.trans (Fr.below (B := w.heap.size) (put7_fr _ gz _ _ _ _ _ _ _) (fun k e => by have := HGZ.out; omega) HB1.out.size))); exact res7 _ _ gz _ _ _ _ _ _ _ rfl (put7_row HZ1.out _ _ _ _ _ _ _)
 ·have hv : placeV t k = .tuple #[.int .i64 ((Tm.at' k t.way.length : Nat) : Int), .bool true] := by unfold placeV; rw [if_neg h0]
  rw [hv] at cp; have hlen := h.len; have hp0 : Tm.at' k t.way.length < ys.length := by rw [hlen]; exact Tm.at_lt k (by omega)
  have hyx := atT_at h.my hp0; have hdr : (ys.take (Tm.at' k t.way.length) ++ ys.drop (Tm.at' k t.way.length + 1)).map RN.x = t.way.eraseIdx (Tm.at' k t.way.length) := by
   rw [List.eraseIdx_eq_take_drop_succ, List.map_append, List.map_take, List.map_drop, h.my]
  have hT : Tm.drT t k = { t with way := t.way.eraseIdx (Tm.at' k t.way.length) } := rfl
  generalize Tm.at' k t.way.length = p at *; have hym : ys[p] ∈ ys := List.getElem_mem hp0; rcases h1.ob.ow.own.rowW with ⟨-, e⟩ | ⟨gu, cap, cur, hu, hgb, hrow⟩
  ·exact absurd (by rw [← hlen, e]; rfl) h0
  obtain ⟨a, cc, hu2, hx, -⟩ := h1.ob.ow.own.at; obtain ⟨q, off, ea, n0, n1, n2, n3, n4, n5, n6⟩ := AtL.getN hx.at' p hp0; rw [hu] at hu2; simp only [Value.slice.injEq] at hu2; obtain ⟨e1, -, -⟩ := hu2; rw [ea] at e1; cases e1; obtain ⟨y, HY⟩ := Nh (ys[p]); rw [HY.out] at n0 n1 n2 n3 n4 n5 n6 hyx hym; have hyo := h.ob.ow.all y hym; have hyn := h.ob.all y hym; obtain ⟨⟨yk, yf, yt, ysl, ⟨yi, yj⟩, yv⟩, yad, yc⟩ := y; simp only [Nat.zero_add] at n0 n1 n2 n3 n4 n5 n6; obtain ⟨W2, HW2⟩ := Nh (W1.alloc (.cells #[.int .i64 yk, .int .i64 yf, .int .i64 yt, .int .i64 ysl, .int .i64 yi, .int .i64 yj, .slice yad yv.length yc] 72)); have hb2 := Ab HW2; have hz2 := Ac HW2; obtain ⟨gy, hgy⟩ := Nq (W1.heap.size); have hgzy : gz < gy := by rw [← hgy]; exact (Array.getElem?_eq_some_iff.1 hz1).1
  rw [hgy] at hz2; have h2 := h1.keep hb2; obtain ⟨c0, cf⟩ := row2 h1.row; obtain ⟨d0, df⟩ := row2 h2.row; have cd := deleteW p hgb (⟨Br hrow.h hb2, hrow.le, hrow.mx, hrow.sz, hrow.eq⟩ : RowW W2 gu cap cur ys) hp0 (by omega); have HFIN : Hid (∀ u' w3, OwnL nl 72 w3 w0.heap.size u' (ys.take p ++ ys.drop (p + 1)) → Rw W2 u w3 u' →
    (w3.cell? ⟨b, 1, none⟩ = some u ∧ w3.frozen? ⟨b, 1, none⟩ = false ∧ (∃ v0, w3.heap[b]? = some (.cells #[v0, u] 64 (0, 0))) ∧ w3.heap[gz]? = W1.heap[gz]? ∧ w3.heap[gy]? = W2.heap[gy]? ∧ b ≠ gz ∧ b ≠ gy) ∧
    ∀ W, W = put7 (w3.setCell ⟨b, 1, none⟩ u') gz (.int .i64 yk) (.int .i64 yf) (.int .i64 yt) (.int .i64 ysl) (.int .i64 yi) (.int .i64 yj) (.slice yad yv.length yc) → TakeO w0 w b g c F bs u ys t k (.returned (.tuple #[nV ⟨⟨yk, yf, yt, ysl, ⟨yi, yj⟩, yv⟩, yad, yc⟩, .bool true])) W) := fun u' w3 ho hrw => by
   have hsub : ∀ z ∈ ys.take p ++ ys.drop (p + 1), z ∈ ys := fun z hz => by
    rcases List.mem_append.1 hz with hz | hz
    ·exact List.mem_of_mem_take hz
    ·exact List.mem_of_mem_drop hz
   obtain ⟨r1, r2⟩ := h2.app (h2.ob.ow.rw ho hrw (fun z hz => .inl (hsub z hz))) hrw (fun z hz => .inl (hsub z hz)); have hbl := h2.lt; have hub : u.ownBlock ≠ some b := fun e => h2.ob.own b e (.inl rfl); have hu1 : ∀ j, u.ownBlock = some j → j < gz := fun j e => by rw [← hgz]; exact (h.ob.ow.own.lt e).2
   have hrow3 : w3.heap[b]? = some (trow g c t.n u) := (hrw.g.block b hbl (fun e => hub e.symm)).trans h2.row; have hbz : b < gz := by rw [← hgz]; exact h.lt
   have hgyl : gy < W2.heap.size := (Array.getElem?_eq_some_iff.1 hz2).1; have e1 : w3.heap[gy]? = W2.heap[gy]? := hrw.g.block gy hgyl (fun e => by have := hu1 gy e.symm; omega); have e2 : w3.heap[gz]? = W1.heap[gz]? := (hrw.g.block gz (by omega) (fun e => by have := hu1 gz e.symm; omega)).trans (hb2.block gz (by omega)); refine ⟨⟨(row2 hrow3).1.2, (row2 hrow3).2 1, ⟨_, hrow3⟩, e2, e1, by omega, by omega⟩, ?_⟩; rintro W rfl; have hwz : w.heap.size ≤ gz := by omega
   have hTG : ∀ j, TG b t.n F u' j → j < gz ∨ W2.heap.size ≤ j := fun j hj => by
    rcases r2.n j hj with h' | h'
    ·have := (h.mine j h').2; omega
    ·exact .inr h'
   have f0 : Fr w (TG b t.n F u) (w3.setCell ⟨b, 1, none⟩ u') (TG b t.n F u') := ((Fr.ofBelow hb1).trans (Fr.ofBelow hb2)).trans r2; have f1 : Fr w (TG b t.n F u) (put7 (w3.setCell ⟨b, 1, none⟩ u') gz (.int .i64 yk) (.int .i64 yf) (.int .i64 yt) (.int .i64 ysl) (.int .i64 yi) (.int .i64 yj) (.slice yad yv.length yc)) (TG b t.n F u') := by
    have k0 := Np.fr_new f0 hwz 0 (.int .i64 yk); have k1 := Np.fr_new k0 hwz 1 (.int .i64 yf); have k2 := Np.fr_new k1 hwz 2 (.int .i64 yt); have k3 := Np.fr_new k2 hwz 3 (.int .i64 ysl); have k4 := Np.fr_new k3 hwz 4 (.int .i64 yi); have k5 := Np.fr_new k4 hwz 5 (.int .i64 yj); exact Np.fr_new k5 hwz 6 (.slice yad yv.length yc)
   have r3 := r1.step (put7_fr _ gz (.int .i64 yk) (.int .i64 yf) (.int .i64 yt) (.int .i64 ysl) (.int .i64 yi) (.int .i64 yj) (.slice yad yv.length yc)) (fun j hj => by
    subst hj; refine ⟨fun e => ?_, ?_, ?_, fun z hz e => ?_⟩
    ·rcases hTG _ e with h' | h' <;> omega
    ·have := h.bel.size; omega
    ·have := h.gz; omega
    ·have := ((h.ob.ow.all z (hsub z hz)).blk _ e).1; omega)
   rw [hdr, ← hT] at r3; refine .inr ⟨h0, ⟨⟨yk, yf, yt, ysl, ⟨yi, yj⟩, yv⟩, yad, yc⟩, _, _, rfl, hyx, r3, f1, ?_, hsub, hym⟩; have hout : ∀ j, blk yad j → ¬ TG b t.n F u j := fun j hj e => by
    rcases e with e | e
    ·exact hyn j hj e
    ·exact (hyo.blk j hj).2.2 e
   exact ⟨hyo.xl.keepBut fun j hj hj2 => f1.block j hj (hout j hj2), fun j hj => ⟨Nat.lt_of_lt_of_le (hyo.blk j hj).1 f1.size, (hyo.blk j hj).2.1, not_n f1 (hout j hj) (hyo.blk j hj).1⟩⟩
  subst hu; rw [← hlen] at h0; have hps : p < ys.length := hp0; have hm2 : ys.length ≤ 1024 := by rw [hlen]; exact hm
  have HZ1 := Hf hz1; have HZ2 := Hf hz2; have HGZ := Hf hgz; have HGY := Hf hgy; have HGG := Hf hgzy; clear h1 h2 hb1 hb2 hx hrow hz1 hz2 hgz hgy hgzy hdr hT hyx hym hyo hyn HY cf df hv hlen; generalize ys.length = n at *; have hpi : (p : Int) < (n : Int) := by omega
  have hwp : IntKind.i64.wrap ((p : Int) + 1) = (p : Int) + 1 := by rw [IntKind.wrap_i64]; omega
  go_enter func43, ntmps43; go_upto_region 1 with fail; rw [HW1.out, HGZ.out]; clear HW1; go_wp2_with fail; refine cp.mono ?_; rintro e w1 ⟨rfl, rfl⟩; clear cp; go_upto_region 5 with fail; rw [HW2.out, HGY.out]; go_wp2_with fail; refine cd.mono ?_; clear cd; rintro e w3 ⟨u', rfl, ho, hrw⟩; obtain ⟨a', c', hu', -, -⟩ := ho.at; subst hu'; obtain ⟨⟨m1, m2, ⟨v0', hb3⟩, e2, e1, nz, ny⟩, hfin⟩ := HFIN.out _ w3 ho hrw; have HF := Hf hfin; generalize (ys.take p ++ ys.drop (p + 1)).length = n2 at *; obtain ⟨x0, _⟩ := row7 (w := w3.setCell ⟨b, 1, none⟩ (.slice a' n2 c')) (((heap_setCell_other w3 ⟨b, 1, none⟩ gy _ (fun e => ny e.symm)).trans e1).trans HZ2.out); have hzr : (w3.setCell ⟨b, 1, none⟩ (.slice a' n2 c')).heap[gz]? = _ := ((heap_setCell_other w3 ⟨b, 1, none⟩ gz _ (fun e => nz e.symm)).trans e2).trans HZ1.out; obtain ⟨z0, zf⟩ := row7 hzr; have HZR := Hf hzr; have zf0 := zf 0; have zf1 := zf 1; have zf2 := zf 2; have zf3 := zf 3; have zf4 := zf 4; have zf5 := zf 5; have zf6 := zf 6; clear hfin ho hrw e1 e2 hb3 hzr zf HFIN; go_upto_region 6 with fail; generalize w3.setCell ⟨b, 1, none⟩ (.slice a' n2 c') = w4 at *; go_wp2; refine bodyPost_ret (v := .tuple #[nV ⟨⟨yk, yf, yt, ysl, ⟨yi, yj⟩, yv⟩, yad, yc⟩, .bool true]) ?_ rfl (HF.out _ rfl); exact res7 _ _ gz _ _ _ _ _ _ _ rfl (put7_row HZR.out _ _ _ _ _ _ _)
end
end Go.Proofs.YtgodnpngdbelhaaGreat
