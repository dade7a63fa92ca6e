import Derived.Test.YtgodnpngdbelhaaGreatGP09
set_option maxRecDepth 100000
set_option maxHeartbeats 8000000
set_option linter.unusedVariables false
set_option linter.unusedSimpArgs false
open Go.Proofs.Tryz
namespace Go.Proofs.YtgodnpngdbelhaaGreat.Np
open Go.RowKit Go.Maps
open Go.Proofs.YtgodnpngdbelhaaGreat.M (E V)
open Go.Proofs.YtgodnpngdbelhaaGreat.Np.M (fup)
theorem res2 {fn : Func} {p u : Tmp} (h : fn.results = #[.cell p 42, .tmp u]) (tmps : Array Value) (w : World) (g : Nat) (v0 v1 : Value) (hp : tmps.getD p undef = .pointer (some ⟨g, 0, none⟩)) (hg : w.heap[g]? = some (.cells #[v0, v1] 42 (0, 0))) :
  (results fn tmps).run prog w = .ok (.tuple #[.agg #[v0, v1], tmps.getD u undef]) w := by
 have hp' : tmps[p]?.getD undef = .pointer (some ⟨g, 0, none⟩) := by simpa using hp
 rw [results_cell_tmp h]; simp [asAddr, hp', run_loadVar_row w g 42 42 #[v0, v1] (0, 0) _ hg underlying42 rfl Tryz.size42]
def LdOut (w : World) (base b : Nat) (mv : Option Nat) (s : M.S) (a : E) (k : Int) (e : Ending) (w' : World) : Prop := ∃ mv', e = .returned (.tuple #[bV (M.lde s a k), .int .i64 (M.ldc s a k)]) ∧ PI w' base b mv' (M.lds s a k) ∧ Fr w (fpp b mv) w' (fpp b mv')
theorem f70_res : Tryz.f70.results = #[.cell 6 42, .tmp 7] := rfl
section
variable {w : World} {base b : Nat} {mv : Option Nat} {s : M.S}
theorem lead_any (h : PI w base b mv s) (a : E) (k : Int) : Calls prog 70 #[.pointer (some ⟨b, 0, none⟩), bV a, .int .i64 k] w (LdOut w base b mv s a k) := by
 obtain ⟨W1, HW1⟩ := Nh ((w.alloc (.cells #[.int .i64 a.i, .int .i64 a.t] 42)).alloc (.cells #[.int .i64 0, .int .i64 0] 42)); have hb1 : Bl w W1 := by rw [← HW1.out]; exact Bu (bel1 w _) (bel1 _ _) Lr
 have hr0 : W1.heap[w.heap.size]? = some (.cells #[.int .i64 a.i, .int .i64 a.t] 42 (0, 0)) := by rw [← HW1.out]; exact heap_alloc2_old w _ _
 have hr1 : W1.heap[w.heap.size + 1]? = some (.cells #[.int .i64 0, .int .i64 0] 42 (0, 0)) := by rw [← HW1.out]; exact heap_alloc2_new w _ _
 have h1 := h.keep hb1; have hlt := h.lt; have cv := valid_any a; have cs := isSlot_any k; have HPw := Hf h; have HP1 := Hf h1; have HB1 := Hf hb1; have HR1 := Hf hr1; have HR0 := Hf hr0; have hs1 := hb1.size; obtain ⟨x0, -⟩ := row2 hr0; have HERR : Hid (∀ (c : Int) w', M.ldc s a k = c → c ≠ 0 → Bl W1 w' → LdOut w base b mv s a k (.returned (.tuple #[.agg #[.int .i64 0, .int .i64 0], .int .i64 c])) (put2 w' (w.heap.size + 1) (.int .i64 0) (.int .i64 0))) := by
  intro c w' hc hc0 hw'; have e1 : M.lde s a k = ⟨0, 0⟩ := by unfold M.lde; rw [if_neg (by omega)]
  have e2 : M.lds s a k = s := by unfold M.lds; rw [if_neg (by omega)]
  have hb2 := put2_bel (Bu hb1 hw' Lr) (Nat.le_succ _) (.int .i64 0) (.int .i64 0); exact ⟨mv, by rw [e1, hc], by rw [e2]; exact h.keep hb2, Fr.ofBelow hb2⟩
 clear h h1 hb1 hr0 hr1; cases hv : M.vld a with
 | false =>
  have HC : Hid (M.ldc s a k = 1) := Hf (by unfold M.ldc; rw [hv]; rfl); rw [hv] at cv; clear hv; go_enter func70, ntmps70; go_upto_region 1 with fail
  rw [HW1.out]; clear HW1; go_wp2_with fail; refine (cv _).mono ?_; rintro e w2 ⟨rfl, hb2⟩; have q2 := Br HR1.out hb2; have HR2 := Hf q2; have HB2 := Hf hb2; obtain ⟨y0, yf⟩ := row2 q2; have f0 := yf 0; have f1 := yf 1; clear cv cs hb2 q2 yf x0; go_wp2; refine bodyPost_ret (v := .tuple #[.agg #[.int .i64 0, .int .i64 0], .int .i64 1]) ?_ rfl (HERR.out 1 _ HC.out (by omega) HB2.out); exact res2 f70_res _ _ (w.heap.size + 1) _ _ rfl (put2_row HR2.out _ _)
 | true =>
  rw [hv] at cv; cases hk : M.slot k with
  | false =>
   have HC : Hid (M.ldc s a k = 1) := Hf (by unfold M.ldc; rw [hv, hk]; rfl); rw [hk] at cs; clear hv hk; go_enter func70, ntmps70; go_upto_region 1 with fail
   rw [HW1.out]; clear HW1; go_wp2_with fail; refine (cv _).mono ?_; rintro e w2 ⟨rfl, hb2⟩; have q2 := Br HR1.out hb2; have HR2 := Hf q2; have HB2 := Hf hb2; obtain ⟨y0, yf⟩ := row2 q2; have f0 := yf 0; have f1 := yf 1; clear cv hb2 q2 yf x0; go_wp2_with fail; refine (cs _).mono ?_; clear cs; rintro e w3 ⟨rfl, rfl⟩; go_wp2; refine bodyPost_ret (v := .tuple #[.agg #[.int .i64 0, .int .i64 0], .int .i64 1]) ?_ rfl (HERR.out 1 _ HC.out (by omega) HB2.out); exact res2 f70_res _ _ (w.heap.size + 1) _ _ rfl (put2_row HR2.out _ _)
  | true =>
   have HC : Hid (M.ldc s a k = if 2147483647 ≤ (M.grt a s.b).i then 5 else 0) := Hf (by unfold M.ldc; rw [hv, hk]; rfl); have cm : ∀ gl W, AtL bl W (some ⟨gl, 0, none⟩) [a, s.b] → Calls prog 96 #[.slice (some ⟨gl, 0, none⟩) 2 2] W fun e w' => e = .returned (bV (M.grt a s.b)) ∧ Bl W w' := fun gl W hat => by
    have := max_any (some ⟨gl, 0, none⟩) 2 [a, s.b] W hat (by simp); have e : M.bx [a, s.b] [a, s.b].length = M.grt a s.b := M.bx_two a s.b; rw [e] at this; exact this
   have HX0 : Hid (M.ldc s a k = 0 → M.lde s a k = M.nxt (M.grt a s.b) s.me ∧ M.lds s a k = { M.enter s 1 (M.nxt (M.grt a s.b) s.me) with ask := k, fin := k, nx := k }) := fun e => ⟨by unfold M.lde; rw [if_pos e], by unfold M.lds; rw [if_pos e]⟩
   rw [hk] at cs; generalize M.grt a s.b = g at *; clear hv hk; go_enter func70, ntmps70; go_upto_region 1 with fail
   rw [HW1.out]; clear HW1; go_wp2_with fail; refine (cv _).mono ?_; rintro e w2 ⟨rfl, hb2⟩; obtain ⟨W2, HW2⟩ := Nh (w2); clear HW2 W2; have HR2 := Hf (Br HR1.out hb2); have HR02 := Hf (Br HR0.out hb2); have HP2 := Hf (HP1.out.keep hb2); have HB2 := Hf hb2; have hs2 := hb2.size; have HS : Hid (∀ w', Bl w2 w' → (w'.cell? ⟨w.heap.size, 0, none⟩ = some (.int .i64 a.i) ∧ w'.cell? ⟨w.heap.size, 1, none⟩ = some (.int .i64 a.t)) ∧ (w'.cell? ⟨b, 3, none⟩ = some (.int .i64 s.b.i) ∧ w'.cell? ⟨b, 4, none⟩ = some (.int .i64 s.b.t))) := fun w' hw' => by
    obtain ⟨⟨c0, c1, c2, c3, c4, c5, c6, c7, c8, c9, c10, c11, c12, c13, c14, c15⟩, -⟩ := row16 (HP2.out.keep hw').row; exact ⟨(row2 (Br HR02.out hw')).1, c3, c4⟩
   clear cv hb2 x0; go_wp2_with fail; refine (cs _).mono ?_; clear cs; rintro e w3 ⟨rfl, rfl⟩; go_upto_region 3 with fail
   go_cut [8] from 22 to 28 (fun p wx => ∃ bz, p = .pointer (some ⟨bz, 0, none⟩) ∧ wx.heap[bz]? = some (.cells #[.int .i64 g.i, .int .i64 g.t] 42 (0, 0)) ∧ w3.heap.size ≤ bz ∧ Bl w3 wx)
   case first =>
    refine Wn fun wdx hBwd Hl => ?_; refine Tj 0 Hl ?_; refine Tm 1 Hl ?_; refine Tm 2 Hl ?_; refine Tm 3 Hl ?_; refine Tj 4 Hl ?_; simp only [Act.put, Pz]; refine Rn [5, 7] (Rc ?pF ?sF (Rc ?pG ?sG AllReadyH.nil))
    case sF =>
     intro K hK; go_simp; obtain ⟨wl, hwl⟩ := Nq (wdx.alloc (.cells #[.int .i64 a.i, .int .i64 a.t, .int .i64 s.b.i, .int .i64 s.b.t] 42)); rw [hwl]; have hbl := Aq hwl; have hl := Aw hwl; obtain ⟨gl, hgl⟩ := Nq (wdx.heap.size); rw [hgl] at hl ⊢; clear hwl hgl; have Bl := Hl.trans (hbl.mono Hl.size); refine hK.out _ _ Bl fun Hl => ?_; refine Rn [6, 7] (Rc ?pH ?sH (Rc ?pI ?sI AllReadyH.nil))
     case sH =>
      intro K hK; go_simp; refine (cm gl wl (at_row hl)).mono ?_; rintro e v6 ⟨rfl, hb6⟩; have B6 := Hl.trans (hb6.mono Hl.size); refine hK.out _ _ B6 fun Hl => ?_; refine Rd 7 ?pJ ?sJ; intro K hK; go_simp; obtain ⟨wa56a, hwa⟩ := Nq (v6.alloc (.cells #[.int .i64 0, .int .i64 0] 42)); rw [hwa]; have hba := Aq hwa; have hz := Aw hwa; obtain ⟨bz, hbz⟩ := Nq (v6.heap.size); rw [hbz] at hz ⊢; have hbzW : w3.heap.size ≤ bz := by rw [← hbz]; exact Hl.size
      clear hwa hbz; have Ba56a := Hl.trans (hba.mono Hl.size); obtain ⟨k0, kf⟩ := row2 hz; have kf0 := kf 0; have kf1 := kf 1; refine hK.out _ _ Ba56a fun Hl => ?_; refine Rd 8 ?pK ?sK; intro K hK; go_simp; obtain ⟨ws567s, hws⟩ := Nq (put2 wa56a bz (.int .i64 g.i) (.int .i64 g.t)); have hz2 := put2_row hz (.int .i64 g.i) (.int .i64 g.t); have hBs := put2_bel Hl hbzW (.int .i64 g.i) (.int .i64 g.t); rw [hws] at hz2 hBs; unfold put2 at hws; rw [hws]; clear hws; refine hK.out _ _ hBs fun Hl => ?_; refine Wd ?_; clear HS; go_wp2_with fail; go_meet
      case rel => exact ⟨bz, rfl, hz2, hbzW, Hl⟩
     case sI =>
      intro K hK; go_simp; obtain ⟨wa5a, hwa⟩ := Nq (wl.alloc (.cells #[.int .i64 0, .int .i64 0] 42)); rw [hwa]; have hba := Aq hwa; have hz := Aw hwa; obtain ⟨bz, hbz⟩ := Nq (wl.heap.size); rw [hbz] at hz ⊢; have hbzW : w3.heap.size ≤ bz := by rw [← hbz]; exact Hl.size
      clear hwa hbz; have Ba5a := Hl.trans (hba.mono Hl.size); have hl := Br hl hba; refine hK.out _ _ Ba5a fun Hl => ?_; refine Rd 6 ?pL ?sL; intro K hK; go_simp; refine (cm gl wa5a (at_row hl)).mono ?_; rintro e v6 ⟨rfl, hb6⟩; have B6 := Hl.trans (hb6.mono Hl.size); have hz := Br hz hb6; obtain ⟨k0, kf⟩ := row2 hz; have kf0 := kf 0; have kf1 := kf 1; refine hK.out _ _ B6 fun Hl => ?_; refine Rd 8 ?pM ?sM; intro K hK; go_simp; obtain ⟨ws576s, hws⟩ := Nq (put2 v6 bz (.int .i64 g.i) (.int .i64 g.t)); have hz2 := put2_row hz (.int .i64 g.i) (.int .i64 g.t); have hBs := put2_bel Hl hbzW (.int .i64 g.i) (.int .i64 g.t); rw [hws] at hz2 hBs; unfold put2 at hws; rw [hws]; clear hws; refine hK.out _ _ hBs fun Hl => ?_; refine Wd ?_; clear HS; go_wp2_with fail; go_meet
      case rel => exact ⟨bz, rfl, hz2, hbzW, Hl⟩
    case sG =>
     intro K hK; go_simp; obtain ⟨waa, hwa⟩ := Nq (wdx.alloc (.cells #[.int .i64 0, .int .i64 0] 42)); rw [hwa]; have hba := Aq hwa; have hz := Aw hwa; obtain ⟨bz, hbz⟩ := Nq (wdx.heap.size); rw [hbz] at hz ⊢; have hbzW : w3.heap.size ≤ bz := by rw [← hbz]; exact Hl.size
     clear hwa hbz; have Baa := Hl.trans (hba.mono Hl.size); refine hK.out _ _ Baa fun Hl => ?_; refine Rd 5 ?pN ?sN; intro K hK; go_simp; obtain ⟨wl7, hwl⟩ := Nq (waa.alloc (.cells #[.int .i64 a.i, .int .i64 a.t, .int .i64 s.b.i, .int .i64 s.b.t] 42)); rw [hwl]; have hbl := Aq hwl; have hl := Aw hwl; obtain ⟨gl, hgl⟩ := Nq (waa.heap.size); rw [hgl] at hl ⊢; clear hwl hgl; have Bl7 := Hl.trans (hbl.mono Hl.size); have hz := Br hz hbl; refine hK.out _ _ Bl7 fun Hl => ?_; refine Rd 6 ?pO ?sO; intro K hK; go_simp; refine (cm gl wl7 (at_row hl)).mono ?_; rintro e v6 ⟨rfl, hb6⟩; have B6 := Hl.trans (hb6.mono Hl.size); have hz := Br hz hb6; obtain ⟨k0, kf⟩ := row2 hz; have kf0 := kf 0; have kf1 := kf 1; refine hK.out _ _ B6 fun Hl => ?_; refine Rd 8 ?pP ?sP; intro K hK; go_simp; obtain ⟨ws756s, hws⟩ := Nq (put2 v6 bz (.int .i64 g.i) (.int .i64 g.t)); have hz2 := put2_row hz (.int .i64 g.i) (.int .i64 g.t); have hBs := put2_bel Hl hbzW (.int .i64 g.i) (.int .i64 g.t); rw [hws] at hz2 hBs; unfold put2 at hws; rw [hws]; clear hws; refine hK.out _ _ hBs fun Hl => ?_; refine Wd ?_; clear HS; go_wp2_with fail; go_meet
     case rel => exact ⟨bz, rfl, hz2, hbzW, Hl⟩
   case rest =>
    obtain ⟨bz, rfl, hz2, hbz, hbc⟩ := hcut; obtain ⟨k0, -⟩ := row2 hz2; have HPc := Hf (HP2.out.keep hbc); have HBc := Hf (Bu (Bu HB1.out HB2.out Lr) hbc Lr); have HRc := Hf (Br HR2.out hbc); by_cases hN : 2147483647 ≤ g.i
    ·have hd : decide (2147483647 ≤ g.i) = true := decide_eq_true hN; have HQ := Hf (HERR.out 5 wc (by rw [HC.out, if_pos hN]) (by omega) (Bu HB2.out hbc Lr)); obtain ⟨y0, yf⟩ := row2 HRc.out; have f0 := yf 0; have f1 := yf 1; clear hN yf hz2 hbc HS cm; go_wp2; refine bodyPost_ret ?_ rfl HQ.out; exact res2 f70_res _ _ (w.heap.size + 1) _ _ rfl (put2_row HRc.out _ _)
    ·have hd : decide (2147483647 ≤ g.i) = false := decide_eq_false hN; have HC0 : Hid (M.ldc s a k = 0) := Hf (by rw [HC.out, if_neg hN]); obtain ⟨HX1, HX2⟩ := HX0.out HC0.out; obtain ⟨x, HX⟩ := Nh (M.nxt g s.me); rw [HX.out] at HX1 HX2; have HX1 := Hf HX1; have HX2 := Hf HX2; have hbl := HBc.out.size; have HS2 : Hid (∀ wq, (fun wq : World => wq.heap[bz]? = some (.cells #[.int .i64 g.i, .int .i64 g.t] 42 (0, 0)) ∧ wq.cell? ⟨b, 1, none⟩ = some (.int .i64 s.me)) wq → wq.cell? ⟨bz, 0, none⟩ = some (.int .i64 g.i) ∧ wq.cell? ⟨bz, 1, none⟩ = some (.int .i64 g.t) ∧ wq.cell? ⟨b, 1, none⟩ = some (.int .i64 s.me)) := fun wq hq => ⟨(row2 hq.1).1.1, (row2 hq.1).1.2, hq.2⟩; obtain ⟨⟨c0, c1, c2, c3, c4, c5, c6, c7, c8, c9, c10, c11, c12, c13, c14, c15⟩, -⟩ := row16 HPc.out.row; have hbw : b < w3.heap.size := by omega
     clear hN HS cm hbc HERR HC HX0 c0 c2 c3 c4 c5 c6 c7 c8 c9 c10 c11 c12 c13 c14 c15; go_upto_region 6 with fail
     refine Wm (fun wq : World => wq.heap[bz]? = some (.cells #[.int .i64 g.i, .int .i64 g.t] 42 (0, 0)) ∧ wq.cell? ⟨b, 1, none⟩ = some (.int .i64 s.me)) ⟨hz2, c1⟩ fun wdy hBwd Hl => ?_; refine Tm 0 Hl ?_; refine Tk 1 ?pR ?vR ?yR Hl ?rR
     case yR => intro wq hq; have g := HS2.out wq hq; go_simp; try with_reducible rfl
     refine Tm 2 Hl ?_
     refine Tm 3 Hl ?_
     refine Tm 4 Hl ?_
     refine Tk 5 ?pV ?vV ?yV Hl ?rV
     case yV => intro wq hq; have g := HS2.out wq hq; go_simp; try with_reducible rfl
     simp only [Act.put, Pz]; refine Rd 6 ?pW ?sW; intro K hK; go_simp; refine (next_any g s.me _).mono ?_; rintro e v6 ⟨rfl, hb6⟩; rw [HX.out]; have h6 := HPc.out.keep (Bu hBwd hb6 Lr); have B6 : v6.heap[bz]? = some (.cells #[.int .i64 g.i, .int .i64 g.t] 42 (0, 0)) ∧ v6.cell? ⟨b, 1, none⟩ = some (.int .i64 s.me) := by
      obtain ⟨⟨c0, c1, c2, c3, c4, c5, c6, c7, c8, c9, c10, c11, c12, c13, c14, c15⟩, -⟩ := row16 h6.row; exact ⟨Br Hl.1 hb6, c1⟩
     have HBc6 := Hf (Bu HBc.out (Bu hBwd hb6 Lr) Lr); have HR6 := Hf (Br HRc.out (Bu hBwd hb6 Lr)); clear hb6 hBwd; refine hK.out _ _ B6 fun Hl => ?_; refine Rd 7 ?pX ?sX; intro K hK; go_simp; refine (enter_any h6 1 x).mono ?_; rintro e v7 ⟨rfl, h7, hf7⟩; have B7 : v7.heap[bz]? = some (.cells #[.int .i64 g.i, .int .i64 g.t] 42 (0, 0)) ∧ v7.cell? ⟨b, 1, none⟩ = some (.int .i64 s.me) := by
      obtain ⟨⟨c0, c1, c2, c3, c4, c5, c6, c7, c8, c9, c10, c11, c12, c13, c14, c15⟩, -⟩ := row16 h7.row; exact ⟨(hf7.block bz (Array.getElem?_eq_some_iff.1 Hl.1).1 (fun e => by have := (HPw.out.mine bz e).2; omega)).trans Hl.1, c1⟩
     clear h6; refine hK.out _ _ B7 fun Hl => ?_; refine Wd ?_; have hf07 : Fr w (fpp b mv) v7 (fpp b none) := (Fr.ofBelow HBc6.out).trans hf7; have hnF : ¬ fpp b mv (w.heap.size + 1) := fun e => by have := (HPw.out.mine _ e).2; omega
     have hr7 := (hf7.block (w.heap.size + 1) (Array.getElem?_eq_some_iff.1 HR6.out).1 hnF).trans HR6.out; have h8 : PI (((v7.setCell ⟨b, 5, none⟩ (.int .i64 k)).setCell ⟨b, 14, none⟩ (.int .i64 k)).setCell ⟨b, 15, none⟩ (.int .i64 k)) base b none { M.enter s 1 x with ask := k, fin := k, nx := k } :=
      ((h7.cell (s' := { M.enter s 1 x with ask := k }) 5 (.int .i64 k) rfl rfl rfl).cell (s' := { M.enter s 1 x with ask := k, fin := k }) 14 (.int .i64 k) rfl rfl rfl).cell (s' := { M.enter s 1 x with ask := k, fin := k, nx := k }) 15 (.int .i64 k) rfl rfl rfl
     have hf8 : Fr w (fpp b mv) (((v7.setCell ⟨b, 5, none⟩ (.int .i64 k)).setCell ⟨b, 14, none⟩ (.int .i64 k)).setCell ⟨b, 15, none⟩ (.int .i64 k)) (fpp b none) := fr_set (fr_set (fr_set hf07 (.inl rfl) 5 _) (.inl rfl) 14 _) (.inl rfl) 15 _; have hne : w.heap.size + 1 ≠ b := by omega
     have hr8 : (((v7.setCell ⟨b, 5, none⟩ (.int .i64 k)).setCell ⟨b, 14, none⟩ (.int .i64 k)).setCell ⟨b, 15, none⟩ (.int .i64 k)).heap[w.heap.size + 1]? = some (.cells #[.int .i64 0, .int .i64 0] 42 (0, 0)) := by
      rw [heap_setCell_other _ ⟨b, 15, none⟩ _ _ hne, heap_setCell_other _ ⟨b, 14, none⟩ _ _ hne, heap_setCell_other _ ⟨b, 5, none⟩ _ _ hne]; exact hr7
     obtain ⟨W8, HW8⟩ := Nh (((v7.setCell ⟨b, 5, none⟩ (.int .i64 k)).setCell ⟨b, 14, none⟩ (.int .i64 k)).setCell ⟨b, 15, none⟩ (.int .i64 k)); rw [HW8.out] at h8 hf8 hr8; obtain ⟨⟨q0, q1, q2, q3, q4, q5, q6, q7, q8, q9, q10, q11, q12, q13, q14, q15⟩, qf⟩ := row16 h7.row; have qf5 := qf 5; have qf14 := qf 14; have qf15 := qf 15; obtain ⟨⟨c0, c1, c2, c3, c4, c5, c6, c7, c8, c9, c10, c11, c12, c13, c14, c15⟩, -⟩ := row16 h8.row; obtain ⟨y0, yf⟩ := row2 hr8; have yf0 := yf 0; have yf1 := yf 1; have HR8 := Hf hr8; have HP9 := Hf (h8.keepBut (w' := put2 W8 (w.heap.size + 1) (.int .i64 x.i) (.int .i64 x.t)) (fun j hj hF => put2_oth (by
      rcases hF with rfl | hm
      ·exact fun e => hne e.symm
      ·cases hm) _ _))
     have HF9 := Hf (fr_new (fr_new hf8 (Nat.le_succ _) 0 (.int .i64 x.i)) (Nat.le_succ _) 1 (.int .i64 x.t)); clear h7 h8 hf8 hf7 hf07 hr7 hr8 qf yf Hl HS2 HR6 HRc hz2 k0 HPc HP2 HP1 HPw; simp only [M.enter] at c3 c4; go_upto_region 8 with fail
     rw [HW8.out]; clear HW8 q0 q1 q2 q3 q4 q5 q6 q7 q8 q9 q10 q11 q12 q13 q14 q15; go_wp2; refine bodyPost_ret (v := .tuple #[.agg #[.int .i64 x.i, .int .i64 x.t], .int .i64 0]) ?_ rfl ⟨none, by rw [HX1.out, HC0.out], by rw [HX2.out]; exact HP9.out, HF9.out⟩; exact res2 f70_res _ _ (w.heap.size + 1) _ _ rfl (put2_row HR8.out _ _)
end
end Go.Proofs.YtgodnpngdbelhaaGreat.Np
