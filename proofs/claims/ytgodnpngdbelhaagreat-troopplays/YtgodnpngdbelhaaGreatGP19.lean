import Derived.Test.YtgodnpngdbelhaaGreatGP18
set_option maxRecDepth 100000
set_option maxHeartbeats 8000000
set_option linter.unusedVariables false
set_option linter.unusedSimpArgs false
open Go.Proofs.Tryz
namespace Go.Proofs.YtgodnpngdbelhaaGreat
open Go.RowKit Go.Maps
open M (E V)
open Rm (NT R)
theorem fl_sz {s : Np.M.S} (ok : Np.M.Ok s) (m : Nat) : ∀ y ∈ Np.M.fl s m, y.v.size ≤ 4096 := by
 intro y hy; unfold Np.M.fl at hy; obtain ⟨j, -, rfl⟩ := List.mem_map.1 hy; show (Np.M.val (s.f (s.ask + j))).size ≤ 4096; cases h : s.f (s.ask + j) with
 | none => show (0 : Nat) ≤ 4096; omega
 | some v => exact ok.sz _ v h
theorem flo_sz {s : Np.M.S} (ok : Np.M.Ok s) : ∀ y ∈ Np.M.flo s, y.v.size ≤ 140737488351232 := by
 intro y hy; unfold Np.M.flo at hy
 split at hy
 ·exact Nat.le_trans (fl_sz ok _ y hy) (by decide)
 ·cases hy
theorem flo_len {s : Np.M.S} (ok : Np.M.Ok s) : (Np.M.flo s).length ≤ 1024 := by
 unfold Np.M.flo; split
 ·rw [Np.M.fl_len]; have := ok.a0; have := ok.af; have := ok.fx; have := ok.x1; omega
 ·simp
theorem q2F_len (r : R) : ∀ l : List V, (Rm.q2F r l).length = l.length * r.n.toNat
 | [] => by simp [Rm.q2F]
 | x :: l => by
  have := q2F_len r l; unfold Rm.q2F at this ⊢; rw [List.flatMap_cons, List.length_append, this, List.length_cons, Nat.add_mul, Nat.one_mul]; show (Rm.toF _ _ _ _ _ _).length + _ = _; rw [Rm.toF_len]; omega
section
variable {w0 w : World} {b ba bp bl : Nat} {Fa Fp Fl : Nat → Prop} {r : R}
theorem RP.promise (h : RP w0 w b ba bp bl Fa Fp Fl r) (f : Int) (x : E) (ad : Option Addr) (c : Nat) (l : List V) (hx : XL vl w ad c l) (hap : 0 < l.length → ∀ k, blk ad k → k < w.heap.size ∧ ¬ uni b Fa Fp Fl k) (hcl : r.p.c + l.length ≤ 900000) :
  Calls prog 104 #[ptr b, .agg #[.int .i64 f, .int .i64 x.i, .int .i64 x.t, .slice ad l.length c]] w (OutN w0 w (uni b Fa Fp Fl) b (Rm.q2S r f x l) (Rm.q2N r f x l)) := by
 obtain ⟨i, t⟩ := x; obtain ⟨W1, HW1⟩ := Nh (w.alloc (.cells #[.int .i64 f, .int .i64 i, .int .i64 t, .slice ad l.length c] 173)); have hb1 := Ab HW1; have hz1 := Ac HW1; obtain ⟨g, hg⟩ := Nq (w.heap.size); rw [hg] at hz1; have hnu : ¬ uni b Fa Fp Fl g := fun e => by have := (h.mine _ e).2; omega
 have H1 := Hf (h.keep hb1); have HZ1 := Hf hz1; have HB1 := Hf hb1; have HG := Hf hg; have HX := Hf hx; have HAP := Hf hap; have HCL := Hf hcl; obtain ⟨SQ, HSQ⟩ : ∃ SQ : World → Prop, Hid (SQ = fun wq => wq.heap[b]? = some (rrow r ba bp bl) ∧ wq.heap[g]? = some (.cells #[.int .i64 f, .int .i64 i, .int .i64 t, .slice ad l.length c] 173 (0, 0))) := ⟨_, Hf rfl⟩; have HS : Hid (∀ wq, SQ wq → (wq.cell? ⟨b, 0, none⟩ = some (.int .i64 r.n) ∧ wq.cell? ⟨b, 1, none⟩ = some (.int .i64 r.me) ∧ wq.cell? ⟨b, 2, none⟩ = some (ptr ba) ∧ wq.cell? ⟨b, 3, none⟩ = some (ptr bp) ∧ wq.cell? ⟨b, 4, none⟩ = some (ptr bl)) ∧ (wq.cell? ⟨g, 0, none⟩ = some (.int .i64 f) ∧ wq.cell? ⟨g, 1, none⟩ = some (.int .i64 i) ∧ wq.cell? ⟨g, 2, none⟩ = some (.int .i64 t) ∧ wq.cell? ⟨g, 3, none⟩ = some (.slice ad l.length c))) := fun wq hq => by
  rw [HSQ.out] at hq; exact ⟨(row5 hq.1).1, (row4 hq.2).1⟩
 have SK : Hid (∀ w', w'.heap[b]? = some (rrow r ba bp bl) → w'.heap[g]? = some (.cells #[.int .i64 f, .int .i64 i, .int .i64 t, .slice ad l.length c] 173 (0, 0)) → SQ w') := fun w' h1 h2 => by rw [HSQ.out]; exact ⟨h1, h2⟩
 clear HSQ; have HSI : Hid (SQ W1.drew) := SK.out _ H1.out.row hz1; have HNO : Hid (Np.M.prb r.p f ⟨i, t⟩ = false → Rm.q2S r f ⟨i, t⟩ l = { r with p := Np.M.prs r.p f ⟨i, t⟩ l } ∧ Rm.q2N r f ⟨i, t⟩ l = []) := fun e => ⟨by unfold Rm.q2S; rw [e]; rfl, by unfold Rm.q2N; rw [e]; rfl⟩
 have HYES : Hid (Np.M.prb r.p f ⟨i, t⟩ = true → Rm.q2S r f ⟨i, t⟩ l = { r with p := Np.M.fls (Np.M.prs r.p f ⟨i, t⟩ l) } ∧ Rm.q2N r f ⟨i, t⟩ l = Rm.q2F r (Np.M.flo (Np.M.prs r.p f ⟨i, t⟩ l))) := fun e => ⟨by unfold Rm.q2S; rw [e]; rfl, by unfold Rm.q2N; rw [e]; rfl⟩
 obtain ⟨pb, hpb⟩ := Nq (Np.M.prb r.p f ⟨i, t⟩); simp only; clear h hb1 hz1 hx hap hcl; go_enter func104, ntmps104; go_upto_region 1 with fail
 rw [HW1.out]; clear HW1
 try rw [hg]
 clear hg; refine Wm (fun wq => SQ wq) HSI.out fun wdx hBwd Hl => ?_; refine Tm 0 Hl ?_; refine Tm 1 Hl ?_; refine Tm 2 Hl ?_; refine Tj 3 Hl ?_; refine Tm 4 Hl ?_; refine Tj 5 Hl ?_; refine Tm 6 Hl ?_; refine Tj 7 Hl ?_; refine Tm 8 Hl ?_; refine Tj 9 Hl ?_; simp only [Act.put, Pz]; refine Rd 10 ?pK ?sK; intro K hK; go_simp; refine ((H1.out.keep hBwd).ps.promise f ⟨i, t⟩ ad c l ((HX.out.keep HB1.out).keep hBwd).at' (fun h0 k hk e => (HAP.out h0 k hk).2 (.inr (.inr (.inl e)))) HCL.out).mono ?_; rintro e v10 ⟨Gp, he, hp6, hf6⟩; rw [hpb] at he; subst he; obtain ⟨hrp, hfu⟩ := (H1.out.keep hBwd).setP hp6 hf6; have hz6 := (hfu.block g (Array.getElem?_eq_some_iff.1 (Br HZ1.out hBwd)).1 hnu).trans (Br HZ1.out hBwd); have S6 := SK.out v10 hrp.row hz6; have HR6 := Hf hrp; have HF6 := Hf (((Fr.ofBelow HB1.out).up hBwd).trans hfu); clear hp6 hf6 hrp hfu hz6; refine hK.out _ _ S6 fun Hl => ?_; refine Tm 11 Hl ?_; simp only [Act.put, Pz]; refine Wd ?_; cases pb with
 | false =>
  have HQ : Hid (OutN w0 w (uni b Fa Fp Fl) b (Rm.q2S r f ⟨i, t⟩ l) (Rm.q2N r f ⟨i, t⟩ l) (.returned (.slice none 0 0)) v10) := by
   obtain ⟨e1, e2⟩ := HNO.out hpb; exact ⟨_, _, rfl, by rw [e2]; exact NO.nil _ _ _, by rw [e1]; exact HR6.out.rs, HF6.out⟩
  clear hpb; go_wp2; go_ret; exact HQ.out
 | true =>
  obtain ⟨e1, e2⟩ := HYES.out hpb; have E1 := Hf e1; have E2 := Hf e2; have cf := HR6.out.ps.fill; have hsz := flo_sz HR6.out.ps.ok; have hll := flo_len HR6.out.ps.ok; obtain ⟨y0, -⟩ := row5 HR6.out.row; obtain ⟨pp, HPP⟩ := Nh (Np.M.prs r.p f ⟨i, t⟩ l); rw [HPP.out] at HR6 E1 E2 cf hsz hll; generalize hD : Np.M.flo pp = D at *; clear hpb e1 e2 hD; go_wp2_with fail; refine cf.mono ?_; rintro e v4 ⟨Gp4, ad4, c4, rfl, hx4, hbk4, hp4, hf4⟩; obtain ⟨hrp, hfu⟩ := HR6.out.setP hp4 hf4; have HR4 := Hf hrp; have HF4 := Hf (HF6.out.trans hfu); have HX4 := Hf hx4; have hn := HR4.out.n17; obtain ⟨n, hnn⟩ : ∃ n : Nat, r.n.toNat = n := ⟨_, rfl⟩; have hn7 : n ≤ 7 := by have : r.n ≤ 7 := hn.2; omega
  have HN := Hf hnn; clear cf hp4 hf4 hrp hfu hbk4 hx4 y0 hnn; go_wp2_with fail; go_loopw [5, 26] (fun u q wr => ∃ (j : Nat) (ys : List RN), j ≤ D.length ∧ q = .int .i64 j ∧ OW wr v4.heap.size u ys ∧ ys.map RN.x = Rm.q2F r (D.take j) ∧ Bl v4 wr) (fun u q _ => D.length - (intOf q).toNat)
  case atStart => exact ⟨0, [], Nat.zero_le _, rfl, OW.nil _ _, rfl, Below.refl _ _⟩
  case round =>
   obtain ⟨j, ys, hj, rfl, ho, hm, hbl⟩ := hrel; by_cases hlt : j < D.length
   ·have hjn : (j : Int) < (D.length : Int) := by omega
    have hlen : ys.length = j * n := by
     have := congrArg List.length hm; rw [List.length_map, q2F_len, HN.out, List.length_take, Nat.min_eq_left (by omega)] at this; exact this
    have hle : ys.length ≤ 7168 := by
     have : j * n ≤ 1024 * 7 := Nat.mul_le_mul (by omega) hn7; omega
    have HT : Hid (Rm.q2F r (D.take (j + 1)) = Rm.q2F r (D.take j) ++ Rm.toE r 3 D[j]) := Hf (by rw [List.take_succ_eq_append_getElem hlt]; unfold Rm.q2F; rw [List.flatMap_append, List.flatMap_singleton]); obtain ⟨g0, off0, eA, q0, q1, q2, q3⟩ := (HX4.out.at'.keep hbl).getV j hlt; obtain ⟨W1, HW1⟩ := Nh (wr.alloc (.cells #[.int .i64 D[j].s, .int .i64 D[j].b.i, .int .i64 D[j].b.t, .string D[j].v] 126)); have hb1 := Ab HW1; have hbox := Ac HW1; obtain ⟨⟨z0, z1, z2, z3⟩, _⟩ := row4 hbox; have hrow := Br (Br HR4.out.row hbl) hb1; have ce := toEach_any hrow hn.1 hn.2 3 D[j] (hsz _ (List.getElem_mem _)); have HO := Hf ho; have HM := Hf hm; have HBL := Hf hbl; have HBB := Hf hb1; clear ho hm hbl hb1 hbox hrow hlen; obtain ⟨x, HXX⟩ := Nq (D[j]); rw [HXX] at HT q0 q1 q2 q3 z0 z1 z2 z3 ce; simp only [HXX] at HW1; clear HXX; obtain ⟨s, ⟨i, t⟩, vv⟩ := x; simp only [vV] at ce q0 q1 q2 q3 z0 z1 z2 z3 HW1; cases eA; obtain ⟨a1, c1', hv1, -⟩ := HO.out.at; obtain ⟨yl, hyl⟩ := Nq (ys.length); rw [hyl] at hv1 hle; have HYL := Hf hyl; subst hv1; clear hyl; go_upto_region 7 with fail
    rw [HW1.out]; go_wp2_with fail; refine ce.mono ?_; rintro e w2 ⟨u2, zs, rfl, how, hmap, hb2⟩; obtain ⟨ad2, c2, rfl, hx2⟩ := how.at; have hbw : Bl wr w2 := Bu HBB.out hb2 Lr; have hs4 := HBL.out.size; have hzl : zs.length = n := by
     have := congrArg List.length hmap; rw [List.length_map] at this; rw [this]; show (Rm.toF _ _ _ _ _ _).length = n; rw [Rm.toF_len]; exact HN.out
    obtain ⟨a', c', w4, hrun, ho4, hr4⟩ := (HO.out.keep hbw).appL (hx2.imp fun k _ hk => ⟨by have := HBB.out.size; omega, fun e => by have := (HO.out.own.lt e).2; have := HBB.out.size; omega⟩) (by have := hbw.size; omega) (by rw [HYL.out]; omega); rw [HYL.out] at hrun ho4 hr4; have HO4 := Hf ho4; have HM4 : Hid ((ys ++ zs).map RN.x = Rm.q2F r (D.take (j + 1))) := Hf (by rw [List.map_append, HM.out, HT.out, hmap]; rfl); have HB4 : Hid (Bl v4 w4) := (HBL.out.trans (hbw.mono hs4)).trans (hr4.below (fun k hk => (HO.out.own.lt hk).1) (Nat.le_trans hs4 hbw.size)); clear ce how hmap hb2 hx2 hbw hzl ho4 hr4 q0 q1 q2 q3 z0 z1 z2 z3; go_wp2_with (at_builtin; refine wpList_append_known rfl _ _ 28 rfl _ _ rfl rfl _ _ (hrun _) ?_); go_roundw
    case rel => exact ⟨j + 1, _, by omega, by go_num, HO4.out, HM4.out, HB4.out⟩
    case measure => simp [intOf]; omega
   ·obtain rfl : j = D.length := by omega
    have HQ : Hid (OutN w0 w (uni b Fa Fp Fl) b (Rm.q2S r f ⟨i, t⟩ l) (Rm.q2N r f ⟨i, t⟩ l) (.returned u5) wr) := by
     rw [List.take_of_length_le Lr] at hm; refine ⟨_, _, rfl, ?_, by rw [E1.out]; exact (HR4.out.keep hbl).rs, HF4.out.up hbl⟩; rw [E2.out]; exact NO.of ho HF4.out.size (fun k hk => (HR4.out.mine k hk).2) hm
    clear ho hbl hm; go_wp2; go_ret; exact HQ.out
theorem RP.accept (h : RP w0 w b ba bp bl Fa Fp Fl r) (x : V) : Calls prog 105 #[ptr b, vV x] w (OutN w0 w (uni b Fa Fp Fl) b (Rm.q3S r x) (Rm.q3N r x)) := by
 obtain ⟨s, ⟨i, t⟩, v⟩ := x; obtain ⟨W1, HW1⟩ := Nh (w.alloc (.cells #[.int .i64 s, .int .i64 i, .int .i64 t, .string v] 176)); have hb1 := Ab HW1; have hz1 := Ac HW1; obtain ⟨g, hg⟩ := Nq (w.heap.size); rw [hg] at hz1; have hnu : ¬ uni b Fa Fp Fl g := fun e => by have := (h.mine _ e).2; omega
 have H1 := Hf (h.keep hb1); have HZ1 := Hf hz1; have HB1 := Hf hb1; have HG := Hf hg; obtain ⟨SQ, HSQ⟩ : ∃ SQ : World → Prop, Hid (SQ = fun wq => wq.heap[b]? = some (rrow r ba bp bl) ∧ wq.heap[g]? = some (.cells #[.int .i64 s, .int .i64 i, .int .i64 t, .string v] 176 (0, 0))) := ⟨_, Hf rfl⟩; have HS : Hid (∀ wq, SQ wq → (wq.cell? ⟨b, 0, none⟩ = some (.int .i64 r.n) ∧ wq.cell? ⟨b, 1, none⟩ = some (.int .i64 r.me) ∧ wq.cell? ⟨b, 2, none⟩ = some (ptr ba) ∧ wq.cell? ⟨b, 3, none⟩ = some (ptr bp) ∧ wq.cell? ⟨b, 4, none⟩ = some (ptr bl)) ∧ (wq.cell? ⟨g, 0, none⟩ = some (.int .i64 s) ∧ wq.cell? ⟨g, 1, none⟩ = some (.int .i64 i) ∧ wq.cell? ⟨g, 2, none⟩ = some (.int .i64 t) ∧ wq.cell? ⟨g, 3, none⟩ = some (.string v))) := fun wq hq => by
  rw [HSQ.out] at hq; exact ⟨(row5 hq.1).1, (row4 hq.2).1⟩
 have SK : Hid (∀ w', w'.heap[b]? = some (rrow r ba bp bl) → w'.heap[g]? = some (.cells #[.int .i64 s, .int .i64 i, .int .i64 t, .string v] 176 (0, 0)) → SQ w') := fun w' h1 h2 => by rw [HSQ.out]; exact ⟨h1, h2⟩
 clear HSQ; have HSI : Hid (SQ W1.drew) := SK.out _ H1.out.row hz1; simp only [vV]; clear h hb1 hz1; go_enter func105, ntmps105; go_upto_region 1 with fail
 rw [HW1.out]; clear HW1
 try rw [hg]
 clear hg; refine Wm (fun wq => SQ wq) HSI.out fun wdx hBwd Hl => ?_; refine Tm 0 Hl ?_; refine Tm 1 Hl ?_; refine Tm 2 Hl ?_; refine Tj 3 Hl ?_; refine Tm 4 Hl ?_; refine Tm 5 Hl ?_; refine Tj 6 Hl ?_; simp only [Act.put, Pz]; refine Rd 7 ?pH ?sH; intro K hK; go_simp; refine ((H1.out.keep hBwd).ps.stepB ⟨i, t⟩).mono ?_; rintro e v7 ⟨Gp, rfl, hp6, hf6⟩; obtain ⟨hrp, hfu⟩ := (H1.out.keep hBwd).setP hp6 hf6; have hz6 := (hfu.block g (Array.getElem?_eq_some_iff.1 (Br HZ1.out hBwd)).1 hnu).trans (Br HZ1.out hBwd); have hnu6 := not_n hfu hnu (Array.getElem?_eq_some_iff.1 (Br HZ1.out hBwd)).1; have S6 := SK.out v7 hrp.row hz6; have HR6 := Hf hrp; have HZ6 := Hf hz6; have HF6 := Hf (((Fr.ofBelow HB1.out).up hBwd).trans hfu); clear hp6 hf6 hrp hfu hz6; refine hK.out _ _ S6 fun Hl => ?_; refine Wd ?_; have HSI6 : Hid (SQ v7.drew) := SK.out _ HR6.out.row HZ6.out; obtain ⟨pb, hpb⟩ := Nq (Na.M.acb r.a ⟨s, ⟨i, t⟩, v⟩); go_upto_region 2 with fail
 refine Wm (fun wq => SQ wq) HSI6.out fun wdy hBwd Hl => ?_; refine Tm 0 Hl ?_; refine Tm 1 Hl ?_; refine Tm 2 Hl ?_; refine Tj 3 Hl ?_; refine Tm 4 Hl ?_; refine Tj 5 Hl ?_; simp only [Act.put, Pz]; refine Rd 6 ?pS ?sS; intro K hK; go_simp; refine ((HR6.out.keep hBwd).ac.accept ⟨s, ⟨i, t⟩, v⟩).mono ?_; rintro e v8 ⟨Ga, he, ha8, hf8⟩; rw [hpb] at he; subst he; obtain ⟨hrp, hfu⟩ := (HR6.out.keep hBwd).setA ha8 hf8; have hz8 := (hfu.block g (Array.getElem?_eq_some_iff.1 (Br HZ6.out hBwd)).1 hnu6).trans (Br HZ6.out hBwd); have S8 := SK.out v8 hrp.row hz8; have HR8 := Hf hrp; have HZ8 := Hf hz8; have HF8 := Hf ((HF6.out.up hBwd).trans hfu); clear ha8 hf8 hrp hfu hz8; refine hK.out _ _ S8 fun Hl => ?_; refine Tm 7 Hl ?_; simp only [Act.put, Pz]; refine Wd ?_; cases pb with
 | false =>
  have HQ : Hid (OutN w0 w (uni b Fa Fp Fl) b (Rm.q3S r ⟨s, ⟨i, t⟩, v⟩) (Rm.q3N r ⟨s, ⟨i, t⟩, v⟩) (.returned (.slice none 0 0)) v8) := ⟨_, _, rfl, by unfold Rm.q3N; rw [hpb]; exact NO.nil _ _ _, HR8.out.rs, HF8.out⟩; clear hpb; go_wp2; go_ret; exact HQ.out
 | true =>
  have hsz := (Na.M.acb_yes hpb).2.2.2; have hn := HR8.out.n17; have ce := toEach_any HR8.out.row hn.1 hn.2 4 ⟨s, ⟨i, t⟩, v⟩ (Nat.le_trans hsz (by decide)); obtain ⟨x0, -⟩ := row4 HZ8.out; have HP := Hf hpb; clear hpb hsz hn; go_wp2_with fail; refine ce.mono ?_; clear ce; rintro e w3 ⟨u, ys, rfl, how, hmap, hb3⟩; have HQ : Hid (OutN w0 w (uni b Fa Fp Fl) b (Rm.q3S r ⟨s, ⟨i, t⟩, v⟩) (Rm.q3N r ⟨s, ⟨i, t⟩, v⟩) (.returned u) w3) := by
   refine ⟨_, _, rfl, ?_, (HR8.out.keep hb3).rs, HF8.out.up hb3⟩; unfold Rm.q3N; rw [HP.out, if_pos rfl]; exact NO.of how HF8.out.size (fun k hk => (HR8.out.mine k hk).2) hmap
  clear how hmap hb3 x0; go_wp2; go_ret; exact HQ.out
end
theorem lgs_len (l : Nl.M.S) (s : Int) : ((Nl.M.lgs l s).length : Int) = max 0 (Nl.M.nx l - max s l.base) := by
 unfold Nl.M.lgs; rw [Nl.M.lg_len]; unfold Nl.M.lgn; omega
section
variable {w0 w : World} {b ba bp bl : Nat} {Fa Fp Fl : Nat → Prop} {r : R}
theorem RP.asked (h : RP w0 w b ba bp bl Fa Fp Fl r) (f s : Int) : Calls prog 107 #[ptr b, .agg #[.int .i64 f, .int .i64 s]] w (OutN w0 w (uni b Fa Fp Fl) b r (Rm.q5N r f s)) := by
 obtain ⟨W1, HW1⟩ := Nh (w.alloc (.cells #[.int .i64 f, .int .i64 s] 182)); have hb1 := Ab HW1; have hz1 := Ac HW1; obtain ⟨g, hg⟩ := Nq (w.heap.size); rw [hg] at hz1; have hnu : ¬ uni b Fa Fp Fl g := fun e => by have := (h.mine _ e).2; omega
 have H1 := Hf (h.keep hb1); have HZ1 := Hf hz1; have HB1 := Hf hb1; have HG := Hf hg; obtain ⟨SQ, HSQ⟩ : ∃ SQ : World → Prop, Hid (SQ = fun wq => wq.heap[b]? = some (rrow r ba bp bl) ∧ wq.heap[g]? = some (.cells #[.int .i64 f, .int .i64 s] 182 (0, 0))) := ⟨_, Hf rfl⟩; have HS : Hid (∀ wq, SQ wq → (wq.cell? ⟨b, 0, none⟩ = some (.int .i64 r.n) ∧ wq.cell? ⟨b, 1, none⟩ = some (.int .i64 r.me) ∧ wq.cell? ⟨b, 2, none⟩ = some (ptr ba) ∧ wq.cell? ⟨b, 3, none⟩ = some (ptr bp) ∧ wq.cell? ⟨b, 4, none⟩ = some (ptr bl)) ∧ (wq.cell? ⟨g, 0, none⟩ = some (.int .i64 f) ∧ wq.cell? ⟨g, 1, none⟩ = some (.int .i64 s))) := fun wq hq => by
  rw [HSQ.out] at hq; exact ⟨(row5 hq.1).1, (row2 hq.2).1⟩
 have SK : Hid (∀ w', w'.heap[b]? = some (rrow r ba bp bl) → w'.heap[g]? = some (.cells #[.int .i64 f, .int .i64 s] 182 (0, 0)) → SQ w') := fun w' h1 h2 => by rw [HSQ.out]; exact ⟨h1, h2⟩
 clear HSQ; have HSI : Hid (SQ W1.drew) := SK.out _ H1.out.row hz1; clear h hb1 hz1; go_enter func107, ntmps107; go_upto_region 1 with fail
 rw [HW1.out]; clear HW1
 try rw [hg]
 clear hg; refine Wm (fun wq => SQ wq) HSI.out fun wdx hBwd Hl => ?_; refine Tm 0 Hl ?_; refine Tj 1 Hl ?_; refine Tm 2 Hl ?_; refine Tm 3 Hl ?_; refine Tm 4 Hl ?_; refine Tj 5 Hl ?_; simp only [Act.put, Pz]; refine Rd 6 ?pG ?sG; intro K hK; go_simp; refine ((H1.out.keep hBwd).ls.base).mono ?_; rintro e v6 ⟨rfl, hv6⟩; subst hv6; refine hK.out _ _ Hl fun Hl => ?_; refine Tm 7 Hl ?_; simp only [Act.put, Pz]; refine Wd ?_; have HB6 : Hid (Bl w v6) := Bu HB1.out hBwd Lr; have H6 := Hf (H1.out.keep hBwd); have HZ6 := Hf (Br HZ1.out hBwd); by_cases hsb : s < r.l.base
 ·have d0 : decide (s < r.l.base) = true := decide_eq_true hsb; have HQ : Hid (OutN w0 w (uni b Fa Fp Fl) b r (Rm.q5N r f s) (.returned (.slice none 0 0)) v6) := ⟨_, _, rfl, by unfold Rm.q5N; rw [if_pos hsb]; exact NO.nil _ _ _, H6.out.rs, Fr.ofBelow HB6.out⟩; rw [d0]; clear hsb d0; go_wp2; go_ret; exact HQ.out
 ·have d0 : decide (s < r.l.base) = false := decide_eq_false hsb; have HSI6 : Hid (SQ v6.drew) := SK.out _ H6.out.row HZ6.out; rw [d0]; clear d0; go_upto_region 3 with fail
  refine Wm (fun wq => SQ wq) HSI6.out fun wdy hBwd Hl => ?_; refine Tm 0 Hl ?_; refine Tm 1 Hl ?_; refine Tm 2 Hl ?_; refine Tj 3 Hl ?_; refine Tm 4 Hl ?_; refine Tj 5 Hl ?_; simp only [Act.put, Pz]; refine Rd 6 ?pO ?sO; intro K hK; go_simp; refine ((H6.out.keep hBwd).ls.log s).mono ?_; rintro e v8 ⟨ad8, c8, rfl, hx8, hbk8, hb8⟩; have hbw8 := Bu hBwd hb8 Lr; have S8 := SK.out v8 (Br H6.out.row hbw8) (Br HZ6.out hbw8); have HX8 := Hf hx8; have HB8 := Hf hbw8; clear hx8 hbk8 hb8 hbw8; refine hK.out _ _ S8 fun Hl => ?_; refine Tm 7 Hl ?_; simp only [Act.put, Pz]; refine Wd ?_; obtain ⟨L, hL⟩ := Nq ((Nl.M.lgs r.l s).length); have HLL := Hf hL; have hX8 := HX8.out; rw [hL]; by_cases hl0 : L = 0
  ·have d0 : ((L : Int) == 0) = true := by simp [hl0]
   have HQ : Hid (OutN w0 w (uni b Fa Fp Fl) b r (Rm.q5N r f s) (.returned (.slice none 0 0)) v8) := ⟨_, _, rfl, by
    have : Rm.q5N r f s = [] := by unfold Rm.q5N Rm.q5n; rw [if_neg (by omega), if_pos (by omega)]
    rw [this]; exact NO.nil _ _ _, (H6.out.keep HB8.out).rs, (Fr.ofBelow (Bu HB6.out HB8.out Lr))⟩
   clear hX8 hL; go_wp2; go_ret; exact HQ.out
  ·have d0 : ((L : Int) == 0) = false := by simp [hl0]
   have hle := hX8.le; rw [hL] at hle; have hmx : c8 ≤ 9223372036854775807 := by have := hX8.mx; unfold maxLen at this; omega
   obtain ⟨g8, off8, rfl, -⟩ := hX8.at' 0 (by omega); obtain ⟨m, hm⟩ : ∃ m : Nat, m = min L 8 := ⟨_, rfl⟩; have hmL : m ≤ L := by omega
   have hm8 : m ≤ 8 := by omega
   have hmi : min (L : Int) 8 = (m : Int) := by omega
   have HAT := Hf hX8.at'; obtain ⟨x0, -⟩ := row2 (Br HZ6.out HB8.out); have HN : Hid (Rm.q5N r f s = [⟨6, r.me, f, 0, Rm.e0, Rm.vts s (Nl.M.lgs r.l s) m⟩]) := Hf (by unfold Rm.q5N Rm.q5n; rw [if_neg (by omega), if_neg (by omega), hL, ← hm]); have hsb : 0 ≤ s ∧ s + L ≤ 1024 := by
    have h1 := H6.out.ls.ok.base; have h2 := H6.out.ls.ok.nx; have h3 := lgs_len r.l s; omega
   clear hX8 hL hm; go_upto_region 8 with fail
   clear x0; obtain ⟨LL, HLL2⟩ := Nq (Nl.M.lgs r.l s); rw [HLL2] at HN HAT HLL; clear HLL2 HX8; go_loopw [6, 33] (fun u q wr => ∃ j : Nat, j ≤ m ∧ q = .int .i64 j ∧ OwnL vl 126 wr v8.heap.size u (Rm.vts s LL j) ∧ Bl v8 wr) (fun u q _ => m - (intOf q).toNat)
   case atStart => exact ⟨0, Nat.zero_le _, rfl, OwnL.nil _ _ _, Below.refl _ _⟩
   case round =>
    obtain ⟨j, hj, rfl, ho, hbl⟩ := hrel; have hlen := Rm.vts_len s LL j; have hrb := Br (Br H6.out.row HB8.out) hbl; have hrg := Br (Br HZ6.out HB8.out) hbl; by_cases hlt : j < m
    ·have hjn : (j : Int) < (m : Int) := by omega
     have hjl : j < LL.length := by rw [HLL.out]; omega
     obtain ⟨gg, oo, eA, q0⟩ := AtL.getT (HAT.out.keep hbl) j hjl; cases eA; have hgd : LL.getD j ⟨#[]⟩ = LL[j] := by rw [List.getD_eq_getElem?_getD, List.getElem?_eq_getElem hjl]; rfl
     have HS1 := Rm.vts_succ s LL j; rw [hgd] at HS1; have hadd : IntKind.i64.wrap (s + j) = s + j := by rw [IntKind.wrap_i64]; omega
     obtain ⟨x0, -⟩ := row2 hrg; obtain ⟨a1, c1, hv1, -⟩ := ho.at; rw [hlen] at hv1; subst hv1; obtain ⟨a', c', w4, hrun, ho4, hr4⟩ := Np.app1 ⟨s + j, ⟨0, 0⟩, LL[j]⟩ ho hbl.size (by rw [hlen]; omega); rw [hlen] at hrun ho4 hr4; simp only at hrun; have HB4 : Hid (Bl v8 w4) := hbl.trans (hr4.below (fun q hq => (ho.lt hq).1) hbl.size); have HO4 : Hid (OwnL vl 126 w4 v8.heap.size (.slice a' (j + 1) c') (Rm.vts s LL (j + 1))) := by rw [HS1]; exact Hf ho4
     generalize LL[j] = x at *; clear ho hbl ho4 hr4 HS1 hgd hlen hrb hrg hjl; go_wp2_with (at_builtin; refine wpList_append_known rfl _ _ 43 rfl _ _ rfl rfl _ _ (hrun _) ?_); go_roundw
     case rel => exact ⟨j + 1, by omega, by go_num, HO4.out, HB4.out⟩
     case measure => simp [intOf]; omega
    ·obtain rfl : j = m := by omega
     obtain ⟨a1, c1, hv1, hx1, hbk1⟩ := ho.at; rw [hlen] at hv1; subst hv1; have HFIN : Hid (∀ gv wv, Bl wr wv → wr.heap.size ≤ gv → wv.heap[gv]? = some (.cells #[.int .i64 6, .int .i64 r.me, .int .i64 f, .int .i64 0, .int .i64 0, .int .i64 0, .slice a1 j c1] 72 (0, 0)) → OutN w0 w (uni b Fa Fp Fl) b r (Rm.q5N r f s) (.returned (.slice (some ⟨gv, 0, none⟩) 1 1)) wv) := fun gv wv hb hg hrv => by
      rw [HN.out]; have hbw : Bl w wr := Bu (Bu HB6.out HB8.out Lr) hbl Lr; have h6 := (H6.out.keep HB8.out).keep hbl; refine ⟨_, _, rfl, NO.one (y := ⟨⟨6, r.me, f, 0, Rm.e0, Rm.vts s LL j⟩, a1, c1⟩) (by show wv.heap[gv]? = some (.cells #[.int .i64 6, .int .i64 r.me, .int .i64 f, .int .i64 0, .int .i64 0, .int .i64 0, .slice a1 (Rm.vts s LL j).length c1] 72 (0, 0)); rw [hlen]; exact hrv) (Nat.le_trans hbw.size hg) (fun e => by have := (h6.mine _ e).2; omega) ⟨hx1.keep hb, fun k hk => ?_⟩, (h6.keep hb).rs, Fr.ofBelow (Bu hbw hb Lr)⟩; have h1 := hbk1 k hk; exact ⟨Nat.lt_of_lt_of_le h1.2.2 hb.size, Nat.le_trans (Bu HB6.out HB8.out Lr).size h1.1, (fun e => by have := (H6.out.mine _ e).2; have := HB8.out.size; have := h1.1; omega), by have := h1.2.2; omega⟩
     have HSIr : Hid (SQ wr.drew) := SK.out _ hrb hrg; have hnl : decide ((j : Int) < (j : Int)) = false := decide_eq_false (by omega); clear ho hbl hx1 hbk1; go_upto_region 12 with fail
     refine Wm (fun wq => SQ wq) HSIr.out fun wdq hBwd Hl => ?_; refine Tm 0 Hl ?_; refine Tm 1 Hl ?_; refine Tm 2 Hl ?_; refine Tj 3 Hl ?_; refine Tm 4 Hl ?_; refine Tj 5 Hl ?_; refine Tm 6 Hl ?_; refine Tm 7 Hl ?_; simp only [Act.put, Pz]; refine Rd 8 ?pY ?sY; intro K hK; go_simp; obtain ⟨wv, hwv⟩ := Nq (wdq.alloc (.cells #[.int .i64 6, .int .i64 r.me, .int .i64 f, .int .i64 0, .int .i64 0, .int .i64 0, .slice a1 j c1] 72)); have hbv := Aq hwv; have hrv := Aw hwv; obtain ⟨gv, hgv⟩ := Nq (wdq.heap.size); rw [hwv]; rw [hgv] at hrv ⊢; have hgv' : wr.heap.size ≤ gv := by rw [← hgv]; exact hBwd.size
     have hbv2 := Bu hBwd hbv Lr; have S10 := SK.out wv (Br hrb hbv2) (Br hrg hbv2); have HQ := Hf (HFIN.out gv wv hbv2 hgv' hrv); clear hwv hgv hbv hrv hbv2 hgv'; refine hK.out _ _ S10 fun Hl => ?_; refine Tm 9 Hl ?_; simp only [Act.put, Pz]; refine Wd ?_; go_wp2; go_ret; exact HQ.out
end
theorem zero114 (w : World) : (zeroValue 170).run prog w = .ok (.agg #[.int .i64 0, .int .i64 0, .int .i64 0, .int .i64 0]) w := by kernel_rfl
theorem zero100 (w : World) : (zeroValue 173).run prog w = .ok (.agg #[.int .i64 0, .int .i64 0, .int .i64 0, .slice none 0 0]) w := by kernel_rfl
theorem zero103 (w : World) : (zeroValue 176).run prog w = .ok (.agg #[.int .i64 0, .int .i64 0, .int .i64 0, .string ⟨#[]⟩]) w := by kernel_rfl
theorem zero106 (w : World) : (zeroValue 179).run prog w = .ok (.agg #[.int .i64 0, .int .i64 0, .int .i64 0, .int .i64 0, .string ⟨#[]⟩]) w := by kernel_rfl
theorem zero109 (w : World) : (zeroValue 182).run prog w = .ok (.agg #[.int .i64 0, .int .i64 0]) w := by kernel_rfl
theorem zero112 (w : World) : (zeroValue 185).run prog w = .ok (.agg #[.slice none 0 0]) w := by kernel_rfl
theorem ta_yes {A : TypeId} {fs : Array Field} (hu : prog.underlying A = some (.struct fs)) (v : Value) (w : World) : (Instr.typeAssert (.iface A v) 20 A true).run prog w = .ok (.tuple #[v, .bool true]) w := by
 simp [Instr.typeAssert, run_underlying hu]
theorem ta_no {A T : TypeId} {fs : Array Field} {z : Value} (hu : prog.underlying A = some (.struct fs)) (hz : ∀ w, (zeroValue A).run prog w = .ok z w) (hne : T ≠ A) (v : Value) (w : World) : (Instr.typeAssert (.iface T v) 20 A true).run prog w = .ok (.tuple #[z, .bool false]) w := by
 simp [Instr.typeAssert, run_underlying hu, hz, hne]
theorem ta_nil {A : TypeId} {fs : Array Field} {z : Value} (hu : prog.underlying A = some (.struct fs)) (hz : ∀ w, (zeroValue A).run prog w = .ok z w) (w : World) : (Instr.typeAssert .nilIface 20 A true).run prog w = .ok (.tuple #[z, .bool false]) w := by
 simp [Instr.typeAssert, run_underlying hu, hz]
def sdN (n : Nat) (y : RN) : Value := match n with
 | 1 => .iface 170 (.agg #[.int .i64 y.x.f, .int .i64 y.x.s, .int .i64 y.x.b.i, .int .i64 y.x.b.t])
 | 2 => .iface 173 (.agg #[.int .i64 y.x.f, .int .i64 y.x.b.i, .int .i64 y.x.b.t, .slice y.ad y.x.v.length y.c])
 | 3 => .iface 176 (vV (y.x.v.headD Rm.v0))
 | 4 => .iface 179 (.agg #[.int .i64 y.x.f, .int .i64 (y.x.v.headD Rm.v0).s, .int .i64 (y.x.v.headD Rm.v0).b.i, .int .i64 (y.x.v.headD Rm.v0).b.t, .string (y.x.v.headD Rm.v0).v])
 | 5 => .iface 182 (.agg #[.int .i64 y.x.f, .int .i64 y.x.s])
 | 6 => .iface 185 (.agg #[.slice y.ad y.x.v.length y.c])
 | _ => .nilIface
def sdV (y : RN) : Value := sdN (Rm.kd y.x) y
theorem sdV_of {y : RN} {n : Nat} (h : Rm.kd y.x = n) : sdV y = sdN n y := by subst h; rfl
theorem said_any (y : RN) (w : World) (hx : XL vl w y.ad y.c y.x.v) : Calls prog 78 #[nV y] w fun e w' => e = .returned (sdV y) ∧ Bl w w' := by
 obtain ⟨⟨k, f, t, s, ⟨bi, bt⟩, v⟩, ad, c⟩ := y; simp only at hx; obtain ⟨W1, HW1⟩ := Nh (w.alloc (.cells #[.int .i64 k, .int .i64 f, .int .i64 t, .int .i64 s, .int .i64 bi, .int .i64 bt, .slice ad v.length c] 72)); have hb1 := Ab HW1; have hz1 := Ac HW1; obtain ⟨⟨x0, x1, x2, x3, x4, x5, x6⟩, -⟩ := row7 hz1; have hx1 := hx.keep hb1; have HSD : Hid (∀ n, Rm.kd ⟨k, f, t, s, ⟨bi, bt⟩, v⟩ = n → sdV ⟨⟨k, f, t, s, ⟨bi, bt⟩, v⟩, ad, c⟩ = sdN n ⟨⟨k, f, t, s, ⟨bi, bt⟩, v⟩, ad, c⟩) := fun n hn => sdV_of hn; have HB := Hf hb1; simp only [nV]; clear hx hb1 hz1; by_cases h1 : k = 1
 ·subst h1; have HQ : Hid (sdV ⟨⟨1, f, t, s, ⟨bi, bt⟩, v⟩, ad, c⟩ = .iface 170 (.agg #[.int .i64 f, .int .i64 s, .int .i64 bi, .int .i64 bt])) := HSD.out 1 (by unfold Rm.kd; rw [if_pos rfl]); clear HSD hx1; go_enter func78, ntmps78; go_upto_region 1 with fail
  rw [HW1.out]; go_wp2; go_ret; exact ⟨by rw [HQ.out]; rfl, HB.out⟩
 by_cases h2 : k = 2
 ·subst h2; have HQ : Hid (sdV ⟨⟨2, f, t, s, ⟨bi, bt⟩, v⟩, ad, c⟩ = .iface 173 (.agg #[.int .i64 f, .int .i64 bi, .int .i64 bt, .slice ad v.length c])) := HSD.out 2 (by unfold Rm.kd; rw [if_neg (by simp), if_pos rfl]); clear HSD hx1 h1; go_enter func78, ntmps78; go_upto_region 1 with fail
  rw [HW1.out]; go_wp2; go_ret; exact ⟨by rw [HQ.out]; rfl, HB.out⟩
 by_cases h3 : k = 3
 ·subst h3; by_cases hl : v.length = 1
  ·obtain ⟨⟨vs, ⟨vi, vt⟩, vv⟩, rfl⟩ := List.length_eq_one_iff.1 hl; obtain ⟨g0, o0, rfl, q0, q1, q2, q3⟩ := hx1.at'.getV 0 (by simp); simp only [List.getElem_cons_zero, Nat.zero_mul, Nat.add_zero] at q0 q1 q2 q3; have HQ : Hid (sdV ⟨⟨3, f, t, s, ⟨bi, bt⟩, [⟨vs, ⟨vi, vt⟩, vv⟩]⟩, some ⟨g0, o0, none⟩, c⟩ = .iface 176 (.agg #[.int .i64 vs, .int .i64 vi, .int .i64 vt, .string vv])) := HSD.out 3 (by unfold Rm.kd; rw [if_neg (by simp), if_neg (by simp), if_pos ⟨rfl, rfl⟩]); clear HSD hx1 h1 h2 hl; simp only [List.length_cons, List.length_nil, Nat.zero_add] at x6 HW1 ⊢; go_enter func78, ntmps78; go_upto_region 1 with fail
   rw [HW1.out]; go_wp2; go_ret; exact ⟨by rw [HQ.out]; rfl, HB.out⟩
  ·have d0 : ((v.length : Int) == 1) = false := by simp; omega
   have HQ : Hid (sdV ⟨⟨3, f, t, s, ⟨bi, bt⟩, v⟩, ad, c⟩ = .nilIface) := HSD.out 0 (by unfold Rm.kd; rw [if_neg (by simp), if_neg (by simp), if_neg (fun e => hl e.2), if_neg (by simp), if_neg (by simp), if_neg (by simp)]); clear HSD hx1 h1 h2 hl; go_enter func78, ntmps78; go_upto_region 1 with fail
   rw [HW1.out]; go_wp2; go_ret; exact ⟨by rw [HQ.out]; rfl, HB.out⟩
 by_cases h4 : k = 4
 ·subst h4; by_cases hl : v.length = 1
  ·obtain ⟨⟨vs, ⟨vi, vt⟩, vv⟩, rfl⟩ := List.length_eq_one_iff.1 hl; obtain ⟨g0, o0, rfl, q0, q1, q2, q3⟩ := hx1.at'.getV 0 (by simp); simp only [List.getElem_cons_zero, Nat.zero_mul, Nat.add_zero] at q0 q1 q2 q3; have HQ : Hid (sdV ⟨⟨4, f, t, s, ⟨bi, bt⟩, [⟨vs, ⟨vi, vt⟩, vv⟩]⟩, some ⟨g0, o0, none⟩, c⟩ = .iface 179 (.agg #[.int .i64 f, .int .i64 vs, .int .i64 vi, .int .i64 vt, .string vv])) := HSD.out 4 (by unfold Rm.kd; rw [if_neg (by simp), if_neg (by simp), if_neg (by simp), if_pos ⟨rfl, rfl⟩]); clear HSD hx1 h1 h2 h3 hl; simp only [List.length_cons, List.length_nil, Nat.zero_add] at x6 HW1 ⊢; go_enter func78, ntmps78; go_upto_region 1 with fail
   rw [HW1.out]; go_upto_region 8 with fail
   go_quiet (fail); go_wp2; go_ret; exact ⟨by rw [HQ.out]; rfl, below_drewN HB.out _⟩
  ·have d0 : ((v.length : Int) == 1) = false := by simp; omega
   have HQ : Hid (sdV ⟨⟨4, f, t, s, ⟨bi, bt⟩, v⟩, ad, c⟩ = .nilIface) := HSD.out 0 (by unfold Rm.kd; rw [if_neg (by simp), if_neg (by simp), if_neg (by simp), if_neg (fun e => hl e.2), if_neg (by simp), if_neg (by simp)]); clear HSD hx1 h1 h2 h3 hl; go_enter func78, ntmps78; go_upto_region 1 with fail
   rw [HW1.out]; go_wp2; go_ret; exact ⟨by rw [HQ.out]; rfl, HB.out⟩
 by_cases h5 : k = 5
 ·subst h5; have HQ : Hid (sdV ⟨⟨5, f, t, s, ⟨bi, bt⟩, v⟩, ad, c⟩ = .iface 182 (.agg #[.int .i64 f, .int .i64 s])) := HSD.out 5 (by unfold Rm.kd; rw [if_neg (by simp), if_neg (by simp), if_neg (by simp), if_neg (by simp), if_pos rfl]); clear HSD hx1 h1 h2 h3 h4; go_enter func78, ntmps78; go_upto_region 1 with fail
  rw [HW1.out]; go_wp2; go_ret; exact ⟨by rw [HQ.out]; rfl, HB.out⟩
 by_cases h6 : k = 6
 ·subst h6; have HQ : Hid (sdV ⟨⟨6, f, t, s, ⟨bi, bt⟩, v⟩, ad, c⟩ = .iface 185 (.agg #[.slice ad v.length c])) := HSD.out 6 (by unfold Rm.kd; rw [if_neg (by simp), if_neg (by simp), if_neg (by simp), if_neg (by simp), if_neg (by simp), if_pos rfl]); clear HSD hx1 h1 h2 h3 h4 h5; go_enter func78, ntmps78; go_upto_region 1 with fail
  rw [HW1.out]; go_wp2; go_ret; exact ⟨by rw [HQ.out]; rfl, HB.out⟩
 ·have d1 : (k == 1) = false := by simpa using h1
  have d2 : (k == 2) = false := by simpa using h2
  have d3 : (k == 3) = false := by simpa using h3
  have d4 : (k == 4) = false := by simpa using h4
  have d5 : (k == 5) = false := by simpa using h5
  have d6 : (k == 6) = false := by simpa using h6
  have HQ : Hid (sdV ⟨⟨k, f, t, s, ⟨bi, bt⟩, v⟩, ad, c⟩ = .nilIface) := HSD.out 0 (by unfold Rm.kd; rw [if_neg h1, if_neg h2, if_neg (fun e => h3 e.1), if_neg (fun e => h4 e.1), if_neg h5, if_neg h6]); clear HSD hx1 h1 h2 h3 h4 h5 h6; go_enter func78, ntmps78; go_upto_region 1 with fail
  rw [HW1.out]; go_wp2; go_ret; exact ⟨by rw [HQ.out]; rfl, HB.out⟩
end Go.Proofs.YtgodnpngdbelhaaGreat
