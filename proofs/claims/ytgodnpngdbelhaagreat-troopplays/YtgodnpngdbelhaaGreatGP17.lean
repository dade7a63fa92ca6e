import Derived.Test.YtgodnpngdbelhaaGreatGP16
set_option maxRecDepth 100000
set_option maxHeartbeats 8000000
set_option linter.unusedVariables false
set_option linter.unusedSimpArgs false
open Go.Proofs.Tryz
namespace Go.Proofs.YtgodnpngdbelhaaGreat
open Go.RowKit Go.Maps
open M (E V)
open Rm (NT R)
section
variable {w : World} {b ba bp bl : Nat} {r : R}
theorem isNode_any (h : w.heap[b]? = some (rrow r ba bp bl)) (x : Int) : Calls prog 76 #[ptr b, .int .i64 x] w fun e w' => e = .returned (.bool (Rm.isN r x)) ∧ w' = w := by
 obtain ⟨c0, _⟩ := row5 h; clear h; unfold Rm.isN; by_cases h0 : 0 ≤ x
 ·have d0 : decide (0 ≤ x) = true := decide_eq_true h0; rw [d0, Bool.true_and]; go_enter func76, ntmps76; go_wp2; go_ret; exact ⟨rfl, rfl⟩
 ·have d0 : decide (0 ≤ x) = false := decide_eq_false h0; rw [d0, Bool.false_and]; go_enter func76, ntmps76; go_wp2; go_ret; exact ⟨rfl, rfl⟩
def TeOut (w : World) (l : List NT) (e : Ending) (w' : World) : Prop := ∃ u ys, e = .returned u ∧ OW w' w.heap.size u ys ∧ ys.map RN.x = l ∧ Bl w w'
theorem toEach_any (h : w.heap[b]? = some (rrow r ba bp bl)) (h0 : 1 ≤ r.n) (h7 : r.n ≤ 7) (kk : Int) (x : V) (hx : x.v.size ≤ 140737488351232) : Calls prog 74 #[ptr b, .int .i64 kk, vV x] w (TeOut w (Rm.toE r kk x)) := by
 obtain ⟨s, ⟨i, t⟩, v⟩ := x; obtain ⟨W1, HW1⟩ := Nh (w.alloc (.cells #[.int .i64 s, .int .i64 i, .int .i64 t, .string v] 126)); have hb1 := Ab HW1; have hr1 := Ac HW1; obtain ⟨n, hn⟩ : ∃ n : Nat, r.n = n := ⟨r.n.toNat, by omega⟩; have HN : Hid (r.n.toNat = n) := Hf (by omega); have HL : Hid (Rm.toE r kk ⟨s, ⟨i, t⟩, v⟩ = Rm.toF r kk 0 Rm.e0 [⟨s, ⟨i, t⟩, v⟩] n) := Hf (by unfold Rm.toE; rw [HN.out]); have hro := Br h hb1; obtain ⟨⟨c0, c1, c2, c3, c4⟩, _⟩ := row5 hro; rw [hn] at c0; have HR := Hf hro; have HX := Hf hr1; have HB1 := Hf hb1; have hn7 : n ≤ 7 := by omega
 have HV := Hf hx; clear h hb1 hr1 hro h0 h7 hx; simp only [vV]; go_enter func74, ntmps74; go_upto_region 1 with fail
 rw [HW1.out]; clear HW1; go_wp2_with fail; go_loopw [7, 14] (fun u q wr => ∃ (j : Nat) (ys : List RN), j ≤ n ∧ q = .int .i64 j ∧ OW wr W1.heap.size u ys ∧ ys.map RN.x = Rm.toF r kk 0 Rm.e0 [⟨s, ⟨i, t⟩, v⟩] j ∧ Bl W1 wr) (fun u q _ => n - (intOf q).toNat)
 case atStart => exact ⟨0, [], Nat.zero_le _, rfl, OW.nil _ _, rfl, Below.refl _ _⟩
 case round =>
  obtain ⟨j, ys, hj, rfl, ho, hm, hbl⟩ := hrel; have hlen : ys.length = j := by have := congrArg List.length hm; simpa [Rm.toF_len] using this
  by_cases hlt : j < n
  ·have hjn : (j : Int) < (n : Int) := by omega
   obtain ⟨p0, _⟩ := row4 (Br HX.out hbl); have hk1 : IntKind.i64.wrap ((j : Int) + 1) = ((j + 1 : Nat) : Int) := by rw [IntKind.wrap_i64]; omega
   have cv := fun w => sclone_any v w HV.out; obtain ⟨W2, HW2⟩ := Nh (wr.alloc (.cells #[.int .i64 s, .int .i64 i, .int .i64 t, .string v] 126)); have hb2 := Ab HW2; have hr2 := Ac HW2; obtain ⟨x0, xf⟩ := row4 (Br (Br HX.out hbl) hb2); obtain ⟨g, hg⟩ := Nq (wr.heap.size); obtain ⟨a1, c1', hv1, -⟩ := ho.at; rw [hlen] at hv1; subst hv1; have HO := Hf ho; have HM := Hf hm; have HBL := Hf hbl; have HB2 := Hf hb2; have HR2 := Hf hr2; have HLEN := Hf hlen; clear ho hm hbl hb2 hr2 c0 c1 c2 c3 c4 hlen; go_upto_region 6 with fail
   rw [HW2.out]; go_wp2_with fail; refine (cv _).mono ?_; rintro e w3 ⟨rfl, hb3⟩; obtain ⟨⟨y0, y1, y2, y3⟩, yf⟩ := row4 (Br HR2.out hb3); have yf3 := yf 3; rw [hg] at y0 y1 y2 y3 yf3; clear cv x0 xf yf; go_upto_region 7 with fail
   have hB3 : Below wr.heap.size wr (w3.setCell ⟨g, 3, none⟩ (.string v)) := (Bu HB2.out hb3 Lr).setCell (by show wr.heap.size ≤ g; omega) _; have hg3 : (w3.setCell ⟨g, 3, none⟩ (.string v)).heap[g]? = some (.cells #[.int .i64 s, .int .i64 i, .int .i64 t, .string v] 126 (0, 0)) := by
    have := heap_setCell_same w3 g 3 _ _ (.string v) (by rw [← hg]; exact Br HR2.out hb3); rw [this]; rfl
   clear y0 y1 y2 y3 yf3 hb3; generalize w3.setCell ⟨g, 3, none⟩ (.string v) = W3 at *; have hb3' := Br (Br HR.out HBL.out) hB3; obtain ⟨SQ, HSQ⟩ : ∃ SQ : World → Prop, Hid (SQ = fun wq => wq.heap[b]? = some (rrow r ba bp bl) ∧ wq.heap[g]? = some (.cells #[.int .i64 s, .int .i64 i, .int .i64 t, .string v] 126 (0, 0))) := ⟨_, Hf rfl⟩; have HS : Hid (∀ wq, SQ wq → (wq.cell? ⟨b, 0, none⟩ = some (.int .i64 r.n) ∧ wq.cell? ⟨b, 1, none⟩ = some (.int .i64 r.me) ∧ wq.cell? ⟨b, 2, none⟩ = some (ptr ba) ∧ wq.cell? ⟨b, 3, none⟩ = some (ptr bp) ∧ wq.cell? ⟨b, 4, none⟩ = some (ptr bl)) ∧ (wq.cell? ⟨g, 0, none⟩ = some (.int .i64 s) ∧ wq.cell? ⟨g, 1, none⟩ = some (.int .i64 i) ∧ wq.cell? ⟨g, 2, none⟩ = some (.int .i64 t) ∧ wq.cell? ⟨g, 3, none⟩ = some (.string v))) := fun wq hq => by
    rw [HSQ.out] at hq; exact ⟨(row5 hq.1).1, (row4 hq.2).1⟩
   have SK : Hid (∀ w', Bl W3 w' → SQ w') := fun w' hw' => by
    rw [HSQ.out]; exact ⟨Br hb3' hw', Br hg3 hw'⟩
   have HSI : Hid (SQ W3.drew) := SK.out _ (Below.drew (Below.refl _ _)); have hbw1 : b < W1.heap.size := (Array.getElem?_eq_some_iff.1 HR.out).1; have hgr : wr.heap.size ≤ g := by omega
   have hgv0 : ∀ q, (Value.slice a1 j c1').ownBlock = some q → W1.heap.size ≤ q ∧ q < wr.heap.size := fun q hq => HO.out.own.lt hq; have HAP : Hid (∀ wv gv, Bl W3 wv → W3.heap.size ≤ gv → wv.heap[gv]? = some (.cells #[.int .i64 s, .int .i64 i, .int .i64 t, .string v] 126 (0, 0)) → ∃ a' c' w', (∀ ty, (Builtin.append_ #[28, 28] ty #[.slice a1 j c1', .slice (some ⟨wv.heap.size, 0, none⟩) 1 1]).run prog (wv.alloc (.cells (nl.cs ⟨⟨kk, r.me, (j : Int), 0, ⟨0, 0⟩, [⟨s, ⟨i, t⟩, v⟩]⟩, some ⟨gv, 0, none⟩, 1⟩).toArray 72)) = .ok (.slice a' (j + 1) c') w') ∧ OW w' W1.heap.size (.slice a' (j + 1) c') (ys ++ [⟨⟨kk, r.me, (j : Int), 0, ⟨0, 0⟩, [⟨s, ⟨i, t⟩, v⟩]⟩, some ⟨gv, 0, none⟩, 1⟩]) ∧ Rw wv (.slice a1 j c1') w' (.slice a' (j + 1) c')) := fun wv gv hwv hgv hrv => by
    have hbw := Bu hB3 hwv Lr; have hs3 := hB3.size; have hs4 := HBL.out.size; have := (HO.out.keep hbw).app1 ⟨⟨kk, r.me, (j : Int), 0, ⟨0, 0⟩, [⟨s, ⟨i, t⟩, v⟩]⟩, some ⟨gv, 0, none⟩, 1⟩ ⟨⟨atL_one (t := 126) hrv, Nat.le_refl _, (show 1 ≤ maxLen by decide), fun e => by cases e⟩, fun q hq => by
     obtain ⟨o, z, e⟩ := hq; simp only [Option.some.injEq, Addr.mk.injEq] at e; obtain ⟨rfl, -, -⟩ := e; exact ⟨(Array.getElem?_eq_some_iff.1 hrv).1, by omega, fun e => by have := (hgv0 _ e).2; omega⟩⟩ (by have := hbw.size; omega) (by rw [HLEN.out]; omega)
    rw [HLEN.out] at this; exact this
   have SK4 : Hid (∀ w4 wv a' c', Bl W3 wv → Rw wv (.slice a1 j c1') w4 (.slice a' (j + 1) c') → SQ w4 ∧ Bl W1 w4) := fun w4 wv a' c' hwv hr => by
    have hbw := Bu hB3 hwv Lr; have hs3 := hB3.size; have hs4 := HBL.out.size; have h1 := Br hb3' hwv; have h2 := Br hg3 hwv; refine ⟨?_, (HBL.out.trans (hbw.mono hs4)).trans ((hr.below (fun k hk => (hgv0 k hk).1) (Nat.le_trans hs4 hbw.size)))⟩; rw [HSQ.out]; exact ⟨(hr.g.block b (Array.getElem?_eq_some_iff.1 h1).1 (fun e => by have := (hgv0 _ e.symm).1; omega)).trans h1, (hr.g.block g (Array.getElem?_eq_some_iff.1 h2).1 (fun e => by have := (hgv0 _ e.symm).2; omega)).trans h2⟩
   clear hb3' hg3 HSQ; refine Wm (fun wq => SQ wq) HSI.out fun wdx hBwd Hl => ?_; refine Tm 0 Hl ?_; refine Tm 1 Hl ?_; refine Tm 2 Hl ?_; refine Tm 3 Hl ?_; refine Tm 4 Hl ?_; refine Tj 5 Hl ?_; refine Tm 6 Hl ?_; refine Tj 7 Hl ?_; simp only [Act.put, Pz]; refine Rd 8 ?pI ?sI; intro K hK; go_simp; obtain ⟨wv, hwv⟩ := Nq (wdx.alloc (.cells #[.int .i64 s, .int .i64 i, .int .i64 t, .string v] 126)); have hbv := Aq hwv; have hrv := Aw hwv; have hrg := Nat.lt_of_lt_of_le (Array.getElem?_eq_some_iff.1 hrv).1 Lr; obtain ⟨gv, hgv⟩ := Nq (wdx.heap.size); rw [hwv]; rw [hgv] at hrv hrg ⊢; have hgv' : W3.heap.size ≤ gv := by rw [← hgv]; exact hBwd.size
   have hbv2 := Bu hBwd hbv Lr; have S8 := SK.out wv hbv2; clear hwv hgv hbv; refine hK.out _ _ S8 fun Hl => ?_; refine Tm 9 Hl ?_; simp only [Act.put, Pz]; refine Rd 10 ?pK ?sK; intro K hK; go_simp; obtain ⟨a', c', w4, hrun, ho4, hr4⟩ := HAP.out wv gv hbv2 hgv' hrv; have S10 := SK.out (wv.alloc (.cells (nl.cs ⟨⟨kk, r.me, (j : Int), 0, ⟨0, 0⟩, [⟨s, ⟨i, t⟩, v⟩]⟩, some ⟨gv, 0, none⟩, 1⟩).toArray 72)) (Bu hbv2 (bel1 _ _) Lr); have HO4 := Hf ho4; have HR4 := Hf hr4; clear ho4 hr4; refine hK.out _ _ S10 fun Hl => ?_; refine Rd 11 ?pL ?sL; intro K hK; refine step_append_known rfl (.tmp 22) (.tmp 32) 28 rfl _ _ rfl rfl _ _ (hrun _) ?_; refine hK.out _ _ (SK4.out _ _ _ _ hbv2 HR4.out).1 fun Hl => ?_; refine Tm 12 Hl ?_; simp only [Act.put, Pz]; refine Wd ?_; go_wp2_with fail; go_roundw
   case rel => exact ⟨j + 1, _, by omega, by go_num, HO4.out, by rw [List.map_append, HM.out, Rm.toF_succ]; rfl, (SK4.out _ _ _ _ hbv2 HR4.out).2⟩
   case measure => simp [intOf]; omega
  ·obtain rfl : j = n := by omega
   have HQ : Hid (TeOut w (Rm.toE r kk ⟨s, ⟨i, t⟩, v⟩) (.returned u7) wr) := ⟨_, ys, rfl, ho.low HB1.out.size, by rw [HL.out]; exact hm, Bu HB1.out hbl Lr⟩; clear ho hbl hm c0 c1 c2 c3 c4; go_wp2; go_ret; exact HQ.out
end
section
variable {w0 w : World} {b ba bp bl : Nat} {Fa Fp Fl : Nat → Prop} {r : R}
theorem RP.leads (h : RP w0 w b ba bp bl Fa Fp Fl r) : Calls prog 37 #[ptr b] w fun e w' => e = .returned (.bool (decide (2 ≤ r.p.st))) ∧ w' = w := by
 have cn := h.ps.leads; obtain ⟨c0, _⟩ := row5 h.row; clear h; go_enter func37, ntmps37; go_wp2_with fail; refine cn.mono ?_; rintro e w1 ⟨rfl, rfl⟩; go_wp2; go_ret; exact ⟨rfl, rfl⟩
theorem RP.log (h : RP w0 w b ba bp bl Fa Fp Fl r) : Calls prog 36 #[ptr b] w fun e w' => ∃ ad c, e = .returned (.slice ad (Rm.logL r).length c) ∧ XL Nl.tl w' ad c (Rm.logL r) ∧ (∀ j, blk ad j → w.heap.size ≤ j ∧ j < w'.heap.size) ∧ Bl w w' := by
 have cb : ∀ wq, Bl w wq → Calls prog 67 #[ptr bl] wq fun e w' => e = .returned (.int .i64 r.l.base) ∧ w' = wq := fun wq hq => (h.ls.keep hq).base; have cl := fun wq (hq : Bl w wq) => (h.ls.keep hq).log r.l.base; have HS : Hid (∀ wq, Bl w wq → wq.cell? ⟨b, 0, none⟩ = some (.int .i64 r.n) ∧ wq.cell? ⟨b, 1, none⟩ = some (.int .i64 r.me) ∧ wq.cell? ⟨b, 2, none⟩ = some (ptr ba) ∧ wq.cell? ⟨b, 3, none⟩ = some (ptr bp) ∧ wq.cell? ⟨b, 4, none⟩ = some (ptr bl)) := fun wq hq => (row5 (Br h.row hq)).1; obtain ⟨c0, _⟩ := row5 h.row; have HL : Hid (Nl.M.lgs r.l r.l.base = Rm.logL r) := rfl; clear h; go_enter func36, ntmps36; go_upto_region 3 with fail
 refine Wn fun wdx hBwd Hl => ?_; refine Tm 0 Hl ?_; refine Tm 1 Hl ?_; refine Tm 2 Hl ?_; refine Tj 3 Hl ?_; refine Tm 4 Hl ?_; refine Tm 5 Hl ?_; refine Tm 6 Hl ?_; refine Tj 7 Hl ?_; simp only [Act.put, Pz]; refine Rd 8 ?pI ?sI; intro K hK; go_simp; refine (cb _ Hl).mono ?_; rintro e v8 ⟨rfl, rfl⟩; refine hK.out _ _ Hl fun Hl => ?_; refine Rd 9 ?pJ ?sJ; intro K hK; go_simp; refine (cl _ Hl).mono ?_; rintro e v9 ⟨ad, c, rfl, hx, hk, hb⟩; rw [HL.out] at hx ⊢; have hb2 := Bu Hl hb Lr; have HX := Hf hx; have HK : Hid (∀ j, blk ad j → w.heap.size ≤ j ∧ j < v9.heap.size) := fun j hj => ⟨Nat.le_trans Hl.size (hk j hj).1, (hk j hj).2⟩; clear hx hb hk; refine hK.out _ _ hb2 fun Hl => ?_; refine Tm 10 Hl ?_; simp only [Act.put, Pz]; refine Wd ?_; have HB := Hf hb2; go_wp2; go_ret; exact ⟨ad, c, rfl, HX.out, HK.out, HB.out⟩
theorem RP.ask (h : RP w0 w b ba bp bl Fa Fp Fl r) (dst : Int) : Calls prog 61 #[ptr b, .int .i64 dst] w fun e w' => ∃ u, e = .returned u ∧ NO w (uni b Fa Fp Fl) u w' (Rm.akN r dst) ∧ Bl w w' := by
 have ci := isNode_any h.row dst; have HLT := Hf (fun k hk => (h.mine k hk).2); have cn : ∀ wq, Bl w wq → Calls prog 69 #[ptr bl] wq fun e w' => e = .returned (.int .i64 (Nl.M.nx r.l)) ∧ w' = wq := fun wq hq => (h.ls.keep hq).next; have HS : Hid (∀ wq, Bl w wq → wq.cell? ⟨b, 0, none⟩ = some (.int .i64 r.n) ∧ wq.cell? ⟨b, 1, none⟩ = some (.int .i64 r.me) ∧ wq.cell? ⟨b, 2, none⟩ = some (ptr ba) ∧ wq.cell? ⟨b, 3, none⟩ = some (ptr bp) ∧ wq.cell? ⟨b, 4, none⟩ = some (ptr bl)) := fun wq hq => (row5 (Br h.row hq)).1; clear h; cases hi : Rm.isN r dst with
 | false =>
  have HN : Hid (Rm.akN r dst = []) := Hf (by unfold Rm.akN; rw [hi]; rfl); rw [hi] at ci; clear hi cn HS; go_enter func61, ntmps61; go_wp2_with fail; refine ci.mono ?_; rintro e w1 ⟨rfl, rfl⟩; go_wp2; go_ret
  exact ⟨_, rfl, by rw [HN.out]; exact NO.nil _ _ _, Below.refl _ _⟩
 | true =>
  have HN : Hid (Rm.akN r dst = [⟨5, r.me, dst, Nl.M.nx r.l, Rm.e0, []⟩]) := Hf (by unfold Rm.akN; rw [hi]; rfl); rw [hi] at ci; have HFIN : Hid (∀ gv wv, Bl w wv → w.heap.size ≤ gv → wv.heap[gv]? = some (.cells (nl.cs ⟨⟨5, r.me, dst, Nl.M.nx r.l, ⟨0, 0⟩, []⟩, none, 0⟩).toArray 72 (0, 0)) → ∃ u, Ending.returned (.slice (some ⟨gv, 0, none⟩) 1 1) = .returned u ∧ NO w (uni b Fa Fp Fl) u wv (Rm.akN r dst) ∧ Bl w wv) := fun gv wv hb hg hrv => by
   rw [HN.out]
   exact ⟨_, rfl, NO.one hrv hg (fun hk => by have := HLT.out _ hk; omega) (XN.emp _ _ rfl rfl rfl), hb⟩
  clear hi; go_enter func61, ntmps61; go_wp2_with fail; refine ci.mono ?_; rintro e w1 ⟨rfl, rfl⟩; clear ci; go_upto_region 3 with fail
  refine Wn fun wdx hBwd Hl => ?_; refine Tm 0 Hl ?_; refine Tm 1 Hl ?_; refine Tm 2 Hl ?_; refine Tj 3 Hl ?_; refine Tm 4 Hl ?_; refine Tm 5 Hl ?_; refine Tm 6 Hl ?_; refine Tm 7 Hl ?_; refine Tj 8 Hl ?_; simp only [Act.put, Pz]; refine Rd 9 ?pL ?sL; intro K hK; go_simp; refine (cn _ Hl).mono ?_; rintro e v9 ⟨rfl, rfl⟩; refine hK.out _ _ Hl fun Hl => ?_; refine Tm 10 Hl ?_; simp only [Act.put, Pz]; refine Rd 11 ?pN ?sN; intro K hK; go_simp; obtain ⟨wv, hwv⟩ := Nq (v9.alloc (.cells #[.int .i64 5, .int .i64 r.me, .int .i64 dst, .int .i64 (Nl.M.nx r.l), .int .i64 0, .int .i64 0, .slice none 0 0] 72)); have hbv := Aq hwv; have hrv := Aw hwv; obtain ⟨gv, hgv⟩ := Nq (v9.heap.size); rw [hwv]; rw [hgv] at hrv ⊢; have hgv' : w1.heap.size ≤ gv := by rw [← hgv]; exact Hl.size
  have hbv2 := Bu Hl hbv Lr; clear hwv hgv hbv; refine hK.out _ _ hbv2 fun Hl => ?_; refine Tm 12 Hl ?_; simp only [Act.put, Pz]; refine Wd ?_; have HQ := HFIN.out _ _ hbv2 hgv' hrv; go_wp2; go_ret; exact HQ
end
theorem wf_few {k : Int} (h0 : 0 ≤ k) (h1 : k ≤ 1024) : (Lit.int .i64 k).wf = true := by
 have e1 : IntKind.i64.min = -9223372036854775808 := rfl; have e2 : IntKind.i64.max = 9223372036854775807 := rfl; simp only [Lit.wf, e1, e2, Bool.and_eq_true, decide_eq_true_eq]; omega
theorem ts_c (s : Nl.M.S) (k : Int) (v : ByteArray) : (Nl.M.ts s k v).c ≤ s.c + 1 := by
 unfold Nl.M.ts; split
 ·exact Nat.le_refl _
 ·exact Nat.le_succ _
theorem lfT_c (n : Int) : ∀ j, (Rm.lfT n j).c ≤ j
 | 0 => Nat.le_refl _
 | j + 1 => Nat.le_trans (ts_c _ _ _) (Nat.succ_le_succ (lfT_c n j))
theorem ls_low {w0 w w' : World} {G : Nat → Prop} {q : Nat} {s : Nl.M.S} (h : Nl.LS w w' G q s) (hb : Bl w0 w) : Nl.LS w0 w' G q s := by
 obtain ⟨m, f, e, hX⟩ := h.li; exact ⟨⟨m, f, e, hX.low hb.size⟩, Bu hb h.bel Lr, h.ok⟩
theorem learnerFrom_any (w0 w : World) (hb : Bl w0 w) (n base : Int) (hn : Nl.M.nde n = true) (h0 : 0 ≤ base) (h1 : base ≤ 1024) : Calls prog 91 #[.int .i64 n, .int .i64 base] w fun e w' => ∃ q G, e = .returned (ptr q) ∧ Nl.LS w0 w' G q (Rm.lf n base) ∧ Bl w w' ∧ ∀ k, G k → w.heap.size ≤ k := by
 have cn := Nl.newS_any w w (Below.refl _ _) n; have HB0 := Hf hb; have HL : Hid (∀ j : Nat, Nl.M.ts (Rm.lfT n j) (j : Int) ⟨#[]⟩ = Rm.lfT n (j + 1)) := fun j => rfl; obtain ⟨B, rfl⟩ : ∃ B : Nat, base = B := ⟨base.toNat, by omega⟩; have HF : Hid (Nl.M.tr (Rm.lfT n B) (B : Int) = Rm.lf n (B : Int)) := by
  have : ((B : Int)).toNat = B := by omega
  unfold Rm.lf; rw [this]; exact Hf rfl
 have hB : B ≤ 1024 := by omega
 clear hb h0 h1; go_enter func91, ntmps91; go_wp2_with fail; refine cn.mono ?_; clear cn; rintro e w1 (⟨hf, -⟩ | ⟨-, q, F, rfl, hl, -, -⟩)
 ·rw [hn] at hf; cases hf
 go_wp2_with fail; go_loopw [10] (fun i wr => ∃ (j : Nat) (G : Nat → Prop), j ≤ B ∧ i = .int .i64 j ∧ Nl.LS w wr G q (Rm.lfT n j)) (fun i _ => B - (intOf i).toNat)
 case atStart => exact ⟨0, F, Nat.zero_le _, rfl, hl⟩
 case round =>
  obtain ⟨j, G, hj, rfl, hx⟩ := hrel; by_cases hlt : j < B
  ·have hjn : (j : Int) < (B : Int) := by omega
   have ct := hx.tell (j : Int) ⟨#[]⟩ (wf_few (by omega) (by omega)) (by have := lfT_c n j; omega); rw [HL.out] at ct; clear hx hl; go_wp2_with fail; refine ct.mono ?_; clear ct; rintro e w2 ⟨G2, rfl, h2, -⟩; have H2 := Hf h2; clear h2; go_wp2; go_roundw
   case rel => exact ⟨j + 1, G2, by omega, by go_num, H2.out⟩
   case measure => simp [intOf]; omega
  ·obtain rfl : j = B := by omega
   have ct := hx.trim (j : Int); rw [HF.out] at ct; clear hx hl; go_wp2_with fail; refine ct.mono ?_; clear ct; rintro e w2 ⟨G2, rfl, h2, -⟩; have HQ := Hf (show ∃ q' G, Ending.returned (ptr q) = .returned (ptr q') ∧ Nl.LS w0 w2 G q' (Rm.lf n (j : Int)) ∧ Bl w w2 ∧ ∀ k, G k → w.heap.size ≤ k from ⟨q, G2, rfl, ls_low h2 HB0.out, h2.bel, fun k hk => (h2.mine k hk).1⟩); clear h2; go_wp2; go_ret; exact HQ.out
theorem RP.fresh {w0 w w1 w2 w3 : World} {ba bp bl : Nat} {Fa Fp Fl : Nat → Prop} {r : R} (hb0 : Bl w0 w) (hnm : Np.M.nde r.n r.me = true) (ha : Na.AS w0 w1 Fa ba r.a) (h1 : Bl w w1) (na : ∀ k, Fa k → w.heap.size ≤ k)
  (hp : Np.PS w0 w2 Fp bp r.p) (h2 : Bl w1 w2) (np : ∀ k, Fp k → w1.heap.size ≤ k) (hl : Nl.LS w0 w3 Fl bl r.l) (h3 : Bl w2 w3) (nl : ∀ k, Fl k → w2.heap.size ≤ k) :
  RP w0 (w3.alloc (rrow r ba bp bl)) w3.heap.size ba bp bl Fa Fp Fl r ∧ Below w.heap.size w (w3.alloc (rrow r ba bp bl)) ∧ ∀ k, uni w3.heap.size Fa Fp Fl k → w.heap.size ≤ k := by
 have h4 := bel1 w3 (rrow r ba bp bl); have s0 := hb0.size; have s1 := h1.size; have s2 := h2.size; have s3 := h3.size; refine ⟨⟨heap_alloc_last _ _, ((ha.keep h2).keep h3).keep h4, (hp.keep h3).keep h4, hl.keep h4, fun k e1 e2 => ?_, fun k e1 e2 => ?_, fun k e1 e2 => ?_, ⟨fun e => ?_, fun e => ?_, fun e => ?_⟩, by omega, hnm⟩, Bu (Bu (Bu h1 h2 Lr) h3 Lr) h4 Lr, ?_⟩
 ·have := (ha.mine k e1).2; have := np k e2; omega
 ·have := (ha.mine k e1).2; have := nl k e2; omega
 ·have := (hp.mine k e1).2; have := nl k e2; omega
 ·have := (ha.mine _ e).2; omega
 ·have := (hp.mine _ e).2; omega
 ·have := (hl.mine _ e).2; omega
 ·rintro k (rfl | e | e | e)
  ·omega
  ·exact na k e
  ·have := np k e; omega
  ·have := nl k e; omega
def NewO (w0 w : World) (n me : Int) (e : Ending) (w' : World) : Prop :=
 (Np.M.nde n me = false ∧ e = .returned (.pointer none) ∧ Bl w w') ∨ (Np.M.nde n me = true ∧ ∃ b G, e = .returned (ptr b) ∧ RS w0 w' G b (Rm.r0 n me) ∧ Bl w w' ∧ ∀ k, G k → w.heap.size ≤ k)
theorem new_any (w0 w : World) (hb : Bl w0 w) (n me : Int) : Calls prog 20 #[.int .i64 n, .int .i64 me] w (NewO w0 w n me) := by
 have ca := Na.newA_any w0 w hb; have cp := fun wq (hq : Bl w wq) => Np.newS_any w0 wq (Bu hb hq Lr) n me; have cl := fun wq (hq : Bl w wq) => Nl.newS_any w0 wq (Bu hb hq Lr) n; have HB0 := Hf hb; have hnn : Np.M.nde n me = true → Nl.M.nde n = true := fun h => by
  unfold Np.M.nde at h; unfold Nl.M.nde; simp only [Bool.and_eq_true, decide_eq_true_eq] at h ⊢; exact h.1.1
 have HN := Hf hnn; clear hb hnn; go_enter func20, ntmps20; go_wp2_with fail; refine ca.mono ?_; rintro e w1 ⟨ba, Fa, rfl, ha, b1, na⟩; have cp1 := cp w1 b1; have HA := Hf ha; have HB1 := Hf b1; have HNA := Hf na; clear ca cp ha b1 na; go_wp2_with fail; refine cp1.mono ?_; clear cp1; rintro e w2 (⟨hf, rfl, rfl⟩ | ⟨ht, bp, Fp, rfl, hp, b2, np⟩)
 ·have cl2 := cl w2 HB1.out; clear cl; go_wp2_with fail; refine cl2.mono ?_; clear cl2; rintro e w3 (⟨-, rfl, rfl⟩ | ⟨-, bl, Fl, rfl, hl, b3, nl⟩)
  ·have HQ : Hid (∀ o, NewO w0 w n me (.returned (.pointer none)) (w3.alloc o)) := fun o => .inl ⟨hf, rfl, Bu HB1.out (bel1 _ _) Lr⟩; obtain ⟨x0, _⟩ := row5 (heap_alloc_last w3 (.cells #[.int .i64 n, .int .i64 me, .pointer (some ⟨ba, 0, none⟩), .pointer none, .pointer none] 99)); go_wp2; go_ret; exact HQ.out _
  ·have HQ : Hid (∀ o, NewO w0 w n me (.returned (.pointer none)) (w3.alloc o)) := fun o => .inl ⟨hf, rfl, Bu (Bu HB1.out b3 Lr) (bel1 _ _) Lr⟩; obtain ⟨x0, _⟩ := row5 (heap_alloc_last w3 (.cells #[.int .i64 n, .int .i64 me, .pointer (some ⟨ba, 0, none⟩), .pointer none, .pointer (some ⟨bl, 0, none⟩)] 99)); clear hl b3 nl; go_wp2; go_ret; exact HQ.out _
 ·have cl2 := cl w2 (Bu HB1.out b2 Lr); have HP := Hf hp; have HB2 := Hf b2; have HNP := Hf np; clear cl hp b2 np; go_wp2_with fail; refine cl2.mono ?_; clear cl2; rintro e w3 (⟨hf, -, -⟩ | ⟨-, bl, Fl, rfl, hl, b3, nl⟩)
  ·rw [HN.out ht] at hf; cases hf
  obtain ⟨k1, k2, k3⟩ := RP.fresh (r := Rm.r0 n me) HB0.out ht HA.out HB1.out HNA.out HP.out HB2.out HNP.out hl b3 nl; obtain ⟨x0, _⟩ := row5 k1.row; have HQ : Hid (NewO w0 w n me (.returned (ptr w3.heap.size)) (w3.alloc (rrow (Rm.r0 n me) ba bp bl))) := .inr ⟨ht, _, _, rfl, k1.rs, k2, k3⟩; clear k1 k2 k3 hl b3 nl; go_wp2; go_ret; exact HQ.out
section
variable {w0 w : World} {b ba bp bl : Nat} {Fa Fp Fl : Nat → Prop} {r : R}
theorem RP.crash (h : RP w0 w b ba bp bl Fa Fp Fl r) : Calls prog 63 #[ptr b] w fun e w' => ∃ G, e = .returned (.tuple #[]) ∧ RS w0 w' G b (Rm.crS r) ∧ Fr w (uni b Fa Fp Fl) w' G := by
 have hnl : Nl.M.nde r.n = true := by
  have := h.n17; unfold Nl.M.nde; simp only [Bool.and_eq_true, decide_eq_true_eq]; exact this
 have HNL := Hf hnl; have HAB : Hid (0 ≤ r.a.base ∧ r.a.base ≤ 1024) := Hf ⟨h.ac.ok.b0, h.ac.ok.b1⟩; have HRP := Hf h; obtain ⟨x0, -⟩ := row5 h.row; have HFIN : Hid (∀ w' q q2 Gp Gl (_ : Unit), RP w0 w' b ba q q2 Fa Gp Gl (Rm.crS r) → Fr w (uni b Fa Fp Fl) w' (uni b Fa Gp Gl) → ∃ G, RS w0 w' G b (Rm.crS r) ∧ Fr w (uni b Fa Fp Fl) w' G) := fun w' q q2 Gp Gl _ h1 h2 => ⟨_, h1.rs, h2⟩; obtain ⟨SQ, HSQ⟩ : ∃ SQ : World → Prop, Hid (SQ = fun wq => ∃ x y, wq.heap[b]? = some (.cells #[.int .i64 r.n, .int .i64 r.me, ptr ba, x, y] 99 (0, 0))) := ⟨_, Hf rfl⟩; have HS : Hid (∀ wq, SQ wq → wq.cell? ⟨b, 0, none⟩ = some (.int .i64 r.n) ∧ wq.cell? ⟨b, 1, none⟩ = some (.int .i64 r.me) ∧ wq.cell? ⟨b, 2, none⟩ = some (ptr ba)) := fun wq hq => by
  rw [HSQ.out] at hq; obtain ⟨x, y, hq⟩ := hq; obtain ⟨⟨e0, e1, e2, -, -⟩, -⟩ := row5 hq; exact ⟨e0, e1, e2⟩
 have SK : Hid (∀ w', (∃ x y, w'.heap[b]? = some (.cells #[.int .i64 r.n, .int .i64 r.me, ptr ba, x, y] 99 (0, 0))) → SQ w') := fun w' hw' => by rw [HSQ.out]; exact hw'
 have HSI : Hid (SQ w.drew) := SK.out _ ⟨_, _, h.row⟩; clear h hnl HSQ; go_enter func63, ntmps63; go_upto_region 1 with fail
 clear x0; refine Wm (fun wq => SQ wq) HSI.out fun wdx hBwd Hl => ?_; have HBc := hBwd; refine Tm 0 Hl ?_; refine Tm 1 Hl ?_; refine Tm 2 Hl ?_; refine Tm 3 Hl ?_; refine Tj 4 Hl ?_; refine Tm 5 Hl ?_; refine Tm 6 Hl ?_; refine Tm 7 Hl ?_; refine Tj 8 Hl ?_; simp only [Act.put, Pz]; refine Rd 9 ?pJ ?sJ; intro K hK; go_simp; refine (Np.newS_any w0 _ (Bu HRP.out.bel HBc Lr) r.n r.me).mono ?_; rintro e v9 (⟨hf, -, -⟩ | ⟨-, q, Gp, rfl, hp, hb9, hn9⟩)
 ·rw [HRP.out.nm] at hf; cases hf
 obtain ⟨hrp2, hf2⟩ := HRP.out.newP hp (Bu HBc hb9 Lr) (fun k hk => Nat.le_trans HBc.size (hn9 k hk)); have hrv9 := Br HRP.out.row (Bu HBc hb9 Lr); have S9 := SK.out _ ⟨_, _, hrv9⟩; obtain ⟨y0, yf⟩ := row5 hrv9; have yf3 := yf 3; have HR2 := Hf hrp2; have HF2 := Hf hf2; clear hp hb9 hn9 hrp2 hf2 yf hrv9; refine hK.out _ _ S9 fun Hl => ?_; refine Tm 10 Hl ?_; refine Tm 11 Hl ?_; simp only [Act.put, Pz]; refine Rd 12 ?pM ?sM; intro K hK; go_simp; have S12 := SK.out (v9.setCell ⟨b, 3, none⟩ (ptr q)) ⟨_, _, HR2.out.row⟩; clear y0; refine hK.out _ _ S12 fun Hl => ?_; refine Wd ?_; go_upto_region 2 with fail
 obtain ⟨W2, HW2⟩ := Nq (v9.setCell ⟨b, 3, none⟩ (ptr q)); rw [HW2]; rw [HW2] at HR2 HF2 S12; clear HW2 yf3; have HSI2 : Hid (SQ W2.drew) := SK.out _ ⟨_, _, HR2.out.row⟩; refine Wm (fun wq => SQ wq) HSI2.out fun wdy hBwd Hl => ?_; have HBd := hBwd; refine Tm 0 Hl ?_; refine Tm 1 Hl ?_; refine Tm 2 Hl ?_; refine Tm 3 Hl ?_; refine Tj 4 Hl ?_; refine Tm 5 Hl ?_; refine Tm 6 Hl ?_; refine Tm 7 Hl ?_; refine Tj 8 Hl ?_; simp only [Act.put, Pz]; refine Rd 9 ?pW ?sW; intro K hK; go_simp; refine ((HR2.out.keep HBd).ac.base).mono ?_; rintro e v9b ⟨rfl, hv9⟩; subst hv9; refine hK.out _ _ Hl fun Hl => ?_; refine Rd 10 ?pX ?sX; intro K hK; go_simp; refine (learnerFrom_any w0 _ (Bu HR2.out.bel HBd Lr) r.n r.a.base HNL.out HAB.out.1 HAB.out.2).mono ?_; rintro e v10 ⟨q2, Gl, rfl, hl, hb10, hn10⟩; obtain ⟨hrp3, hf3⟩ := HR2.out.newL hl (Bu HBd hb10 Lr) (fun k hk => Nat.le_trans HBd.size (hn10 k hk)); have hrv10 := Br HR2.out.row (Bu HBd hb10 Lr); have S10 := SK.out _ ⟨_, _, hrv10⟩; obtain ⟨z0, zf⟩ := row5 hrv10; have zf4 := zf 4; have S13 := SK.out _ ⟨_, _, hrp3.row⟩; have HQ := Hf (HFIN.out _ _ _ _ _ () hrp3 (HF2.out.trans hf3)); clear hl hb10 hn10 hrp3 hf3 zf hrv10; refine hK.out _ _ S10 fun Hl => ?_; refine Tm 11 Hl ?_; refine Tm 12 Hl ?_; simp only [Act.put, Pz]; refine Rd 13 ?pa ?sa; intro K hK; go_simp; refine hK.out _ _ S13 fun Hl => ?_; refine Wd ?_; go_wp2; go_end0; obtain ⟨G, h1, h2⟩ := HQ.out; exact ⟨rfl, G, h1, h2⟩
end
end Go.Proofs.YtgodnpngdbelhaaGreat
