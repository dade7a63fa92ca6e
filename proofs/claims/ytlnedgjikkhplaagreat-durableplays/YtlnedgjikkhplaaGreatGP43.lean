import Derived.Test.YtlnedgjikkhplaaGreatGP42
set_option maxRecDepth 100000
set_option maxHeartbeats 8000000
set_option linter.unusedVariables false
set_option linter.unusedSimpArgs false
namespace Go.Proofs.YtlnedgjikkhplaaGreat.Du
open Go.RowKit
open Na (Fr AS XL vl bV vV Hf bel1 bel2 Bu Br row2 row4 blk OwnL AtL)
open Na.M (E V S S0)
open Ns (Hd XD)
open Ns.M (DD RR ofL)
def xj (x : X) (rs : List R) (j : Nat) : X := ⟨x.ar, x.ep, j, secs x.ep 0 (rs.take j), false, Du.mk (rs.take j)⟩
theorem xj_all {n : Nat} {P : List Ns.M.Pl} {x : X} {rs : List R} (hg : Gd n P x rs) : xj x rs rs.length = { x with cut := false } := by
 unfold xj; rw [List.take_length, hg.mk', ← hg.us, ← hg.cn]
theorem secs_take (e : Nat) (rs : List R) (j : Nat) (hj : j < rs.length) : secs e 0 (rs.take (j + 1)) = secs e 0 (rs.take j) + sec e j rs[j] := by
 have hlj : (rs.take j).length = j := by simp; omega
 rw [List.take_succ_eq_append_getElem hj, secs_app, hlj, Nat.zero_add]
 rfl
theorem secs_le (e : Nat) (rs : List R) (j : Nat) : secs e 0 (rs.take j) ≤ secs e 0 rs := by
 have := secs_app e (rs.take j) (rs.drop j) 0
 rw [List.take_append_drop] at this
 omega
theorem recs_take_drop (e : Nat) (rs : List R) (j : Nat) (hj : j ≤ rs.length) (m : List UInt8) : (recs e 0 rs ++ m).drop (secs e 0 (rs.take j) * 64) = recs e j (rs.drop j) ++ m := by
 have hlj : (rs.take j).length = j := by simp; omega
 have h1 : recs e 0 rs = recs e 0 (rs.take j) ++ recs e j (rs.drop j) := by
  have := recs_app e (rs.take j) (rs.drop j) 0
  rw [List.take_append_drop, hlj, Nat.zero_add] at this
  exact this
 rw [h1, List.append_assoc, List.drop_left' (by rw [recs_len])]
theorem rest_yes (e : Nat) (rs : List R) (j : Nat) (hj : j < rs.length) (m : List UInt8) : recs e j (rs.drop j) ++ m = Du.rec e j rs[j] ++ (recs e (j + 1) (rs.drop (j + 1)) ++ m) := by
 rw [recs_drop e rs j hj, List.append_assoc]
structure OB (w : World) (h : Hd) (D : DD) (y : X) (ad : Option Addr) (c : Nat) (W : World) : Prop where
 r1 : W.heap[w.heap.size]? = some (.cells #[.slice h.aN D.now.length h.cN, .slice h.aS D.sure.length h.cS, .slice h.aL D.loo.length h.cL, .bool D.lost] 34 (0, 0))
 r2 : W.heap[w.heap.size + 1]? = some (.cells Z13 41 (0, 0))
 r4 : W.heap[w.heap.size + 2]? = some (.cells (dvv ⟨h, ad, c⟩ D y) 41 (0, 0))
 xl : XL vl W ad c y.a.l
 lt : ∀ j, Na.blk ad j → w.heap.size + 3 ≤ j ∧ j < W.heap.size
 bel : Below w.heap.size w W
theorem OB.keep {w W W' : World} {h : Hd} {D : DD} {y : X} {ad : Option Addr} {c : Nat} (o : OB w h D y ad c W) (hb : Below W.heap.size W W') : OB w h D y ad c W' :=
 ⟨Br o.r1 hb, Br o.r2 hb, Br o.r4 hb, o.xl.keep hb, fun j hj => ⟨(o.lt j hj).1, Nat.lt_of_lt_of_le (o.lt j hj).2 hb.size⟩, Bu o.bel hb Lr⟩
theorem OB.sz {w W : World} {h : Hd} {D : DD} {y : X} {ad : Option Addr} {c : Nat} (o : OB w h D y ad c W) : w.heap.size + 3 ≤ W.heap.size := (Array.getElem?_eq_some_iff.1 o.r4).1
theorem OB.set {w W W' : World} {h : Hd} {D : DD} {y y' : X} {ad ad' : Option Addr} {c c' : Nat} (o : OB w h D y ad c W) (hr : W'.heap[w.heap.size + 2]? = some (.cells (dvv ⟨h, ad', c'⟩ D y') 41 (0, 0))) (ho : ∀ k, k ≠ w.heap.size + 2 → W'.heap[k]? = W.heap[k]?) (hs : W'.heap.size = W.heap.size) (hb : Below w.heap.size w W') (hx : XL vl W ad' c' y'.a.l) (hl : ∀ j, Na.blk ad' j → w.heap.size + 3 ≤ j ∧ j < W.heap.size) : OB w h D y' ad' c' W' :=
 ⟨(ho _ (by omega)).trans o.r1, (ho _ (by omega)).trans o.r2, hr, hx.keepBut (fun k hk hk2 => ho k (by have := (hl k hk2).1; omega)), fun j hj => by rw [hs]; exact hl j hj, hb⟩
theorem f11_res : Tryz.f11.results = #[.cell 2 41, .tmp 3] := rfl
def DOo (w : World) (h : Hd) (D : DD) (n : Nat) (P : List Ns.M.Pl) (x : X) (e : Ending) (w' : World) : Prop :=
 ∃ a2 c2, e = .returned (.tuple #[.agg (dvv ⟨h, a2, c2⟩ D { x with cut := false }), .int .i64 0]) ∧ XX w' ⟨h, a2, c2⟩ D n P { x with cut := false } ∧ (∀ k, Na.blk a2 k → w.heap.size ≤ k) ∧ Below w.heap.size w w'
def nof (w : World) (B : Nat) : Nat := match w.cell? ⟨B, 7, none⟩ with
 | some v => (intOf v).toNat
 | none => 0
theorem OB.nof {w W : World} {h : Hd} {D : DD} {y : X} {ad : Option Addr} {c : Nat} (o : OB w h D y ad c W) : nof W (w.heap.size + 2) = y.n := by
 obtain ⟨⟨_, _, _, _, _, _, _, z7, _, _, _, _, _⟩, zf⟩ := rowD o.r4
 unfold Du.nof; rw [z7]
 simp [intOf]
section
variable {w : World} {h : Hd} {D : DD} {n : Nat} {P : List Ns.M.Pl} {x : X} {rs : List R}
theorem dopen_any (hx : XD w h D) (rr : RR n P false D) (hg : Gd n P x rs) : Calls Tryz.prog 11 #[.agg (h.vals D)] w (DOo w h D n P x) := by
 unfold Ns.Hd.vals
 obtain ⟨W1, HW1⟩ := Nh ((w.alloc (.cells #[.slice h.aN D.now.length h.cN, .slice h.aS D.sure.length h.cS, .slice h.aL D.loo.length h.cL, .bool D.lost] 34)).alloc (.cells Z13 41))
 have hs1 : W1.heap.size = w.heap.size + 2 := by rw [← HW1.out]; simp
 have hb1 : Below w.heap.size w W1 := by rw [← HW1.out]; exact bel2 w _ _
 have hr1 : W1.heap[w.heap.size]? = some (.cells #[.slice h.aN D.now.length h.cN, .slice h.aS D.sure.length h.cS, .slice h.aL D.loo.length h.cL, .bool D.lost] 34 (0, 0)) := by rw [← HW1.out]; exact heap_alloc2_old w _ _
 have hr2 : W1.heap[w.heap.size + 1]? = some (.cells Z13 41 (0, 0)) := by rw [← HW1.out]; exact heap_alloc2_new w _ _
 have hn10 := hg.n10
 have hln := rr.ok.l1
 have hd10 : decide ((D.now.length : Int) < 10) = false := decide_eq_false (by omega)
 have hd10b : decide (D.now.length < 10) = false := decide_eq_false (by omega)
 obtain ⟨⟨x0, x1, x2, x3⟩, _⟩ := row4 hr1
 obtain ⟨W2, hW2⟩ := Nq ((W1.alloc (.cells Z13 41)).setRow (w.heap.size + 2) (dvv ⟨h, none, 0⟩ D X0))
 have hra : (W1.alloc (.cells Z13 41)).heap[w.heap.size + 2]? = some (.cells Z13 41 (0, 0)) := by rw [← hs1]; exact heap_alloc_last W1 _
 have hst0 : (st41 ⟨w.heap.size + 2, 0, none⟩ (⟨((((Z13.toList.set 0 (.slice h.aN D.now.length h.cN)).set 1 (.slice h.aS D.sure.length h.cS)).set 2 (.slice h.aL D.loo.length h.cL)).set 3 (.bool D.lost))⟩ : Array Value)).run Tryz.prog (W1.alloc (.cells Z13 41)) = .ok () W2 := by
  rw [← hW2]
  exact store41_row rfl ⟨h, none, 0⟩ D X0 hra
 have HOB : Hid (OB w h D X0 none 0 W2) := Hf (by
  rw [← hW2]
  have hb2 : Below W1.heap.size W1 ((W1.alloc (.cells Z13 41)).setRow (w.heap.size + 2) (dvv ⟨h, none, 0⟩ D X0)) := below_setRow (bel1 W1 _) (by omega) _
  exact ⟨Br hr1 hb2, Br hr2 hb2, setRow_heap _ _ _ (dvv ⟨h, none, 0⟩ D X0) _ _ hra, XL.emp _, fun j hj => (no_blk hj).elim, Bu hb1 hb2 Lr⟩)
 have HX := Hf hx
 have HRR := Hf rr
 have HG := Hf hg
 have HN := Hf hln
 have HN8 : Hid (8 ≤ n) := Hf (by omega)
 have HN4 := Hf hg.nle
 clear hb1 hr1 hr2 hx rr hg hra hW2 hn10 hln
 go_enter Tryz.func11, Tryz.ntmps11
 go_upto_region 1 with fail
 rw [HW1.out]; clear HW1
 go_upto_region 4 with fail
 clear x0 x1 x2 x3 hst0 hs1 hd10 hd10b
 have hrd := dsread_any (HX.out.keep HOB.out.bel) HRR.out HG.out.len HG.out.ok HN8.out
 rw [HG.out.st] at hrd
 obtain ⟨⟨x0, x1, x2, x3⟩, _⟩ := row4 HOB.out.r1
 unfold Ns.Hd.vals at hrd
 have hrc : Ns.rcode (x.ep, bif decide (x.ep = 0) then [] else [UInt8.ofNat x.ar]) = if x.ep = 0 then 7 else 0 := by
  unfold Ns.rcode
  by_cases h0 : x.ep = 0
  ·rw [if_pos h0, decide_eq_true h0]; rfl
  ·rw [if_neg h0, decide_eq_false h0]; rfl
 rw [hrc] at hrd; clear hrc
 go_wp2_with fail
 refine hrd.mono ?_; rintro e w2 ⟨rfl, hb2⟩
 have HO2 := Hf (HOB.out.keep hb2)
 clear hrd hb2 x0 x1 x2 x3 HOB
 have har := HG.out.ar
 obtain ⟨cd, hcd⟩ : ∃ cd : Int, (if x.ep = 0 then 7 else 0) = cd := ⟨_, rfl⟩
 obtain ⟨s5, hs5⟩ := Nq (ofL (bif decide (x.ep = 0) then [] else [UInt8.ofNat x.ar]))
 rw [hcd, hs5]
 have HCD : Hid ((x.ep = 0 ∧ x.ar = 0 ∧ cd = 7) ∨ (cd = 0 ∧ x.ar = 0 ∧ s5 = ⟨#[0]⟩) ∨ (cd = 0 ∧ x.ar = 1 ∧ s5 = ⟨#[1]⟩)) := Hf (by
  by_cases h0 : x.ep = 0
  ·rw [if_pos h0] at hcd
   exact .inl ⟨h0, HG.out.a0 h0, hcd.symm⟩
  ·rw [if_neg h0] at hcd
   rw [decide_eq_false h0] at hs5
   rcases (show x.ar = 0 ∨ x.ar = 1 by omega) with e | e
   ·rw [e] at hs5
    exact .inr (.inl ⟨hcd.symm, e, hs5.symm⟩)
   ·rw [e] at hs5
    exact .inr (.inr ⟨hcd.symm, e, hs5.symm⟩))
 clear hcd hs5
 go_upto_region 5 with fail
 go_cut [31] from 26 to 31 (fun s wx => s = .bool false ∧ wx = w2)
 case first =>
  rcases HCD.out with ⟨-, -, h7⟩ | ⟨h7, -⟩ | ⟨h7, -⟩
  ·subst h7
   go_wp2_with fail
   go_meet
   case rel => exact ⟨rfl, rfl⟩
  ·subst h7
   go_wp2_with fail
   go_meet
   case rel => exact ⟨rfl, rfl⟩
  ·subst h7
   go_wp2_with fail
   go_meet
   case rel => exact ⟨rfl, rfl⟩
 case rest =>
  obtain ⟨rfl, hwc⟩ := hcut
  rw [hwc]; clear hwc
  go_upto_if 35 with fail
  have HX5 : Hid (∀ k : Nat, k = x.ar → OB w h D (xj x rs 0) none 0 ((w2.setCell ⟨w.heap.size + 2, 4, none⟩ (.int .i64 k)).setCell ⟨w.heap.size + 2, 5, none⟩ (.int .i64 x.ep))) := Hf (fun k hk => by
   subst hk
   refine HO2.out.set (y' := xj x rs 0) (ad' := none) (c' := 0) (heap_setCell_same _ _ 5 _ _ _ (heap_setCell_same _ _ 4 _ _ _ HO2.out.r4)) (fun k hk => ?_) (by simp) ((HO2.out.bel.setCell (by show w.heap.size ≤ w.heap.size + 2; omega) _).setCell (by show w.heap.size ≤ w.heap.size + 2; omega) _) (XL.emp _) (fun j hj => (no_blk hj).elim)
   rw [heap_setCell_other _ ⟨w.heap.size + 2, 5, none⟩ k _ hk, heap_setCell_other _ ⟨w.heap.size + 2, 4, none⟩ k _ hk])
  obtain ⟨⟨_, _, _, _, z4, z5, _, _, _, _, _, _, _⟩, zf⟩ := rowD HO2.out.r4
  have zf4 := zf 4
  have zf5 := zf 5
  clear zf
  go_cut [] from 36 to 48 (fun wx => OB w h D (xj x rs 0) none 0 wx)
  case first =>
   rcases HCD.out with ⟨h0, h1, h7⟩ | ⟨h7, h1, h5⟩ | ⟨h7, h1, h5⟩
   ·have HQ : Hid (OB w h D (xj x rs 0) none 0 w2) := Hf (by
     have e : xj x rs 0 = X0 := by unfold xj; rw [h0, h1]; rfl
     rw [e]
     exact HO2.out)
    subst h7; clear h0 h1
    go_wp2_with fail
    go_meet
    case rel => exact HQ.out
   ·have HQ := Hf (HX5.out 0 h1.symm)
    subst h7; subst h5; clear h1
    have e : ∀ p, wrap64 (((⟨#[0]⟩ : ByteArray)[0]'p).toNat : Int) = (((0 : Nat)) : Int) := fun p => by show wrap64 ((0 : Nat) : Int) = _; unfold wrap64; omega
    go_wp2_with fail
    go_meet
    case rel => first | exact HQ.out | (rw [e]; exact HQ.out)
   ·have HQ := Hf (HX5.out 1 h1.symm)
    subst h7; subst h5; clear h1
    have e : ∀ p, wrap64 (((⟨#[1]⟩ : ByteArray)[0]'p).toNat : Int) = (((1 : Nat)) : Int) := fun p => by show wrap64 ((1 : Nat) : Int) = _; unfold wrap64; omega
    go_wp2_with fail
    go_meet
    case rel => first | exact HQ.out | (rw [e]; exact HQ.out)
  case rest =>
   clear HX5 z4 z5 zf4 zf5 HCD HO2
   have HOC := Hf hcut
   clear hcut
   obtain ⟨r1, r2⟩ := rtext_ar (P := P) HG.out.n10 x.ar har
   obtain ⟨A0, hA0⟩ := Nq (((8 + x.ar * hf n : Nat) : Int))
   have hh4 : hf n ≤ 4096 := by have := HN4.out; unfold hf; omega
   have HA1 : Hid (IntKind.i64.wrap (8 + IntKind.i64.wrap ((x.ar : Int) * (hf n : Int))) = A0) := Hf (by
    rw [← hA0]
    exact wrapA x.ar (hf n) (by have h3 := mul_le1 (k := x.ar) (h := hf n) har; omega))
   rw [hA0] at r1 r2
   obtain ⟨TT, hTT⟩ := Nq (ofL (arT n P x.ar))
   have HRD : Hid (∀ W, Below wc.heap.size wc W → Calls Tryz.prog 41 #[.agg #[.slice h.aN D.now.length h.cN, .slice h.aS D.sure.length h.cS, .slice h.aL D.loo.length h.cL, .bool D.lost], .int .i64 A0, .int .i64 (hf n : Nat)] W fun e w' => e = .returned (.tuple #[.string TT, .int .i64 0]) ∧ Below W.heap.size W w') := Hf (fun W hW => by
    refine (Ns.rread_any h D A0 ((hf n : Nat) : Int) W (by rw [HRR.out.ok.l1]; exact HRR.out.ok.n1.2) HRR.out.ok.s1 ((HX.out.keep HOC.out.bel).keep hW)).mono ?_; rintro e w' ⟨rfl, hb⟩
    rw [HRR.out.read, HRR.out.ok.l1, HRR.out.ls, r1, r2, hTT]
    exact ⟨rfl, hb⟩)
   have HS : Hid (∀ w', Below wc.heap.size wc w' → (w'.cell? ⟨w.heap.size, 0, none⟩ = some (.slice h.aN D.now.length h.cN) ∧ w'.cell? ⟨w.heap.size, 1, none⟩ = some (.slice h.aS D.sure.length h.cS) ∧ w'.cell? ⟨w.heap.size, 2, none⟩ = some (.slice h.aL D.loo.length h.cL) ∧ w'.cell? ⟨w.heap.size, 3, none⟩ = some (.bool D.lost)) ∧ w'.cell? ⟨w.heap.size + 2, 4, none⟩ = some (.int .i64 x.ar)) := Hf fun w' hb => by
    obtain ⟨⟨_, _, _, _, z4, _, _, _, _, _, _, _, _⟩, zf⟩ := rowD (Br HOC.out.r4 hb)
    exact ⟨(row4 (Br HOC.out.r1 hb)).1, z4⟩
   have HTT : Hid (TT = ofL (recs x.ep 0 rs ++ List.replicate ((hf n - x.us) * 64) 0)) := Hf (by rw [← hTT, HG.out.tx])
   clear r1 r2 hA0 hTT
   go_wp2_with fail
   refine wp_region_held_drew (S := fun wq => Below (wc).heap.size (wc) wq) (by kernel_rfl) (Below.drew (Below.refl _ _)) fun Hl => ?_
   obtain ⟨wdx, hwdx⟩ := Nq (wc.drew)
   have hBwd : Below wc.heap.size wc wdx := by rw [← hwdx]; exact Below.drew (Below.refl _ _)
   rw [hwdx] at Hl ⊢; clear hwdx
   refine Tk 0 ?pA ?vA ?yA Hl ?rA
   case yA => intro q h; obtain ⟨⟨x0, x1, x2, x3⟩, z4⟩ := HS.out q h; go_simp; try with_reducible rfl
   refine Tm 1 ?pB ?vB Hl ?rB
   refine Tk 2 ?pC ?vC ?yC Hl ?rC
   case yC => intro q h; obtain ⟨⟨x0, x1, x2, x3⟩, z4⟩ := HS.out q h; go_simp; try with_reducible rfl
   refine Tk 3 ?pD ?vD ?yD Hl ?rD
   case yD => intro q h; obtain ⟨⟨x0, x1, x2, x3⟩, z4⟩ := HS.out q h; go_simp; try with_reducible rfl
   refine Tk 7 ?pE ?vE ?yE Hl ?rE
   case yE => intro q h; obtain ⟨⟨x0, x1, x2, x3⟩, z4⟩ := HS.out q h; go_simp; try with_reducible rfl
   simp only [Act.put, Pa, Pb, Pc]
   refine Rd 4 ?pF ?sF
   intro K hK; go_simp
   refine (half_any h D n _ HN.out HN8.out HN4.out).mono ?_; rintro e v4 ⟨rfl, hb4⟩
   have B4 := Hl.trans (hb4.mono Hl.size)
   refine hK.out _ _ B4 fun Hl => ?_; clear hK K
   refine Tm 5 ?pG ?vG Hl ?rG
   refine Tm 6 ?pH ?vH Hl ?rH
   simp only [Act.put, Pa, Pb, Pc]
   refine Rd 8 ?pI ?sI
   intro K hK; go_simp
   refine (half_any h D n _ HN.out HN8.out HN4.out).mono ?_; rintro e v8 ⟨rfl, hb8⟩
   have B8 := Hl.trans (hb8.mono Hl.size)
   refine hK.out _ _ B8 fun Hl => ?_; clear hK K
   refine Rd 9 ?pJ ?sJ
   intro K hK; go_simp; rw [HA1.out]
   refine (HRD.out _ Hl).mono ?_; rintro e v9 ⟨rfl, hb9⟩
   have B9 := Hl.trans (hb9.mono Hl.size)
   refine hK.out _ _ B9 fun Hl => ?_; clear hK K
   refine Tm 10 ?pK ?vK Hl ?rK
   refine Tm 11 ?pL ?vL Hl ?rL
   refine Tm 12 ?pM ?vM Hl ?rM
   refine Tm 13 ?pN ?vN Hl ?rN
   refine Tm 14 ?pO ?vO Hl ?rO
   simp only [Act.put, Pa, Pb, Pc]
   refine wpAnyH_done (by kernel_rfl) ?_ _
   have HOS := Hf (HOC.out.keep Hl)
   clear Hl HS HRD HA1 HOC
   have hsz : TT.size = hf n * 64 := by
    rw [HTT.out, Ns.M.ofL_size, List.length_append, recs_len, List.length_replicate, ← HG.out.us]
    have := HG.out.le
    omega
   go_wp2
   go_loopw [] (fun wr => ∃ (j : Nat) (ad : Option Addr) (c : Nat), j ≤ rs.length ∧ OB w h D (xj x rs j) ad c wr) (fun wr => rs.length - nof wr (w.heap.size + 2))
   case atStart => exact ⟨0, none, 0, Nat.zero_le _, HOS.out⟩
   case round =>
    obtain ⟨j, ad, c, hj, how⟩ := hrel
    have HOW := Hf how
    clear how HOS
    obtain ⟨U, hU⟩ := Nq (secs x.ep 0 (rs.take j))
    have hUl : U ≤ hf n := by have h1 := secs_le x.ep rs j; have h2 := HG.out.us; have h3 := HG.out.le; omega
    have HTU : Hid (TT.extract (64 * U) TT.size = ofL (recs x.ep j (rs.drop j) ++ List.replicate ((hf n - x.us) * 64) 0)) := Hf (by
     rw [← recs_take_drop x.ep rs j hj, hU, Nat.mul_comm U 64]
     have e := Nc.ofL_drop (recs x.ep 0 rs ++ List.replicate ((hf n - x.us) * 64) 0) (64 * U) TT.size (by rw [HTT.out, Ns.M.ofL_size]; exact Nat.le_refl _)
     have e2 : Nc.ofL (recs x.ep 0 rs ++ List.replicate ((hf n - x.us) * 64) 0) = TT := HTT.out.symm
     rw [e2] at e
     exact e)
    obtain ⟨TU, hTU⟩ := Nq (TT.extract (64 * U) TT.size)
    obtain ⟨d, z, q, hq, hzb, hnx⟩ : ∃ (d : S) (z : Nat) (q : Bool), ((j < rs.length ∧ d = Du.mk (rs.take (j + 1)) ∧ secs x.ep 0 (rs.take (j + 1)) = U + z ∧ q = true) ∨ (j = rs.length ∧ q = false)) ∧ z ≤ 100 ∧ ∀ W, Below wr.heap.size wr W → Calls Tryz.prog 43 #[.agg (dvv ⟨h, ad, c⟩ D (xj x rs j)), .string TU] W fun e w' => ∃ a2 c2, e = .returned (.tuple #[Na.aV d a2 c2, .int .i64 z, .bool q]) ∧ XL vl w' a2 c2 d.l ∧ (∀ k, Na.blk a2 k → (Na.blk ad k ∨ W.heap.size ≤ k) ∧ k < w'.heap.size) ∧ Below W.heap.size W w' := by
     have hep := HG.out.ep
     have hnn := HG.out.nn
     have hcn := HG.out.cn
     have hh4 : hf n ≤ 2044 := by have := HN4.out; unfold hf; omega
     have hz : TU.size ≤ TT.size := by rw [← hTU, ByteArray.size_extract]; omega
     rw [hTU] at HTU
     by_cases hlt : j < rs.length
     ·have hwf := HG.out.wf rs[j] (List.getElem_mem _)
      have hrl := rec_le x.ep j rs[j] (by omega) (by omega) hwf
      rw [rec_len] at hrl; rw [rest_yes x.ep rs j hlt] at HTU
      have hl : (recs x.ep (j + 1) (rs.drop (j + 1)) ++ List.replicate ((hf n - x.us) * 64) 0).length ≤ 300000 := by
       rw [HTU.out, Ns.M.ofL_size, List.length_append] at hz
       omega
      refine ⟨Du.mk (rs.take (j + 1)), sec x.ep j rs[j], true, .inl ⟨hlt, rfl, by rw [secs_take x.ep rs j hlt, hU], rfl⟩, by omega, fun W hW => ?_⟩
      rw [HTU.out]
      have hc := dnext_yes (H := ⟨h, ad, c⟩) (D := D) (x := xj x rs j) (HOW.out.keep hW).xl (fun k hk => ((HOW.out.keep hW).lt k hk).2) (mk_ok _) rs[j] hwf (recs x.ep (j + 1) (rs.drop (j + 1)) ++ List.replicate ((hf n - x.us) * 64) 0) (by show x.ep ≤ _; omega) (by show j ≤ _; omega) hl
      have e : redo (xj x rs j).a rs[j] = Du.mk (rs.take (j + 1)) := (mk_step rs j hlt).symm
      unfold NxY at hc; rw [e] at hc
      exact hc
     ·have hje : j = rs.length := by omega
      refine ⟨Du.mk (rs.take j), 0, false, .inr ⟨hje, rfl⟩, by omega, fun W hW => ?_⟩
      have e : recs x.ep j (rs.drop j) = [] := by rw [hje, List.drop_of_length_le Lr]; rfl
      rw [e, List.nil_append] at HTU; rw [HTU.out]
      refine (dnext_no (w := W) (H := ⟨h, ad, c⟩) (D := D) (x := xj x rs j) ((hf n - x.us) * 64) (by omega)).mono ?_; rintro e w' ⟨rfl, hb⟩
      have hk := (HOW.out.keep hW).keep hb
      exact ⟨ad, c, rfl, hk.xl, fun k hk2 => ⟨.inl hk2, (hk.lt k hk2).2⟩, hb⟩
    have HNX := Hf hnx
    have HQ := Hf hq
    have HS : Hid (∀ w', Below wr.heap.size wr w' → w'.cell? ⟨w.heap.size + 2, 6, none⟩ = some (.int .i64 U) ∧ (ld41 ⟨w.heap.size + 2, 0, none⟩).run Tryz.prog w' = .ok (dvv ⟨h, ad, c⟩ D (xj x rs j)) w') := Hf fun w' hb => by
     obtain ⟨⟨_, _, _, _, _, _, z6, _, _, _, _, _, _⟩, zf⟩ := rowD (Br HOW.out.r4 hb)
     refine ⟨?_, load41_row (Br HOW.out.r4 hb)⟩
     rw [← hU]
     exact z6
    have hwU : IntKind.i64.wrap (64 * (U : Int)) = ((64 * U : Nat) : Int) := by
     have hh4 : hf n ≤ 2044 := by have := HN4.out; unfold hf; omega
     rw [IntKind.wrap_i64]
     omega
    have hc1 : 0 ≤ IntKind.i64.wrap (64 * (U : Int)) := by rw [hwU]; omega
    have hc2 : IntKind.i64.wrap (64 * (U : Int)) ≤ ((hf n : Nat) : Int) * 64 := by rw [hwU]; omega
    have hc3 : (IntKind.i64.wrap (64 * (U : Int))).toNat = 64 * U := by rw [hwU]; omega
    rw [hsz] at hTU; clear hwU
    have HUU := Hf hU
    clear hq hnx hU HTU
    go_upto_region 13 with fail
    go_cut [10, 11, 12] from 62 to 72 (fun p e b wx => ∃ bz a2 c2, p = ptr bz ∧ e = .int .i64 z ∧ b = .bool q ∧ wx.heap[bz]? = some (.cells #[.int .i64 d.p.i, .int .i64 d.p.t, .int .i64 d.base, .slice a2 d.l.length c2] 39 (0, 0)) ∧ XL vl wx a2 c2 d.l ∧ (∀ k, Na.blk a2 k → Na.blk ad k ∨ wr.heap.size ≤ k) ∧ (∀ k, Na.blk a2 k → k < wx.heap.size) ∧ wr.heap.size ≤ bz ∧ Below wr.heap.size wr wx)
    case first =>
     refine wp_region_held_drew (S := fun wq => Below (wr).heap.size (wr) wq) (by kernel_rfl) (Below.drew (Below.refl _ _)) fun Hl => ?_
     obtain ⟨wdy, hwdy⟩ := Nq (wr.drew)
     have hBwd : Below wr.heap.size wr wdy := by rw [← hwdy]; exact Below.drew (Below.refl _ _)
     rw [hwdy] at Hl ⊢; clear hwdy
     refine Tk 0 ?pP ?vP ?yP Hl ?rP
     case yP => intro q h; obtain ⟨z6, zl⟩ := HS.out q h; go_simp; try with_reducible rfl
     refine Tm 1 ?pQ ?vQ Hl ?rQ
     refine Tk 2 ?pR ?vR ?yR Hl ?rR
     case yR => intro q h; obtain ⟨z6, zl⟩ := HS.out q h; go_simp; try with_reducible rfl
     refine Tk 3 ?pS ?vS ?yS Hl ?rS
     case yS => intro q h; obtain ⟨z6, zl⟩ := HS.out q h; go_simp; try with_reducible rfl
     refine Tm 4 ?pT ?vT Hl ?rT
     refine Tm 5 ?pU ?vU Hl ?rU
     simp only [Act.put, Pa, Pb, Pc]
     refine Rn [6, 11] (Rc ?pV ?sV (Rc ?pW ?sW AllReadyH.nil))
     case sV =>
      intro K hK; go_simp
      refine (HNX.out _ Hl).mono ?_; rintro e v6 ⟨a2, c2, rfl, hxl, hbk, hb6⟩
      have hbk3 : ∀ k, Na.blk a2 k → (Na.blk ad k ∨ wr.heap.size ≤ k) := fun k hk => (hbk k hk).1.imp id (fun h => Nat.le_trans Hl.size h)
      have hlt6 : ∀ k, Na.blk a2 k → k < v6.heap.size := fun k hk => (hbk k hk).2
      have B6 := Hl.trans (hb6.mono Hl.size)
      refine hK.out _ _ B6 fun Hl => ?_; clear hK K
      refine Tk 7 ?pX ?vX ?yX Hl ?rX
      case yX => intro q h; obtain ⟨z6, zl⟩ := HS.out q h; go_simp; try with_reducible rfl
      refine Tm 8 ?pY ?vY Hl ?rY
      refine Tm 9 ?pZ ?vZ Hl ?rZ
      refine Tm 10 ?pa ?va Hl ?ra
      simp only [Act.put, Pa, Pb, Pc]
      refine Rd 11 ?pb ?sb
      intro K hK; go_simp
      obtain ⟨wa6a, hwa⟩ := Nq (v6.alloc (.cells #[.int .i64 0, .int .i64 0, .int .i64 0, .slice none 0 0] 39))
      rw [hwa]
      have hba : Below v6.heap.size v6 wa6a := by rw [← hwa]; exact bel1 _ _
      have hz : wa6a.heap[v6.heap.size]? = some (.cells #[.int .i64 0, .int .i64 0, .int .i64 0, .slice none 0 0] 39 (0, 0)) := by rw [← hwa]; exact heap_alloc_last _ _
      obtain ⟨bz, hbz⟩ := Nq (v6.heap.size)
      rw [hbz] at hz ⊢
      have hbzW : wr.heap.size ≤ bz := by rw [← hbz]; exact Hl.size
      have hbzc : v6.heap.size ≤ bz := by rw [← hbz]; exact Nat.le_refl _
      clear hwa hbz
      have Ba6a := Hl.trans (hba.mono Hl.size)
      have hnz : ¬ Na.blk a2 bz := fun e => by have := hlt6 bz e; omega
      have hxl := hxl.keep hba
      have hlt6 := fun k hk => Nat.lt_of_lt_of_le (hlt6 k hk) hba.size
      obtain ⟨⟨k0, k1, k2, k3⟩, kf⟩ := row4 hz
      have kf0 := kf 0
      have kf1 := kf 1
      have kf2 := kf 2
      have kf3 := kf 3
      refine hK.out _ _ Ba6a fun Hl => ?_; clear hK K
      refine Rd 12 ?pc ?sc
      intro K hK; go_simp
      obtain ⟨ws611s, hws⟩ := Nq (Na.put4 wa6a bz (.int .i64 d.p.i) (.int .i64 d.p.t) (.int .i64 d.base) (.slice a2 d.l.length c2))
      have hz2 := Na.put4_row hz (.int .i64 d.p.i) (.int .i64 d.p.t) (.int .i64 d.base) (.slice a2 d.l.length c2)
      have hzo : ∀ k, k ≠ bz → ws611s.heap[k]? = wa6a.heap[k]? := fun k hk => by rw [← hws]; exact Na.put4_oth hk _ _ _ _
      have hzs : ws611s.heap.size = wa6a.heap.size := by rw [← hws]; simp [Na.put4]
      have hBs := Na.put4_bel Hl hbzW (.int .i64 d.p.i) (.int .i64 d.p.t) (.int .i64 d.base) (.slice a2 d.l.length c2)
      rw [hws] at hz2 hBs
      have hxl2 := hxl.keepBut (w' := ws611s) (fun k _ hk => hzo k (fun e => hnz (e ▸ hk)))
      have hlt2 : ∀ k, Na.blk a2 k → k < ws611s.heap.size := fun k hk => by rw [hzs]; exact hlt6 k hk
      unfold Na.put4 at hws; rw [hws]; clear hws
      refine hK.out _ _ hBs fun Hl => ?_; clear hK K
      refine Tm 13 ?pd ?vd Hl ?rd
      refine Tm 14 ?pe ?ve Hl ?re
      simp only [Act.put, Pa, Pb, Pc]
      refine wpAnyH_done (by kernel_rfl) ?_ _
      clear HS
      go_wp2_with fail
      go_meet
      case rel => exact ⟨bz, a2, c2, rfl, rfl, rfl, hz2, hxl2, hbk3, hlt2, hbzW, Hl⟩
     case sW =>
      intro K hK; go_simp
      obtain ⟨waa, hwa⟩ := Nq (wdy.alloc (.cells #[.int .i64 0, .int .i64 0, .int .i64 0, .slice none 0 0] 39))
      rw [hwa]
      have hba : Below wdy.heap.size wdy waa := by rw [← hwa]; exact bel1 _ _
      have hz : waa.heap[wdy.heap.size]? = some (.cells #[.int .i64 0, .int .i64 0, .int .i64 0, .slice none 0 0] 39 (0, 0)) := by rw [← hwa]; exact heap_alloc_last _ _
      obtain ⟨bz, hbz⟩ := Nq (wdy.heap.size)
      rw [hbz] at hz ⊢
      have hbzW : wr.heap.size ≤ bz := by rw [← hbz]; exact Hl.size
      have hbzc : wdy.heap.size ≤ bz := by rw [← hbz]; exact Nat.le_refl _
      clear hwa hbz
      have Baa := Hl.trans (hba.mono Hl.size)
      refine hK.out _ _ Baa fun Hl => ?_; clear hK K
      refine Rd 6 ?pf ?sf
      intro K hK; go_simp
      refine (HNX.out _ Hl).mono ?_; rintro e v6 ⟨a2, c2, rfl, hxl, hbk, hb6⟩
      have hbk3 : ∀ k, Na.blk a2 k → (Na.blk ad k ∨ wr.heap.size ≤ k) := fun k hk => (hbk k hk).1.imp id (fun h => Nat.le_trans Hl.size h)
      have hlt6 : ∀ k, Na.blk a2 k → k < v6.heap.size := fun k hk => (hbk k hk).2
      have B6 := Hl.trans (hb6.mono Hl.size)
      have hnz : ¬ Na.blk a2 bz := fun e => by
       rcases (hbk bz e).1 with e | e
       ·have := (HOW.out.lt bz e).2; omega
       ·have := (Array.getElem?_eq_some_iff.1 hz).1; omega
      have hz := Br hz hb6
      obtain ⟨⟨k0, k1, k2, k3⟩, kf⟩ := row4 hz
      have kf0 := kf 0
      have kf1 := kf 1
      have kf2 := kf 2
      have kf3 := kf 3
      refine hK.out _ _ B6 fun Hl => ?_; clear hK K
      refine Tk 7 ?pg ?vg ?yg Hl ?rg
      case yg => intro q h; obtain ⟨z6, zl⟩ := HS.out q h; go_simp; try with_reducible rfl
      refine Tm 8 ?ph ?vh Hl ?rh
      refine Tm 9 ?pi ?vi Hl ?ri
      refine Tm 10 ?pj ?vj Hl ?rj
      simp only [Act.put, Pa, Pb, Pc]
      refine Rd 12 ?pk ?sk
      intro K hK; go_simp
      obtain ⟨ws116s, hws⟩ := Nq (Na.put4 v6 bz (.int .i64 d.p.i) (.int .i64 d.p.t) (.int .i64 d.base) (.slice a2 d.l.length c2))
      have hz2 := Na.put4_row hz (.int .i64 d.p.i) (.int .i64 d.p.t) (.int .i64 d.base) (.slice a2 d.l.length c2)
      have hzo : ∀ k, k ≠ bz → ws116s.heap[k]? = v6.heap[k]? := fun k hk => by rw [← hws]; exact Na.put4_oth hk _ _ _ _
      have hzs : ws116s.heap.size = v6.heap.size := by rw [← hws]; simp [Na.put4]
      have hBs := Na.put4_bel Hl hbzW (.int .i64 d.p.i) (.int .i64 d.p.t) (.int .i64 d.base) (.slice a2 d.l.length c2)
      rw [hws] at hz2 hBs
      have hxl2 := hxl.keepBut (w' := ws116s) (fun k _ hk => hzo k (fun e => hnz (e ▸ hk)))
      have hlt2 : ∀ k, Na.blk a2 k → k < ws116s.heap.size := fun k hk => by rw [hzs]; exact hlt6 k hk
      unfold Na.put4 at hws; rw [hws]; clear hws
      refine hK.out _ _ hBs fun Hl => ?_; clear hK K
      refine Tm 13 ?pl ?vl Hl ?rl
      refine Tm 14 ?pm ?vm Hl ?rm
      simp only [Act.put, Pa, Pb, Pc]
      refine wpAnyH_done (by kernel_rfl) ?_ _
      clear HS
      go_wp2_with fail
      go_meet
      case rel => exact ⟨bz, a2, c2, rfl, rfl, rfl, hz2, hxl2, hbk3, hlt2, hbzW, Hl⟩
    case rest =>
     obtain ⟨bz, a2, c2, rfl, rfl, rfl, hz, hxl, hbk, hlt2, hbz, hbc⟩ := hcut
     have HO4 := Hf (HOW.out.keep hbc)
     clear HS HNX
     rcases HQ.out with ⟨hjl, hd, hzs, rfl⟩ | ⟨hje, rfl⟩
     ·obtain ⟨⟨y0, y1, y2, y3⟩, _⟩ := row4 hz
      obtain ⟨⟨_, _, _, _, _, _, z6, z7, z8, z9, z10, z11, _⟩, zf⟩ := rowD HO4.out.r4
      have zf6 := zf 6
      have zf7 := zf 7
      have zf8 := zf 8
      have zf9 := zf 9
      have zf10 := zf 10
      have zf11 := zf 11
      have z6' : wc.cell? ⟨w.heap.size + 2, 6, none⟩ = some (.int .i64 U) := by rw [← HUU.out]; exact z6
      have z7' : wc.cell? ⟨w.heap.size + 2, 7, none⟩ = some (.int .i64 j) := z7
      obtain ⟨hr5, ho5, hs5⟩ := put8 d a2 c2 HO4.out.r4
      have hb5 := below8 (v0 := .int .i64 d.p.i) (v1 := .int .i64 d.p.t) (v2 := .int .i64 d.base) (v3 := .slice a2 d.l.length c2) HO4.out.bel (show w.heap.size ≤ w.heap.size + 2 by omega)
      obtain ⟨W5, hW5⟩ := Nq (st8 wc (w.heap.size + 2) (.int .i64 d.p.i) (.int .i64 d.p.t) (.int .i64 d.base) (.slice a2 d.l.length c2))
      rw [hW5] at hr5 ho5 hs5 hb5
      have hbk4 : ∀ k, Na.blk a2 k → w.heap.size + 3 ≤ k ∧ k < wc.heap.size := fun k hk => by
       refine ⟨?_, hlt2 k hk⟩
       rcases hbk k hk with h1 | h1
       ·exact (HOW.out.lt k h1).1
       ·have := HOW.out.sz; omega
      have hO6 : OB w h D (xj x rs (j + 1)) a2 c2 ((W5.setCell ⟨w.heap.size + 2, 7, none⟩ (.int .i64 ((j : Int) + 1))).setCell ⟨w.heap.size + 2, 6, none⟩ (.int .i64 ((U : Int) + (z : Int)))) := by
       have e : xj x rs (j + 1) = ⟨x.ar, x.ep, j + 1, U + z, false, d⟩ := by unfold xj; rw [hzs, hd]
       rw [e]
       refine HO4.out.set (y' := ⟨x.ar, x.ep, j + 1, U + z, false, d⟩) (heap_setCell_same _ _ 6 _ _ _ (heap_setCell_same _ _ 7 _ _ _ hr5)) (fun k hk => ?_) (by simp [hs5]) ((hb5.setCell (by show w.heap.size ≤ w.heap.size + 2; omega) _).setCell (by show w.heap.size ≤ w.heap.size + 2; omega) _) hxl hbk4
       rw [heap_setCell_other _ ⟨w.heap.size + 2, 6, none⟩ k _ hk, heap_setCell_other _ ⟨w.heap.size + 2, 7, none⟩ k _ hk]
       exact ho5 k hk
      obtain ⟨⟨_, _, _, _, _, _, k6, k7, _, _, _, _, _⟩, kf⟩ := rowD hr5
      have kf6 := kf 6
      have kf7 := kf 7
      have k6' : W5.cell? ⟨w.heap.size + 2, 6, none⟩ = some (.int .i64 U) := by rw [← HUU.out]; exact k6
      have k7' : W5.cell? ⟨w.heap.size + 2, 7, none⟩ = some (.int .i64 j) := k7
      have HO6 := Hf hO6
      have HM : Hid (nof ((W5.setCell ⟨w.heap.size + 2, 7, none⟩ (.int .i64 ((j : Int) + 1))).setCell ⟨w.heap.size + 2, 6, none⟩ (.int .i64 ((U : Int) + (z : Int)))) (w.heap.size + 2) = j + 1 ∧ nof wr (w.heap.size + 2) = j) := Hf ⟨hO6.nof, HOW.out.nof⟩
      have hjb : j ≤ 2044 := by have := HG.out.nn; have := HG.out.cn; omega
      unfold st8 at hW5
      have HW5 := Hf hW5
      clear hz hxl hbk hlt2 hbk4 hO6 hr5 ho5 hs5 hb5 hW5 zf kf hd hzs z6 z7 k6 k7
      go_upto_region 17 with fail
      rw [HW5.out]; clear HW5 z6' z7' z8 z9 z10 z11 zf6 zf7 zf8 zf9 zf10 zf11 y0 y1 y2 y3; go_wp2
      go_roundw
      case rel => exact ⟨j + 1, a2, c2, by omega, HO6.out⟩
      case measure => rw [HM.out.1, HM.out.2]; omega
     ·have hxa := xj_all HG.out
      rw [← hje] at hxa
      have hld := load41_row HO4.out.r4
      have hst := store41_row rfl ⟨h, ad, c⟩ D (xj x rs j) HO4.out.r2
      have hrow := setRow_heap _ _ _ (dvv ⟨h, ad, c⟩ D (xj x rs j)) _ _ HO4.out.r2
      have hbw := below_setRow HO4.out.bel (show w.heap.size ≤ w.heap.size + 1 by omega) (dvv ⟨h, ad, c⟩ D (xj x rs j))
      have HFIN : Hid (DOo w h D n P x (.returned (.tuple #[.agg (dvv ⟨h, ad, c⟩ D (xj x rs j)), .int .i64 0])) (wc.setRow (w.heap.size + 1) (dvv ⟨h, ad, c⟩ D (xj x rs j)))) := Hf (by
       refine ⟨ad, c, by rw [hxa], ⟨HX.out.keep hbw, HRR.out, ?_, fun k hk => ?_⟩, fun k hk => by have := (HO4.out.lt k hk).1; omega, hbw⟩
       ·rw [← hxa]
        exact HO4.out.xl.keepBut (fun k _ hk => setRow_other _ _ _ _ (by have := (HO4.out.lt k hk).1; omega))
       ·have := (HO4.out.lt k hk).2
        simpa [World.setRow] using this)
      have HROW := Hf hrow
      clear hrow hbw hz hxl hbk hlt2 hxa hje; go_wp2
      refine bodyPost_ret (v := .tuple #[.agg (dvv ⟨h, ad, c⟩ D (xj x rs j)), .int .i64 0]) ?_ rfl HFIN.out
      exact res41_2 f11_res _ _ (w.heap.size + 1) _ _ _ rfl HROW.out
end
end Go.Proofs.YtlnedgjikkhplaaGreat.Du
