import Derived.Test.YtgodnpngdbelhaaGreatGP37
set_option maxRecDepth 100000
set_option maxHeartbeats 8000000
set_option linter.unusedVariables false
set_option linter.unusedSimpArgs false
open Go.Proofs.Tryz
namespace Go.Proofs.YtgodnpngdbelhaaGreat.Dn
open Go.RowKit Go.Maps
open Go.Proofs.YtgodnpngdbelhaaGreat.M (E V)
open Go.Proofs.YtgodnpngdbelhaaGreat.Rm (NT R)
open Go.Proofs.YtgodnpngdbelhaaGreat.Np (dvv ld32 st32 Z17)
open Dl (X)
theorem raccept_any (a : Na.M.S) (ad : Option Addr) (c : Nat) (v : V) (w : World) (hx : XL vl w ad c a.l) (hlt : ∀ q, blk ad q → q < w.heap.size) (ok : Na.M.Ok a) : Calls prog 84 #[Na.aV a ad c, vV v] w fun e w' => ∃ ad' c', e = .returned (.tuple #[.agg #[.int .i64 (Na.M.acs a v).p.i, .int .i64 (Na.M.acs a v).p.t, .int .i64 (Na.M.acs a v).base, .slice ad' (Na.M.acs a v).l.length c'], .bool (Na.M.acb a v)]) ∧ XL vl w' ad' c' (Na.M.acs a v).l ∧ (∀ q, blk ad' q → q < w'.heap.size) ∧ (∀ q, blk ad' q → blk ad q ∨ w.heap.size ≤ q) ∧ Bl w w' := by
 cases hb : Na.M.acb a v with
 | false =>
  have e0 : Na.M.acs a v = a := by unfold Na.M.acs; rw [hb]; rfl
  refine (Na.raccept_no a ad c v w hb).mono ?_; rintro e w' ⟨rfl, hw⟩; rw [e0]; exact ⟨ad, c, rfl, hx.keep hw, fun q hq => Nat.lt_of_lt_of_le (hlt q hq) hw.size, fun q hq => .inl hq, hw⟩
 | true =>
  refine (Na.raccept_yes a ad c v w hx ok.len ok.up hb).mono ?_; rintro e w' ⟨u, rfl, ad', c', rfl, h1, h2, h3⟩; exact ⟨ad', c', rfl, h1, fun q hq => (h2 q hq).2, fun q hq => .inr (h2 q hq).1, h3⟩
theorem xl_fr {α : Type} {Y : Ly α} {w w' : World} {a : Option Addr} {c : Nat} {l : List α} {g : Nat} (h : XL Y w a c l) (hf : Fr w (· = g) w' (· = g)) (hn : ∀ q, blk a q → q ≠ g) : XL Y w' a c l := h.keepBut fun k hk hk2 => hf.block k hk (hn k hk2)
theorem take_3 {w : World} {x : DR} {d : DA} {m : Nat} {r : R} (h : DM w x d) (hR : Rl m r x) (hF : Fit r) (hm : m ≤ 300) (y : RN) (hb : Rm.tkb r y.x = true) (hk : y.x.k = 3) (h1 : y.x.v.length = 1) (hat : AtL vl w y.ad y.x.v) : Calls prog 51 #[.agg (rvv x d), nV y] w (LdO w d (m + 1) (Rm.tkS r y.x) (Rm.tkN r y.x)) := by
 obtain ⟨W1, gz, HW1, HB1, HGZ, Hb1, Hc1, Hr1, HS1⟩ := Np.aH3 w (.cells (rvv x d) 54) (.cells #[.int .i64 y.x.k, .int .i64 y.x.f, .int .i64 y.x.t, .int .i64 y.x.s, .int .i64 y.x.b.i, .int .i64 y.x.b.t, .slice y.ad y.x.v.length y.c] 72) (.cells Z27 54); obtain ⟨b2c0, b2f⟩ := rowR Hb1.out; have b2l := loadR Hb1.out; have b2p := loadRp Hb1.out; obtain ⟨⟨c3c0, c3c1, c3c2, c3c3, c3c4, c3c5, c3c6⟩, c3f⟩ := row7 Hc1.out; have HD := Hf h; have HRL := Hf hR; have HFI := Hf hF; obtain ⟨ht, hf0, hfn⟩ := tkb_yes hb; have hxm : x.me = r.me := hR.me; have hxn : x.n = r.n := hR.n; rw [show y.x.t = x.me by rw [ht, hxm]] at c3c2; have d1 : decide (y.x.f < 0) = false := decide_eq_false (by omega); have d2 : decide (x.n ≤ y.x.f) = false := decide_eq_false (by omega); rw [hk] at c3c0; rw [h1] at c3c6; have H1 := Hf h1; have HAT := Hf hat; obtain ⟨v, HV⟩ := Nh (y.x.v.headD Rm.v0); clear hat; have HS0 : Hid (Rm.tkS r y.x = Rm.q3S r v ∧ Rm.tkN r y.x = Rm.q3N r v) := Hf (by
  have e : Rm.kd y.x = 3 := by simp [Rm.kd, hk, h1]
  unfold Rm.tkS Rm.tkN Rm.doS Rm.doN; rw [hb, e, ← HV.out]; exact ⟨rfl, rfl⟩)
 have hs1 := HS1.out; clear h hR hF ht hf0 hfn hxm hxn hb hk h1; go_enter func51, ntmps51; go_upto_region 1 with fail
 rw [HW1.out, HGZ.out]; clear HW1; go_upto_region 19 with fail
 clear b2c0 b2f b2l b2p c3c0 c3c1 c3c2 c3c3 c3c4 c3c5 c3c6 c3f d1 d2; obtain ⟨b1, o1, ha, q0, q1, q2, q3⟩ := at_head (HAT.out.keep HB1.out) H1.out; have hcell : ∀ wq, Bl w wq → wq.cell? ⟨b1, o1, none⟩ = some (.int .i64 v.s) ∧ wq.cell? ⟨b1, o1 + 1, none⟩ = some (.int .i64 v.b.i) ∧ wq.cell? ⟨b1, o1 + 2, none⟩ = some (.int .i64 v.b.t) ∧ wq.cell? ⟨b1, o1 + 3, none⟩ = some (.string v.v) := fun wq hq => by
  obtain ⟨b2, o2, ha2, g0, g1, g2, g3⟩ := at_head (HAT.out.keep hq) H1.out; rw [ha] at ha2; cases ha2; rw [HV.out] at g0 g1 g2 g3; exact ⟨g0, g1, g2, g3⟩
 have HCELL := Hf hcell; have HA := Hf ha; clear hcell q0 q1 q2 q3 ha; have hs3 : gz + 3 ≤ W1.heap.size := by omega
 have HS : Hid (∀ wq, (Bl w wq ∧ wq.heap[gz + 1]? = some (.cells #[.int .i64 y.x.k, .int .i64 y.x.f, .int .i64 y.x.t, .int .i64 y.x.s, .int .i64 y.x.b.i, .int .i64 y.x.b.t, .slice y.ad y.x.v.length y.c] 72 (0, 0))) → (wq.cell? ⟨gz + 1, 6, none⟩ = some (.slice (some ⟨b1, o1, none⟩) 1 y.c)) ∧ wq.cell? ⟨b1, o1 + 1, none⟩ = some (.int .i64 v.b.i) ∧ wq.cell? ⟨b1, o1 + 2, none⟩ = some (.int .i64 v.b.t)) := fun wq hq => ⟨by have := (row7 hq.2).1.2.2.2.2.2.2; rw [H1.out, HA.out] at this; exact this, (HCELL.out wq hq.1).2.1, (HCELL.out wq hq.1).2.2.1⟩; have S19 : Bl w W1.drew ∧ W1.drew.heap[gz + 1]? = some (.cells #[.int .i64 y.x.k, .int .i64 y.x.f, .int .i64 y.x.t, .int .i64 y.x.s, .int .i64 y.x.b.i, .int .i64 y.x.b.t, .slice y.ad y.x.v.length y.c] 72 (0, 0)) := ⟨Bu HB1.out (Below.drew (Below.refl _ _)) Lr, Br Hc1.out (Below.drew (Below.refl _ _))⟩; have c1 := step_any x d v.b; refine Wm (fun wq => Bl w wq ∧ wq.heap[gz + 1]? = some (.cells #[.int .i64 y.x.k, .int .i64 y.x.f, .int .i64 y.x.t, .int .i64 y.x.s, .int .i64 y.x.b.i, .int .i64 y.x.b.t, .slice y.ad y.x.v.length y.c] 72 (0, 0))) S19 fun wdx hBwd Hl => ?_; have hBq := hBwd; have lB := loadR (Br Hb1.out hBwd); refine Tm 1 Hl ?_; refine Tj 2 Hl ?_; refine Tm 3 Hl ?_; refine Tm 4 Hl ?_; refine Tj 5 Hl ?_; simp only [Act.put, Pz]; refine Rd 0 ?pF ?sF; intro K hK; go_simp; refine hK.out _ _ Hl fun Hl => ?_; refine Rd 6 ?pG ?sG; intro K hK; go_simp; refine (c1 _).mono ?_; rintro e v5 ⟨rfl, hb5⟩
 have hS5 : Bl w v5 ∧ v5.heap[gz + 1]? = some (.cells #[.int .i64 y.x.k, .int .i64 y.x.f, .int .i64 y.x.t, .int .i64 y.x.s, .int .i64 y.x.b.i, .int .i64 y.x.b.t, .slice y.ad y.x.v.length y.c] 72 (0, 0)) := ⟨Bu Hl.1 hb5 Lr, Br Hl.2 hb5⟩; have hb15 := Bu hBq hb5 Lr; obtain ⟨x1, HX1⟩ := Nh (stD x v.b); rw [HX1.out]; obtain ⟨v6, hst6, hrow6, hf6⟩ := setR (Br Hb1.out hb15) (rvv_size _ _) x1 d; have hS6 : Bl w v6 ∧ v6.heap[gz + 1]? = some (.cells #[.int .i64 y.x.k, .int .i64 y.x.f, .int .i64 y.x.t, .int .i64 y.x.s, .int .i64 y.x.b.i, .int .i64 y.x.b.t, .slice y.ad y.x.v.length y.c] 72 (0, 0)) := ⟨fr_bel hS5.1 hf6 (by have := HGZ.out; omega) hS5.1.size, fr_row hf6 hS5.2 (by omega)⟩; have Hb6 := Hf hrow6; have Hc6 := Hf hS6.2; have Hr6 := Hf (fr_row hf6 (Br Hr1.out hb15) (show gz + 2 ≠ gz by omega)); have HB6 := Hf hS6.1; clear hb15 hrow6 hf6 hb5; refine hK.out _ _ hS5 fun Hl => ?_; refine Rd 7 ?pH ?sH; intro K hK; go_simp; refine hK.out _ _ hS6 fun Hl => ?_; refine Wd ?_; clear hS5 hS6 hst6 S19 HS lB hBq; have HSZ : Hid (gz + 3 ≤ v6.heap.size) := Hf ((Array.getElem?_eq_some_iff.1 Hr6.out).1); have hxa : x1.a = x.a := by rw [← HX1.out]; rfl
 have HXA := Hf hxa; have HS2 : Hid (∀ wq, Bl v6 wq → (wq.cell? ⟨gz, 2, none⟩ = some (.int .i64 x1.a.p.i) ∧ wq.cell? ⟨gz, 3, none⟩ = some (.int .i64 x1.a.p.t) ∧ wq.cell? ⟨gz, 4, none⟩ = some (.int .i64 x1.a.base) ∧ wq.cell? ⟨gz, 5, none⟩ = some (.slice d.aa x1.a.l.length d.ac)) ∧ wq.cell? ⟨gz + 1, 6, none⟩ = some (.slice (some ⟨b1, o1, none⟩) 1 y.c) ∧ wq.cell? ⟨b1, o1, none⟩ = some (.int .i64 v.s) ∧ wq.cell? ⟨b1, o1 + 1, none⟩ = some (.int .i64 v.b.i) ∧ wq.cell? ⟨b1, o1 + 2, none⟩ = some (.int .i64 v.b.t) ∧ wq.cell? ⟨b1, o1 + 3, none⟩ = some (.string v.v)) := fun wq hq => by
  have h54 := (rowR (Br Hb6.out hq)).1; refine ⟨⟨h54.2.2.1, h54.2.2.2.1, h54.2.2.2.2.1, h54.2.2.2.2.2.1⟩, by have := (row7 (Br Hc6.out hq)).1.2.2.2.2.2.2; rw [H1.out, HA.out] at this; exact this, HCELL.out wq (Bu HB6.out hq Lr)⟩
 have ca : ∀ wq, Bl v6 wq → Calls prog 84 #[Na.aV x1.a d.aa d.ac, vV v] wq fun e w' => ∃ ad' c', e = .returned (.tuple #[.agg #[.int .i64 (Na.M.acs x1.a v).p.i, .int .i64 (Na.M.acs x1.a v).p.t, .int .i64 (Na.M.acs x1.a v).base, .slice ad' (Na.M.acs x1.a v).l.length c'], .bool (Na.M.acb x1.a v)]) ∧ XL vl w' ad' c' (Na.M.acs x1.a v).l ∧ (∀ q, blk ad' q → q < w'.heap.size) ∧ (∀ q, blk ad' q → blk d.aa q ∨ wq.heap.size ≤ q) ∧ Bl wq w' := fun wq hq => by
  have hk := HD.out.keep (Bu HB6.out hq Lr); exact raccept_any x1.a d.aa d.ac v wq (by rw [HXA.out]; exact hk.a) hk.al (by rw [HXA.out, HRL.out.a]; exact HFI.out.ak)
 obtain ⟨a2, HA2⟩ := Nh (Na.M.acs x1.a v); obtain ⟨ok2, HOK⟩ := Nh (Na.M.acb x1.a v); rw [HA2.out, HOK.out] at ca; clear hxa; go_upto_region 20 with fail
 refine Wn fun wdz hBwd Hl => ?_; refine Tm 0 Hl ?_; refine Tk 1 ?pJ ?vJ ?yJ Hl ?rJ
 case yJ => intro wq hq; have g := HS2.out wq hq; go_simp; try with_reducible rfl
 refine Tm 2 Hl ?_
 refine Tk 3 ?pL ?vL ?yL Hl ?rL
 case yL => intro wq hq; have g := HS2.out wq hq; go_simp; try with_reducible rfl
 refine Tm 4 Hl ?_
 refine Tk 5 ?pN ?vN ?yN Hl ?rN
 case yN => intro wq hq; have g := HS2.out wq hq; go_simp; try with_reducible rfl
 simp only [Act.put, Pz]; refine Rn [6, 10] (Rc ?pO ?sO (Rc ?pP ?sP AllReadyH.nil))
 case sO =>
  intro K hK; go_simp; have hqc : Below v6.heap.size v6 (wdz) := Hl; refine (ca _ Hl).mono ?_; rintro e v7 ⟨ad2, c2, rfl, hx7, hl7, hn7, hb7⟩; have hS7 := Bu Hl hb7 Lr; have hap7 : ∀ q, blk ad2 q → (q < gz ∨ gz + 3 ≤ q) := fun q hq => by
   have hqs := hqc.size; have hsz := HSZ.out
   rcases hn7 q hq with h1 | h1
   ·have h2 := HD.out.al q h1; have h3 := HGZ.out; omega
   ·omega
  have HN7 : Hid (∀ q, blk ad2 q → blk d.aa q ∨ w.heap.size ≤ q) := fun q hq => (hn7 q hq).imp id (fun h1 => by have := hqc.size; have := HSZ.out; have := HGZ.out; omega); have HAP7 := Hf hap7; have HX7 := Hf hx7; have HL7 := Hf hl7; clear hx7 hl7 hn7 hap7 hqc; refine hK.out _ _ hS7 fun Hl => ?_; refine Tm 7 Hl ?_; refine Tm 8 Hl ?_; refine Tm 9 Hl ?_; simp only [Act.put, Pz]; refine Rd 10 ?pT ?sT; intro K hK; go_simp; obtain ⟨wv, hwv⟩ := Nq ((v7).alloc (.cells #[.int .i64 0, .int .i64 0, .int .i64 0, .slice none 0 0] 45)); obtain ⟨ga, hga0⟩ := Nq ((v7).heap.size); have hbv0 : Below (v7).heap.size (v7) wv := by rw [← hwv]; exact bel1 _ _
  have hra : wv.heap[ga]? = some (.cells #[.int .i64 0, .int .i64 0, .int .i64 0, .slice none 0 0] 45 (0, 0)) := by rw [← hwv, ← hga0]; exact heap_alloc_last _ _
  have hbv := Bu Hl hbv0 Lr; have hga : v6.heap.size ≤ ga ∧ ga < wv.heap.size := ⟨by rw [← hga0]; exact Hl.size, (Array.getElem?_eq_some_iff.1 hra).1⟩; have hx7v := HX7.out.keep hbv0; have hgl : ∀ q, blk ad2 q → q ≠ ga := fun q hq => by have := HL7.out q hq; omega
  have hlv : ∀ q, blk ad2 q → q < wv.heap.size := fun q hq => by have := HL7.out q hq; have := hbv0.size; omega
  rw [hwv]; rw [hga0]; clear hwv hga0; refine hK.out _ _ hbv fun Hl => ?_; refine Rd 11 ?pU ?sU; intro K hK; obtain ⟨z0, zf⟩ := row4 hra; have zf0 := zf 0; have zf1 := zf 1; have zf2 := zf 2; have zf3 := zf 3; obtain ⟨vs, hvs, hrs, hfs⟩ := set4 hra (.int .i64 a2.p.i) (.int .i64 a2.p.t) (.int .i64 a2.base) (.slice ad2 a2.l.length c2); have hHs := Hl; have hbs : Bl v6 vs := hHs.trans (hfs.below (fun k hk => by subst hk; exact hga.1) hHs.size); have HXS : Hid (XL vl vs ad2 c2 a2.l) := xl_fr hx7v hfs hgl; have HLS : Hid (∀ q, blk ad2 q → q < vs.heap.size) := fun q hq => Nat.lt_of_lt_of_le (hlv q hq) hfs.size; have HRS := Hf hrs; have HVS := Hf hvs; have HAPS : Hid (∀ q, blk ad2 q → q < gz ∨ gz + 3 ≤ q) := fun q hq => HAP7.out q hq; have HGA := Hf hga.1; clear hvs hrs hfs zf; go_simp; rw [HVS.out]; clear z0 zf0 zf1 zf2 zf3 HVS; refine hK.out _ _ hbs fun Hl => ?_; refine Tm 12 Hl ?_; simp only [Act.put, Pz]; refine Wd ?_; have HB9 := Hf (Bu HB6.out Hl Lr); have hb9 := Br Hb6.out Hl; have Hc9 := Hf (Br Hc6.out Hl); have Hr9 := Hf (Br Hr6.out Hl); obtain ⟨⟨g0, g1, g2, g3⟩, _⟩ := row4 HRS.out; obtain ⟨⟨_, _, e2, e3, e4, e5, _, _, _, _⟩, ef⟩ := rowR hb9; have ef2 := ef 2; have ef3 := ef 3; have ef4 := ef 4; have ef5 := ef 5; obtain ⟨W8, hW8, hrow8, hf8⟩ := setA hb9 a2 ad2 c2; have HW8 := Hf hW8; obtain ⟨x2, HX2⟩ : ∃ x2 : DR, Hid (({ x1 with a := a2 } : DR) = x2) := ⟨_, Hf rfl⟩
  obtain ⟨d2, HD2⟩ : ∃ d2 : DA, Hid (({ d with aa := ad2, ac := c2 } : DA) = d2) := ⟨_, Hf rfl⟩
  rw [HX2.out, HD2.out] at hrow8; have Hb8 := Hf hrow8; have Hc8 := Hf (fr_row hf8 Hc9.out (show gz + 1 ≠ gz by omega)); have Hr8 := Hf (fr_row hf8 Hr9.out (show gz + 2 ≠ gz by omega)); have HB8 := Hf (fr_bel HB9.out hf8 (by have := HGZ.out; omega) HB9.out.size); have HX8 := Hf (xl_fr HXS.out hf8 (fun q hq => by have := HAPS.out q hq; omega)); have HL8 : Hid (∀ q, blk ad2 q → q < W8.heap.size) := fun q hq => Nat.lt_of_lt_of_le (HLS.out q hq) hf8.size; have HDN : Hid (DNew w d d2) := fun q hq => by
   rw [← HD2.out] at hq; rcases hq with h1 | h1 | h1 | h1
   ·exact (HN7.out q h1).imp .inl id
   ·exact .inl (.inr (.inl h1))
   ·exact .inl (.inr (.inr (.inl h1)))
   ·exact .inl (.inr (.inr (.inr h1)))
  have HE2 : Hid (q3D x v = x2) := Hf (by unfold q3D; rw [← HX2.out, ← HA2.out, HXA.out, ← HX1.out]; rfl); have HND : Hid (∀ wq, Bl w wq → Md gz (gz + 3) W8 wq → NDn wq (.agg (rvv x2 d2)) (m + 1) (Rm.q3S r v) w d) := fun wq hq hM => by
   refine ⟨x2, d2, rfl, ?_, by rw [← HE2.out]; exact HRL.out.q3 v, HDN.out⟩; have hk := HD.out.keep hq; have hx := hM.xl HX8.out HAPS.out; have e1 : x2.p.l = x.p.l := by rw [← HX2.out, ← HX1.out]; exact (Np.M.rss_fr x.p v.b).2
   have e2 : x2.l = x.l := by rw [← HX2.out, ← HX1.out]; rfl
   have e3 : x2.a = a2 := by rw [← HX2.out]
   have hsz : ∀ q, blk ad2 q → q < wq.heap.size := fun q h => Nat.lt_of_lt_of_le (HL8.out q h) hM.size; rw [← HD2.out]; exact ⟨by rw [e3]; exact hx, hsz, hk.p.of e1, by rw [e2]; exact hk.l⟩
  have HN2 : Hid (x2.n = r.n ∧ x2.me = r.me) := Hf (by rw [← HX2.out, ← HX1.out]; exact ⟨HRL.out.n, HRL.out.me⟩); have HQN : Hid ((ok2 = true → Rm.q3N r v = Rm.toE r 4 v) ∧ (ok2 = false → Rm.q3N r v = [])) := Hf (by
   have e : Na.M.acb r.a v = ok2 := by rw [← HRL.out.a, ← HXA.out, HOK.out]
   unfold Rm.q3N; rw [e]; exact ⟨fun h => by rw [h]; rfl, fun h => by rw [h]; rfl⟩)
  clear hW8 hrow8 hf8 hb9 ef; go_upto_region 22 with fail
  rw [HW8.out]; clear HW8 e2 e3 e4 e5 ef2 ef3 ef4 ef5 g0 g1 g2 g3; cases ok2 with
  | false =>
   have lR := loadR Hb8.out; obtain ⟨W9, hst9, hrow9, hf9⟩ := setR Hr8.out rfl x2 d2; have HB10 := Hf (fr_bel HB8.out hf9 (by have := HGZ.out; omega) HB8.out.size); have HROW := Hf hrow9; have HOUT : Hid (LdO w d (m + 1) (Rm.tkS r y.x) (Rm.tkN r y.x) (.returned (.tuple #[.agg (rvv x2 d2), .slice none 0 0])) W9) := by
    rw [HS0.out.1, HS0.out.2, HQN.out.2 rfl]; exact ⟨_, _, rfl, HND.out _ HB10.out ((Md.refl gz (gz + 3) W8).fr hf9 (by omega) (by omega)), NO.nil _ _ _, HB10.out⟩
   clear hrow9 hf9; go_wp2; refine bodyPost_ret ?_ rfl HOUT.out; exact resR f51_res _ _ (gz + 1 + 1) _ _ rfl HROW.out
  | true =>
   obtain ⟨SQz, HSQz, SDz⟩ := Nv (fun wq => Bl w wq ∧ Md (gz) (gz + 3) W8 wq ∧ wq.heap[gz]? = some (.cells (rvv x2 d2) 54 (0, 0)) ∧ wq.heap[gz + 1]? = some (.cells #[.int .i64 y.x.k, .int .i64 y.x.f, .int .i64 y.x.t, .int .i64 y.x.s, .int .i64 y.x.b.i, .int .i64 y.x.b.t, .slice y.ad y.x.v.length y.c] 72 (0, 0)) ∧ (∃ cs, cs.size = 27 ∧ wq.heap[gz + 2]? = some (.cells cs 54 (0, 0)))); have SKz : Hid (∀ wq, (Bl w wq) → (Md (gz) (gz + 3) W8 wq) → (wq.heap[gz]? = some (.cells (rvv x2 d2) 54 (0, 0))) → (wq.heap[gz + 1]? = some (.cells #[.int .i64 y.x.k, .int .i64 y.x.f, .int .i64 y.x.t, .int .i64 y.x.s, .int .i64 y.x.b.i, .int .i64 y.x.b.t, .slice y.ad y.x.v.length y.c] 72 (0, 0))) → (∃ cs, cs.size = 27 ∧ wq.heap[gz + 2]? = some (.cells cs 54 (0, 0))) → SQz wq) := fun wq a0 a1 a2 a3 a4 => by rw [HSQz.out]; exact ⟨a0, a1, a2, a3, a4⟩
   have HSz := Hf fun wq (hq : SQz wq) => And.intro ((rowR (SDz.out wq hq).2.2.1).1) (And.intro (loadR (SDz.out wq hq).2.2.1) (And.intro (loadRp (SDz.out wq hq).2.2.1) ((row7 (SDz.out wq hq).2.2.2.1).1))); have SUz : Hid (∀ wq w', SQz wq → Bl wq w' → SQz w') := fun wq w' hq hb => by
    obtain ⟨hBw, hM0, hq_b, hq_c, hres⟩ := SDz.out wq hq; obtain ⟨cs, hcs, hrw⟩ := hres; exact SKz.out w' (Bu hBw hb Lr) (hM0.up hb) (Br hq_b hb) (Br hq_c hb) ⟨cs, hcs, Br hrw hb⟩
   have SFz : Hid (∀ wq w' cs, SQz wq → Fr wq (· = gz + 2) w' (· = gz + 2) → cs.size = 27 → w'.heap[gz + 2]? = some (.cells cs 54 (0, 0)) → SQz w') := fun wq w' cs hq hf hcs hrw => by
    obtain ⟨hBw, hM0, hq_b, hq_c, hres⟩ := SDz.out wq hq; have hgz := HGZ.out; exact SKz.out w' (fr_bel hBw hf (by omega) hBw.size) (hM0.fr hf (by omega) (by omega)) (fr_row hf hq_b (by omega)) (fr_row hf hq_c (by omega)) ⟨cs, hcs, hrw⟩
   clear HSQz; have S00 := SKz.out W8 HB8.out (Md.refl gz (gz + 3) W8) Hb8.out Hc8.out ⟨_, rfl, Hr8.out⟩; have S0 : SQz W8.drew := SUz.out _ _ S00 (Below.drew (Below.refl _ _)); have HSv : Hid (∀ wq, SQz wq → (ldR ⟨gz, 0, none⟩).run prog wq = .ok (rvv x2 d2) wq ∧ wq.cell? ⟨gz + 1, 6, none⟩ = some (.slice (some ⟨b1, o1, none⟩) 1 y.c) ∧ wq.cell? ⟨b1, o1, none⟩ = some (.int .i64 v.s) ∧ wq.cell? ⟨b1, o1 + 1, none⟩ = some (.int .i64 v.b.i) ∧ wq.cell? ⟨b1, o1 + 2, none⟩ = some (.int .i64 v.b.t) ∧ wq.cell? ⟨b1, o1 + 3, none⟩ = some (.string v.v)) := fun wq hq => by
    have h1 := HSz.out wq hq; obtain ⟨hBw, hM0, hq_b, hq_c, hres⟩ := SDz.out wq hq; have h6 := (row7 hq_c).1.2.2.2.2.2.2; rw [H1.out, HA.out] at h6; exact ⟨h1.2.1, h6, HCELL.out wq hBw⟩
   go_upto_region 23 with fail; refine Wm (fun wq => SQz wq) S0 fun wdy61011 hBwd Hl => ?_; refine Tk 0 ?pW ?vW ?yW Hl ?rW
   case yW => intro wq hq; have g := HSv.out wq hq; go_simp; try with_reducible rfl
   refine Tk 1 ?pX ?vX ?yX Hl ?rX
   case yX => intro wq hq; have g := HSv.out wq hq; go_simp; try with_reducible rfl
   refine Tm 2 Hl ?_
   refine Tk 3 ?pZ ?vZ ?yZ Hl ?rZ
   case yZ => intro wq hq; have g := HSv.out wq hq; go_simp; try with_reducible rfl
   refine Tm 4 Hl ?_
   refine Tk 5 ?pb ?vb ?yb Hl ?rb
   case yb => intro wq hq; have g := HSv.out wq hq; go_simp; try with_reducible rfl
   simp only [Act.put, Pz]; refine Rd 6 ?pc ?sc; intro K hK; go_simp; obtain ⟨wn, hwn⟩ := Nq ((wdy61011).alloc (.cells #[.int .i64 v.s, .int .i64 v.b.i, .int .i64 v.b.t, .string v.v] 126)); obtain ⟨gv, hgv0⟩ := Nq ((wdy61011).heap.size); have hbn : Below (wdy61011).heap.size (wdy61011) wn := by rw [← hwn]; exact bel1 _ _
   have hrn : wn.heap[gv]? = some (.cells (vl.cs v).toArray 126 (0, 0)) := by rw [← hwn, ← hgv0]; exact heap_alloc_last _ _
   have hSn : SQz wn := SUz.out _ _ Hl hbn; have hgv : gz + 3 ≤ gv := by
    obtain ⟨hBw, hM0, hq_b, hq_c, hres⟩ := SDz.out _ Hl; obtain ⟨cs, _, hrw⟩ := hres; rw [← hgv0]; exact (Array.getElem?_eq_some_iff.1 hrw).1
   have c2' : ∀ wq, SQz wq → wq.heap[gv]? = some (.cells (vl.cs v).toArray 126 (0, 0)) → Calls prog 85 #[.agg (rvv x2 d2), .agg #[.int .i64 4, .int .i64 0, .int .i64 0, .int .i64 0, .int .i64 0, .int .i64 0, .slice (some ⟨gv, 0, none⟩) 1 1]] wq (AlO wq (gz + 3) (Rm.toE r 4 v)) := fun wq hq hr => by
    obtain ⟨hBw, hM0, hq_b, hq_c, hres⟩ := SDz.out wq hq; have hn := HFI.out.n; have hlo : gz + 3 ≤ wq.heap.size := by obtain ⟨cs, _, hrw⟩ := hres; exact (Array.getElem?_eq_some_iff.1 hrw).1
    exact all_any x2 d2 ⟨⟨4, 0, 0, 0, ⟨0, 0⟩, [v]⟩, some ⟨gv, 0, none⟩, 1⟩ (gz + 3) hlo (xn_one hr hgv rfl rfl rfl) (by rw [HN2.out.1]; omega) (by rw [HN2.out.1]; omega) r HN2.out.1 HN2.out.2
   have c2n := c2' wn hSn hrn; rw [hwn]; rw [hgv0]; clear hwn hgv0 c2'; refine hK.out _ _ hSn fun Hl => ?_; refine Tm 7 Hl ?_; simp only [Act.put, Pz]; refine Rd 8 ?pe ?se; intro K hK; go_simp; refine c2n.mono ?_; rintro e v5 h5; have hS5 : SQz v5 := SUz.out _ _ Hl (by obtain ⟨_, _, _, _, _, _, h⟩ := h5; exact h); obtain ⟨u, ys, e5, ho5, hmp5, -, -⟩ := h5; subst e5; have HO5 := Hf ho5; have HM5 := Hf hmp5; clear ho5 hmp5; refine hK.out _ _ hS5 fun Hl => ?_; obtain ⟨v9, hst9, hrow9, hf9, hS9⟩ : ∃ v9, (stR ⟨gz + 1 + 1, 0, none⟩ (rvv x2 d2)).run prog v5 = .ok () v9 ∧ v9.heap[gz + 2]? = some (.cells (rvv x2 d2) 54 (0, 0)) ∧ Fr v5 (· = gz + 2) v9 (· = gz + 2) ∧ SQz v9 := by
    obtain ⟨hBw, hM0, hq_b, hq_c, hres⟩ := SDz.out _ hS5; obtain ⟨cs, hcs, hrw⟩ := hres; obtain ⟨v6, h1, h2, h3⟩ := setR hrw hcs x2 d2; exact ⟨v6, h1, h2, h3, SFz.out _ _ _ hS5 h3 (rvv_size _ _) h2⟩
   refine Rd 9 ?pf ?sf
   intro K hK; go_simp; refine hK.out _ _ hS9 fun Hl => ?_; refine Tm 10 Hl ?_; simp only [Act.put, Pz]; refine Wd ?_; have HROW := Hf hrow9; have HOUT : Hid (LdO w d (m + 1) (Rm.tkS r y.x) (Rm.tkN r y.x) (.returned (.tuple #[.agg (rvv x2 d2), u])) v9) := by
    obtain ⟨hBw, hM0, hq_b, hq_c, hres⟩ := SDz.out _ hS9; rw [HS0.out.1, HS0.out.2, HQN.out.1 rfl]; exact ⟨_, _, rfl, HND.out _ hBw hM0, ⟨ys, (HO5.out.keepBut hf9.size (fun k hk hk2 => hf9.block k hk (by omega))).low (by have := HGZ.out; omega), HM5.out, fun _ _ => id, fun _ _ _ _ => id⟩, hBw⟩
   clear hst9 hrow9 hf9; go_wp2; refine bodyPost_ret ?_ rfl HOUT.out; exact resR f51_res _ _ (gz + 1 + 1) _ _ rfl HROW.out
 case sP =>
  intro K hK; go_simp; obtain ⟨wv, hwv⟩ := Nq ((wdz).alloc (.cells #[.int .i64 0, .int .i64 0, .int .i64 0, .slice none 0 0] 45)); obtain ⟨ga, hga0⟩ := Nq ((wdz).heap.size); have hbv0 : Below (wdz).heap.size (wdz) wv := by rw [← hwv]; exact bel1 _ _
  have hra : wv.heap[ga]? = some (.cells #[.int .i64 0, .int .i64 0, .int .i64 0, .slice none 0 0] 45 (0, 0)) := by rw [← hwv, ← hga0]; exact heap_alloc_last _ _
  have hbv := Bu Hl hbv0 Lr; have hga : v6.heap.size ≤ ga ∧ ga < wv.heap.size := ⟨by rw [← hga0]; exact Hl.size, (Array.getElem?_eq_some_iff.1 hra).1⟩; rw [hwv]; rw [hga0]; clear hwv hga0; refine hK.out _ _ hbv fun Hl => ?_; refine Rd 6 ?ph ?sh; intro K hK; go_simp; have hqc : Below v6.heap.size v6 (wv) := Hl; refine (ca _ Hl).mono ?_; rintro e v7 ⟨ad2, c2, rfl, hx7, hl7, hn7, hb7⟩; have hS7 := Bu Hl hb7 Lr; have hap7 : ∀ q, blk ad2 q → (q < gz ∨ gz + 3 ≤ q) ∧ q ≠ ga := fun q hq => by
   have hqs := hqc.size; have hsz := HSZ.out; have hga2 := hga; rcases hn7 q hq with h1 | h1
   ·have h2 := HD.out.al q h1; have h3 := HGZ.out; exact ⟨.inl (by omega), by omega⟩
   ·exact ⟨by omega, by omega⟩
  have HN7 : Hid (∀ q, blk ad2 q → blk d.aa q ∨ w.heap.size ≤ q) := fun q hq => (hn7 q hq).imp id (fun h1 => by have := hqc.size; have := HSZ.out; have := HGZ.out; omega); have HAP7 := Hf hap7; have HX7 := Hf hx7; have HL7 := Hf hl7; have hra := Br hra hb7; clear hx7 hl7 hn7 hap7 hqc; refine hK.out _ _ hS7 fun Hl => ?_; refine Tm 7 Hl ?_; refine Tm 8 Hl ?_; refine Tm 9 Hl ?_; simp only [Act.put, Pz]; refine Rd 11 ?pl ?sl; intro K hK; obtain ⟨z0, zf⟩ := row4 hra; have zf0 := zf 0; have zf1 := zf 1; have zf2 := zf 2; have zf3 := zf 3; obtain ⟨vs, hvs, hrs, hfs⟩ := set4 hra (.int .i64 a2.p.i) (.int .i64 a2.p.t) (.int .i64 a2.base) (.slice ad2 a2.l.length c2); have hHs := Hl; have hbs : Bl v6 vs := hHs.trans (hfs.below (fun k hk => by subst hk; exact hga.1) hHs.size); have HXS : Hid (XL vl vs ad2 c2 a2.l) := xl_fr HX7.out hfs (fun q hq => (HAP7.out q hq).2); have HLS : Hid (∀ q, blk ad2 q → q < vs.heap.size) := fun q hq => Nat.lt_of_lt_of_le (HL7.out q hq) hfs.size; have HRS := Hf hrs; have HVS := Hf hvs; have HAPS : Hid (∀ q, blk ad2 q → q < gz ∨ gz + 3 ≤ q) := fun q hq => (HAP7.out q hq).1; have HGA := Hf hga.1; clear hvs hrs hfs zf; go_simp; rw [HVS.out]; clear z0 zf0 zf1 zf2 zf3 HVS; refine hK.out _ _ hbs fun Hl => ?_; refine Tm 12 Hl ?_; simp only [Act.put, Pz]; refine Wd ?_; have HB9 := Hf (Bu HB6.out Hl Lr); have hb9 := Br Hb6.out Hl; have Hc9 := Hf (Br Hc6.out Hl); have Hr9 := Hf (Br Hr6.out Hl); obtain ⟨⟨g0, g1, g2, g3⟩, _⟩ := row4 HRS.out
  obtain ⟨⟨_, _, e2, e3, e4, e5, _, _, _, _⟩, ef⟩ := rowR hb9; have ef2 := ef 2; have ef3 := ef 3; have ef4 := ef 4; have ef5 := ef 5; obtain ⟨W8, hW8, hrow8, hf8⟩ := setA hb9 a2 ad2 c2; have HW8 := Hf hW8; obtain ⟨x2, HX2⟩ : ∃ x2 : DR, Hid (({ x1 with a := a2 } : DR) = x2) := ⟨_, Hf rfl⟩
  obtain ⟨d2, HD2⟩ : ∃ d2 : DA, Hid (({ d with aa := ad2, ac := c2 } : DA) = d2) := ⟨_, Hf rfl⟩
  rw [HX2.out, HD2.out] at hrow8; have Hb8 := Hf hrow8; have Hc8 := Hf (fr_row hf8 Hc9.out (show gz + 1 ≠ gz by omega)); have Hr8 := Hf (fr_row hf8 Hr9.out (show gz + 2 ≠ gz by omega)); have HB8 := Hf (fr_bel HB9.out hf8 (by have := HGZ.out; omega) HB9.out.size); have HX8 := Hf (xl_fr HXS.out hf8 (fun q hq => by have := HAPS.out q hq; omega)); have HL8 : Hid (∀ q, blk ad2 q → q < W8.heap.size) := fun q hq => Nat.lt_of_lt_of_le (HLS.out q hq) hf8.size; have HDN : Hid (DNew w d d2) := fun q hq => by
   rw [← HD2.out] at hq; rcases hq with h1 | h1 | h1 | h1
   ·exact (HN7.out q h1).imp .inl id
   ·exact .inl (.inr (.inl h1))
   ·exact .inl (.inr (.inr (.inl h1)))
   ·exact .inl (.inr (.inr (.inr h1)))
  have HE2 : Hid (q3D x v = x2) := Hf (by unfold q3D; rw [← HX2.out, ← HA2.out, HXA.out, ← HX1.out]; rfl); have HND : Hid (∀ wq, Bl w wq → Md gz (gz + 3) W8 wq → NDn wq (.agg (rvv x2 d2)) (m + 1) (Rm.q3S r v) w d) := fun wq hq hM => by
   refine ⟨x2, d2, rfl, ?_, by rw [← HE2.out]; exact HRL.out.q3 v, HDN.out⟩; have hk := HD.out.keep hq; have hx := hM.xl HX8.out HAPS.out; have e1 : x2.p.l = x.p.l := by rw [← HX2.out, ← HX1.out]; exact (Np.M.rss_fr x.p v.b).2
   have e2 : x2.l = x.l := by rw [← HX2.out, ← HX1.out]; rfl
   have e3 : x2.a = a2 := by rw [← HX2.out]
   have hsz : ∀ q, blk ad2 q → q < wq.heap.size := fun q h => Nat.lt_of_lt_of_le (HL8.out q h) hM.size; rw [← HD2.out]; exact ⟨by rw [e3]; exact hx, hsz, hk.p.of e1, by rw [e2]; exact hk.l⟩
  have HN2 : Hid (x2.n = r.n ∧ x2.me = r.me) := Hf (by rw [← HX2.out, ← HX1.out]; exact ⟨HRL.out.n, HRL.out.me⟩); have HQN : Hid ((ok2 = true → Rm.q3N r v = Rm.toE r 4 v) ∧ (ok2 = false → Rm.q3N r v = [])) := Hf (by
   have e : Na.M.acb r.a v = ok2 := by rw [← HRL.out.a, ← HXA.out, HOK.out]
   unfold Rm.q3N; rw [e]; exact ⟨fun h => by rw [h]; rfl, fun h => by rw [h]; rfl⟩)
  clear hW8 hrow8 hf8 hb9 ef; go_upto_region 22 with fail
  rw [HW8.out]; clear HW8 e2 e3 e4 e5 ef2 ef3 ef4 ef5 g0 g1 g2 g3; cases ok2 with
  | false =>
   have lR := loadR Hb8.out; obtain ⟨W9, hst9, hrow9, hf9⟩ := setR Hr8.out rfl x2 d2; have HB10 := Hf (fr_bel HB8.out hf9 (by have := HGZ.out; omega) HB8.out.size); have HROW := Hf hrow9; have HOUT : Hid (LdO w d (m + 1) (Rm.tkS r y.x) (Rm.tkN r y.x) (.returned (.tuple #[.agg (rvv x2 d2), .slice none 0 0])) W9) := by
    rw [HS0.out.1, HS0.out.2, HQN.out.2 rfl]; exact ⟨_, _, rfl, HND.out _ HB10.out ((Md.refl gz (gz + 3) W8).fr hf9 (by omega) (by omega)), NO.nil _ _ _, HB10.out⟩
   clear hrow9 hf9; go_wp2; refine bodyPost_ret ?_ rfl HOUT.out; exact resR f51_res _ _ (gz + 1 + 1) _ _ rfl HROW.out
  | true =>
   obtain ⟨SQz, HSQz, SDz⟩ := Nv (fun wq => Bl w wq ∧ Md (gz) (gz + 3) W8 wq ∧ wq.heap[gz]? = some (.cells (rvv x2 d2) 54 (0, 0)) ∧ wq.heap[gz + 1]? = some (.cells #[.int .i64 y.x.k, .int .i64 y.x.f, .int .i64 y.x.t, .int .i64 y.x.s, .int .i64 y.x.b.i, .int .i64 y.x.b.t, .slice y.ad y.x.v.length y.c] 72 (0, 0)) ∧ (∃ cs, cs.size = 27 ∧ wq.heap[gz + 2]? = some (.cells cs 54 (0, 0)))); have SKz : Hid (∀ wq, (Bl w wq) → (Md (gz) (gz + 3) W8 wq) → (wq.heap[gz]? = some (.cells (rvv x2 d2) 54 (0, 0))) → (wq.heap[gz + 1]? = some (.cells #[.int .i64 y.x.k, .int .i64 y.x.f, .int .i64 y.x.t, .int .i64 y.x.s, .int .i64 y.x.b.i, .int .i64 y.x.b.t, .slice y.ad y.x.v.length y.c] 72 (0, 0))) → (∃ cs, cs.size = 27 ∧ wq.heap[gz + 2]? = some (.cells cs 54 (0, 0))) → SQz wq) := fun wq a0 a1 a2 a3 a4 => by rw [HSQz.out]; exact ⟨a0, a1, a2, a3, a4⟩
   have HSz := Hf fun wq (hq : SQz wq) => And.intro ((rowR (SDz.out wq hq).2.2.1).1) (And.intro (loadR (SDz.out wq hq).2.2.1) (And.intro (loadRp (SDz.out wq hq).2.2.1) ((row7 (SDz.out wq hq).2.2.2.1).1))); have SUz : Hid (∀ wq w', SQz wq → Bl wq w' → SQz w') := fun wq w' hq hb => by
    obtain ⟨hBw, hM0, hq_b, hq_c, hres⟩ := SDz.out wq hq; obtain ⟨cs, hcs, hrw⟩ := hres; exact SKz.out w' (Bu hBw hb Lr) (hM0.up hb) (Br hq_b hb) (Br hq_c hb) ⟨cs, hcs, Br hrw hb⟩
   have SFz : Hid (∀ wq w' cs, SQz wq → Fr wq (· = gz + 2) w' (· = gz + 2) → cs.size = 27 → w'.heap[gz + 2]? = some (.cells cs 54 (0, 0)) → SQz w') := fun wq w' cs hq hf hcs hrw => by
    obtain ⟨hBw, hM0, hq_b, hq_c, hres⟩ := SDz.out wq hq; have hgz := HGZ.out; exact SKz.out w' (fr_bel hBw hf (by omega) hBw.size) (hM0.fr hf (by omega) (by omega)) (fr_row hf hq_b (by omega)) (fr_row hf hq_c (by omega)) ⟨cs, hcs, hrw⟩
   clear HSQz; have S00 := SKz.out W8 HB8.out (Md.refl gz (gz + 3) W8) Hb8.out Hc8.out ⟨_, rfl, Hr8.out⟩; have S0 : SQz W8.drew := SUz.out _ _ S00 (Below.drew (Below.refl _ _)); have HSv : Hid (∀ wq, SQz wq → (ldR ⟨gz, 0, none⟩).run prog wq = .ok (rvv x2 d2) wq ∧ wq.cell? ⟨gz + 1, 6, none⟩ = some (.slice (some ⟨b1, o1, none⟩) 1 y.c) ∧ wq.cell? ⟨b1, o1, none⟩ = some (.int .i64 v.s) ∧ wq.cell? ⟨b1, o1 + 1, none⟩ = some (.int .i64 v.b.i) ∧ wq.cell? ⟨b1, o1 + 2, none⟩ = some (.int .i64 v.b.t) ∧ wq.cell? ⟨b1, o1 + 3, none⟩ = some (.string v.v)) := fun wq hq => by
    have h1 := HSz.out wq hq; obtain ⟨hBw, hM0, hq_b, hq_c, hres⟩ := SDz.out wq hq; have h6 := (row7 hq_c).1.2.2.2.2.2.2; rw [H1.out, HA.out] at h6; exact ⟨h1.2.1, h6, HCELL.out wq hBw⟩
   go_upto_region 23 with fail; refine Wm (fun wq => SQz wq) S0 fun wdy10611 hBwd Hl => ?_; refine Tk 0 ?pn ?vn ?yn Hl ?rn
   case yn => intro wq hq; have g := HSv.out wq hq; go_simp; try with_reducible rfl
   refine Tk 1 ?po ?vo ?yo Hl ?ro
   case yo => intro wq hq; have g := HSv.out wq hq; go_simp; try with_reducible rfl
   refine Tm 2 Hl ?_
   refine Tk 3 ?pq ?vq ?yq Hl ?rq
   case yq => intro wq hq; have g := HSv.out wq hq; go_simp; try with_reducible rfl
   refine Tm 4 Hl ?_
   refine Tk 5 ?ps ?vs ?ys Hl ?rs
   case ys => intro wq hq; have g := HSv.out wq hq; go_simp; try with_reducible rfl
   simp only [Act.put, Pz]; refine Rd 6 ?pt ?st; intro K hK; go_simp; obtain ⟨wn, hwn⟩ := Nq ((wdy10611).alloc (.cells #[.int .i64 v.s, .int .i64 v.b.i, .int .i64 v.b.t, .string v.v] 126)); obtain ⟨gv, hgv0⟩ := Nq ((wdy10611).heap.size); have hbn : Below (wdy10611).heap.size (wdy10611) wn := by rw [← hwn]; exact bel1 _ _
   have hrn : wn.heap[gv]? = some (.cells (vl.cs v).toArray 126 (0, 0)) := by rw [← hwn, ← hgv0]; exact heap_alloc_last _ _
   have hSn : SQz wn := SUz.out _ _ Hl hbn; have hgv : gz + 3 ≤ gv := by
    obtain ⟨hBw, hM0, hq_b, hq_c, hres⟩ := SDz.out _ Hl; obtain ⟨cs, _, hrw⟩ := hres; rw [← hgv0]; exact (Array.getElem?_eq_some_iff.1 hrw).1
   have c2' : ∀ wq, SQz wq → wq.heap[gv]? = some (.cells (vl.cs v).toArray 126 (0, 0)) → Calls prog 85 #[.agg (rvv x2 d2), .agg #[.int .i64 4, .int .i64 0, .int .i64 0, .int .i64 0, .int .i64 0, .int .i64 0, .slice (some ⟨gv, 0, none⟩) 1 1]] wq (AlO wq (gz + 3) (Rm.toE r 4 v)) := fun wq hq hr => by
    obtain ⟨hBw, hM0, hq_b, hq_c, hres⟩ := SDz.out wq hq; have hn := HFI.out.n; have hlo : gz + 3 ≤ wq.heap.size := by obtain ⟨cs, _, hrw⟩ := hres; exact (Array.getElem?_eq_some_iff.1 hrw).1
    exact all_any x2 d2 ⟨⟨4, 0, 0, 0, ⟨0, 0⟩, [v]⟩, some ⟨gv, 0, none⟩, 1⟩ (gz + 3) hlo (xn_one hr hgv rfl rfl rfl) (by rw [HN2.out.1]; omega) (by rw [HN2.out.1]; omega) r HN2.out.1 HN2.out.2
   have c2n := c2' wn hSn hrn; rw [hwn]; rw [hgv0]; clear hwn hgv0 c2'; refine hK.out _ _ hSn fun Hl => ?_; refine Tm 7 Hl ?_; simp only [Act.put, Pz]; refine Rd 8 ?pv ?sv; intro K hK; go_simp; refine c2n.mono ?_; rintro e v5 h5; have hS5 : SQz v5 := SUz.out _ _ Hl (by obtain ⟨_, _, _, _, _, _, h⟩ := h5; exact h); obtain ⟨u, ys, e5, ho5, hmp5, -, -⟩ := h5; subst e5; have HO5 := Hf ho5; have HM5 := Hf hmp5; clear ho5 hmp5; refine hK.out _ _ hS5 fun Hl => ?_; obtain ⟨v9, hst9, hrow9, hf9, hS9⟩ : ∃ v9, (stR ⟨gz + 1 + 1, 0, none⟩ (rvv x2 d2)).run prog v5 = .ok () v9 ∧ v9.heap[gz + 2]? = some (.cells (rvv x2 d2) 54 (0, 0)) ∧ Fr v5 (· = gz + 2) v9 (· = gz + 2) ∧ SQz v9 := by
    obtain ⟨hBw, hM0, hq_b, hq_c, hres⟩ := SDz.out _ hS5; obtain ⟨cs, hcs, hrw⟩ := hres; obtain ⟨v6, h1, h2, h3⟩ := setR hrw hcs x2 d2; exact ⟨v6, h1, h2, h3, SFz.out _ _ _ hS5 h3 (rvv_size _ _) h2⟩
   refine Rd 9 ?pw ?sw
   intro K hK; go_simp; refine hK.out _ _ hS9 fun Hl => ?_; refine Tm 10 Hl ?_; simp only [Act.put, Pz]; refine Wd ?_; have HROW := Hf hrow9; have HOUT : Hid (LdO w d (m + 1) (Rm.tkS r y.x) (Rm.tkN r y.x) (.returned (.tuple #[.agg (rvv x2 d2), u])) v9) := by
    obtain ⟨hBw, hM0, hq_b, hq_c, hres⟩ := SDz.out _ hS9; rw [HS0.out.1, HS0.out.2, HQN.out.1 rfl]; exact ⟨_, _, rfl, HND.out _ hBw hM0, ⟨ys, (HO5.out.keepBut hf9.size (fun k hk hk2 => hf9.block k hk (by omega))).low (by have := HGZ.out; omega), HM5.out, fun _ _ => id, fun _ _ _ _ => id⟩, hBw⟩
   clear hst9 hrow9 hf9; go_wp2; refine bodyPost_ret ?_ rfl HOUT.out; exact resR f51_res _ _ (gz + 1 + 1) _ _ rfl HROW.out
end Go.Proofs.YtgodnpngdbelhaaGreat.Dn
namespace Go.Proofs.YtgodnpngdbelhaaGreat
open Go.RowKit Go.Maps
open M (E V)
open Rm (NT R)
open Tm (T)
def x1 : T := Tm.all 60 (Tm.ldT (Tm.t0 3) 0)
def x2 : T := Tm.all 60 (Tm.ppT x1 0 ⟨#[118]⟩)
theorem ex_1 : x1.way.length = 0 := by kernel_rfl
theorem ex_p : Tm.ppcT x1 0 ⟨#[118]⟩ = 0 := by kernel_rfl
theorem ex_2 : x2.way.length = 0 := by kernel_rfl
theorem ex_d : leadT x2 0 = true := by kernel_rfl
theorem ex_l0 : Tm.logT x2 0 = [⟨#[118]⟩] := by kernel_rfl
theorem ex_l2 : Tm.logT x2 2 = [⟨#[118]⟩] := by kernel_rfl
theorem ex_i : Tm.isT x2 3 = false := by kernel_rfl
theorem ex_i1 : Tm.isT (Tm.t0 3) 0 = true := by kernel_rfl
theorem ex_t : Tm.ldT x2 3 = x2 := by unfold Tm.ldT; rw [if_neg (by rw [ex_i]; decide)]
theorem ex_q : Tm.ppcT x2 1 ⟨#[120]⟩ = 16 := by kernel_rfl
theorem ex_w : (Tm.ppT x2 1 ⟨#[120]⟩).way.length = 0 := by kernel_rfl
set_option maxRecDepth 100000
set_option maxHeartbeats 1000000
theorem TO.all60 {w0 w : World} {G : Nat → Prop} {b : Nat} {t : T} {m : Nat} (h : TO w0 w G b t) (hw : Tm.Wel t (fun _ => True) []) (hb : Tm.Bd t m) (hm : m ≤ 740) (he : (Tm.all 60 t).way.length = 0) :
  Calls prog 17 #[ptr b] w fun e w' => e = .returned (.tuple #[]) ∧ ∃ G', TO w0 w' G' b (Tm.all 60 t) ∧ Tm.Wel (Tm.all 60 t) (fun _ => True) [] ∧ Tm.Bd (Tm.all 60 t) (m + 60) := by
 refine (h.all 60 (by omega) hw trivial hb (by omega) he).mono fun e w' hx => ?_; obtain ⟨h1, G', h2, -, h3, h4⟩ := hx; exact ⟨h1, G', h2, h3, h4⟩
theorem awake_any (w : World) : Calls prog 5 #[] w fun e w' => e = .returned (.bool true) ∧ Bl w w' := by
 go_enter func5, ntmps5; go_wp2_with fail; refine (newT_any 3 w).mono ?_; rintro e w1 (⟨h3, -⟩ | ⟨-, b, G, rfl, hto, -⟩)
 ·exact absurd ⟨by decide, by decide⟩ h3
 have HT : Hid (TO w w1 G b (Tm.t0 3)) := Hf hto; have HW0 : Hid (Tm.Wel (Tm.t0 3) (fun _ => True) [] ∧ Tm.Bd (Tm.t0 3) 0) := ⟨Tm.Wel.zero ⟨by decide, by decide⟩, Tm.Bd.zero 3⟩; clear hto; go_wp2_with fail; refine (newT_any 0 w1).mono ?_; rintro e w2 (⟨-, rfl, rfl⟩ | ⟨h3, -⟩)
 rotate_left
 ·exact absurd h3 (by decide)
 have cl := HT.out.lead 0; rw [ex_i1] at cl; go_wp2_with fail; refine cl.mono ?_; clear cl; rintro e w3 ⟨G2, rfl, hto, -⟩; have HT := Hf hto; have HW1 : Hid (Tm.Wel (Tm.ldT (Tm.t0 3) 0) (fun _ => True) [] ∧ Tm.Bd (Tm.ldT (Tm.t0 3) 0) 1) := ⟨HW0.out.1.lead 0, HW0.out.2.lead HW0.out.1 0⟩; clear hto; have cd := HT.out.all60 HW1.out.1 HW1.out.2 (by omega) ex_1; go_wp2_with fail; refine cd.mono ?_; clear cd; rintro e w4 ⟨rfl, G3, hto, hwl, hbd⟩; have HT : Hid (TO w w4 G3 b x1) := Hf hto; have HW2 : Hid (Tm.Wel x1 (fun _ => True) [] ∧ Tm.Bd x1 61) := ⟨hwl, hbd⟩; clear hto hwl hbd; have cp := HT.out.propose 0 ⟨#[118]⟩; rw [ex_p] at cp; go_wp2_with fail; refine cp.mono ?_; clear cp; rintro e w5 ⟨G4, rfl, hto, -⟩; have HT := Hf hto; have HW3 : Hid (Tm.Wel (Tm.ppT x1 0 ⟨#[118]⟩) (fun _ => True) [] ∧ Tm.Bd (Tm.ppT x1 0 ⟨#[118]⟩) 62) := ⟨HW2.out.1.propose 0 (fun _ => trivial), HW2.out.2.propose HW2.out.1 0 _⟩; clear hto; have cd := HT.out.all60 HW3.out.1 HW3.out.2 (by omega) ex_2; go_wp2_with fail; refine cd.mono ?_; clear cd; rintro e w6 ⟨rfl, G5, hto, hwl, hbd⟩; have HT : Hid (TO w w6 G5 b x2) := Hf hto; have HW4 : Hid (Tm.Wel x2 (fun _ => True) [] ∧ Tm.Bd x2 122) := ⟨hwl, hbd⟩; clear hto hwl hbd; have cl := HT.out.leads 0; rw [ex_d] at cl; go_wp2_with fail; refine cl.mono ?_; clear cl; rintro e w7 ⟨rfl, hw7⟩; subst hw7; have cg := HT.out.log 0; rw [ex_l0] at cg; go_wp2_with fail; refine cg.mono ?_; clear cg; rintro e w8 ⟨ad, cc, rfl, hx, hk, hbg⟩
 obtain ⟨W, HW⟩ := Nh (w8.alloc (.cells #[.string ⟨#[118]⟩] 9)); have hbv := Ab HW; have hrv := Ac HW; have ct := Nl.texts_any ad cc (some ⟨w8.heap.size, 0, none⟩) 1 [(⟨#[118]⟩ : ByteArray)] W (by simp) (hx.keep hbv).at' (tl_at hrv); simp only [List.length_cons, List.length_nil, Nat.zero_add] at ct; have HCT := Hf ct; have HX := Hf (And.intro hbg hbv); clear ct hx hk hbg hbv hrv; go_wp2_with (rw [HW.out]); refine HCT.out.mono ?_; clear HCT HW; rintro e w9 ⟨rfl, hbt⟩; obtain ⟨hbg, hbv⟩ := HX.out; have HT := Hf (HT.out.keep (Bu (Bu hbg hbv Lr) hbt Lr)); clear hbg hbv hbt HX; have cg := HT.out.log 2; rw [ex_l2] at cg; go_wp2_with fail; refine cg.mono ?_; clear cg; rintro e w10 ⟨ad, cc, rfl, hx, hk, hbg⟩; obtain ⟨W, HW⟩ := Nh (w10.alloc (.cells #[.string ⟨#[118]⟩] 9)); have hbv := Ab HW; have hrv := Ac HW; have ct := Nl.texts_any ad cc (some ⟨w10.heap.size, 0, none⟩) 1 [(⟨#[118]⟩ : ByteArray)] W (by simp) (hx.keep hbv).at' (tl_at hrv); simp only [List.length_cons, List.length_nil, Nat.zero_add] at ct; have HCT := Hf ct; have HX := Hf (And.intro hbg hbv); clear ct hx hk hbg hbv hrv; go_wp2_with (rw [HW.out]); refine HCT.out.mono ?_; clear HCT HW; rintro e w11 ⟨rfl, hbt⟩; obtain ⟨hbg, hbv⟩ := HX.out; have HT := Hf (HT.out.keep (Bu (Bu hbg hbv Lr) hbt Lr)); clear hbg hbv hbt HX; have cl := HT.out.lead 3; rw [ex_i, ex_t] at cl; go_wp2_with fail; refine cl.mono ?_; clear cl; rintro e w12 ⟨G6, rfl, hto, -⟩; have HT := Hf hto; clear hto; have cp := HT.out.propose 1 ⟨#[120]⟩
 rw [ex_q] at cp; go_wp2_with fail; refine cp.mono ?_; clear cp; rintro e w13 ⟨G7, rfl, hto, -⟩; have HT := Hf hto; clear hto; have cd := HT.out.deliver 0 (rdy_of (HW4.out.1.propose 1 (fun _ => trivial)) (HW4.out.2.propose HW4.out.1 1 _) (by omega) 0); rw [ex_w] at cd; go_wp2_with fail; refine cd.mono ?_; clear cd; rintro e w14 ⟨G8, rfl, hto, -⟩; have HB := Hf hto.bel; clear hto; go_wp2; go_ret; exact ⟨rfl, HB.out⟩
end Go.Proofs.YtgodnpngdbelhaaGreat
