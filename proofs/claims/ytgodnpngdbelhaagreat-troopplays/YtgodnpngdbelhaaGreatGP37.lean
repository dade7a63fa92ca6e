import Derived.Test.YtgodnpngdbelhaaGreatGP36
set_option maxRecDepth 100000
set_option maxHeartbeats 8000000
set_option linter.unusedVariables false
set_option linter.unusedSimpArgs false
open Go.Proofs.Tryz
namespace Go.Proofs.YtgodnpngdbelhaaGreat.Dn
open Go.RowKit Go.Maps
open Go.Proofs.YtgodnpngdbelhaaGreat.M (E V)
open Go.Proofs.YtgodnpngdbelhaaGreat.Rm (NT R)
open Go.Proofs.YtgodnpngdbelhaaGreat.Np (dvv ld32 st32 Z17)
open Dl (X)
theorem set4 {w : World} {g : Nat} {t : TypeId} {z0 z1 z2 z3 : Value} (h : w.heap[g]? = some (.cells #[z0, z1, z2, z3] t (0, 0))) (v0 v1 v2 v3 : Value) : ∃ w', (((w.setCell ⟨g, 0, none⟩ v0).setCell ⟨g, 1, none⟩ v1).setCell ⟨g, 2, none⟩ v2).setCell ⟨g, 3, none⟩ v3 = w' ∧ w'.heap[g]? = some (.cells #[v0, v1, v2, v3] t (0, 0)) ∧ Fr w (· = g) w' (· = g) :=
 ⟨_, rfl, Np.put4_row h _ _ _ _, ((((fr_one w g 0 v0).trans (fr_one _ g 1 v1)).trans (fr_one _ g 2 v2)).trans (fr_one _ g 3 v3))⟩
theorem ll_fr {w w' : World} {x : Dl.X} {a : LA} {g : Nat} (h : LL w x a) (hf : Fr w (· = g) w' (· = g)) (hn : ∀ q, blk a.ta q ∨ blk a.va q → q ≠ g) : LL w' x a :=
 ⟨h.t.keepBut fun k hk hk2 => hf.block k hk (hn k (.inl hk2)), h.v.keepBut fun k hk hk2 => hf.block k hk (hn k (.inr hk2)), fun q hq => Nat.lt_of_lt_of_le (h.lt q hq) hf.size⟩
theorem take_6 {w : World} {x : DR} {d : DA} {m : Nat} {r : R} (h : DM w x d) (hR : Rl m r x) (hF : Fit r) (hm : m ≤ 300) (y : RN) (hb : Rm.tkb r y.x = true) (hk : y.x.k = 6) (hat : AtL vl w y.ad y.x.v) (htx : ∀ v ∈ y.x.v, v.v.size ≤ maxLen) (hvl : y.x.v.length ≤ 1024) : Calls prog 51 #[.agg (rvv x d), nV y] w (LdO w d (m + 1) (Rm.tkS r y.x) (Rm.tkN r y.x)) := by
 obtain ⟨W1, gz, HW1, HB1, HGZ, Hb1, Hc1, Hr1, HS1⟩ := Np.aH3 w (.cells (rvv x d) 54) (.cells #[.int .i64 y.x.k, .int .i64 y.x.f, .int .i64 y.x.t, .int .i64 y.x.s, .int .i64 y.x.b.i, .int .i64 y.x.b.t, .slice y.ad y.x.v.length y.c] 72) (.cells Z27 54); obtain ⟨b2c0, b2f⟩ := rowR Hb1.out; have b2l := loadR Hb1.out; have b2p := loadRp Hb1.out; obtain ⟨⟨c3c0, c3c1, c3c2, c3c3, c3c4, c3c5, c3c6⟩, c3f⟩ := row7 Hc1.out; have HD := Hf h; have HRL := Hf hR; have HFI := Hf hF; obtain ⟨ht, hf0, hfn⟩ := tkb_yes hb; have hxm : x.me = r.me := hR.me; have hxn : x.n = r.n := hR.n; rw [show y.x.t = x.me by rw [ht, hxm]] at c3c2; have d1 : decide (y.x.f < 0) = false := decide_eq_false (by omega); have d2 : decide (x.n ≤ y.x.f) = false := decide_eq_false (by omega); rw [hk] at c3c0; have HAT := Hf hat; have HTX := Hf htx; have HVL := Hf hvl; clear hat htx hvl; have HS0 : Hid (Rm.tkS r y.x = Rm.q6S r y.x.v ∧ Rm.tkN r y.x = []) := Hf (by
  have e : Rm.kd y.x = 6 := by simp [Rm.kd, hk]
  unfold Rm.tkS Rm.tkN Rm.doS Rm.doN; rw [hb, e]; exact ⟨rfl, rfl⟩)
 have hs1 := HS1.out; clear h hR hF ht hf0 hfn hxm hxn hb hk; go_enter func51, ntmps51; go_upto_region 1 with fail
 rw [HW1.out, HGZ.out]; clear HW1; go_upto_region 12 with fail
 clear b2c0 b2f b2l b2p c3c0 c3c1 c3c2 c3c3 c3c4 c3c5 c3c6 c3f d1 d2; go_wp2_with fail; go_loopw [7] (fun i wr => ∃ (j : Nat) (aj : LA), j ≤ y.x.v.length ∧ i = .int .i64 j ∧ wr.heap[gz]? = some (.cells (rvv { x with l := q6L x.l (y.x.v.take j) } { d with la := aj }) 54 (0, 0)) ∧ wr.heap[gz + 1]? = some (.cells #[.int .i64 y.x.k, .int .i64 y.x.f, .int .i64 y.x.t, .int .i64 y.x.s, .int .i64 y.x.b.i, .int .i64 y.x.b.t, .slice y.ad y.x.v.length y.c] 72 (0, 0)) ∧ wr.heap[gz + 2]? = some (.cells Z27 54 (0, 0)) ∧ LL wr (q6L x.l (y.x.v.take j)) aj ∧ (∀ q, blk aj.ta q ∨ blk aj.va q → (blk d.la.ta q ∨ blk d.la.va q) ∨ gz + 3 ≤ q) ∧ Bl w wr) (fun i _ => y.x.v.length - (intOf i).toNat)
 case atStart => exact ⟨0, d.la, Nat.zero_le _, rfl, Hb1.out, Hc1.out, Hr1.out, HD.out.l.keep HB1.out, fun q hq => .inl hq, HB1.out⟩
 case round =>
  obtain ⟨j, aj, hj, rfl, hrb, hrc, hrr, hLj, hapj, hbl⟩ := hrel; have hvb : y.x.v.length ≤ 1024 := HVL.out; obtain ⟨⟨n0, n1, n2, n3, n4, n5, n6⟩, _⟩ := row7 hrc; by_cases hlt : j < y.x.v.length
  ·have hji : (j : Int) < (y.x.v.length : Int) := by omega
   obtain ⟨b1, o1, ha, q0, q1, q2, q3⟩ := (HAT.out.keep hbl).getV j hlt; have HTK := Hf (q6_take x.l y.x.v j hlt); have hsv := HTX.out _ (List.getElem_mem hlt); obtain ⟨v, HV⟩ := Nh (y.x.v[j]); rw [HV.out] at q0 q3 HTK hsv; have hsv' : v.v.size ≤ 9223372036854775807 := by unfold maxLen at hsv; omega
   obtain ⟨lj, HLJE⟩ := Nh (q6L x.l (y.x.v.take j)); have hll := (q6_len (y.x.v.take j) x.l).1; rw [List.length_take] at hll; rw [HLJE.out] at hrb hLj hll HTK; have hlj : lj.td.length ≤ 900000 := by have := HRL.out.tl; omega
   have HRB := Hf hrb; have HRC := Hf hrc; have HRR := Hf hrr; have HLJ := Hf hLj; have HBL := Hf hbl; have HAPO := Hf hapj; have HAPJ : Hid (∀ q, blk aj.ta q ∨ blk aj.va q → q < gz ∨ gz + 3 ≤ q) := fun q hq => (hapj q hq).imp (fun h => by have := HD.out.l.lt q h; have := HGZ.out; omega) id; have HSZ : Hid (gz + 3 ≤ wr.heap.size) := Hf ((Array.getElem?_eq_some_iff.1 hrr).1); have hcell : ∀ wq, Bl wr wq → wq.cell? ⟨b1, o1 + j * 4, none⟩ = some (.int .i64 v.s) ∧ wq.cell? ⟨b1, o1 + j * 4 + 3, none⟩ = some (.string v.v) := fun wq hq => by
    obtain ⟨b2, o2, ha2, g0, g1, g2, g3⟩ := (HAT.out.keep (Bu HBL.out hq Lr)).getV j hlt; rw [ha] at ha2; cases ha2; rw [HV.out] at g0 g3; exact ⟨g0, g3⟩
   have HS : Hid (∀ wq, Bl wr wq → (wq.cell? ⟨gz, 23, none⟩ = some (.int .i64 lj.n) ∧ wq.cell? ⟨gz, 24, none⟩ = some (.int .i64 lj.base) ∧ wq.cell? ⟨gz, 25, none⟩ = some (.slice aj.ta lj.td.length aj.tc) ∧ wq.cell? ⟨gz, 26, none⟩ = some (.slice aj.va lj.vs.length aj.vc)) ∧ wq.cell? ⟨gz + 1, 6, none⟩ = some (.slice y.ad y.x.v.length y.c) ∧ wq.cell? ⟨b1, o1 + j * 4, none⟩ = some (.int .i64 v.s) ∧ wq.cell? ⟨b1, o1 + j * 4 + 3, none⟩ = some (.string v.v)) := fun wq hq => ⟨(rowR (Br HRB.out hq)).1.2.2.2.2.2.2, (row7 (Br HRC.out hq)).1.2.2.2.2.2.2, hcell wq hq⟩; have ca : ∀ wq, Bl wr wq → Calls prog 82 #[lV lj aj, .int .i64 v.s, .string v.v] wq (TlO wq lj aj v.s v.v) := fun wq hq => rltell_any (HLJ.out.keep hq) v.s v.v hsv' hlj; rw [ha] at HS n6; clear hrb hrc hrr hLj hapj hbl hcell q0 q1 q2 q3 hll hsv ha; go_wp2_with fail; refine Wn fun wdx hBwd Hl => ?_; refine Tm 0 Hl ?_; refine Tj 1 Hl ?_; refine Tm 2 Hl ?_; refine Tj 3 Hl ?_; refine Tm 4 Hl ?_; refine Tm 5 Hl ?_; refine Tm 6 Hl ?_; refine Tj 7 Hl ?_; refine Tm 8 Hl ?_; refine Tj 9 Hl ?_; refine Tm 10 Hl ?_; refine Tm 11 Hl ?_; refine Tm 12 Hl ?_; refine Tj 13 Hl ?_; simp only [Act.put, Pz]; refine Rn [14, 18] (Rc ?pO ?sO (Rc ?pP ?sP AllReadyH.nil))
   case sO =>
    intro K hK; go_simp; have hqc : Below wr.heap.size wr (wdx) := Hl; refine (ca _ Hl).mono ?_; rintro e v5 ⟨a6, rfl, hL6, hb5, hnew6, hva6⟩; have hS5 := Bu Hl hb5 Lr; obtain ⟨x6, HX6⟩ := Nh (Dl.tell lj v.s v.v); rw [HX6.out] at hL6; rw [HX6.out]; generalize Dl.may lj v.s v.v = b6; have HL6 := Hf hL6; have hap6 : ∀ q, blk a6.ta q ∨ blk a6.va q → (q < gz ∨ gz + 3 ≤ q) := fun q hq => by
     have hqs := hqc.size; have hsz := HSZ.out
     rcases hnew6 q hq with h1 | h1
     ·have h2 := HAPJ.out q h1
      omega
     ·omega
    have HAP6 := Hf hap6; have HNEW : Hid (∀ q, blk a6.ta q ∨ blk a6.va q → (blk d.la.ta q ∨ blk d.la.va q) ∨ gz + 3 ≤ q) := fun q hq => by
     rcases hnew6 q hq with h1 | h1
     ·exact HAPO.out q h1
     ·exact .inr (by have := hqc.size; have := HSZ.out; omega)
    clear hL6 hnew6 hap6 hqc hva6; refine hK.out _ _ hS5 fun Hl => ?_; refine Tm 15 Hl ?_; refine Tm 16 Hl ?_; refine Tm 17 Hl ?_; simp only [Act.put, Pz]; refine Rd 18 ?pT ?sT; intro K hK; go_simp; obtain ⟨wv, hwv⟩ := Nq ((v5).alloc (.cells #[.int .i64 0, .int .i64 0, .slice none 0 0, .slice none 0 0] 52)); obtain ⟨ga, hga0⟩ := Nq ((v5).heap.size); have hbv0 : Below (v5).heap.size (v5) wv := by rw [← hwv]; exact bel1 _ _
    have hra : wv.heap[ga]? = some (.cells #[.int .i64 0, .int .i64 0, .slice none 0 0, .slice none 0 0] 52 (0, 0)) := by rw [← hwv, ← hga0]; exact heap_alloc_last _ _
    have hbv := Bu Hl hbv0 Lr; have hga : wr.heap.size ≤ ga ∧ ga < wv.heap.size := ⟨by rw [← hga0]; exact Hl.size, (Array.getElem?_eq_some_iff.1 hra).1⟩; have hL6v := HL6.out.keep hbv0; have hgl : ∀ q, blk a6.ta q ∨ blk a6.va q → q ≠ ga := fun q hq => by have := HL6.out.lt q hq; omega
    rw [hwv]; rw [hga0]; clear hwv hga0; refine hK.out _ _ hbv fun Hl => ?_; refine Rd 19 ?pU ?sU; intro K hK; obtain ⟨z0, zf⟩ := row4 hra; have zf0 := zf 0; have zf1 := zf 1; have zf2 := zf 2; have zf3 := zf 3; obtain ⟨vs, hvs, hrs, hfs⟩ := set4 hra (.int .i64 x6.n) (.int .i64 x6.base) (.slice a6.ta x6.td.length a6.tc) (.slice a6.va x6.vs.length a6.vc); have hHs := Hl; have hbs : Bl wr vs := hHs.trans (hfs.below (fun k hk => by subst hk; exact hga.1) hHs.size); have hLs : LL vs x6 a6 := ll_fr hL6v hfs hgl; have HLS := Hf hLs; have HRS := Hf hrs; have HGA := Hf hga.1; have HVS := Hf hvs; have HAPS : Hid (∀ q, blk a6.ta q ∨ blk a6.va q → q < gz ∨ gz + 3 ≤ q) := fun q hq => HAP6.out q hq; clear hvs hrs hfs hLs zf; go_simp; rw [HVS.out]; clear z0 zf0 zf1 zf2 zf3 HVS; refine hK.out _ _ hbs fun Hl => ?_; refine Tm 20 Hl ?_; simp only [Act.put, Pz]; refine Wd ?_; have HB9 := Hf (Bu HBL.out Hl Lr); have hb9 := Br HRB.out Hl; have hc9 := Br HRC.out Hl; have hr9 := Br HRR.out Hl; obtain ⟨⟨g0, g1, g2, g3⟩, _⟩ := row4 HRS.out; obtain ⟨⟨_, _, _, _, _, _, e23, e24, e25, e26⟩, ef⟩ := rowR hb9; have ef23 := ef 23; have ef24 := ef 24; have ef25 := ef 25; have ef26 := ef 26; obtain ⟨W8, hW8, hrow8, hf8⟩ := setL hb9 x6 a6; have HW8 := Hf hW8; have hne1 : gz + 1 ≠ gz := by omega
    have HC8 := Hf (fr_row hf8 hc9 hne1); have HR8 := Hf (fr_row hf8 hr9 (show gz + 2 ≠ gz by omega)); have HB8 := Hf (fr_bel HB9.out hf8 (by have := HGZ.out; omega) HB9.out.size); have HL8 := Hf (ll_fr HLS.out hf8 (fun q hq => by have := HAPS.out q hq; omega)); have HROW8 := Hf hrow8; have HEQ : Hid (q6L x.l (y.x.v.take (j + 1)) = x6) := Hf (by rw [HTK.out, HX6.out]); have HAP8 : Hid (∀ q, blk a6.ta q ∨ blk a6.va q → (blk d.la.ta q ∨ blk d.la.va q) ∨ gz + 3 ≤ q) := HNEW.out; clear hW8 hrow8 hf8 hb9 hc9 hr9 ef; go_upto_region 14 with fail
    rw [HW8.out]; clear HW8 e23 e24 e25 e26 ef23 ef24 ef25 ef26 g0 g1 g2 g3 n0 n1 n2 n3 n4 n5 n6; go_wp2; go_roundw
    case rel => exact ⟨j + 1, a6, by omega, by go_num, by rw [HEQ.out]; exact HROW8.out, HC8.out, HR8.out, by rw [HEQ.out]; exact HL8.out, HAP8.out, HB8.out⟩
    case measure => simp [intOf]; omega
   case sP =>
    intro K hK; go_simp; obtain ⟨wv, hwv⟩ := Nq ((wdx).alloc (.cells #[.int .i64 0, .int .i64 0, .slice none 0 0, .slice none 0 0] 52)); obtain ⟨ga, hga0⟩ := Nq ((wdx).heap.size); have hbv0 : Below (wdx).heap.size (wdx) wv := by rw [← hwv]; exact bel1 _ _
    have hra : wv.heap[ga]? = some (.cells #[.int .i64 0, .int .i64 0, .slice none 0 0, .slice none 0 0] 52 (0, 0)) := by rw [← hwv, ← hga0]; exact heap_alloc_last _ _
    have hbv := Bu Hl hbv0 Lr; have hga : wr.heap.size ≤ ga ∧ ga < wv.heap.size := ⟨by rw [← hga0]; exact Hl.size, (Array.getElem?_eq_some_iff.1 hra).1⟩; rw [hwv]; rw [hga0]; clear hwv hga0; refine hK.out _ _ hbv fun Hl => ?_; refine Rd 14 ?pW ?sW; intro K hK; go_simp; have hqc : Below wr.heap.size wr (wv) := Hl; refine (ca _ Hl).mono ?_; rintro e v5 ⟨a6, rfl, hL6, hb5, hnew6, hva6⟩; have hS5 := Bu Hl hb5 Lr; obtain ⟨x6, HX6⟩ := Nh (Dl.tell lj v.s v.v); rw [HX6.out] at hL6; rw [HX6.out]; generalize Dl.may lj v.s v.v = b6; have HL6 := Hf hL6; have hap6 : ∀ q, blk a6.ta q ∨ blk a6.va q → (q < gz ∨ gz + 3 ≤ q) ∧ q ≠ ga := fun q hq => by
     have hqs := hqc.size; have hsz := HSZ.out; have hga2 := hga; rcases hnew6 q hq with h1 | h1
     ·have h2 := HAPJ.out q h1; have h3 := HLJ.out.lt q h1; exact ⟨h2, by omega⟩
     ·exact ⟨by omega, by omega⟩
    have HAP6 := Hf hap6; have hra := Br hra hb5; have HNEW : Hid (∀ q, blk a6.ta q ∨ blk a6.va q → (blk d.la.ta q ∨ blk d.la.va q) ∨ gz + 3 ≤ q) := fun q hq => by
     rcases hnew6 q hq with h1 | h1
     ·exact HAPO.out q h1
     ·exact .inr (by have := hqc.size; have := HSZ.out; omega)
    clear hL6 hnew6 hap6 hqc hva6; refine hK.out _ _ hS5 fun Hl => ?_; refine Tm 15 Hl ?_; refine Tm 16 Hl ?_; refine Tm 17 Hl ?_; simp only [Act.put, Pz]; refine Rd 19 ?pa ?sa; intro K hK; obtain ⟨z0, zf⟩ := row4 hra; have zf0 := zf 0; have zf1 := zf 1; have zf2 := zf 2; have zf3 := zf 3; obtain ⟨vs, hvs, hrs, hfs⟩ := set4 hra (.int .i64 x6.n) (.int .i64 x6.base) (.slice a6.ta x6.td.length a6.tc) (.slice a6.va x6.vs.length a6.vc); have hHs := Hl; have hbs : Bl wr vs := hHs.trans (hfs.below (fun k hk => by subst hk; exact hga.1) hHs.size); have hLs : LL vs x6 a6 := ll_fr HL6.out hfs (fun q hq => (HAP6.out q hq).2); have HLS := Hf hLs; have HRS := Hf hrs; have HGA := Hf hga.1; have HVS := Hf hvs; have HAPS : Hid (∀ q, blk a6.ta q ∨ blk a6.va q → q < gz ∨ gz + 3 ≤ q) := fun q hq => (HAP6.out q hq).1; clear hvs hrs hfs hLs zf; go_simp; rw [HVS.out]; clear z0 zf0 zf1 zf2 zf3 HVS; refine hK.out _ _ hbs fun Hl => ?_; refine Tm 20 Hl ?_; simp only [Act.put, Pz]; refine Wd ?_; have HB9 := Hf (Bu HBL.out Hl Lr); have hb9 := Br HRB.out Hl; have hc9 := Br HRC.out Hl; have hr9 := Br HRR.out Hl; obtain ⟨⟨g0, g1, g2, g3⟩, _⟩ := row4 HRS.out; obtain ⟨⟨_, _, _, _, _, _, e23, e24, e25, e26⟩, ef⟩ := rowR hb9; have ef23 := ef 23; have ef24 := ef 24; have ef25 := ef 25; have ef26 := ef 26; obtain ⟨W8, hW8, hrow8, hf8⟩ := setL hb9 x6 a6; have HW8 := Hf hW8; have hne1 : gz + 1 ≠ gz := by omega
    have HC8 := Hf (fr_row hf8 hc9 hne1); have HR8 := Hf (fr_row hf8 hr9 (show gz + 2 ≠ gz by omega)); have HB8 := Hf (fr_bel HB9.out hf8 (by have := HGZ.out; omega) HB9.out.size); have HL8 := Hf (ll_fr HLS.out hf8 (fun q hq => by have := HAPS.out q hq; omega)); have HROW8 := Hf hrow8; have HEQ : Hid (q6L x.l (y.x.v.take (j + 1)) = x6) := Hf (by rw [HTK.out, HX6.out]); have HAP8 : Hid (∀ q, blk a6.ta q ∨ blk a6.va q → (blk d.la.ta q ∨ blk d.la.va q) ∨ gz + 3 ≤ q) := HNEW.out; clear hW8 hrow8 hf8 hb9 hc9 hr9 ef; go_upto_region 14 with fail
    rw [HW8.out]; clear HW8 e23 e24 e25 e26 ef23 ef24 ef25 ef26 g0 g1 g2 g3 n0 n1 n2 n3 n4 n5 n6; go_wp2; go_roundw
    case rel => exact ⟨j + 1, a6, by omega, by go_num, by rw [HEQ.out]; exact HROW8.out, HC8.out, HR8.out, by rw [HEQ.out]; exact HL8.out, HAP8.out, HB8.out⟩
    case measure => simp [intOf]; omega
  ·obtain rfl : j = y.x.v.length := by omega
   rw [List.take_length] at hrb hLj; obtain ⟨lj, HLJE⟩ := Nh (q6L x.l y.x.v); rw [HLJE.out] at hrb hLj; obtain ⟨x2, HX2⟩ : ∃ x2 : DR, Hid (({ x with l := lj } : DR) = x2) := ⟨_, Hf rfl⟩
   obtain ⟨d2, HD2⟩ : ∃ d2 : DA, Hid (({ d with la := aj } : DA) = d2) := ⟨_, Hf rfl⟩
   rw [HX2.out, HD2.out] at hrb; have lR := loadR hrb; obtain ⟨W9, hst9, hrow9, hf9⟩ := setR hrr rfl x2 d2; have HB9 := Hf (fr_bel hbl hf9 (by have := HGZ.out; omega) hbl.size); have HL9 := Hf (ll_fr hLj hf9 (fun q hq => by
    rcases hapj q hq with h1 | h1
    ·have := HD.out.l.lt q h1; have := HGZ.out; omega
    ·omega))
   have HROW := Hf hrow9; have HOUT : Hid (LdO w d (m + 1) (Rm.tkS r y.x) (Rm.tkN r y.x) (.returned (.tuple #[.agg (rvv x2 d2), .slice none 0 0])) W9) := by
    rw [HS0.out.1, HS0.out.2]; have hq := HRL.out.q6 y.x.v HVL.out; have he : q6D x y.x.v = x2 := by unfold q6D; rw [HLJE.out, HX2.out]
    have hk := HD.out.keep HB9.out; refine ⟨_, _, rfl, ⟨x2, d2, rfl, ?_, by rw [← he]; exact hq, ?_⟩, NO.nil _ _ _, HB9.out⟩
    ·rw [← HX2.out, ← HD2.out]; exact ⟨hk.a, hk.al, hk.p, HL9.out⟩
    ·intro q hq; rw [← HD2.out] at hq; have hgz := HGZ.out; rcases hq with h1 | h1 | h1 | h1
     ·exact .inl (.inl h1)
     ·exact .inl (.inr (.inl h1))
     ·rcases hapj q (.inl h1) with (h2 | h2) | h2
      ·exact .inl (.inr (.inr (.inl h2)))
      ·exact .inl (.inr (.inr (.inr h2)))
      ·exact .inr (by omega)
     ·rcases hapj q (.inr h1) with (h2 | h2) | h2
      ·exact .inl (.inr (.inr (.inl h2)))
      ·exact .inl (.inr (.inr (.inr h2)))
      ·exact .inr (by omega)
   clear hrb hrc hrr hLj hapj hbl hrow9 hf9; go_wp2; refine bodyPost_ret ?_ rfl HOUT.out; exact resR f51_res _ _ (gz + 1 + 1) _ _ rfl HROW.out
theorem at_head {w : World} {a : Option Addr} {l : List V} (h : AtL vl w a l) (h1 : l.length = 1) : ∃ b off, a = some ⟨b, off, none⟩ ∧ w.cell? ⟨b, off, none⟩ = some (.int .i64 (l.headD Rm.v0).s) ∧ w.cell? ⟨b, off + 1, none⟩ = some (.int .i64 (l.headD Rm.v0).b.i) ∧ w.cell? ⟨b, off + 2, none⟩ = some (.int .i64 (l.headD Rm.v0).b.t) ∧ w.cell? ⟨b, off + 3, none⟩ = some (.string (l.headD Rm.v0).v) := by
 obtain ⟨b, off, e, q0, q1, q2, q3⟩ := h.getV 0 (by omega); have hh : l[0]'(by omega) = l.headD Rm.v0 := by
  cases l with
  | nil => simp at h1
  | cons z t => rfl
 rw [hh] at q0 q1 q2 q3; simp only [Nat.zero_mul, Nat.add_zero] at q0 q1 q2 q3; exact ⟨b, off, e, q0, q1, q2, q3⟩
theorem head_mem {l : List V} (h1 : l.length = 1) : l.headD Rm.v0 ∈ l := Tm.one_mem h1
theorem take_4 {w : World} {x : DR} {d : DA} {m : Nat} {r : R} (h : DM w x d) (hR : Rl m r x) (hF : Fit r) (hm : m ≤ 300) (y : RN) (hb : Rm.tkb r y.x = true) (hk : y.x.k = 4) (h1 : y.x.v.length = 1) (hat : AtL vl w y.ad y.x.v) (htx : ∀ v ∈ y.x.v, v.v.size ≤ maxLen) : Calls prog 51 #[.agg (rvv x d), nV y] w (LdO w d (m + 1) (Rm.tkS r y.x) (Rm.tkN r y.x)) := by
 obtain ⟨W1, gz, HW1, HB1, HGZ, Hb1, Hc1, Hr1, HS1⟩ := Np.aH3 w (.cells (rvv x d) 54) (.cells #[.int .i64 y.x.k, .int .i64 y.x.f, .int .i64 y.x.t, .int .i64 y.x.s, .int .i64 y.x.b.i, .int .i64 y.x.b.t, .slice y.ad y.x.v.length y.c] 72) (.cells Z27 54); obtain ⟨b2c0, b2f⟩ := rowR Hb1.out; have b2l := loadR Hb1.out; have b2p := loadRp Hb1.out; obtain ⟨⟨c3c0, c3c1, c3c2, c3c3, c3c4, c3c5, c3c6⟩, c3f⟩ := row7 Hc1.out; have HD := Hf h; have HRL := Hf hR; have HFI := Hf hF; obtain ⟨ht, hf0, hfn⟩ := tkb_yes hb; have hxm : x.me = r.me := hR.me; have hxn : x.n = r.n := hR.n; rw [show y.x.t = x.me by rw [ht, hxm]] at c3c2; have d1 : decide (y.x.f < 0) = false := decide_eq_false (by omega); have d2 : decide (x.n ≤ y.x.f) = false := decide_eq_false (by omega); rw [hk] at c3c0; rw [h1] at c3c6; have H1 := Hf h1; have HAT := Hf hat; obtain ⟨v, HV⟩ := Nh (y.x.v.headD Rm.v0); have hsv := htx _ (head_mem h1); rw [HV.out] at hsv; have hsv' : v.v.size ≤ 9223372036854775807 := by unfold maxLen at hsv; omega
 clear hat htx hsv; have HS0 : Hid (Rm.tkS r y.x = Rm.q4S r y.x.f v ∧ Rm.tkN r y.x = []) := Hf (by
  have e : Rm.kd y.x = 4 := by simp [Rm.kd, hk, h1]
  unfold Rm.tkS Rm.tkN Rm.doS Rm.doN; rw [hb, e, ← HV.out]; exact ⟨rfl, rfl⟩)
 have hs1 := HS1.out; clear h hR hF ht hf0 hfn hxm hxn hb hk h1; go_enter func51, ntmps51; go_upto_region 1 with fail
 rw [HW1.out, HGZ.out]; clear HW1; go_upto_region 26 with fail
 clear b2c0 b2f b2l b2p c3c0 c3c1 c3c2 c3c3 c3c4 c3c5 c3c6 c3f d1 d2; obtain ⟨b1, o1, ha, q0, q1, q2, q3⟩ := at_head (HAT.out.keep HB1.out) H1.out; have hcell : ∀ wq, Bl W1 wq → wq.cell? ⟨b1, o1, none⟩ = some (.int .i64 v.s) ∧ wq.cell? ⟨b1, o1 + 1, none⟩ = some (.int .i64 v.b.i) ∧ wq.cell? ⟨b1, o1 + 2, none⟩ = some (.int .i64 v.b.t) ∧ wq.cell? ⟨b1, o1 + 3, none⟩ = some (.string v.v) := fun wq hq => by
  obtain ⟨b2, o2, ha2, g0, g1, g2, g3⟩ := at_head (HAT.out.keep (Bu HB1.out hq Lr)) H1.out; rw [ha] at ha2; cases ha2; rw [HV.out] at g0 g1 g2 g3; exact ⟨g0, g1, g2, g3⟩
 have HAPJ : Hid (∀ q, blk d.la.ta q ∨ blk d.la.va q → q < gz ∨ gz + 3 ≤ q) := fun q hq => .inl (by have := HD.out.l.lt q hq; have := HGZ.out; omega); have HSZ : Hid (gz + 3 ≤ W1.heap.size) := Hf (by omega); have HLJ := Hf (HD.out.l.keep HB1.out); have HS : Hid (∀ wq, Bl W1 wq → (wq.cell? ⟨gz, 23, none⟩ = some (.int .i64 x.l.n) ∧ wq.cell? ⟨gz, 24, none⟩ = some (.int .i64 x.l.base) ∧ wq.cell? ⟨gz, 25, none⟩ = some (.slice d.la.ta x.l.td.length d.la.tc) ∧ wq.cell? ⟨gz, 26, none⟩ = some (.slice d.la.va x.l.vs.length d.la.vc)) ∧ (wq.cell? ⟨gz + 1, 6, none⟩ = some (.slice y.ad 1 y.c) ∧ wq.cell? ⟨gz + 1, 1, none⟩ = some (.int .i64 y.x.f)) ∧ wq.cell? ⟨b1, o1, none⟩ = some (.int .i64 v.s) ∧ wq.cell? ⟨b1, o1 + 1, none⟩ = some (.int .i64 v.b.i) ∧ wq.cell? ⟨b1, o1 + 2, none⟩ = some (.int .i64 v.b.t) ∧ wq.cell? ⟨b1, o1 + 3, none⟩ = some (.string v.v)) := fun wq hq => ⟨(rowR (Br Hb1.out hq)).1.2.2.2.2.2.2, ⟨by have := (row7 (Br Hc1.out hq)).1.2.2.2.2.2.2; rw [H1.out] at this; exact this, (row7 (Br Hc1.out hq)).1.2.1⟩, hcell wq hq⟩; have ca : ∀ wq, Bl W1 wq → Calls prog 86 #[lV x.l d.la, .int .i64 y.x.f, vV v] wq (HrO wq x.l d.la y.x.f v) := fun wq hq => rlhear_any (HLJ.out.keep hq) y.x.f v hsv' (by have := HRL.out.tl; omega) (by have := HRL.out.vl; omega); rw [ha] at HS; clear hcell q0 q1 q2 q3 ha; refine Wn fun wdx hBwd Hl => ?_; refine Tm 0 Hl ?_; refine Tj 1 Hl ?_; refine Tm 2 Hl ?_; refine Tj 3 Hl ?_; refine Tm 4 Hl ?_; refine Tj 5 Hl ?_; refine Tm 6 Hl ?_; refine Tj 7 Hl ?_
 simp only [Act.put, Pz]; refine Rn [8, 12] (Rc ?pI ?sI (Rc ?pJ ?sJ AllReadyH.nil))
 case sI =>
  intro K hK; go_simp; have hqc : Below W1.heap.size W1 (wdx) := Hl; refine (ca _ Hl).mono ?_; rintro e v5 ⟨a6, b6, rfl, hL6, hb5, hnew6⟩; have hS5 := Bu Hl hb5 Lr; obtain ⟨x6, HX6⟩ := Nh (Dl.hear x.l y.x.f v); rw [HX6.out] at hL6; rw [HX6.out]
  have HL6 := Hf hL6; have hap6 : ∀ q, blk a6.ta q ∨ blk a6.va q → (q < gz ∨ gz + 3 ≤ q) := fun q hq => by
   have hqs := hqc.size; have hsz := HSZ.out
   rcases hnew6 q hq with h1 | h1
   ·have h2 := HAPJ.out q h1
    omega
   ·omega
  have HAP6 := Hf hap6; have HNEW : Hid (∀ q, blk a6.ta q ∨ blk a6.va q → (blk d.la.ta q ∨ blk d.la.va q) ∨ w.heap.size ≤ q) := fun q hq => (hnew6 q hq).imp id (fun h1 => by have := hqc.size; have := HSZ.out; have := HGZ.out; omega); clear hL6 hnew6 hap6 hqc; refine hK.out _ _ hS5 fun Hl => ?_; refine Tm 9 Hl ?_; refine Tm 10 Hl ?_; refine Tm 11 Hl ?_; simp only [Act.put, Pz]; refine Rd 12 ?pN ?sN; intro K hK; go_simp; obtain ⟨wv, hwv⟩ := Nq ((v5).alloc (.cells #[.int .i64 0, .int .i64 0, .slice none 0 0, .slice none 0 0] 52)); obtain ⟨ga, hga0⟩ := Nq ((v5).heap.size); have hbv0 : Below (v5).heap.size (v5) wv := by rw [← hwv]; exact bel1 _ _
  have hra : wv.heap[ga]? = some (.cells #[.int .i64 0, .int .i64 0, .slice none 0 0, .slice none 0 0] 52 (0, 0)) := by rw [← hwv, ← hga0]; exact heap_alloc_last _ _
  have hbv := Bu Hl hbv0 Lr; have hga : W1.heap.size ≤ ga ∧ ga < wv.heap.size := ⟨by rw [← hga0]; exact Hl.size, (Array.getElem?_eq_some_iff.1 hra).1⟩; have hL6v := HL6.out.keep hbv0; have hgl : ∀ q, blk a6.ta q ∨ blk a6.va q → q ≠ ga := fun q hq => by have := HL6.out.lt q hq; omega
  rw [hwv]; rw [hga0]; clear hwv hga0; refine hK.out _ _ hbv fun Hl => ?_; refine Rd 13 ?pO ?sO; intro K hK; obtain ⟨z0, zf⟩ := row4 hra; have zf0 := zf 0; have zf1 := zf 1; have zf2 := zf 2; have zf3 := zf 3; obtain ⟨vs, hvs, hrs, hfs⟩ := set4 hra (.int .i64 x6.n) (.int .i64 x6.base) (.slice a6.ta x6.td.length a6.tc) (.slice a6.va x6.vs.length a6.vc); have hHs := Hl; have hbs : Bl W1 vs := hHs.trans (hfs.below (fun k hk => by subst hk; exact hga.1) hHs.size); have hLs : LL vs x6 a6 := ll_fr hL6v hfs hgl; have HLS := Hf hLs; have HRS := Hf hrs; have HGA := Hf hga.1; have HVS := Hf hvs; have HAPS : Hid (∀ q, blk a6.ta q ∨ blk a6.va q → q < gz ∨ gz + 3 ≤ q) := fun q hq => HAP6.out q hq; clear hvs hrs hfs hLs zf; go_simp; rw [HVS.out]; clear z0 zf0 zf1 zf2 zf3 HVS; refine hK.out _ _ hbs fun Hl => ?_; refine Tm 14 Hl ?_; simp only [Act.put, Pz]; refine Wd ?_; have HB9 := Hf (Bu HB1.out Hl Lr); have hb9 := Br Hb1.out Hl; have hr9 := Br Hr1.out Hl; obtain ⟨⟨g0, g1, g2, g3⟩, _⟩ := row4 HRS.out; obtain ⟨⟨_, _, _, _, _, _, e23, e24, e25, e26⟩, ef⟩ := rowR hb9; have ef23 := ef 23; have ef24 := ef 24; have ef25 := ef 25; have ef26 := ef 26; obtain ⟨W8, hW8, hrow8, hf8⟩ := setL hb9 x6 a6; have HW8 := Hf hW8; have HR8 := Hf (fr_row hf8 hr9 (show gz + 2 ≠ gz by omega)); have HB8 := Hf (fr_bel HB9.out hf8 (by have := HGZ.out; omega) HB9.out.size); have HL8 := Hf (ll_fr HLS.out hf8 (fun q hq => by have := HAPS.out q hq; omega))
  obtain ⟨x2, HX2⟩ : ∃ x2 : DR, Hid (({ x with l := x6 } : DR) = x2) := ⟨_, Hf rfl⟩
  obtain ⟨d2, HD2⟩ : ∃ d2 : DA, Hid (({ d with la := a6 } : DA) = d2) := ⟨_, Hf rfl⟩
  rw [HX2.out, HD2.out] at hrow8; have HROW8 := Hf hrow8; clear hW8 hrow8 hf8 hb9 hr9 ef; go_upto_region 28 with fail
  rw [HW8.out]; clear HW8 e23 e24 e25 e26 ef23 ef24 ef25 ef26 g0 g1 g2 g3; have lR := loadR HROW8.out; obtain ⟨W9, hst9, hrow9, hf9⟩ := setR HR8.out rfl x2 d2; have HB10 := Hf (fr_bel HB8.out hf9 (by have := HGZ.out; omega) HB8.out.size); have HL9 := Hf (ll_fr HL8.out hf9 (fun q hq => by have := HAPS.out q hq; omega)); have HROW := Hf hrow9; have HOUT : Hid (LdO w d (m + 1) (Rm.tkS r y.x) (Rm.tkN r y.x) (.returned (.tuple #[.agg (rvv x2 d2), .slice none 0 0])) W9) := by
   rw [HS0.out.1, HS0.out.2]; have he : q4D x y.x.f v = x2 := by unfold q4D; rw [HX6.out, HX2.out]
   have hk := HD.out.keep HB10.out; refine ⟨_, _, rfl, ⟨x2, d2, rfl, ?_, by rw [← he]; exact HRL.out.q4 y.x.f v, ?_⟩, NO.nil _ _ _, HB10.out⟩
   ·rw [← HX2.out, ← HD2.out]; exact ⟨hk.a, hk.al, hk.p, HL9.out⟩
   ·intro q hq; rw [← HD2.out] at hq; rcases hq with h1 | h1 | h1 | h1
    ·exact .inl (.inl h1)
    ·exact .inl (.inr (.inl h1))
    ·exact (HNEW.out q (.inl h1)).imp (fun h => h.elim (fun h => .inr (.inr (.inl h))) (fun h => .inr (.inr (.inr h)))) id
    ·exact (HNEW.out q (.inr h1)).imp (fun h => h.elim (fun h => .inr (.inr (.inl h))) (fun h => .inr (.inr (.inr h)))) id
  clear hrow9 hf9; go_wp2; refine bodyPost_ret ?_ rfl HOUT.out; exact resR f51_res _ _ (gz + 1 + 1) _ _ rfl HROW.out
 case sJ =>
  intro K hK; go_simp; obtain ⟨wv, hwv⟩ := Nq ((wdx).alloc (.cells #[.int .i64 0, .int .i64 0, .slice none 0 0, .slice none 0 0] 52)); obtain ⟨ga, hga0⟩ := Nq ((wdx).heap.size); have hbv0 : Below (wdx).heap.size (wdx) wv := by rw [← hwv]; exact bel1 _ _
  have hra : wv.heap[ga]? = some (.cells #[.int .i64 0, .int .i64 0, .slice none 0 0, .slice none 0 0] 52 (0, 0)) := by rw [← hwv, ← hga0]; exact heap_alloc_last _ _
  have hbv := Bu Hl hbv0 Lr; have hga : W1.heap.size ≤ ga ∧ ga < wv.heap.size := ⟨by rw [← hga0]; exact Hl.size, (Array.getElem?_eq_some_iff.1 hra).1⟩; rw [hwv]; rw [hga0]; clear hwv hga0; refine hK.out _ _ hbv fun Hl => ?_; refine Rd 8 ?pQ ?sQ; intro K hK; go_simp; have hqc : Below W1.heap.size W1 (wv) := Hl; refine (ca _ Hl).mono ?_; rintro e v5 ⟨a6, b6, rfl, hL6, hb5, hnew6⟩; have hS5 := Bu Hl hb5 Lr; obtain ⟨x6, HX6⟩ := Nh (Dl.hear x.l y.x.f v); rw [HX6.out] at hL6; rw [HX6.out]
  have HL6 := Hf hL6; have hap6 : ∀ q, blk a6.ta q ∨ blk a6.va q → (q < gz ∨ gz + 3 ≤ q) ∧ q ≠ ga := fun q hq => by
   have hqs := hqc.size; have hsz := HSZ.out; have hga2 := hga; rcases hnew6 q hq with h1 | h1
   ·have h2 := HAPJ.out q h1; have h3 := HLJ.out.lt q h1; exact ⟨h2, by omega⟩
   ·exact ⟨by omega, by omega⟩
  have HAP6 := Hf hap6; have hra := Br hra hb5; have HNEW : Hid (∀ q, blk a6.ta q ∨ blk a6.va q → (blk d.la.ta q ∨ blk d.la.va q) ∨ w.heap.size ≤ q) := fun q hq => (hnew6 q hq).imp id (fun h1 => by have := hqc.size; have := HSZ.out; have := HGZ.out; omega); clear hL6 hnew6 hap6 hqc; refine hK.out _ _ hS5 fun Hl => ?_; refine Tm 9 Hl ?_; refine Tm 10 Hl ?_; refine Tm 11 Hl ?_; simp only [Act.put, Pz]; refine Rd 13 ?pU ?sU; intro K hK; obtain ⟨z0, zf⟩ := row4 hra; have zf0 := zf 0; have zf1 := zf 1; have zf2 := zf 2; have zf3 := zf 3; obtain ⟨vs, hvs, hrs, hfs⟩ := set4 hra (.int .i64 x6.n) (.int .i64 x6.base) (.slice a6.ta x6.td.length a6.tc) (.slice a6.va x6.vs.length a6.vc); have hHs := Hl; have hbs : Bl W1 vs := hHs.trans (hfs.below (fun k hk => by subst hk; exact hga.1) hHs.size); have hLs : LL vs x6 a6 := ll_fr HL6.out hfs (fun q hq => (HAP6.out q hq).2); have HLS := Hf hLs; have HRS := Hf hrs; have HGA := Hf hga.1; have HVS := Hf hvs; have HAPS : Hid (∀ q, blk a6.ta q ∨ blk a6.va q → q < gz ∨ gz + 3 ≤ q) := fun q hq => (HAP6.out q hq).1; clear hvs hrs hfs hLs zf; go_simp; rw [HVS.out]; clear z0 zf0 zf1 zf2 zf3 HVS; refine hK.out _ _ hbs fun Hl => ?_; refine Tm 14 Hl ?_; simp only [Act.put, Pz]; refine Wd ?_; have HB9 := Hf (Bu HB1.out Hl Lr); have hb9 := Br Hb1.out Hl; have hr9 := Br Hr1.out Hl; obtain ⟨⟨g0, g1, g2, g3⟩, _⟩ := row4 HRS.out; obtain ⟨⟨_, _, _, _, _, _, e23, e24, e25, e26⟩, ef⟩ := rowR hb9; have ef23 := ef 23; have ef24 := ef 24; have ef25 := ef 25
  have ef26 := ef 26; obtain ⟨W8, hW8, hrow8, hf8⟩ := setL hb9 x6 a6; have HW8 := Hf hW8; have HR8 := Hf (fr_row hf8 hr9 (show gz + 2 ≠ gz by omega)); have HB8 := Hf (fr_bel HB9.out hf8 (by have := HGZ.out; omega) HB9.out.size); have HL8 := Hf (ll_fr HLS.out hf8 (fun q hq => by have := HAPS.out q hq; omega)); obtain ⟨x2, HX2⟩ : ∃ x2 : DR, Hid (({ x with l := x6 } : DR) = x2) := ⟨_, Hf rfl⟩
  obtain ⟨d2, HD2⟩ : ∃ d2 : DA, Hid (({ d with la := a6 } : DA) = d2) := ⟨_, Hf rfl⟩
  rw [HX2.out, HD2.out] at hrow8; have HROW8 := Hf hrow8; clear hW8 hrow8 hf8 hb9 hr9 ef; go_upto_region 28 with fail
  rw [HW8.out]; clear HW8 e23 e24 e25 e26 ef23 ef24 ef25 ef26 g0 g1 g2 g3; have lR := loadR HROW8.out; obtain ⟨W9, hst9, hrow9, hf9⟩ := setR HR8.out rfl x2 d2; have HB10 := Hf (fr_bel HB8.out hf9 (by have := HGZ.out; omega) HB8.out.size); have HL9 := Hf (ll_fr HL8.out hf9 (fun q hq => by have := HAPS.out q hq; omega)); have HROW := Hf hrow9; have HOUT : Hid (LdO w d (m + 1) (Rm.tkS r y.x) (Rm.tkN r y.x) (.returned (.tuple #[.agg (rvv x2 d2), .slice none 0 0])) W9) := by
   rw [HS0.out.1, HS0.out.2]; have he : q4D x y.x.f v = x2 := by unfold q4D; rw [HX6.out, HX2.out]
   have hk := HD.out.keep HB10.out; refine ⟨_, _, rfl, ⟨x2, d2, rfl, ?_, by rw [← he]; exact HRL.out.q4 y.x.f v, ?_⟩, NO.nil _ _ _, HB10.out⟩
   ·rw [← HX2.out, ← HD2.out]; exact ⟨hk.a, hk.al, hk.p, HL9.out⟩
   ·intro q hq; rw [← HD2.out] at hq; rcases hq with h1 | h1 | h1 | h1
    ·exact .inl (.inl h1)
    ·exact .inl (.inr (.inl h1))
    ·exact (HNEW.out q (.inl h1)).imp (fun h => h.elim (fun h => .inr (.inr (.inl h))) (fun h => .inr (.inr (.inr h)))) id
    ·exact (HNEW.out q (.inr h1)).imp (fun h => h.elim (fun h => .inr (.inr (.inl h))) (fun h => .inr (.inr (.inr h)))) id
  clear hrow9 hf9; go_wp2; refine bodyPost_ret ?_ rfl HOUT.out; exact resR f51_res _ _ (gz + 1 + 1) _ _ rfl HROW.out
end Go.Proofs.YtgodnpngdbelhaaGreat.Dn
