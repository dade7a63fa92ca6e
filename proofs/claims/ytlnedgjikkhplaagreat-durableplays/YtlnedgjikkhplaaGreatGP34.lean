import Derived.Test.YtlnedgjikkhplaaGreatGP33
set_option maxRecDepth 100000
set_option maxHeartbeats 8000000
set_option linter.unusedVariables false
set_option linter.unusedSimpArgs false
namespace Go.Proofs.YtlnedgjikkhplaaGreat.Du
open Go.RowKit
open Na (Fr AS XL vl bV vV Hf bel1 bel2 Bu Br row2 row4 blk OwnL AtL)
open Na.M (E V S S0)
open Ns.M (ofL)
structure CB (wr : World) (B2 B7 B8 g b : Nat) (o : Nat) (T : ByteArray) : Prop where
 r2 : wr.heap[B2]? = some (.cells #[ptr b] 27 (0, 0))
 r7 : wr.heap[B7]? = some (.cells #[.int .i64 o] 3 (0, 0))
 r8 : wr.heap[B8]? = some (.cells #[.string T] 9 (0, 0))
 rg : wr.heap[g]? = some (.cells #[.func (.func 70) #[] #[ptr B2, ptr B7, ptr B8], .func (.func 73) #[ptr b] #[], .func (.func 74) #[] #[ptr B2, ptr B7]] 117 (0, 0))
theorem row1 {w : World} {k : Nat} {v0 : Value} {t : TypeId} (h : w.heap[k]? = some (.cells #[v0] t (0, 0))) : w.cell? ⟨k, 0, none⟩ = some v0 := by rw [cell_of_row w k 0 _ _ _ h]; rfl
theorem row3 {w : World} {k : Nat} {v0 v1 v2 : Value} {t : TypeId} (h : w.heap[k]? = some (.cells #[v0, v1, v2] t (0, 0))) : w.cell? ⟨k, 0, none⟩ = some v0 ∧ w.cell? ⟨k, 1, none⟩ = some v1 ∧ w.cell? ⟨k, 2, none⟩ = some v2 :=
 ⟨by rw [cell_of_row w k 0 _ _ _ h]; rfl, by rw [cell_of_row w k 1 _ _ _ h]; rfl, by rw [cell_of_row w k 2 _ _ _ h]; rfl⟩
theorem CB.step {wr wr' : World} {F G : Nat → Prop} {B2 B7 B8 g b o : Nat} {T : ByteArray} (h : CB wr B2 B7 B8 g b o T) (hF : Fr wr F wr' G) (h2 : ¬ F B2) (h7 : ¬ F B7) (h8 : ¬ F B8) (hg : ¬ F g) : CB wr' B2 B7 B8 g b o T :=
 ⟨(hF.block B2 (Array.getElem?_eq_some_iff.1 h.r2).1 h2).trans h.r2, (hF.block B7 (Array.getElem?_eq_some_iff.1 h.r7).1 h7).trans h.r7, (hF.block B8 (Array.getElem?_eq_some_iff.1 h.r8).1 h8).trans h.r8, (hF.block g (Array.getElem?_eq_some_iff.1 h.rg).1 hg).trans h.rg⟩
def Pk (n : Nat) (P : List Ns.M.Pl) (x : X) : Nat → List Ns.M.Pl
 | 0 => P
 | 1 => w1P n P x
 | 2 => Ns.M.flush (w1P n P x)
 | _ => Ns.nxN (Ns.M.flush (w1P n P x)) [UInt8.ofNat (1 - x.ar)]
section
variable {w0 w wr w' : World} {FA FD FA' FD' : Nat → Prop} {b ab db n B2 B7 B8 g k : Nat} {P P' : List Ns.M.Pl} {x x' : X} {rs : List R}
structure SS (w0 w : World) (FA FD : Nat → Prop) (b ab db n : Nat) (P : List Ns.M.Pl) (x : X) (B2 B7 B8 g k : Nat) (wr : World) : Prop where
 d : ∃ G, DU w0 wr FA G b ab db n (Pk n P x k) x ∧ (¬ fpd b FA G B2 ∧ ¬ fpd b FA G B7 ∧ ¬ fpd b FA G B8 ∧ ¬ fpd b FA G g) ∧ Fr w (fpd b FA FD) wr (fpd b FA G)
 c : CB wr B2 B7 B8 g b (1 - x.ar) (ofL (recs (x.ep + 1) 0 (few x.a)))
theorem SS.next {G G' : Nat → Prop} {wr wr' : World} {k : Nat} (hc : CB wr B2 B7 B8 g b (1 - x.ar) (ofL (recs (x.ep + 1) 0 (few x.a)))) (hn : ¬ fpd b FA G B2 ∧ ¬ fpd b FA G B7 ∧ ¬ fpd b FA G B8 ∧ ¬ fpd b FA G g) (hf : Fr w (fpd b FA FD) wr (fpd b FA G))
  (hd : DU w0 wr' FA G' b ab db n (Pk n P x (k + 1)) x) (hF : Fr wr (fpd b FA G) wr' (fpd b FA G')) : SS w0 w FA FD b ab db n P x B2 B7 B8 g (k + 1) wr' := by
 have key : ∀ B, B < wr.heap.size → ¬ fpd b FA G B → ¬ fpd b FA G' B := fun B hB h e => by
  rcases hF.n B e with h' | h'
  ·exact h h'
  ·omega
 exact ⟨⟨G', hd, ⟨key _ (Array.getElem?_eq_some_iff.1 hc.r2).1 hn.1, key _ (Array.getElem?_eq_some_iff.1 hc.r7).1 hn.2.1, key _ (Array.getElem?_eq_some_iff.1 hc.r8).1 hn.2.2.1, key _ (Array.getElem?_eq_some_iff.1 hc.rg).1 hn.2.2.2⟩, hf.trans hF⟩, hc.step hF hn.1 hn.2.1 hn.2.2.1 hn.2.2.2⟩
theorem clo70 (hg : Gd n P x rs) (hs : secs (x.ep + 1) 0 (few x.a) ≤ hf n) (h : SS w0 w FA FD b ab db n P x B2 B7 B8 g 0 wr) : Calls Tryz.prog 70 #[ptr B2, ptr B7, ptr B8] wr fun e w' => e = .returned (.int .i64 0) ∧ SS w0 w FA FD b ab db n P x B2 B7 B8 g 1 w' := by
 obtain ⟨⟨G, hd, hn, hfr⟩, hc⟩ := h
 have hd : DU w0 wr FA G b ab db n P x := hd
 have hn10 := hg.n10
 have hnl := hg.nle
 have har := hg.ar
 have hfl := hf_le n (by omega)
 have hh1 : 1 ≤ hf n := by unfold hf; omega
 have hrl := recs_len (x.ep + 1) (few x.a) 0
 have hdd : DU w0 wr.drew FA G b ab db n P x := hd.keep (Below.refl _ _).drew
 have key : ∀ w', Below wr.drew.heap.size wr.drew w' → w'.cell? ⟨B2, 0, none⟩ = some (ptr b) ∧ w'.cell? ⟨B7, 0, none⟩ = some (.int .i64 ((1 - x.ar : Nat) : Int)) ∧ w'.cell? ⟨B8, 0, none⟩ = some (.string (ofL (recs (x.ep + 1) 0 (few x.a)))) ∧ w'.cell? ⟨b, 1, none⟩ = some (ptr db) := fun w' hb =>
  ⟨row1 (Br (W := wr.drew) hc.r2 hb), row1 (Br (W := wr.drew) hc.r7 hb), row1 (Br (W := wr.drew) hc.r8 hb), (row7 (hdd.keep hb).row).1.2.1⟩
 have HSI := Hf (key _ (Below.refl _ _))
 have HKB := Hf key
 have HKC : Hid (∀ w1 w2 G', Below wr.drew.heap.size wr.drew w1 → Ns.Ch w1 G w2 G' → w2.cell? ⟨B2, 0, none⟩ = some (ptr b) ∧ w2.cell? ⟨B7, 0, none⟩ = some (.int .i64 ((1 - x.ar : Nat) : Int)) ∧ w2.cell? ⟨B8, 0, none⟩ = some (.string (ofL (recs (x.ep + 1) 0 (few x.a)))) ∧ w2.cell? ⟨b, 1, none⟩ = some (ptr db)) := fun w1 w2 G' hb hF =>
  ⟨row1 ((hF.block B2 (by have := (Array.getElem?_eq_some_iff.1 (Br (W := wr.drew) hc.r2 hb)).1; exact this) (fun e => hn.1 (.inr (.inr e)))).trans (Br (W := wr.drew) hc.r2 hb)), row1 ((hF.block B7 ((Array.getElem?_eq_some_iff.1 (Br (W := wr.drew) hc.r7 hb)).1) (fun e => hn.2.1 (.inr (.inr e)))).trans (Br (W := wr.drew) hc.r7 hb)), row1 ((hF.block B8 ((Array.getElem?_eq_some_iff.1 (Br (W := wr.drew) hc.r8 hb)).1) (fun e => hn.2.2.1 (.inr (.inr e)))).trans (Br (W := wr.drew) hc.r8 hb)), (row7 ((hF.block b (hdd.keep hb).lt hdd.nd).trans (hdd.keep hb).row)).1.2.1⟩
 have HFO := Hf (hdd.firstOf (by omega) (1 - x.ar) (by omega))
 have HWI := Hf (hdd.width (by omega))
 have HPD : Hid (∀ W, Calls Tryz.prog 72 #[.string (ofL (recs (x.ep + 1) 0 (few x.a))), .int .i64 (((hf n : Nat) : Int) * 64)] W fun e w' => e = .returned (.string (ofL (ctx n x))) ∧ Below W.heap.size W w') := fun W => by
  have := padded_any (recs (x.ep + 1) 0 (few x.a)) (hf n * 64) W (by rw [hrl]; omega) (by omega)
  rw [hrl, show hf n * 64 - secs (x.ep + 1) 0 (few x.a) * 64 = (hf n - secs (x.ep + 1) 0 (few x.a)) * 64 by omega, show ((hf n * 64 : Nat) : Int) = ((hf n : Nat) : Int) * 64 by omega] at this
  exact this
 have hmul := mul_le1 (k := 1 - x.ar) (h := hf n) (by omega)
 have hwo := write_ok (P := P) (n := n) (8 + (1 - x.ar) * hf n) (hf n) (ofL (ctx n x)) (by rw [Ns.M.ofL_size, ctx_len hs]) hh1 (by omega)
 have HWR : Hid (∀ w1, Below wr.drew.heap.size wr.drew w1 → Calls Tryz.prog 71 #[ptr db, .int .i64 ((8 + (1 - x.ar) * hf n : Nat) : Int), .string (ofL (ctx n x))] w1 fun e w' => ∃ G', e = .returned (.int .i64 0) ∧ Ns.DS w0 w' db G' n (w1P n P x) false ∧ Ns.Ch w1 G w' G') := fun w1 hb => by
  have := (hdd.keep hb).d.write ((8 + (1 - x.ar) * hf n : Nat) : Int) (ofL (ctx n x)) (by rw [Ns.M.ofL_size, ctx_len hs]; omega)
  rw [hwo.1, hwo.2] at this
  exact this
 have HFI : Hid (∀ w1 w2 G', Below wr.drew.heap.size wr.drew w1 → Ns.DS w0 w2 db G' n (w1P n P x) false → Ns.Ch w1 G w2 G' → SS w0 w FA FD b ab db n P x B2 B7 B8 g 1 w2) := fun w1 w2 G' hb h1 h2 => by
  have hq := (hdd.keep hb).chD h1 (Fr.ofCh h2)
  exact SS.next hc hn hfr hq.1 (((Fr.ofBelow (Below.refl _ _).drew).trans (Fr.ofBelow hb)).trans hq.2)
 clear hd hdd hc key hfr hn hwo
 generalize recs (x.ep + 1) 0 (few x.a) = TT at *
 generalize ctx n x = CT at *
 generalize hA : 8 + (1 - x.ar) * hf n = A0 at *
 clear hA
 have hw64 : IntKind.i64.wrap (((hf n : Nat) : Int) * 64) = ((hf n : Nat) : Int) * 64 := by rw [IntKind.wrap_i64]; omega
 generalize 1 - x.ar = OT at *
 generalize hf n = HN at *
 go_enter Tryz.func70, Tryz.ntmps70
 go_upto_region 1 with fail
 refine wp_region_held_drew (S := (fun wq => wq.cell? ⟨B2, 0, none⟩ = some (ptr b) ∧ wq.cell? ⟨B7, 0, none⟩ = some (.int .i64 (OT : Nat)) ∧ wq.cell? ⟨B8, 0, none⟩ = some (.string (ofL TT)) ∧ wq.cell? ⟨b, 1, none⟩ = some (ptr db))) (by kernel_rfl) HSI.out fun Hl => ?_
 refine Tk 0 ?pA ?vA ?yA Hl ?rA
 case yA => intro wq hq; obtain ⟨z0, z1, z2, z3⟩ := hq; go_simp; try with_reducible rfl
 refine Tm 1 ?pB ?vB Hl ?rB
 refine Tm 2 ?pC ?vC Hl ?rC
 refine Tk 3 ?pD ?vD ?yD Hl ?rD
 case yD => intro wq hq; obtain ⟨z0, z1, z2, z3⟩ := hq; go_simp; try with_reducible rfl
 refine Tk 4 ?pE ?vE ?yE Hl ?rE
 case yE => intro wq hq; obtain ⟨z0, z1, z2, z3⟩ := hq; go_simp; try with_reducible rfl
 refine Tk 5 ?pF ?vF ?yF Hl ?rF
 case yF => intro wq hq; obtain ⟨z0, z1, z2, z3⟩ := hq; go_simp; try with_reducible rfl
 refine Tk 7 ?pG ?vG ?yG Hl ?rG
 case yG => intro wq hq; obtain ⟨z0, z1, z2, z3⟩ := hq; go_simp; try with_reducible rfl
 refine Tk 8 ?pH ?vH ?yH Hl ?rH
 case yH => intro wq hq; obtain ⟨z0, z1, z2, z3⟩ := hq; go_simp; try with_reducible rfl
 simp only [Act.put, Pa, Pb, Pc]
 refine Rd 6 ?pI ?sI
 intro K hK; go_simp
 refine HFO.out.mono ?_; rintro e v6 ⟨rfl, rfl⟩
 refine hK.out _ _ Hl fun Hl => ?_; clear hK K
 refine Rd 9 ?pJ ?sJ
 intro K hK; go_simp
 refine HWI.out.mono ?_; rintro e v9 ⟨rfl, rfl⟩
 refine hK.out _ _ Hl fun Hl => ?_; clear hK K
 refine Tm 10 ?pK ?vK Hl ?rK
 simp only [Act.put, Pa, Pb, Pc]
 refine Rd 11 ?pL ?sL
 intro K hK; go_simp
 refine (HPD.out _).mono ?_; rintro e v11 ⟨rfl, hb11⟩
 have S11 := HKB.out _ hb11
 have HB11 := Hf hb11
 clear hb11
 refine hK.out _ _ S11 fun Hl => ?_; clear hK K
 refine Rd 12 ?pM ?sM
 intro K hK; go_simp
 refine (HWR.out _ HB11.out).mono ?_; rintro e v12 ⟨G12, rfl, d12, f12⟩
 have hS := HKC.out _ _ _ HB11.out f12
 have HQ := Hf (HFI.out _ _ _ HB11.out d12 f12)
 clear d12 f12
 refine hK.out _ _ hS fun Hl => ?_; clear hK K
 refine Tm 13 ?pN ?vN Hl ?rN
 simp only [Act.put, Pa, Pb, Pc]
 refine wpAnyH_done (by kernel_rfl) ?_ _
 go_wp2
 go_ret
 exact ⟨rfl, HQ.out⟩
theorem flush73 (hd : DU w0 wr FA FD b ab db n P x) : Calls Tryz.prog 73 #[ptr b] wr fun e w' => ∃ G, e = .returned (.int .i64 0) ∧ DU w0 w' FA G b ab db n (Ns.M.flush P) x ∧ Fr wr (fpd b FA FD) w' (fpd b FA G) := by
 obtain ⟨⟨_, c1, _⟩, _⟩ := row7 hd.row
 have hfl := hd.d.flush
 have HD := Hf hd
 clear hd
 go_enter Tryz.func73, Tryz.ntmps73
 go_wp2_with fail
 refine hfl.mono ?_; rintro e w1 ⟨G, rfl, d1, f1⟩
 have HQ := Hf (HD.out.chD d1 (Fr.ofCh f1))
 clear hfl d1 f1 HD c1; go_wp2
 go_ret
 exact ⟨G, rfl, HQ.out.1, HQ.out.2⟩
theorem clo73 (h : SS w0 w FA FD b ab db n P x B2 B7 B8 g 1 wr) : Calls Tryz.prog 73 #[ptr b] wr fun e w' => e = .returned (.int .i64 0) ∧ SS w0 w FA FD b ab db n P x B2 B7 B8 g 2 w' := by
 obtain ⟨⟨G, hd, hn, hfr⟩, hc⟩ := h
 exact (flush73 hd).mono fun e w' ⟨G', h1, h2, h3⟩ => ⟨h1, SS.next hc hn hfr h2 h3⟩
theorem clo74 (hg : Gd n P x rs) (hs : secs (x.ep + 1) 0 (few x.a) ≤ hf n) (he : x.ep < 2147483647) (h : SS w0 w FA FD b ab db n P x B2 B7 B8 g 2 wr) : Calls Tryz.prog 74 #[ptr B2, ptr B7] wr fun e w' => e = .returned (.int .i64 0) ∧ SS w0 w FA FD b ab db n P x B2 B7 B8 g 3 w' := by
 obtain ⟨⟨G, hd, hn, hfr⟩, hc⟩ := h
 have hd : DU w0 wr FA G b ab db n (Ns.M.flush (w1P n P x)) x := hd
 have hn10 := hg.n10
 have har := hg.ar
 have hst : (Ns.rdP ((Ns.M.flush (w1P n P x)).take 8)).1 = x.ep := by
  rw [((hg.cut1 hs).flu).st]
  rfl
 have hdd : DU w0 wr.drew FA G b ab db n (Ns.M.flush (w1P n P x)) x := hd.keep (Below.refl _ _).drew
 have key : ∀ w', Below wr.drew.heap.size wr.drew w' → w'.cell? ⟨B2, 0, none⟩ = some (ptr b) ∧ w'.cell? ⟨B7, 0, none⟩ = some (.int .i64 ((1 - x.ar : Nat) : Int)) ∧ w'.cell? ⟨b, 1, none⟩ = some (ptr db) := fun w' hb =>
  ⟨row1 (Br (W := wr.drew) hc.r2 hb), row1 (Br (W := wr.drew) hc.r7 hb), (row7 (hdd.keep hb).row).1.2.1⟩
 have HSI := Hf (key _ (Below.refl _ _))
 have HKB := Hf key
 have HKC : Hid (∀ w1 w2 G', Below wr.drew.heap.size wr.drew w1 → Ns.Ch w1 G w2 G' → w2.cell? ⟨B2, 0, none⟩ = some (ptr b) ∧ w2.cell? ⟨B7, 0, none⟩ = some (.int .i64 ((1 - x.ar : Nat) : Int)) ∧ w2.cell? ⟨b, 1, none⟩ = some (ptr db)) := fun w1 w2 G' hb hF =>
  ⟨row1 ((hF.block B2 ((Array.getElem?_eq_some_iff.1 (Br (W := wr.drew) hc.r2 hb)).1) (fun e => hn.1 (.inr (.inr e)))).trans (Br (W := wr.drew) hc.r2 hb)), row1 ((hF.block B7 ((Array.getElem?_eq_some_iff.1 (Br (W := wr.drew) hc.r7 hb)).1) (fun e => hn.2.1 (.inr (.inr e)))).trans (Br (W := wr.drew) hc.r7 hb)), (row7 ((hF.block b (hdd.keep hb).lt hdd.nd).trans (hdd.keep hb).row)).1.2.1⟩
 have HTX := Hf (fun W => stateText_any (1 - x.ar) (by omega) W)
 have HWR : Hid (∀ w1, Below wr.drew.heap.size wr.drew w1 → Calls Tryz.prog 75 #[ptr db, .string (ofL [UInt8.ofNat (1 - x.ar)])] w1 fun e w' => ∃ G', e = .returned (.int .i64 0) ∧ Ns.DS w0 w' db G' n (Ns.nxN (Ns.M.flush (w1P n P x)) [UInt8.ofNat (1 - x.ar)]) false ∧ Ns.Ch w1 G w' G') := fun w1 hb => by
  have := (hdd.keep hb).d.swrite (by omega) (ofL [UInt8.ofNat (1 - x.ar)]) (by rw [Ns.M.ofL_size]; simp) (by rw [hst]; omega)
  rw [Ns.ofL_data] at this
  exact this
 have HFI : Hid (∀ w1 w2 G', Below wr.drew.heap.size wr.drew w1 → Ns.DS w0 w2 db G' n (Ns.nxN (Ns.M.flush (w1P n P x)) [UInt8.ofNat (1 - x.ar)]) false → Ns.Ch w1 G w2 G' → SS w0 w FA FD b ab db n P x B2 B7 B8 g 3 w2) := fun w1 w2 G' hb h1 h2 => by
  have hq := (hdd.keep hb).chD h1 (Fr.ofCh h2)
  exact SS.next (k := 2) hc hn hfr hq.1 (((Fr.ofBelow (Below.refl _ _).drew).trans (Fr.ofBelow hb)).trans hq.2)
 clear hd hdd hc key hfr hn hst hg
 generalize ofL [UInt8.ofNat (1 - x.ar)] = TT at *
 generalize 1 - x.ar = OT at *
 go_enter Tryz.func74, Tryz.ntmps74
 go_upto_region 1 with fail
 refine wp_region_held_drew (S := (fun wq => wq.cell? ⟨B2, 0, none⟩ = some (ptr b) ∧ wq.cell? ⟨B7, 0, none⟩ = some (.int .i64 (OT : Nat)) ∧ wq.cell? ⟨b, 1, none⟩ = some (ptr db))) (by kernel_rfl) HSI.out fun Hl => ?_
 refine Tk 0 ?pA ?vA ?yA Hl ?rA
 case yA => intro wq hq; obtain ⟨z0, z1, z3⟩ := hq; go_simp; try with_reducible rfl
 refine Tm 1 ?pB ?vB Hl ?rB
 refine Tm 2 ?pC ?vC Hl ?rC
 refine Tk 3 ?pD ?vD ?yD Hl ?rD
 case yD => intro wq hq; obtain ⟨z0, z1, z3⟩ := hq; go_simp; try with_reducible rfl
 refine Tk 4 ?pE ?vE ?yE Hl ?rE
 case yE => intro wq hq; obtain ⟨z0, z1, z3⟩ := hq; go_simp; try with_reducible rfl
 simp only [Act.put, Pa, Pb, Pc]
 refine Rd 5 ?pF ?sF
 intro K hK; go_simp
 refine (HTX.out _).mono ?_; rintro e v5 ⟨rfl, hb5⟩
 have S5 := HKB.out _ hb5
 have HB5 := Hf hb5
 clear hb5
 refine hK.out _ _ S5 fun Hl => ?_; clear hK K
 refine Rd 6 ?pI ?sI
 intro K hK; go_simp
 refine (HWR.out _ HB5.out).mono ?_; rintro e v6 ⟨G6, rfl, d6, f6⟩
 have hS := HKC.out _ _ _ HB5.out f6
 have HQ := Hf (HFI.out _ _ _ HB5.out d6 f6)
 clear d6 f6
 refine hK.out _ _ hS fun Hl => ?_; clear hK K
 refine Tm 7 ?pG ?vG Hl ?rG
 simp only [Act.put, Pa, Pb, Pc]
 refine wpAnyH_done (by kernel_rfl) ?_ _
 go_wp2
 go_ret
 exact ⟨rfl, HQ.out⟩
theorem do_any (hg : Gd n P x rs) (hs : secs (x.ep + 1) 0 (few x.a) ≤ hf n) (he : x.ep < 2147483647) (steps : Int) {w1 : World} (h : SS w0 w FA FD b ab db n P x B2 B7 B8 g 0 w1) :
  Calls Tryz.prog 69 #[ptr b, .int .i64 steps, .slice (some ⟨g, 0, none⟩) 3 3] w1 fun e w' => (∃ k : Nat, k ≤ 2 ∧ steps = k ∧ e = .returned (.int .i64 16) ∧ ∃ G, DU w0 w' FA G b ab db n (Pk n P x k) (cutX x) ∧ Fr w (fpd b FA FD) w' (fpd b FA G)) ∨
   ((∀ k : Nat, k < 3 → steps ≠ k) ∧ e = .returned (.int .i64 0) ∧ SS w0 w FA FD b ab db n P x B2 B7 B8 g 3 w') := by
 have HGD := Hf hg
 have HSE := Hf hs
 have HEP := Hf he
 have HS0 := Hf h
 clear hg hs he h
 go_enter Tryz.func69, Tryz.ntmps69
 go_wp2
 go_loopw [12] (fun i wr => ∃ k : Nat, k ≤ 3 ∧ i = .int .i64 k ∧ SS w0 w FA FD b ab db n P x B2 B7 B8 g k wr ∧ ∀ j : Nat, j < k → steps ≠ j) (fun i _ => 3 - (intOf i).toNat)
 case atStart => exact ⟨0, by omega, rfl, HS0.out, fun j hj => by omega⟩
 case round =>
  obtain ⟨k, hk, rfl, hS, hpa⟩ := hrel
  clear HS0
  obtain ⟨q0, q1, q2⟩ := row3 hS.c.rg
  rcases (show k = 3 ∨ k = 2 ∨ k = 1 ∨ k = 0 by omega) with rfl | rfl | rfl | rfl
  ·have HQ := Hf hS
   have HPA := Hf hpa
   clear hS hpa; go_wp2
   go_ret
   exact .inr ⟨HPA.out, rfl, HQ.out⟩
  ·by_cases hst : steps = 2
   ·subst hst
    obtain ⟨⟨G, hd, hn, hfr⟩, hc⟩ := hS
    obtain ⟨⟨_, _, _, _, _, _, k6⟩, kf⟩ := row7 hd.row
    have f6 := kf 6
    have hX := hd.chR (x' := cutX x) (w' := wr.setCell ⟨b, 6, none⟩ (.bool true)) (heap_setCell_same wr b 6 _ _ _ hd.row) rfl (fr_cell (Fr.refl _ _) 6 _)
    have HQ : Hid (∃ G, DU w0 (wr.setCell ⟨b, 6, none⟩ (.bool true)) FA G b ab db n (Pk n P x 2) (cutX x) ∧ Fr w (fpd b FA FD) (wr.setCell ⟨b, 6, none⟩ (.bool true)) (fpd b FA G)) := ⟨G, hX.1, hfr.trans hX.2⟩
    clear hd hn hfr hc kf hX hpa; go_wp2
    go_ret
    exact .inl ⟨2, by omega, rfl, rfl, HQ.out⟩
   ·have hne : ((2 : Int) == steps) = false := by rw [beq_eq_false_iff_ne]; exact fun e => hst e.symm
    have hne' : ((2 : Int) = steps) = False := by simp; exact fun e => hst e.symm
    have hcl := clo74 HGD.out HSE.out HEP.out hS
    have HPA : Hid (∀ j : Nat, j < 2 + 1 → steps ≠ j) := fun j hj => by
     rcases (show j < 2 ∨ j = 2 by omega) with h | h
     ·exact hpa j h
     ·subst h; exact hst
    clear hS hpa
    go_wp2_with fail
    refine hcl.mono ?_; rintro e w5 ⟨rfl, hS5⟩
    have HS5 := Hf hS5
    clear hcl hS5; go_wp2
    go_roundw
    case rel => exact ⟨2 + 1, by omega, by rfl, HS5.out, HPA.out⟩
    case measure => simp [intOf]
  ·by_cases hst : steps = 1
   ·subst hst
    obtain ⟨⟨G, hd, hn, hfr⟩, hc⟩ := hS
    obtain ⟨⟨_, _, _, _, _, _, k6⟩, kf⟩ := row7 hd.row
    have f6 := kf 6
    have hX := hd.chR (x' := cutX x) (w' := wr.setCell ⟨b, 6, none⟩ (.bool true)) (heap_setCell_same wr b 6 _ _ _ hd.row) rfl (fr_cell (Fr.refl _ _) 6 _)
    have HQ : Hid (∃ G, DU w0 (wr.setCell ⟨b, 6, none⟩ (.bool true)) FA G b ab db n (Pk n P x 1) (cutX x) ∧ Fr w (fpd b FA FD) (wr.setCell ⟨b, 6, none⟩ (.bool true)) (fpd b FA G)) := ⟨G, hX.1, hfr.trans hX.2⟩
    clear hd hn hfr hc kf hX hpa; go_wp2
    go_ret
    exact .inl ⟨1, by omega, rfl, rfl, HQ.out⟩
   ·have hne : ((1 : Int) == steps) = false := by rw [beq_eq_false_iff_ne]; exact fun e => hst e.symm
    have hne' : ((1 : Int) = steps) = False := by simp; exact fun e => hst e.symm
    have hcl := clo73 hS
    have HPA : Hid (∀ j : Nat, j < 1 + 1 → steps ≠ j) := fun j hj => by
     rcases (show j < 1 ∨ j = 1 by omega) with h | h
     ·exact hpa j h
     ·subst h; exact hst
    clear hS hpa
    go_wp2_with fail
    refine hcl.mono ?_; rintro e w5 ⟨rfl, hS5⟩
    have HS5 := Hf hS5
    clear hcl hS5; go_wp2
    go_roundw
    case rel => exact ⟨1 + 1, by omega, by rfl, HS5.out, HPA.out⟩
    case measure => simp [intOf]
  ·by_cases hst : steps = 0
   ·subst hst
    obtain ⟨⟨G, hd, hn, hfr⟩, hc⟩ := hS
    obtain ⟨⟨_, _, _, _, _, _, k6⟩, kf⟩ := row7 hd.row
    have f6 := kf 6
    have hX := hd.chR (x' := cutX x) (w' := wr.setCell ⟨b, 6, none⟩ (.bool true)) (heap_setCell_same wr b 6 _ _ _ hd.row) rfl (fr_cell (Fr.refl _ _) 6 _)
    have HQ : Hid (∃ G, DU w0 (wr.setCell ⟨b, 6, none⟩ (.bool true)) FA G b ab db n (Pk n P x 0) (cutX x) ∧ Fr w (fpd b FA FD) (wr.setCell ⟨b, 6, none⟩ (.bool true)) (fpd b FA G)) := ⟨G, hX.1, hfr.trans hX.2⟩
    clear hd hn hfr hc kf hX hpa; go_wp2
    go_ret
    exact .inl ⟨0, by omega, rfl, rfl, HQ.out⟩
   ·have hne : ((0 : Int) == steps) = false := by rw [beq_eq_false_iff_ne]; exact fun e => hst e.symm
    have hne' : ((0 : Int) = steps) = False := by simp; exact fun e => hst e.symm
    have hcl := clo70 HGD.out HSE.out hS
    have HPA : Hid (∀ j : Nat, j < 0 + 1 → steps ≠ j) := fun j hj => by
     rcases (show j < 0 ∨ j = 0 by omega) with h | h
     ·exact hpa j h
     ·subst h; exact hst
    clear hS hpa
    go_wp2_with fail
    refine hcl.mono ?_; rintro e w5 ⟨rfl, hS5⟩
    have HS5 := Hf hS5
    clear hcl hS5; go_wp2
    go_roundw
    case rel => exact ⟨0 + 1, by omega, by rfl, HS5.out, HPA.out⟩
    case measure => simp [intOf]
end
end Go.Proofs.YtlnedgjikkhplaaGreat.Du
