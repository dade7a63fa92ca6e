import Derived.Test.YtlnedgjikkhplaaGreatGP34
set_option maxRecDepth 100000
set_option maxHeartbeats 8000000
set_option linter.unusedVariables false
set_option linter.unusedSimpArgs false
namespace Go.Proofs.YtlnedgjikkhplaaGreat.Du
open Go.RowKit
open Na (Fr AS XL vl bV vV Hf bel1 bel2 Bu Br row2 row4 blk OwnL AtL)
open Na.M (E V S S0)
open Ns.M (ofL)
def ccr (n : Nat) (x : X) : Bool := decide (secs (x.ep + 1) 0 (few x.a) ≤ hf n)
def ccs (steps : Int) : Bool := decide (steps = 0) || decide (steps = 1) || decide (steps = 2)
def ccc (n : Nat) (x : X) (steps : Int) : Int := if x.cut = true then 16 else if ccr n x = false then 5 else if ccs steps = true then 16 else 0
def ccx (n : Nat) (x : X) (steps : Int) : X := if x.cut = true ∨ ccr n x = false then x else if ccs steps = true then cutX x else cmpX x
theorem ccs_yes {steps : Int} {k : Nat} (hk : k ≤ 2) (h : steps = k) : ccs steps = true := by
 unfold ccs
 rcases (show k = 0 ∨ k = 1 ∨ k = 2 by omega) with rfl | rfl | rfl <;> subst h <;> rfl
theorem ccs_no {steps : Int} (h : ∀ k : Nat, k < 3 → steps ≠ k) : ccs steps = false := by
 unfold ccs
 have h0 := h 0 (by omega)
 have h1 := h 1 (by omega)
 have h2 := h 2 (by omega)
 simp
 omega
section
variable {w0 w w' : World} {FA FD FA' FD' : Nat → Prop} {b ab db n : Nat} {P P' : List Ns.M.Pl} {x x' : X} {rs : List R}
theorem Gd.pk (hg : Gd n P x rs) (hs : secs (x.ep + 1) 0 (few x.a) ≤ hf n) (k : Nat) (hk : k ≤ 2) : Gd n (Pk n P x k) (cutX x) rs := by
 rcases (show k = 0 ∨ k = 1 ∨ k = 2 by omega) with rfl | rfl | rfl
 ·exact hg.cut0
 ·exact hg.cut1 hs
 ·exact (hg.cut1 hs).flu
def CpO (w0 w : World) (FA FD : Nat → Prop) (b ab db n : Nat) (x : X) (steps : Int) (e : Ending) (w' : World) : Prop :=
 e = .returned (.int .i64 (ccc n x steps)) ∧ Chg w0 w FA FD b ab db n (ccx n x steps) w'
structure R4 (W1 w6 : World) (a : S) (ar : Nat) (ad : Option Addr) (B7 : Nat) : Prop where
 at' : AtL rl w6 ad (few a)
 r7 : w6.heap[B7]? = some (.cells #[.int .i64 ((1 - ar : Nat) : Int)] 3 (0, 0))
 bel : Below W1.heap.size W1 w6
 ge : W1.heap.size ≤ B7
theorem DU.compact (h : DU w0 w FA FD b ab db n P x) (hg : Gd n P x rs) (he : x.ep < 2147483647) (steps : Int) : Calls Tryz.prog 28 #[ptr b, .int .i64 steps] w (CpO w0 w FA FD b ab db n x steps) := by
 obtain ⟨W1, HW1⟩ := Nh (w.alloc (.cells #[ptr b] 27))
 have hb1 : Below w.heap.size w W1 := by rw [← HW1.out]; exact bel1 w _
 have hr1 : W1.heap[w.heap.size]? = some (.cells #[ptr b] 27 (0, 0)) := by rw [← HW1.out]; exact heap_alloc_last w _
 have hd1 := h.keep hb1
 have hrf := hd1.refused
 have c2 := row1 hr1
 cases hcut : x.cut with
 | true =>
  rw [hcut] at hrf
  have HQ : Hid (CpO w0 w FA FD b ab db n x steps (.returned (.int .i64 16)) W1) := by
   have e2 : ccc n x steps = 16 := by unfold ccc; rw [if_pos hcut]
   have e3 : ccx n x steps = x := by unfold ccx; rw [if_pos (.inl hcut)]
   refine ⟨by rw [e2], ?_⟩
   rw [e3]
   exact Chg.same h hg hb1
  clear h hg hb1 hr1 hd1
  go_enter Tryz.func28, Tryz.ntmps28
  go_upto_region 1 with fail
  rw [HW1.out]; clear HW1
  go_wp2_with fail
  refine hrf.mono ?_; rintro e w2 ⟨rfl, hw2⟩
  obtain rfl := hw2.symm
  clear hrf hw2; go_wp2
  go_ret
  exact HQ.out
 | false =>
  rw [hcut] at hrf
  have har := hg.ar
  have HAR1 : Hid (((1 - x.ar : Nat) : Int) = 1 - (x.ar : Int)) := by show _ = _; omega
  have hwar : IntKind.i64.wrap (1 - (x.ar : Int)) = 1 - (x.ar : Int) := by rw [IntKind.wrap_i64]; omega
  have HRC : Hid (∀ w', Below W1.heap.size W1 w' → Calls Tryz.prog 67 #[ptr b] w' (RcO w' x.a)) := fun w' hb => (hd1.keep hb).records
  have HS : Hid (∀ w', Below W1.heap.size W1 w' → w'.cell? ⟨w.heap.size, 0, none⟩ = some (ptr b) ∧ w'.cell? ⟨b, 2, none⟩ = some (.int .i64 x.ar)) := fun w' hb => ⟨row1 (Br hr1 hb), (row7 (hd1.keep hb).row).1.2.2.1⟩
  have HH := Hf h
  have HG := Hf hg
  have HEP := Hf he
  have HR1 := Hf hr1
  have HB1 := Hf hb1
  clear h hg he hb1 hr1 hd1
  go_enter Tryz.func28, Tryz.ntmps28
  go_upto_region 1 with fail
  rw [HW1.out]; clear HW1
  go_wp2_with fail
  refine hrf.mono ?_; rintro e w2 ⟨rfl, hw2⟩
  obtain rfl := hw2.symm
  clear hrf hw2 c2
  go_upto_region 4 with fail
  refine wp_region_held_drew (S := fun wq => Below W1.heap.size W1 wq) (by kernel_rfl) (Below.drew (Below.refl _ _)) fun Hl => ?_
  refine Tk 0 ?pA ?vA ?yA Hl ?rA
  case yA => intro q h; obtain ⟨z0, z1⟩ := HS.out q h; go_simp; try with_reducible rfl
  refine Tk 2 ?pB ?vB ?yB Hl ?rB
  case yB => intro q h; obtain ⟨z0, z1⟩ := HS.out q h; go_simp; try with_reducible rfl
  refine Tm 3 ?pC ?vC Hl ?rC
  refine Tm 4 ?pD ?vD Hl ?rD
  refine Tk 5 ?pE ?vE ?yE Hl ?rE
  case yE => intro q h; obtain ⟨z0, z1⟩ := HS.out q h; go_simp; try with_reducible rfl
  refine Tm 6 ?pF ?vF Hl ?rF
  simp only [Act.put, Pa, Pb, Pc]
  refine Rn [1, 7] (Rc ?pG ?sG (Rc ?pH ?sH AllReadyH.nil))
  case sG =>
   intro K hK; go_simp
   refine (HRC.out _ Hl).mono ?_; rintro e v1 ⟨ad, c6, rfl, hat1, hbk1, hb1⟩
   have B1 : Below W1.heap.size W1 v1 := Hl.trans (hb1.mono Hl.size)
   have HAT1 := Hf hat1
   have HSZ1 : Hid (W1.heap.size ≤ v1.heap.size) := B1.size
   clear hat1 hb1 hbk1
   refine hK.out _ _ B1 fun Hl => ?_; clear hK K
   refine Rd 7 ?pI ?sI
   intro K hK; go_simp
   have B7a : Below W1.heap.size W1 (v1.alloc (.cells #[.int .i64 0] 3)) := Bu Hl (bel1 v1 _) Lr
   have HB1x := Hf Hl
   refine hK.out _ _ B7a fun Hl => ?_; clear hK K
   refine Tm 8 ?pJ ?vJ Hl ?rJ
   simp only [Act.put, Pa, Pb, Pc]
   have HR4 : Hid (R4 W1 (v1.alloc (.cells #[.int .i64 (1 - (x.ar : Int))] 3)) x.a x.ar ad v1.heap.size) := by
    refine ⟨HAT1.out.keep (bel1 v1 _), ?_, Bu HB1x.out (bel1 v1 _) Lr, HSZ1.out⟩
    rw [HAR1.out]
    exact heap_alloc_last v1 _
   refine Rd 9 ?pK ?sK
   intro K hK; go_simp
   refine hK.out _ _ HR4.out.bel fun Hl => ?_; clear hK K
   refine wpAnyH_done (by kernel_rfl) ?_ _
   clear Hl HS HRC HAT1 HSZ1 HB1x
   obtain ⟨w6, HW6⟩ := Nh (v1.alloc (.cells #[.int .i64 (1 - (x.ar : Int))] 3))
   rw [HW6.out] at HR4; rw [HW6.out]; clear HW6
   obtain ⟨B7, hB7⟩ := Nq (v1.heap.size)
   rw [hB7] at HR4
   try rw [hB7]
   clear hB7
   have htx := textOf_any (few x.a) (x.ep + 1) ad c6 w6 HR4.out.at' (by have := HEP.out; omega) (by have := few_len HG.out.aok.1; omega) (few_wf HG.out.aok.1 HG.out.aok.2)
   have hb6 : Below w.heap.size w w6 := Bu HB1.out HR4.out.bel Lr
   have hd6 := HH.out.keep hb6
   have c2 := row1 (Br HR1.out HR4.out.bel)
   obtain ⟨⟨_, _, _, k3, _⟩, _⟩ := row7 hd6.row
   have hep1 : ((x.ep + 1 : Nat) : Int) = (x.ep : Int) + 1 := by omega
   have hepb := HEP.out
   rw [hep1] at htx
   go_wp2_with fail
   refine htx.mono ?_; rintro e w7 ⟨rfl, hb7⟩
   obtain ⟨W8, HW8⟩ := Nh (w7.alloc (.cells #[.string (ofL (recs (x.ep + 1) 0 (few x.a)))] 9))
   have hb8 : Below w7.heap.size w7 W8 := by rw [← HW8.out]; exact bel1 w7 _
   have hr8 : W8.heap[w7.heap.size]? = some (.cells #[.string (ofL (recs (x.ep + 1) 0 (few x.a)))] 9 (0, 0)) := by rw [← HW8.out]; exact heap_alloc_last w7 _
   have h68 : Below w6.heap.size w6 W8 := Bu hb7 hb8 Lr
   have hb08 : Below w.heap.size w W8 := Bu hb6 h68 Lr
   have hd8 := HH.out.keep hb08
   have c2 := row1 (Br (Br HR1.out HR4.out.bel) h68)
   have c8 := row1 hr8
   have hwi := hd8.width (by have := HG.out.n10; omega)
   have hsz : (ofL (recs (x.ep + 1) 0 (few x.a))).size = secs (x.ep + 1) 0 (few x.a) * 64 := by rw [Ns.M.ofL_size, recs_len]
   have hsl : secs (x.ep + 1) 0 (few x.a) * 64 ≤ 10000000 := by
    have h1 := recs_le (x.ep + 1) (few x.a) 0 (by omega) (by have := few_len HG.out.aok.1; omega) (few_wf HG.out.aok.1 HG.out.aok.2)
    have h2 := few_len HG.out.aok.1
    rw [recs_len] at h1
    omega
   have HR8 := Hf hr8
   have HRB := Hf (Br HR1.out (Bu HR4.out.bel h68 Lr))
   have HR7 := Hf (Br HR4.out.r7 h68)
   have hz7 : w7.heap.size < W8.heap.size := (Array.getElem?_eq_some_iff.1 hr8).1
   have hge8 : w.heap.size ≤ w7.heap.size := by have := hb6.size; have := hb7.size; omega
   have hge7 : w.heap.size ≤ B7 := by have := HR4.out.ge; have := HB1.out.size; omega
   have h7lt : B7 < W8.heap.size := (Array.getElem?_eq_some_iff.1 HR7.out).1
   have HB8 := Hf hb08
   have HEQ : Hid (ccr n x = decide (secs (x.ep + 1) 0 (few x.a) ≤ hf n)) := rfl
   clear htx hb6 hd6 hb7 hb8 hr8 h68 hb08 HR4 k3
   generalize hSC : secs (x.ep + 1) 0 (few x.a) = sc at *
   have HSC := Hf hSC
   clear hSC
   have HTT : Hid (ofL (recs (x.ep + 1) 0 (few x.a)) = ofL (recs (x.ep + 1) 0 (few x.a))) := rfl
   have hq1 : ((sc : Int) * 64).tdiv 64 = (sc : Int) := by rw [Int.tdiv_eq_ediv_of_nonneg (by omega)]; omega
   have hq2 : (sc : Int) * 64 / 64 = (sc : Int) := by omega
   have hq3 : ((sc * 64 : Nat) : Int).tdiv 64 = (sc : Int) := by rw [Int.tdiv_eq_ediv_of_nonneg (by omega)]; omega
   go_upto_region 6 with fail
   rw [HW8.out]; clear HW8
   go_wp2_with fail
   refine hwi.mono ?_; rintro e w9 ⟨rfl, hw9⟩
   obtain rfl := hw9.symm
   clear hwi hw9
   by_cases hfit : sc ≤ hf n
   ·have hdf : decide ((sc : Int) > ((hf n : Nat) : Int)) = false := decide_eq_false (by omega)
    have hdf' : decide (((hf n : Nat) : Int) < (sc : Int)) = false := decide_eq_false (by omega)
    have hccr : ccr n x = true := by rw [HEQ.out]; exact decide_eq_true hfit
    obtain ⟨W9, HW9⟩ := Nh (W8.alloc (.cells #[.func (.func 70) #[] #[ptr w.heap.size, ptr B7, ptr w7.heap.size], .func (.func 73) #[ptr b] #[], .func (.func 74) #[] #[ptr w.heap.size, ptr B7]] 117))
    have hb9 : Below W8.heap.size W8 W9 := by rw [← HW9.out]; exact bel1 W8 _
    have hr9 : W9.heap[W8.heap.size]? = some (.cells #[.func (.func 70) #[] #[ptr w.heap.size, ptr B7, ptr w7.heap.size], .func (.func 73) #[ptr b] #[], .func (.func 74) #[] #[ptr w.heap.size, ptr B7]] 117 (0, 0)) := by rw [← HW9.out]; exact heap_alloc_last W8 _
    have hss : SS w0 w FA FD b ab db n P x w.heap.size B7 w7.heap.size W8.heap.size 0 W9 := by
     have hbb : Below w.heap.size w W9 := Bu HB8.out hb9 Lr
     have hlt : ∀ k, fpd b FA FD k → k < w.heap.size := fun k hk => (HH.out.mine k hk).2
     refine ⟨⟨FD, HH.out.keep hbb, ⟨fun e => ?_, fun e => ?_, fun e => ?_, fun e => ?_⟩, Fr.ofBelow hbb⟩, ⟨Br HRB.out hb9, Br HR7.out hb9, Br HR8.out hb9, hr9⟩⟩
     ·have := hlt _ e; omega
     ·have := hlt _ e; omega
     ·have := hlt _ e; omega
     ·have := hlt _ e; have := HB8.out.size; omega
    have hdo := do_any HG.out (show secs (x.ep + 1) 0 (few x.a) ≤ hf n by rw [HSC.out]; exact hfit) HEP.out steps hss
    clear hb9 hr9 hss
    go_wp2_with fail
    rw [HW9.out]; clear HW9
    refine hdo.mono ?_; rintro e w10 hor
    clear hdo
    rcases hor with ⟨k, hk, hst, rfl, G, hdk, hfk⟩ | ⟨hst, rfl, hS3⟩
    ·have HQ : Hid (CpO w0 w FA FD b ab db n x steps (.returned (.int .i64 16)) w10) := by
      have e1 := ccs_yes hk hst
      have e2 : ccc n x steps = 16 := by unfold ccc; rw [if_neg (by rw [hcut]; simp), if_neg (by rw [hccr]; simp), if_pos e1]
      have e3 : ccx n x steps = cutX x := by unfold ccx; rw [if_neg (by rw [hcut, hccr]; simp), if_pos e1]
      refine ⟨by rw [e2], ?_⟩
      rw [e3]
      exact ⟨FA, G, _, rs, hdk, HG.out.pk (by rw [HSC.out]; exact hfit) k hk, hfk⟩
     clear hdk hfk HH HG HEP HSC HTT HEQ HR1 HB1 HR8 HRB HR7 HB8 c2 c8; go_wp2
     go_ret
     exact HQ.out
    ·obtain ⟨⟨G, hd3, hn3, hf3⟩, hc3⟩ := hS3
     obtain ⟨⟨k0, k1, k2, k3, k4, k5, k6⟩, kf⟩ := row7 hd3.row
     have f2 := kf 2
     have f3 := kf 3
     have f4 := kf 4
     have f5 := kf 5
     have hne2 : w.heap.size ≠ b := fun e => hn3.1 (.inl e)
     have hne7 : B7 ≠ b := fun e => hn3.2.1 (.inl e)
     have hset : ∀ (w' : World) j v, (w'.heap[w.heap.size]? = some (.cells #[ptr b] 27 (0, 0)) ∧ w'.heap[B7]? = some (.cells #[.int .i64 ((1 - x.ar : Nat) : Int)] 3 (0, 0))) → ((w'.setCell ⟨b, j, none⟩ v).heap[w.heap.size]? = some (.cells #[ptr b] 27 (0, 0)) ∧ (w'.setCell ⟨b, j, none⟩ v).heap[B7]? = some (.cells #[.int .i64 ((1 - x.ar : Nat) : Int)] 3 (0, 0))) := fun w' j v hh =>
      ⟨(heap_setCell_other _ ⟨b, j, none⟩ _ _ hne2).trans hh.1, (heap_setCell_other _ ⟨b, j, none⟩ _ _ hne7).trans hh.2⟩
     have hcel : ∀ (w' : World), (w'.heap[w.heap.size]? = some (.cells #[ptr b] 27 (0, 0)) ∧ w'.heap[B7]? = some (.cells #[.int .i64 ((1 - x.ar : Nat) : Int)] 3 (0, 0))) → w'.drew.cell? ⟨w.heap.size, 0, none⟩ = some (ptr b) ∧ w'.drew.cell? ⟨B7, 0, none⟩ = some (.int .i64 ((1 - x.ar : Nat) : Int)) := fun w' hh => ⟨row1 (w := w'.drew) hh.1, row1 (w := w'.drew) hh.2⟩
     have q0 := And.intro hc3.r2 hc3.r7
     have q1 := hset w10 2 (.int .i64 ((1 - x.ar : Nat) : Int)) q0
     have q2 := hset _ 3 (.int .i64 ((x.ep : Int) + 1)) q1
     have q3 := hset _ 4 (.int .i64 ((few x.a).length : Nat)) q2
     have q4 := hset _ 5 (.int .i64 (sc : Int)) q3
     have HZ0 := Hf (hcel _ q0)
     have HZ1 := Hf (hcel _ q1)
     have HZ2 := Hf (hcel _ q2)
     have HZ3 := Hf (hcel _ q3)
     have HZ4 := Hf (hcel _ q4)
     have HQ : Hid (CpO w0 w FA FD b ab db n x steps (.returned (.int .i64 0)) ((((w10.setCell ⟨b, 2, none⟩ (.int .i64 ((1 - x.ar : Nat) : Int))).setCell ⟨b, 3, none⟩ (.int .i64 ((x.ep : Int) + 1))).setCell ⟨b, 4, none⟩ (.int .i64 ((few x.a).length : Nat))).setCell ⟨b, 5, none⟩ (.int .i64 (sc : Int))).drew) := by
      have e1 := ccs_no hst
      have e2 : ccc n x steps = 0 := by unfold ccc; rw [if_neg (by rw [hcut]; simp), if_neg (by rw [hccr]; simp), if_neg (by rw [e1]; simp)]
      have e3 : ccx n x steps = cmpX x := by unfold ccx; rw [if_neg (by rw [hcut, hccr]; simp), if_neg (by rw [e1]; simp)]
      have hX := hd3.chR (x' := cmpX x) (w' := (((w10.setCell ⟨b, 2, none⟩ (.int .i64 ((1 - x.ar : Nat) : Int))).setCell ⟨b, 3, none⟩ (.int .i64 ((x.ep : Int) + 1))).setCell ⟨b, 4, none⟩ (.int .i64 ((few x.a).length : Nat))).setCell ⟨b, 5, none⟩ (.int .i64 (sc : Int))) (by
       rw [heap_setCell_same _ b 5 _ _ _ (heap_setCell_same _ b 4 _ _ _ (heap_setCell_same _ b 3 _ _ _ (heap_setCell_same w10 b 2 _ _ _ hd3.row)))]
       have ex : xrow ab db x = #[ptr ab, ptr db, .int .i64 x.ar, .int .i64 x.ep, .int .i64 x.n, .int .i64 x.us, .bool false] := by
        show #[ptr ab, ptr db, .int .i64 x.ar, .int .i64 x.ep, .int .i64 x.n, .int .i64 x.us, .bool x.cut] = _
        rw [hcut]
       rw [ex]; unfold cmpX; rw [HSC.out]
       rfl) rfl (fr_cell (fr_cell (fr_cell (fr_cell (Fr.refl _ _) 2 _) 3 _) 4 _) 5 _)
      refine ⟨by rw [e2], ?_⟩
      rw [e3]
      exact ⟨FA, G, _, few x.a, hX.1.keep (Below.refl _ _).drew, HG.out.done (by rw [HSC.out]; exact hfit) HEP.out, (hf3.trans hX.2).trans (Fr.ofBelow (Below.refl _ _).drew)⟩
     have hwr1 : IntKind.i64.wrap ((x.ep : Int) + 1) = (x.ep : Int) + 1 := by rw [IntKind.wrap_i64]; omega
     clear hd3 hn3 hf3 hc3 kf hset hcel q0 q1 q2 q3 q4 HH HG HEP HSC HTT HEQ HR1 HB1 HR8 HRB HR7 HB8 c2 c8 k0 k1 k6
     go_upto_region 12 with fail
     refine wp_region_held_drew (S := (fun wq => wq.cell? ⟨w.heap.size, 0, none⟩ = some (ptr b) ∧ wq.cell? ⟨B7, 0, none⟩ = some (.int .i64 ((1 - x.ar : Nat) : Int)))) (by kernel_rfl) HZ0.out fun Hl => ?_
     refine Tk 0 ?pL ?vL ?yL Hl ?rL
     case yL => intro wq hq; obtain ⟨z0, z1⟩ := hq; go_simp; try with_reducible rfl
     refine Tk 1 ?pM ?vM ?yM Hl ?rM
     case yM => intro wq hq; obtain ⟨z0, z1⟩ := hq; go_simp; try with_reducible rfl
     refine Tk 2 ?pN ?vN ?yN Hl ?rN
     case yN => intro wq hq; obtain ⟨z0, z1⟩ := hq; go_simp; try with_reducible rfl
     refine Tk 3 ?pO ?vO ?yO Hl ?rO
     case yO => intro wq hq; obtain ⟨z0, z1⟩ := hq; go_simp; try with_reducible rfl
     refine Tk 4 ?pP ?vP ?yP Hl ?rP
     case yP => intro wq hq; obtain ⟨z0, z1⟩ := hq; go_simp; try with_reducible rfl
     refine Tk 5 ?pQ ?vQ ?yQ Hl ?rQ
     case yQ => intro wq hq; obtain ⟨z0, z1⟩ := hq; go_simp; try with_reducible rfl
     refine Tm 6 ?pR ?vR Hl ?rR
     refine Tm 7 ?pS ?vS Hl ?rS
     refine Tm 10 ?pT ?vT Hl ?rT
     refine Tm 11 ?pU ?vU Hl ?rU
     refine Tm 12 ?pV ?vV Hl ?rV
     simp only [Act.put, Pa, Pb, Pc]
     refine Rd 8 ?pW ?sW
     intro K hK; go_simp; go_simp
     refine hK.out _ _ Hl fun Hl => ?_; clear hK K
     refine Tm 9 ?pX ?vX Hl ?rX
     refine Tm 13 ?pY ?vY Hl ?rY
     refine Tm 14 ?pZ ?vZ Hl ?rZ
     simp only [Act.put, Pa, Pb, Pc]
     refine Rd 15 ?pa ?sa
     intro K hK; go_simp; go_simp
     refine hK.out _ _ HZ1.out fun Hl => ?_; clear hK K
     refine Tm 16 ?pb ?vb Hl ?rb
     refine Tm 17 ?pc ?vc Hl ?rc
     simp only [Act.put, Pa, Pb, Pc]
     refine Rd 18 ?pd ?sd
     intro K hK; go_simp; go_simp
     refine hK.out _ _ HZ2.out fun Hl => ?_; clear hK K
     refine Tm 19 ?pe ?ve Hl ?re
     refine Tm 20 ?pf ?vf Hl ?rf
     simp only [Act.put, Pa, Pb, Pc]
     refine Rd 21 ?pg ?sg
     intro K hK; go_simp; go_simp
     refine hK.out _ _ HZ3.out fun Hl => ?_; clear hK K
     refine Tm 22 ?ph ?vh Hl ?rh
     refine Tm 23 ?pi ?vi Hl ?ri
     simp only [Act.put, Pa, Pb, Pc]
     refine Rd 24 ?pj ?sj
     intro K hK; go_simp; go_simp
     refine hK.out _ _ HZ4.out fun Hl => ?_; clear hK K
     refine wpAnyH_done (by kernel_rfl) ?_ _
     go_wp2
     go_ret
     exact HQ.out
   ·have hdf : decide ((sc : Int) > ((hf n : Nat) : Int)) = true := decide_eq_true (by omega)
    have hdf' : decide (((hf n : Nat) : Int) < (sc : Int)) = true := decide_eq_true (by omega)
    have HQ : Hid (CpO w0 w FA FD b ab db n x steps (.returned (.int .i64 5)) W8) := by
     have hccr : ccr n x = false := by rw [HEQ.out]; exact decide_eq_false hfit
     have e2 : ccc n x steps = 5 := by unfold ccc; rw [if_neg (by rw [hcut]; simp), if_pos hccr]
     have e3 : ccx n x steps = x := by unfold ccx; rw [if_pos (.inr hccr)]
     refine ⟨by rw [e2], ?_⟩
     rw [e3]
     exact Chg.same HH.out HG.out HB8.out
    clear HH HG HEP HSC HTT HEQ HR1 HB1 HR8 HRB HR7 HB8 c2 c8; go_wp2
    go_ret
    exact HQ.out
  case sH =>
   intro K hK; go_simp
   have B7a : Below W1.heap.size W1 (W1.alloc (.cells #[.int .i64 0] 3)).drew := (bel1 W1 _).drew
   have HRZ : Hid ((W1.alloc (.cells #[.int .i64 0] 3)).drew.heap[W1.heap.size]? = some (.cells #[.int .i64 0] 3 (0, 0))) := heap_alloc_last W1 _
   refine hK.out _ _ B7a fun Hl => ?_; clear hK K
   refine Rd 1 ?pk ?sk
   intro K hK; go_simp
   refine (HRC.out _ Hl).mono ?_; rintro e v1 ⟨ad, c6, rfl, hat1, hbk1, hb1⟩
   have B1 : Below W1.heap.size W1 v1 := Hl.trans (hb1.mono Hl.size)
   have HAT1 := Hf hat1
   have hrz : v1.heap[W1.heap.size]? = some (.cells #[.int .i64 0] 3 (0, 0)) := Br (HRZ.out) hb1
   have HNB : Hid (∀ k, blk ad k → k ≠ W1.heap.size) := fun k hk e => by have := (hbk1 k hk).1; simp at this; omega
   have HRZ1 := Hf hrz
   clear hat1 hb1 hbk1 hrz
   refine hK.out _ _ B1 fun Hl => ?_; clear hK K
   refine Tk 8 ?pl ?vl ?yl Hl ?rl
   case yl => intro q h; obtain ⟨z0, z1⟩ := HS.out q h; go_simp; try with_reducible rfl
   simp only [Act.put, Pa, Pb, Pc]
   have z7 := row1 HRZ1.out
   have f7 := frozen_of_row _ W1.heap.size 0 _ _ HRZ1.out
   have HR4 : Hid (R4 W1 (v1.setCell ⟨W1.heap.size, 0, none⟩ (.int .i64 (1 - (x.ar : Int)))) x.a x.ar ad W1.heap.size) := by
    refine ⟨HAT1.out.keepBut fun k hk hk2 => heap_setCell_other _ ⟨W1.heap.size, 0, none⟩ k _ (HNB.out k hk2), ?_, Hl.setCell (p := ⟨W1.heap.size, 0, none⟩) Lr _, Nat.le_refl _⟩
    rw [HAR1.out]
    exact heap_setCell_same _ W1.heap.size 0 _ _ _ HRZ1.out
   refine Rd 9 ?pm ?sm
   intro K hK; go_simp
   refine hK.out _ _ HR4.out.bel fun Hl => ?_; clear hK K
   refine wpAnyH_done (by kernel_rfl) ?_ _
   clear Hl HS HRC HAT1 HNB HRZ1 HRZ z7 f7
   obtain ⟨w6, HW6⟩ := Nh (v1.setCell ⟨W1.heap.size, 0, none⟩ (.int .i64 (1 - (x.ar : Int))))
   rw [HW6.out] at HR4; rw [HW6.out]; clear HW6
   obtain ⟨B7, hB7⟩ := Nq (W1.heap.size)
   rw [hB7] at HR4
   try rw [hB7]
   clear hB7
   have htx := textOf_any (few x.a) (x.ep + 1) ad c6 w6 HR4.out.at' (by have := HEP.out; omega) (by have := few_len HG.out.aok.1; omega) (few_wf HG.out.aok.1 HG.out.aok.2)
   have hb6 : Below w.heap.size w w6 := Bu HB1.out HR4.out.bel Lr
   have hd6 := HH.out.keep hb6
   have c2 := row1 (Br HR1.out HR4.out.bel)
   obtain ⟨⟨_, _, _, k3, _⟩, _⟩ := row7 hd6.row
   have hep1 : ((x.ep + 1 : Nat) : Int) = (x.ep : Int) + 1 := by omega
   have hepb := HEP.out
   rw [hep1] at htx
   go_wp2_with fail
   refine htx.mono ?_; rintro e w7 ⟨rfl, hb7⟩
   obtain ⟨W8, HW8⟩ := Nh (w7.alloc (.cells #[.string (ofL (recs (x.ep + 1) 0 (few x.a)))] 9))
   have hb8 : Below w7.heap.size w7 W8 := by rw [← HW8.out]; exact bel1 w7 _
   have hr8 : W8.heap[w7.heap.size]? = some (.cells #[.string (ofL (recs (x.ep + 1) 0 (few x.a)))] 9 (0, 0)) := by rw [← HW8.out]; exact heap_alloc_last w7 _
   have h68 : Below w6.heap.size w6 W8 := Bu hb7 hb8 Lr
   have hb08 : Below w.heap.size w W8 := Bu hb6 h68 Lr
   have hd8 := HH.out.keep hb08
   have c2 := row1 (Br (Br HR1.out HR4.out.bel) h68)
   have c8 := row1 hr8
   have hwi := hd8.width (by have := HG.out.n10; omega)
   have hsz : (ofL (recs (x.ep + 1) 0 (few x.a))).size = secs (x.ep + 1) 0 (few x.a) * 64 := by rw [Ns.M.ofL_size, recs_len]
   have hsl : secs (x.ep + 1) 0 (few x.a) * 64 ≤ 10000000 := by
    have h1 := recs_le (x.ep + 1) (few x.a) 0 (by omega) (by have := few_len HG.out.aok.1; omega) (few_wf HG.out.aok.1 HG.out.aok.2)
    have h2 := few_len HG.out.aok.1
    rw [recs_len] at h1
    omega
   have HR8 := Hf hr8
   have HRB := Hf (Br HR1.out (Bu HR4.out.bel h68 Lr))
   have HR7 := Hf (Br HR4.out.r7 h68)
   have hz7 : w7.heap.size < W8.heap.size := (Array.getElem?_eq_some_iff.1 hr8).1
   have hge8 : w.heap.size ≤ w7.heap.size := by have := hb6.size; have := hb7.size; omega
   have hge7 : w.heap.size ≤ B7 := by have := HR4.out.ge; have := HB1.out.size; omega
   have h7lt : B7 < W8.heap.size := (Array.getElem?_eq_some_iff.1 HR7.out).1
   have HB8 := Hf hb08
   have HEQ : Hid (ccr n x = decide (secs (x.ep + 1) 0 (few x.a) ≤ hf n)) := rfl
   clear htx hb6 hd6 hb7 hb8 hr8 h68 hb08 HR4 k3
   generalize hSC : secs (x.ep + 1) 0 (few x.a) = sc at *
   have HSC := Hf hSC
   clear hSC
   have HTT : Hid (ofL (recs (x.ep + 1) 0 (few x.a)) = ofL (recs (x.ep + 1) 0 (few x.a))) := rfl
   have hq1 : ((sc : Int) * 64).tdiv 64 = (sc : Int) := by rw [Int.tdiv_eq_ediv_of_nonneg (by omega)]; omega
   have hq2 : (sc : Int) * 64 / 64 = (sc : Int) := by omega
   have hq3 : ((sc * 64 : Nat) : Int).tdiv 64 = (sc : Int) := by rw [Int.tdiv_eq_ediv_of_nonneg (by omega)]; omega
   go_upto_region 6 with fail
   rw [HW8.out]; clear HW8
   go_wp2_with fail
   refine hwi.mono ?_; rintro e w9 ⟨rfl, hw9⟩
   obtain rfl := hw9.symm
   clear hwi hw9
   by_cases hfit : sc ≤ hf n
   ·have hdf : decide ((sc : Int) > ((hf n : Nat) : Int)) = false := decide_eq_false (by omega)
    have hdf' : decide (((hf n : Nat) : Int) < (sc : Int)) = false := decide_eq_false (by omega)
    have hccr : ccr n x = true := by rw [HEQ.out]; exact decide_eq_true hfit
    obtain ⟨W9, HW9⟩ := Nh (W8.alloc (.cells #[.func (.func 70) #[] #[ptr w.heap.size, ptr B7, ptr w7.heap.size], .func (.func 73) #[ptr b] #[], .func (.func 74) #[] #[ptr w.heap.size, ptr B7]] 117))
    have hb9 : Below W8.heap.size W8 W9 := by rw [← HW9.out]; exact bel1 W8 _
    have hr9 : W9.heap[W8.heap.size]? = some (.cells #[.func (.func 70) #[] #[ptr w.heap.size, ptr B7, ptr w7.heap.size], .func (.func 73) #[ptr b] #[], .func (.func 74) #[] #[ptr w.heap.size, ptr B7]] 117 (0, 0)) := by rw [← HW9.out]; exact heap_alloc_last W8 _
    have hss : SS w0 w FA FD b ab db n P x w.heap.size B7 w7.heap.size W8.heap.size 0 W9 := by
     have hbb : Below w.heap.size w W9 := Bu HB8.out hb9 Lr
     have hlt : ∀ k, fpd b FA FD k → k < w.heap.size := fun k hk => (HH.out.mine k hk).2
     refine ⟨⟨FD, HH.out.keep hbb, ⟨fun e => ?_, fun e => ?_, fun e => ?_, fun e => ?_⟩, Fr.ofBelow hbb⟩, ⟨Br HRB.out hb9, Br HR7.out hb9, Br HR8.out hb9, hr9⟩⟩
     ·have := hlt _ e; omega
     ·have := hlt _ e; omega
     ·have := hlt _ e; omega
     ·have := hlt _ e; have := HB8.out.size; omega
    have hdo := do_any HG.out (show secs (x.ep + 1) 0 (few x.a) ≤ hf n by rw [HSC.out]; exact hfit) HEP.out steps hss
    clear hb9 hr9 hss
    go_wp2_with fail
    rw [HW9.out]; clear HW9
    refine hdo.mono ?_; rintro e w10 hor
    clear hdo
    rcases hor with ⟨k, hk, hst, rfl, G, hdk, hfk⟩ | ⟨hst, rfl, hS3⟩
    ·have HQ : Hid (CpO w0 w FA FD b ab db n x steps (.returned (.int .i64 16)) w10) := by
      have e1 := ccs_yes hk hst
      have e2 : ccc n x steps = 16 := by unfold ccc; rw [if_neg (by rw [hcut]; simp), if_neg (by rw [hccr]; simp), if_pos e1]
      have e3 : ccx n x steps = cutX x := by unfold ccx; rw [if_neg (by rw [hcut, hccr]; simp), if_pos e1]
      refine ⟨by rw [e2], ?_⟩
      rw [e3]
      exact ⟨FA, G, _, rs, hdk, HG.out.pk (by rw [HSC.out]; exact hfit) k hk, hfk⟩
     clear hdk hfk HH HG HEP HSC HTT HEQ HR1 HB1 HR8 HRB HR7 HB8 c2 c8; go_wp2
     go_ret
     exact HQ.out
    ·obtain ⟨⟨G, hd3, hn3, hf3⟩, hc3⟩ := hS3
     obtain ⟨⟨k0, k1, k2, k3, k4, k5, k6⟩, kf⟩ := row7 hd3.row
     have f2 := kf 2
     have f3 := kf 3
     have f4 := kf 4
     have f5 := kf 5
     have hne2 : w.heap.size ≠ b := fun e => hn3.1 (.inl e)
     have hne7 : B7 ≠ b := fun e => hn3.2.1 (.inl e)
     have hset : ∀ (w' : World) j v, (w'.heap[w.heap.size]? = some (.cells #[ptr b] 27 (0, 0)) ∧ w'.heap[B7]? = some (.cells #[.int .i64 ((1 - x.ar : Nat) : Int)] 3 (0, 0))) → ((w'.setCell ⟨b, j, none⟩ v).heap[w.heap.size]? = some (.cells #[ptr b] 27 (0, 0)) ∧ (w'.setCell ⟨b, j, none⟩ v).heap[B7]? = some (.cells #[.int .i64 ((1 - x.ar : Nat) : Int)] 3 (0, 0))) := fun w' j v hh =>
      ⟨(heap_setCell_other _ ⟨b, j, none⟩ _ _ hne2).trans hh.1, (heap_setCell_other _ ⟨b, j, none⟩ _ _ hne7).trans hh.2⟩
     have hcel : ∀ (w' : World), (w'.heap[w.heap.size]? = some (.cells #[ptr b] 27 (0, 0)) ∧ w'.heap[B7]? = some (.cells #[.int .i64 ((1 - x.ar : Nat) : Int)] 3 (0, 0))) → w'.drew.cell? ⟨w.heap.size, 0, none⟩ = some (ptr b) ∧ w'.drew.cell? ⟨B7, 0, none⟩ = some (.int .i64 ((1 - x.ar : Nat) : Int)) := fun w' hh => ⟨row1 (w := w'.drew) hh.1, row1 (w := w'.drew) hh.2⟩
     have q0 := And.intro hc3.r2 hc3.r7
     have q1 := hset w10 2 (.int .i64 ((1 - x.ar : Nat) : Int)) q0
     have q2 := hset _ 3 (.int .i64 ((x.ep : Int) + 1)) q1
     have q3 := hset _ 4 (.int .i64 ((few x.a).length : Nat)) q2
     have q4 := hset _ 5 (.int .i64 (sc : Int)) q3
     have HZ0 := Hf (hcel _ q0)
     have HZ1 := Hf (hcel _ q1)
     have HZ2 := Hf (hcel _ q2)
     have HZ3 := Hf (hcel _ q3)
     have HZ4 := Hf (hcel _ q4)
     have HQ : Hid (CpO w0 w FA FD b ab db n x steps (.returned (.int .i64 0)) ((((w10.setCell ⟨b, 2, none⟩ (.int .i64 ((1 - x.ar : Nat) : Int))).setCell ⟨b, 3, none⟩ (.int .i64 ((x.ep : Int) + 1))).setCell ⟨b, 4, none⟩ (.int .i64 ((few x.a).length : Nat))).setCell ⟨b, 5, none⟩ (.int .i64 (sc : Int))).drew) := by
      have e1 := ccs_no hst
      have e2 : ccc n x steps = 0 := by unfold ccc; rw [if_neg (by rw [hcut]; simp), if_neg (by rw [hccr]; simp), if_neg (by rw [e1]; simp)]
      have e3 : ccx n x steps = cmpX x := by unfold ccx; rw [if_neg (by rw [hcut, hccr]; simp), if_neg (by rw [e1]; simp)]
      have hX := hd3.chR (x' := cmpX x) (w' := (((w10.setCell ⟨b, 2, none⟩ (.int .i64 ((1 - x.ar : Nat) : Int))).setCell ⟨b, 3, none⟩ (.int .i64 ((x.ep : Int) + 1))).setCell ⟨b, 4, none⟩ (.int .i64 ((few x.a).length : Nat))).setCell ⟨b, 5, none⟩ (.int .i64 (sc : Int))) (by
       rw [heap_setCell_same _ b 5 _ _ _ (heap_setCell_same _ b 4 _ _ _ (heap_setCell_same _ b 3 _ _ _ (heap_setCell_same w10 b 2 _ _ _ hd3.row)))]
       have ex : xrow ab db x = #[ptr ab, ptr db, .int .i64 x.ar, .int .i64 x.ep, .int .i64 x.n, .int .i64 x.us, .bool false] := by
        show #[ptr ab, ptr db, .int .i64 x.ar, .int .i64 x.ep, .int .i64 x.n, .int .i64 x.us, .bool x.cut] = _
        rw [hcut]
       rw [ex]; unfold cmpX; rw [HSC.out]
       rfl) rfl (fr_cell (fr_cell (fr_cell (fr_cell (Fr.refl _ _) 2 _) 3 _) 4 _) 5 _)
      refine ⟨by rw [e2], ?_⟩
      rw [e3]
      exact ⟨FA, G, _, few x.a, hX.1.keep (Below.refl _ _).drew, HG.out.done (by rw [HSC.out]; exact hfit) HEP.out, (hf3.trans hX.2).trans (Fr.ofBelow (Below.refl _ _).drew)⟩
     have hwr1 : IntKind.i64.wrap ((x.ep : Int) + 1) = (x.ep : Int) + 1 := by rw [IntKind.wrap_i64]; omega
     clear hd3 hn3 hf3 hc3 kf hset hcel q0 q1 q2 q3 q4 HH HG HEP HSC HTT HEQ HR1 HB1 HR8 HRB HR7 HB8 c2 c8 k0 k1 k6
     go_upto_region 12 with fail
     refine wp_region_held_drew (S := (fun wq => wq.cell? ⟨w.heap.size, 0, none⟩ = some (ptr b) ∧ wq.cell? ⟨B7, 0, none⟩ = some (.int .i64 ((1 - x.ar : Nat) : Int)))) (by kernel_rfl) HZ0.out fun Hl => ?_
     refine Tk 0 ?pn ?vn ?yn Hl ?rn
     case yn => intro wq hq; obtain ⟨z0, z1⟩ := hq; go_simp; try with_reducible rfl
     refine Tk 1 ?po ?vo ?yo Hl ?ro
     case yo => intro wq hq; obtain ⟨z0, z1⟩ := hq; go_simp; try with_reducible rfl
     refine Tk 2 ?pp ?vp ?yp Hl ?rp
     case yp => intro wq hq; obtain ⟨z0, z1⟩ := hq; go_simp; try with_reducible rfl
     refine Tk 3 ?pq ?vq ?yq Hl ?rq
     case yq => intro wq hq; obtain ⟨z0, z1⟩ := hq; go_simp; try with_reducible rfl
     refine Tk 4 ?pr ?vr ?yr Hl ?rr
     case yr => intro wq hq; obtain ⟨z0, z1⟩ := hq; go_simp; try with_reducible rfl
     refine Tk 5 ?ps ?vs ?ys Hl ?rs
     case ys => intro wq hq; obtain ⟨z0, z1⟩ := hq; go_simp; try with_reducible rfl
     refine Tm 6 ?pt ?vt Hl ?rt
     refine Tm 7 ?pu ?vu Hl ?ru
     refine Tm 10 ?pv ?vv Hl ?rv
     refine Tm 11 ?pw ?vw Hl ?rw
     refine Tm 12 ?px ?vx Hl ?rx
     simp only [Act.put, Pa, Pb, Pc]
     refine Rd 8 ?py ?sy
     intro K hK; go_simp; go_simp
     refine hK.out _ _ Hl fun Hl => ?_; clear hK K
     refine Tm 9 ?pz ?vz Hl ?rz
     refine Tm 13 ?p0 ?v0 Hl ?r0
     refine Tm 14 ?p1 ?v1 Hl ?r1
     simp only [Act.put, Pa, Pb, Pc]
     refine Rd 15 ?p2 ?s2
     intro K hK; go_simp; go_simp
     refine hK.out _ _ HZ1.out fun Hl => ?_; clear hK K
     refine Tm 16 ?p3 ?v3 Hl ?r3
     refine Tm 17 ?p4 ?v4 Hl ?r4
     simp only [Act.put, Pa, Pb, Pc]
     refine Rd 18 ?p5 ?s5
     intro K hK; go_simp; go_simp
     refine hK.out _ _ HZ2.out fun Hl => ?_; clear hK K
     refine Tm 19 ?p6 ?v6 Hl ?r6
     refine Tm 20 ?p7 ?v7 Hl ?r7
     simp only [Act.put, Pa, Pb, Pc]
     refine Rd 21 ?p8 ?s8
     intro K hK; go_simp; go_simp
     refine hK.out _ _ HZ3.out fun Hl => ?_; clear hK K
     refine Tm 22 ?p9 ?v9 Hl ?r9
     refine Tm 23 ?pBA ?vBA Hl ?rBA
     simp only [Act.put, Pa, Pb, Pc]
     refine Rd 24 ?pBB ?sBB
     intro K hK; go_simp; go_simp
     refine hK.out _ _ HZ4.out fun Hl => ?_; clear hK K
     refine wpAnyH_done (by kernel_rfl) ?_ _
     go_wp2
     go_ret
     exact HQ.out
   ·have hdf : decide ((sc : Int) > ((hf n : Nat) : Int)) = true := decide_eq_true (by omega)
    have hdf' : decide (((hf n : Nat) : Int) < (sc : Int)) = true := decide_eq_true (by omega)
    have HQ : Hid (CpO w0 w FA FD b ab db n x steps (.returned (.int .i64 5)) W8) := by
     have hccr : ccr n x = false := by rw [HEQ.out]; exact decide_eq_false hfit
     have e2 : ccc n x steps = 5 := by unfold ccc; rw [if_neg (by rw [hcut]; simp), if_pos hccr]
     have e3 : ccx n x steps = x := by unfold ccx; rw [if_pos (.inr hccr)]
     refine ⟨by rw [e2], ?_⟩
     rw [e3]
     exact Chg.same HH.out HG.out HB8.out
    clear HH HG HEP HSC HTT HEQ HR1 HB1 HR8 HRB HR7 HB8 c2 c8; go_wp2
    go_ret
    exact HQ.out
end
end Go.Proofs.YtlnedgjikkhplaaGreat.Du
