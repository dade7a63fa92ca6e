import Derived.Test.YtgodnpngdbelhaaGreatGP29
set_option maxRecDepth 100000
set_option maxHeartbeats 8000000
set_option linter.unusedVariables false
set_option linter.unusedSimpArgs false
open Go.Proofs.Tryz
namespace Go.Proofs.YtgodnpngdbelhaaGreat.Np
open Go.RowKit Go.Maps
open Go.Proofs.YtgodnpngdbelhaaGreat.M (E V)
open Go.Proofs.YtgodnpngdbelhaaGreat.Np.M (fup)
theorem f110_res : Tryz.f110.results = #[.cell 2 48, .tmp 3] := rfl
theorem M.rlast_take (k : Int) (l : List V) (q : Nat) (h : q < l.length) : M.rlast k (l.take (q + 1)) = max (M.rlast k (l.take q)) l[q].s := by
 unfold M.rlast; rw [List.take_add_one, List.getElem?_eq_getElem h, Option.toList_some, List.foldl_append]; rfl
theorem M.of_take (l : List V) (q : Nat) (h : q < l.length) (k : Int) : M.of (l.take (q + 1)) k = M.of (l.take q) k ++ if l[q].s = k then [l[q]] else [] := by
 rw [List.take_add_one, List.getElem?_eq_getElem h, Option.toList_some, M.of_snoc]
def DFl (w : World) (a : Option Addr) (c : Nat) (x : M.R) (z : Ending) (w' : World) : Prop := ∃ ad cp, z = .returned (.tuple #[.agg (dvv a c (M.rfs x)), .slice ad (M.rfo x).length cp]) ∧ XL vl w' ad cp (M.rfo x) ∧ (∀ k, blk ad k → w.heap.size ≤ k ∧ k < w'.heap.size) ∧ Bl w w'
theorem rfill_any {w : World} {a : Option Addr} {c : Nat} {x : M.R} (h : XX w a c x) (hf0 : 0 ≤ x.fr) (hf1 : x.fr ≤ 1024) (hM : M.rlast (x.fr - 1) x.l + 1 ≤ 1024) (hlen : x.l.length ≤ 900000) : Calls prog 110 #[.agg (dvv a c x)] w (DFl w a c x) := by
 obtain ⟨W1, HW1⟩ := Nh ((w.alloc (.cells (dvv a c x) 48)).alloc (.cells Z17 48)); have HB1 : Hid (Bl w W1) := by rw [← HW1.out]; exact bel2 w _ _
 have hr0 : W1.heap[w.heap.size]? = some (.cells (dvv a c x) 48 (0, 0)) := by rw [← HW1.out]; exact heap_alloc2_old w _ _
 have hr1 : W1.heap[w.heap.size + 1]? = some (.cells Z17 48 (0, 0)) := by rw [← HW1.out]; exact heap_alloc2_new w _ _
 have HR0 := Hf hr0; have HR1 := Hf hr1; have HX := Hf h; have HNO : Hid (M.rfb x = false → ∀ w', Bl w w' → DFl w a c x (.returned (.tuple #[.agg (dvv a c x), .slice none 0 0])) w') := fun h0 w' hw' => ⟨none, 0, by unfold M.rfs M.rfo; rw [h0]; rfl, by unfold M.rfo; rw [h0]; exact XL.emp _, (fun k hk => by obtain ⟨_, _, e⟩ := hk; cases e), hw'⟩; clear h hr0 hr1; rcases Bool.eq_false_or_eq_true x.ld with h1 | h1
 ·rcases Bool.eq_false_or_eq_true x.fd with h2 | h2
  ·obtain ⟨⟨c0, c1, c2, c3, c4, c5, c6, c7, c8, c9, c10, c11, c12, c13, c14, c15, c16⟩, cf⟩ := rowD HR0.out; rw [h1] at c7; rw [h2] at c8; have HQ := Hf (HNO.out (by unfold M.rfb; rw [h1, h2]; rfl)); clear HNO h1 h2 cf; have ld := load32_row HR0.out; have st := store32_row (w := W1) (b := w.heap.size + 1) (cs := Z17) rfl a c x HR1.out; have HKB := Hf (bel_setRow HB1.out (show w.heap.size ≤ w.heap.size + 1 by omega) (dvv a c x)); have HKG := Hf (setRow32 HR1.out (dvv a c x)); clear HX; go_enter func110, ntmps110; go_upto_region 1 with fail
   rw [HW1.out]; clear HW1; go_wp2; refine bodyPost_ret (v := .tuple #[.agg (dvv a c x), .slice none 0 0]) ?_ rfl (HQ.out _ HKB.out); exact res32 f110_res _ _ (w.heap.size + 1) _ _ _ rfl HKG.out
  ·have HRB : Hid (M.rfb x = true) := Hf (by unfold M.rfb; rw [h1, h2]; rfl); clear HNO; obtain ⟨x1, HX1⟩ : ∃ x1 : M.R, Hid (({ x with fd := true } : M.R) = x1) := ⟨_, Hf rfl⟩
   obtain ⟨⟨c0, c1, c2, c3, c4, c5, c6, c7, c8, c9, c10, c11, c12, c13, c14, c15, c16⟩, cf⟩ := rowD HR0.out; rw [h1] at c7; rw [h2] at c8; have cf8 := cf 8; have n0 : (W1.setCell ⟨w.heap.size, 8, none⟩ (.bool true)).heap[w.heap.size]? = some (.cells (dvv a c x1) 48 (0, 0)) := by
    rw [heap_setCell_same W1 _ 8 _ _ (.bool true) HR0.out, ← HX1.out]; rfl
   have n1 := (heap_setCell_other W1 ⟨w.heap.size, 8, none⟩ (w.heap.size + 1) (.bool true) (show w.heap.size + 1 ≠ w.heap.size by omega)).trans HR1.out; have nb : Below w.heap.size w (W1.setCell ⟨w.heap.size, 8, none⟩ (.bool true)) := HB1.out.setCell Lr _; have nxl : XL vl (W1.setCell ⟨w.heap.size, 8, none⟩ (.bool true)) a c x.l := HX.out.xl.keepBut (fun kk hkk hb => by
    rw [heap_setCell_other W1 ⟨w.heap.size, 8, none⟩ kk _ (by show kk ≠ w.heap.size; omega)]; exact HB1.out.block kk hkk)
   obtain ⟨W2, HW2⟩ := Nh (W1.setCell ⟨w.heap.size, 8, none⟩ (.bool true)); rw [HW2.out] at n0 n1 nb nxl; have H0 := Hf n0; have H1 := Hf n1; have HBB := Hf nb; have HXL := Hf nxl; have HL1 : Hid (x1.l = x.l) := Hf (by rw [← HX1.out]); have HB1E : Hid (x1.b = x.b) := Hf (by rw [← HX1.out]); have HF1 : Hid (x1.fr = x.fr) := Hf (by rw [← HX1.out]); have HFS : Hid (M.rfs x = x1) := Hf (by unfold M.rfs; rw [HRB.out, if_pos rfl, HX1.out]); have HFO : Hid (M.rfo x = M.rfl' x (M.rlast (x.fr - 1) x.l + 1 - x.fr).toNat) := Hf (by unfold M.rfo; rw [HRB.out, if_pos rfl]); have hsub : IntKind.i64.wrap (x.fr - 1) = x.fr - 1 := by rw [IntKind.wrap_i64]; omega
   clear n0 n1 nb nxl cf HX1 h1 h2 HRB HR0 HR1; go_enter func110, ntmps110; go_upto_region 1 with fail
   rw [HW1.out]; clear HW1; go_upto_region 4 with fail
   rw [HW2.out]; clear HW2 c0 c1 c2 c3 c4 c5 c6 c7 c8 c9 c10 c11 c12 c13 c14 c15 c16 cf8; obtain ⟨⟨c0, c1, c2, c3, c4, c5, c6, c7, c8, c9, c10, c11, c12, c13, c14, c15, c16⟩, -⟩ := rowD H0.out; rw [HL1.out] at c16; rw [HF1.out] at c2; go_wp2_with fail; go_loopw [4, 5] (fun t i wr => ∃ q : Nat, q ≤ x.l.length ∧ i = .int .i64 q ∧ t = .int .i64 (M.rlast (x.fr - 1) (x.l.take q)) ∧ wr = W2) (fun t i _ => x.l.length - (intOf i).toNat)
   case atStart => exact ⟨0, by omega, rfl, rfl, rfl⟩
   case round =>
    obtain ⟨q, hq, rfl, rfl, hwr⟩ := hrel; obtain rfl := hwr.symm; clear hwr; by_cases hlq : q < x.l.length
    ·have hqi : (q : Int) < (x.l.length : Int) := by omega
     obtain ⟨bv, ov, ea, x0, x1', x2', x3'⟩ := HXL.out.at'.getV q hlq; have HRT := Hf (M.rlast_take (x.fr - 1) x.l q hlq); generalize M.rlast (x.fr - 1) (x.l.take q) = lq at *; generalize x.l[q].s = vs at *; subst ea; go_wp2; go_roundw
     case rel => exact ⟨q + 1, by omega, by go_num, by rw [HRT.out], trivial⟩
     case measure => simp [intOf]; omega
    ·obtain rfl : q = x.l.length := by omega
     rw [List.take_of_length_le Lr]; obtain ⟨la, HLA⟩ := Nh (M.rlast (x.fr - 1) x.l); rw [HLA.out] at hM HFO ⊢; clear HLA hlq; go_wp2_with fail; go_loopw [6, 7] (fun v i wr => ∃ j : Nat, j ≤ (la + 1 - x.fr).toNat ∧ i = .int .i64 (x.fr + j) ∧ OwnL vl 126 wr W2.heap.size v (M.rfl' x j) ∧ Bl W2 wr) (fun v i _ => (la + 1 - intOf i).toNat)
     case atStart => exact ⟨0, Nat.zero_le _, by simp, OwnL.nil _ _ _, Below.refl _ _⟩
     case round =>
      obtain ⟨j, hj, rfl, how, hbw⟩ := hrel
      rename World => wb
      obtain ⟨k, HK⟩ : ∃ k : Int, Hid (x.fr + j = k) := ⟨_, Hf rfl⟩; by_cases hle : x.fr + j ≤ la
      ·rw [HK.out] at hle ⊢; have hk0 : 0 ≤ k := by have := HK.out; omega
       have hjl : j ≤ 2000 := by have := HK.out; omega
       have dle : decide (k ≤ la) = true := decide_eq_true hle; clear c0 c1 c2 c3 c4 c5 c6 c7 c8 c9 c10 c11 c12 c13 c14 c15 c16; go_wp2_with fail; go_loopw [8, 9] (fun v i wx => ∃ q : Nat, q ≤ x.l.length ∧ i = .int .i64 q ∧ OwnL vl 126 wx wb.heap.size v (M.of (x.l.take q) k) ∧ Bl wb wx) (fun v i _ => x.l.length - (intOf i).toNat)
       case atStart => exact ⟨0, by omega, rfl, OwnL.nil _ _ _, Below.refl _ _⟩
       case round =>
        obtain ⟨q, hq, rfl, ho8, hb8⟩ := hrel
        rename World => wx
        have hx8 := HXL.out.keep (Bu hbw hb8 (show W2.heap.size ≤ W2.heap.size from Nat.le_refl _)); obtain ⟨⟨c0, c1, c2, c3, c4, c5, c6, c7, c8, c9, c10, c11, c12, c13, c14, c15, c16⟩, -⟩ := rowD (Br H0.out (Bu hbw hb8 (show W2.heap.size ≤ W2.heap.size from Nat.le_refl _))); rw [HL1.out] at c16; have HO8 := Hf ho8; have HB8 := Hf hb8; by_cases hlq : q < x.l.length
        ·have hqi : (q : Int) < (x.l.length : Int) := by omega
         obtain ⟨bv, ov, ea, x0, x1', x2', x3'⟩ := hx8.at'.getV q hlq; have HFT := Hf (M.of_take x.l q hlq k); obtain ⟨v, HV⟩ := Nh (x.l[q]); rw [HV.out] at x0 x1' x2' x3' HFT; obtain ⟨ol, HOL⟩ := Nh (M.of (x.l.take q) k); rw [HOL.out] at ho8 HFT HO8; have hol : ol.length ≤ x.l.length := by rw [← HOL.out]; unfold M.of; have := List.length_filter_le (fun v : V => decide (v.s = k)) (x.l.take q); rw [List.length_take] at this; omega
         subst ea; clear hx8 HV HOL; by_cases hs : v.s = k
         ·have ds : (v.s == k) = true := by simpa using hs
          have hsz := hb8.size; obtain ⟨a', c', w9, hrun, ho9, hr9⟩ := app1 v ho8 (by omega) (by omega); obtain ⟨q8, n8, hv8, -⟩ := ho8.at; subst hv8; have HO9 : Hid (OwnL vl 126 w9 wb.heap.size (.slice a' (ol.length + 1) c') (M.of (x.l.take (q + 1)) k)) := Hf (by rw [HFT.out, if_pos hs]; exact ho9); have HB9 : Hid (Bl wb w9) := HB8.out.trans (hr9.below (fun kk hkk => (HO8.out.lt hkk).1) (by omega)); clear hs ho8 hb8 ho9 hr9 HO8 HB8 HFT; go_wp2_with (at_builtin; refine wpList_append_known rfl _ _ 43 rfl _ _ rfl rfl _ _ (hrun _) ?_); go_roundw
          case rel => exact ⟨q + 1, by omega, by go_num, HO9.out, HB9.out⟩
          case measure => simp [intOf]; omega
         ·have ds : (v.s == k) = false := by simpa using hs
          have HO9 : Hid (OwnL vl 126 wx wb.heap.size u8 (M.of (x.l.take (q + 1)) k)) := Hf (by rw [HFT.out, if_neg hs, List.append_nil]; exact ho8); clear hs ho8 hb8 HO8 HFT; go_wp2; go_roundw
          case rel => exact ⟨q + 1, by omega, by go_num, HO9.out, HB8.out⟩
          case measure => simp [intOf]; omega
        ·obtain rfl : q = x.l.length := by omega
         rw [List.take_of_length_le Lr] at ho8; obtain ⟨a8, c8', hv8, hx8', -⟩ := ho8.at; subst hv8; have hol : (M.of x.l k).length ≤ x.l.length := by unfold M.of; exact List.length_filter_le _ _
         have cp := rpick_any a8 c8' (M.of x.l k) wx hx8'.at' (by omega); obtain ⟨u, HU⟩ := Nh (M.vx (M.of x.l k) (M.of x.l k).length); obtain ⟨fb, HFB⟩ := Nh (decide (0 < (M.of x.l k).length)); rw [HU.out, HFB.out] at cp; obtain ⟨on, HON⟩ := Nh ((M.of x.l k).length); rw [HON.out] at cp; have HRF : Hid (M.rf1 x j = ⟨k, x.b, u.v⟩) := Hf (by unfold M.rf1; rw [HK.out, HU.out]); rw [HON.out]; clear ho8 hx8' hx8 HFB hol HU HON; go_wp2_with fail; refine cp.mono ?_; clear cp c0 c1 c2 c3 c4 c5 c6 c7 c8 c9 c10 c11 c12 c13 c14 c15 c16; rintro z w9 ⟨rfl, hb9⟩; obtain ⟨W10, HW10⟩ := Nh (w9.alloc (.cells #[.int .i64 u.s, .int .i64 u.b.i, .int .i64 u.b.t, .string u.v] 126)); have hb10 := Ab HW10; have hr10 := Ac HW10; have hb810 := Bu (Bu HB8.out hb9 (show wb.heap.size ≤ wb.heap.size from Nat.le_refl _)) hb10 (show wb.heap.size ≤ wb.heap.size from Nat.le_refl _); have hbw10 := Bu hbw hb810 (show W2.heap.size ≤ W2.heap.size from Nat.le_refl _); obtain ⟨y0, -⟩ := row4 hr10; obtain ⟨⟨c0, c1, c2, c3, c4, c5, c6, c7, c8, c9, c10, c11, c12, c13, c14, c15, c16⟩, -⟩ := rowD (Br H0.out hbw10); rw [HB1E.out] at c4 c5; have hsz10 := hbw10.size; obtain ⟨a', c', w11, hrun, ho11, hr11⟩ := app1 ⟨k, x.b, u.v⟩ (how.keep hb810) (by omega) (by rw [M.rfl_len]; omega); obtain ⟨q6, n6, hv6, -⟩ := how.at; rw [M.rfl_len] at hrun ho11 hr11 hv6; subst hv6; have HO11 : Hid (OwnL vl 126 w11 W2.heap.size (.slice a' (j + 1) c') (M.rfl' x (j + 1))) := Hf (by rw [M.rfl_succ, HRF.out]; exact ho11)
         have HB11 : Hid (Bl W2 w11) := hbw10.trans (hr11.below (fun kk hkk => (how.lt hkk).1) (by omega)); have hk1 : x.fr + ((j + 1 : Nat) : Int) = k + 1 := by have := HK.out; omega
         have hadd : IntKind.i64.wrap (k + 1) = k + 1 := by rw [IntKind.wrap_i64]; omega
         clear ho11 hr11 hb9 hb10 hr10 hb810 hbw10 HO8 HB8 how hbw hb8; go_upto_region 20 with fail
         rw [HW10.out]; clear HW10; go_wp2_with (at_builtin; refine wpList_append_known rfl _ _ 43 rfl _ _ rfl rfl _ _ (hrun _) ?_); go_roundw
         case rel => exact ⟨j + 1, by omega, by rw [hk1], HO11.out, HB11.out⟩
         case measure => simp [intOf]; omega
      ·have dle : decide (x.fr + j ≤ la) = false := decide_eq_false hle; obtain rfl : j = (la + 1 - x.fr).toNat := by omega
       obtain ⟨a6, c6', hv6, hx6, hbk6⟩ := how.at; subst hv6; have q0 := Br H0.out hbw; have q1 := Br H1.out hbw; have ld := load32_row q0; have st := store32_row (w := wb) (b := w.heap.size + 1) (cs := Z17) rfl a c x1 q1; have hs2 : w.heap.size ≤ W2.heap.size := HBB.out.size; have hs2' : w.heap.size + 1 < W2.heap.size := (Array.getElem?_eq_some_iff.1 H1.out).1; have HKB := Hf (bel_setRow (Bu HBB.out hbw (show w.heap.size ≤ w.heap.size from Nat.le_refl _)) (show w.heap.size ≤ w.heap.size + 1 by omega) (dvv a c x1)); have HKG := Hf (setRow32 q1 (dvv a c x1)); have HKX : Hid (XL vl (wb.setRow (w.heap.size + 1) (dvv a c x1)) a6 c6' (M.rfo x)) := Hf (by
        rw [HFO.out]; exact hx6.keepBut (fun kk hkk hb => setRow_oth _ (by have := (hbk6 kk hb).1; omega)))
       have HKN : Hid (∀ kk, blk a6 kk → w.heap.size ≤ kk ∧ kk < (wb.setRow (w.heap.size + 1) (dvv a c x1)).heap.size) := fun kk hb => ⟨by have := (hbk6 kk hb).1; omega, by have := (hbk6 kk hb).2.2; simpa [World.setRow] using this⟩; have HRL : Hid ((M.rfo x).length = (M.rfl' x (la + 1 - x.fr).toNat).length) := Hf (by rw [HFO.out]); generalize (M.rfl' x (la + 1 - x.fr).toNat).length = on at *; generalize (la + 1 - x.fr).toNat = jj at *; clear how hbw hx6 hbk6 q0 q1 hle c0 c1 c2 c3 c4 c5 c6 c7 c8 c9 c10 c11 c12 c13 c14 c15 c16; go_wp2; refine bodyPost_ret (v := .tuple #[.agg (dvv a c x1), .slice a6 on c6']) ?_ rfl ⟨a6, c6', by rw [HFS.out, HRL.out], HKX.out, HKN.out, HKB.out⟩; exact res32 f110_res _ _ (w.heap.size + 1) _ _ _ rfl HKG.out
 ·obtain ⟨⟨c0, c1, c2, c3, c4, c5, c6, c7, c8, c9, c10, c11, c12, c13, c14, c15, c16⟩, cf⟩ := rowD HR0.out; rw [h1] at c7; have HQ := Hf (HNO.out (by unfold M.rfb; rw [h1]; rfl)); clear HNO h1 cf; have ld := load32_row HR0.out; have st := store32_row (w := W1) (b := w.heap.size + 1) (cs := Z17) rfl a c x HR1.out; have HKB := Hf (bel_setRow HB1.out (show w.heap.size ≤ w.heap.size + 1 by omega) (dvv a c x)); have HKG := Hf (setRow32 HR1.out (dvv a c x)); clear HX; go_enter func110, ntmps110; go_upto_region 1 with fail
  rw [HW1.out]; clear HW1; go_wp2; refine bodyPost_ret (v := .tuple #[.agg (dvv a c x), .slice none 0 0]) ?_ rfl (HQ.out _ HKB.out); exact res32 f110_res _ _ (w.heap.size + 1) _ _ _ rfl HKG.out
end Go.Proofs.YtgodnpngdbelhaaGreat.Np
namespace Go.Proofs.YtgodnpngdbelhaaGreat.Na
open Go.RowKit
open Go.Proofs.YtgodnpngdbelhaaGreat.M (E V)
abbrev aV (a : M.S) (ad : Option Addr) (c : Nat) : Value := .agg #[.int .i64 a.p.i, .int .i64 a.p.t, .int .i64 a.base, .slice ad a.l.length c]
theorem Tryz.size45 : (prog.info? 45).map (·.size) = some 4 := by kernel_rfl
theorem res31 {fn : Func} {p u : Tmp} (h : fn.results = #[.cell p 45, .tmp u]) (tmps : Array Value) (w : World) (g : Nat) (v0 v1 v2 v3 : Value) (hp : tmps.getD p undef = .pointer (some ⟨g, 0, none⟩)) (hg : w.heap[g]? = some (.cells #[v0, v1, v2, v3] 45 (0, 0))) :
  (results fn tmps).run prog w = .ok (.tuple #[.agg #[v0, v1, v2, v3], tmps.getD u undef]) w := by
 have hp' : tmps[p]?.getD undef = .pointer (some ⟨g, 0, none⟩) := by simpa using hp
 rw [results_cell_tmp h]; simp [asAddr, hp', run_loadVar_row w g 45 45 #[v0, v1, v2, v3] (0, 0) _ hg underlying45 rfl Tryz.size45]
theorem results_cell_tmps {fn : Func} {p u u' : Tmp} {ty : TypeId} (h : fn.results = #[.cell p ty, .tmp u, .tmp u']) (tmps : Array Value) (P : Program) (w : World) :
  (results fn tmps).run P w = ((asAddr (tmps.getD p undef)).run P w).andThen fun a w₁ => ((loadVar ty a).run P w₁).andThen fun v w₂ => .ok (.tuple #[v, tmps.getD u undef, tmps.getD u' undef]) w₂ := by
 simp only [results, h]; simp [Sem.run_bind, Result.andThen]
theorem res31_3 {fn : Func} {p u u' : Tmp} (h : fn.results = #[.cell p 45, .tmp u, .tmp u']) (tmps : Array Value) (w : World) (g : Nat) (v0 v1 v2 v3 : Value) (hp : tmps.getD p undef = .pointer (some ⟨g, 0, none⟩)) (hg : w.heap[g]? = some (.cells #[v0, v1, v2, v3] 45 (0, 0))) :
  (results fn tmps).run prog w = .ok (.tuple #[.agg #[v0, v1, v2, v3], tmps.getD u undef, tmps.getD u' undef]) w := by
 have hp' : tmps[p]?.getD undef = .pointer (some ⟨g, 0, none⟩) := by simpa using hp
 rw [results_cell_tmps h]; simp [asAddr, hp', run_loadVar_row w g 45 45 #[v0, v1, v2, v3] (0, 0) _ hg underlying45 rfl Tryz.size45]
theorem rmay_any (a : M.S) (ad : Option Addr) (c : Nat) (x : E) (w : World) : Calls prog 113 #[aV a ad c, bV x] w fun e w' => e = .returned (.bool (M.may a x)) ∧ Bl w w' := by
 have HM : Hid (M.may a x = (M.vld x && decide (0 ≤ M.cmpE x a.p))) := rfl; rw [HM.out]; clear HM; obtain ⟨W1, HW1⟩ := Nh ((w.alloc (.cells #[.int .i64 a.p.i, .int .i64 a.p.t, .int .i64 a.base, .slice ad a.l.length c] 45)).alloc (.cells #[.int .i64 x.i, .int .i64 x.t] 42)); have HB1 : Hid (Bl w W1) := by rw [← HW1.out]; exact bel2 w _ _
 have hr1 : W1.heap[w.heap.size]? = some (.cells #[.int .i64 a.p.i, .int .i64 a.p.t, .int .i64 a.base, .slice ad a.l.length c] 45 (0, 0)) := by rw [← HW1.out]; exact heap_alloc2_old w _ _
 have hr2 : W1.heap[w.heap.size + 1]? = some (.cells #[.int .i64 x.i, .int .i64 x.t] 42 (0, 0)) := by rw [← HW1.out]; exact heap_alloc2_new w _ _
 have HR1 := Hf hr1; have HR2 := Hf hr2; obtain ⟨z0, _⟩ := row4 hr1; obtain ⟨y0, _⟩ := row2 hr2; have hv := rvalid_any x W1; clear hr1 hr2; cases hx : M.vld x with
 | true =>
  rw [hx] at hv; rw [Bool.true_and]; clear hx; go_enter func113, ntmps113; go_upto_region 1 with fail
  rw [HW1.out]; go_wp2_with fail; refine hv.mono ?_; rintro e w2 ⟨rfl, hb2⟩; obtain ⟨x0, _⟩ := row4 (Br HR1.out hb2); obtain ⟨u0, _⟩ := row2 (Br HR2.out hb2); have HB2 := Hf (Bu HB1.out hb2 Lr); clear hb2 hv z0 y0; go_wp2_with fail; refine (rcmp_any x a.p _).mono ?_; rintro e w3 ⟨rfl, hb3⟩; have HB3 := Hf (Bu HB2.out hb3 Lr); clear hb3; go_wp2; go_ret; exact ⟨rfl, HB3.out⟩
 | false =>
  rw [hx] at hv; rw [Bool.false_and]; clear hx; go_enter func113, ntmps113; go_upto_region 1 with fail
  rw [HW1.out]; go_wp2_with fail; refine hv.mono ?_; rintro e w2 ⟨rfl, hb2⟩; have HB2 := Hf (Bu HB1.out hb2 Lr); clear hb2 hv; go_wp2; go_ret; exact ⟨rfl, HB2.out⟩
theorem rvotes_any (a : M.S) (ad : Option Addr) (c : Nat) (kk : Int) (w : World) (hx : XL vl w ad c a.l) (hl : a.l.length ≤ 1024) : Calls prog 118 #[aV a ad c, .int .i64 kk] w (RV w (M.vts a.l kk)) := by
 obtain ⟨W1, HW1⟩ := Nh (w.alloc (.cells #[.int .i64 a.p.i, .int .i64 a.p.t, .int .i64 a.base, .slice ad a.l.length c] 45)); have hb1 := Ab HW1; have hr1 := Ac HW1; have HB1 := Hf hb1; have HR1 := Hf hr1; have HAT := Hf (hx.at'.keep hb1); clear hb1 hr1 hx; go_enter func118, ntmps118; go_wp2; rw [HW1.out]; clear HW1; go_loopw [6, 5] (fun i u wr => ∃ k : Nat, k ≤ a.l.length ∧ i = .int .i64 k ∧ OwnL vl 126 wr W1.heap.size u (M.vts (a.l.take k) kk) ∧ Bl W1 wr) (fun i u _ => a.l.length - (intOf i).toNat)
 case atStart => exact ⟨0, Nat.zero_le _, rfl, OwnL.nil _ _ _, Below.refl _ _⟩
 case round =>
  obtain ⟨k, hk, rfl, ho, hbl⟩ := hrel; obtain ⟨z0, _⟩ := row4 (Br HR1.out hbl); obtain ⟨a1, cap1, rfl, hx1, _⟩ := ho.at; have hlm : (M.vts (a.l.take k) kk).length ≤ 1024 := Nat.le_trans (M.vts_le _ _) (by simp; omega); by_cases hlt : k < a.l.length
  ·obtain ⟨g0, off0, rfl, q0, q1, q2, q3⟩ := (HAT.out.keep hbl).getV k hlt; have HT := Hf (M.vts_snoc a.l kk k hlt); have hki : (k : Int) < (a.l.length : Int) := by omega
   generalize M.vts (a.l.take k) kk = O at *; by_cases hge : kk ≤ a.l[k].s
   ·obtain ⟨a', c', w4, hrun, ho4, hr4⟩ := app1 a.l[k] ho (by have := hbl.size; omega) (by omega); have HB4 : Hid (Bl W1 w4) := hbl.trans (hr4.below (fun j hj => (ho.lt hj).1) hbl.size); have HO4 := Hf ho4; rw [if_pos hge] at HT; have dge : decide (kk ≤ a.l[k].s) = true := decide_eq_true hge; clear ho hbl hx1 ho4 hr4 hge; generalize a.l[k] = x at *; go_wp2_with (at_builtin; refine wpList_append_known rfl _ _ 43 rfl _ _ rfl rfl _ _ (hrun _) ?_); go_roundw
    case rel => exact ⟨k + 1, by omega, by go_num, by rw [HT.out]; exact HO4.out, HB4.out⟩
    case measure => simp [intOf]; omega
   ·have HB4 := Hf hbl; have HO4 := Hf ho; rw [if_neg hge] at HT; have dge : decide (kk ≤ a.l[k].s) = false := decide_eq_false hge; clear ho hbl hx1 hge; generalize a.l[k] = x at *; go_wp2; go_roundw
    case rel => exact ⟨k + 1, by omega, by go_num, by rw [HT.out]; exact HO4.out, HB4.out⟩
    case measure => simp [intOf]; omega
  ·obtain rfl : k = a.l.length := by omega
   have HQ : Hid (RV w (M.vts a.l kk) (.returned (.slice a1 (M.vts (a.l.take a.l.length) kk).length cap1)) wr) := ⟨_, rfl, by rw [List.take_length] at ho ⊢; exact ho.low HB1.out.size, Bu HB1.out hbl Lr⟩; clear ho hbl hx1; go_wp2; go_ret; exact HQ.out
def DS (w : World) (a : M.S) (v : Value) (w' : World) : Prop := ∃ ad c, v = aV a ad c ∧ XL vl w' ad c a.l ∧ (∀ j, blk ad j → w.heap.size ≤ j ∧ j < w'.heap.size) ∧ Bl w w'
theorem ds_of {w w2 w' : World} {a2 : Option Addr} {c2 m : Nat} {l : List V} {G : Nat → Prop} (hb : Bl w w2) (hx : XL vl w2 a2 c2 l) (hbk : ∀ j, blk a2 j → m ≤ j ∧ j < w2.heap.size) (hF : Fr w2 G w' G) (hG : ∀ k, G k → w.heap.size ≤ k ∧ k < m) (hm : w.heap.size ≤ m := by omega) :
  XL vl w' a2 c2 l ∧ (∀ j, blk a2 j → w.heap.size ≤ j ∧ j < w'.heap.size) ∧ Bl w w' :=
 ⟨hx.keepBut fun k _ hk => hF.block k (hbk k hk).2 (fun hg => by have := (hG k hg).2; have := (hbk k hk).1; omega), fun j hj => ⟨by have := (hbk j hj).1; omega, Nat.lt_of_lt_of_le (hbk j hj).2 hF.size⟩, hb.trans (hF.below (fun k hk => (hG k hk).1) hb.size)⟩
theorem f88_res : Tryz.f88.results = #[.cell 6 45, .tmp 7, .tmp 8] := rfl
def RPr (w : World) (a : M.S) (ad : Option Addr) (c : Nat) (x : E) (k : Int) (e : Ending) (w' : World) : Prop :=
 ∃ a' c', e = .returned (.tuple #[aV (M.prs a x k) ad c, .slice a' (M.prl a x k).length c', .bool (M.prb a x k)]) ∧ XL vl w' a' c' (M.prl a x k) ∧ (∀ j, blk a' j → w.heap.size ≤ j ∧ j < w'.heap.size) ∧ Bl w w'
theorem rpromise_any (a : M.S) (ad : Option Addr) (c : Nat) (x : E) (k : Int) (w : World) (hx : XL vl w ad c a.l) (hl : a.l.length ≤ 1024) : Calls prog 88 #[aV a ad c, bV x, .int .i64 k] w (RPr w a ad c x k) := by
 obtain ⟨W1, HW1⟩ := Nh (((w.alloc (.cells #[.int .i64 a.p.i, .int .i64 a.p.t, .int .i64 a.base, .slice ad a.l.length c] 45)).alloc (.cells #[.int .i64 x.i, .int .i64 x.t] 42)).alloc (.cells #[.int .i64 0, .int .i64 0, .int .i64 0, .slice none 0 0] 45)); have hb2 := bel2 w (.cells #[.int .i64 a.p.i, .int .i64 a.p.t, .int .i64 a.base, .slice ad a.l.length c] 45) (.cells #[.int .i64 x.i, .int .i64 x.t] 42); have hs2 : ((w.alloc (.cells #[.int .i64 a.p.i, .int .i64 a.p.t, .int .i64 a.base, .slice ad a.l.length c] 45)).alloc (.cells #[.int .i64 x.i, .int .i64 x.t] 42)).heap.size = w.heap.size + 2 := by simp
 have hb3 := bel1 ((w.alloc (.cells #[.int .i64 a.p.i, .int .i64 a.p.t, .int .i64 a.base, .slice ad a.l.length c] 45)).alloc (.cells #[.int .i64 x.i, .int .i64 x.t] 42)) (.cells #[.int .i64 0, .int .i64 0, .int .i64 0, .slice none 0 0] 45); have hr3 := heap_alloc_last ((w.alloc (.cells #[.int .i64 a.p.i, .int .i64 a.p.t, .int .i64 a.base, .slice ad a.l.length c] 45)).alloc (.cells #[.int .i64 x.i, .int .i64 x.t] 42)) (.cells #[.int .i64 0, .int .i64 0, .int .i64 0, .slice none 0 0] 45); have hr1 := Br (heap_alloc2_old w (.cells #[.int .i64 a.p.i, .int .i64 a.p.t, .int .i64 a.base, .slice ad a.l.length c] 45) (.cells #[.int .i64 x.i, .int .i64 x.t] 42)) hb3; have hr2 := Br (heap_alloc2_new w (.cells #[.int .i64 a.p.i, .int .i64 a.p.t, .int .i64 a.base, .slice ad a.l.length c] 45) (.cells #[.int .i64 x.i, .int .i64 x.t] 42)) hb3; have hb1 := Bu hb2 hb3 Lr; rw [hs2] at hr3; rw [HW1.out] at hr1 hr2 hr3 hb1; have hs1 : W1.heap.size = w.heap.size + 3 := by rw [← HW1.out]; simp
 have HB1 := Hf hb1; have HR1 := Hf hr1; have HR2 := Hf hr2; have HR3 := Hf hr3; have HX := Hf hx; obtain ⟨z0, _⟩ := row4 hr1; obtain ⟨u0, _⟩ := row2 hr2; have hm := rmay_any a ad c x W1; have HP : Hid (M.prb a x k = (M.may a x && decide (a.base ≤ k))) := rfl; clear hb2 hs2 hb3 hr1 hr2 hr3 hb1 hx; have HNOP : Hid (M.prb a x k = false → ∀ w', Bl w w' → RPr w a ad c x k (.returned (.tuple #[aV a ad c, .slice none 0 0, .bool false])) w') := by
  intro hp w' hb; have e : M.prl a x k = [] := by unfold M.prl; rw [hp]; rfl
  refine ⟨none, 0, by rw [hp, M.prs_no hp, e]; rfl, by rw [e]; exact XL.emp _, fun j hj => ?_, hb⟩; obtain ⟨_, _, h⟩ := hj; cases h
 cases hmx : M.may a x with
 | false =>
  rw [hmx] at hm; have HNO := Hf (HNOP.out (by rw [HP.out, hmx]; rfl)); clear HNOP HP hmx; go_enter func88, ntmps88; go_upto_region 1 with fail
  rw [HW1.out]; go_wp2_with fail; refine hm.mono ?_; rintro e w2 ⟨rfl, hb2⟩; have hR1 := Br HR1.out hb2; have hR3 := Br HR3.out hb2; obtain ⟨x0, _⟩ := row4 hR1; obtain ⟨⟨q0, q1, q2, q3⟩, qf⟩ := row4 hR3; have qf0 := qf 0; have qf1 := qf 1; have qf2 := qf 2; have qf3 := qf 3; have HROW := Hf (put4_row hR3 (.int .i64 a.p.i) (.int .i64 a.p.t) (.int .i64 a.base) (.slice ad a.l.length c)); have HF := Hf (HNO.out _ (put4_bel (g := w.heap.size + 2) (Bu HB1.out hb2 Lr) (by omega) (.int .i64 a.p.i) (.int .i64 a.p.t) (.int .i64 a.base) (.slice ad a.l.length c))); clear hb2 hm hR1 hR3 qf HNO z0 u0; go_wp2; refine bodyPost_ret ?_ rfl HF.out; exact res31_3 f88_res _ _ (w.heap.size + 2) _ _ _ _ rfl HROW.out
 | true =>
  rw [hmx] at hm; by_cases hk : a.base ≤ k
  ·have hp : M.prb a x k = true := by rw [HP.out, hmx, decide_eq_true hk]; rfl
   have d0 : decide (k < a.base) = false := decide_eq_false (by omega); have HQP : Hid (∀ w2, Bl W1 w2 → ∀ w4 a4 c4, Below (put2 w2 w.heap.size (.int .i64 x.i) (.int .i64 x.t)).drew.heap.size (put2 w2 w.heap.size (.int .i64 x.i) (.int .i64 x.t)).drew w4 → XL vl w4 a4 c4 (M.vts a.l k) → (∀ j, blk a4 j → (put2 w2 w.heap.size (.int .i64 x.i) (.int .i64 x.t)).drew.heap.size ≤ j ∧ j < w4.heap.size) → RPr w a ad c x k (.returned (.tuple #[.agg #[.int .i64 x.i, .int .i64 x.t, .int .i64 a.base, .slice ad a.l.length c], .slice a4 (M.vts a.l k).length c4, .bool true])) (put4 w4 (w.heap.size + 2) (.int .i64 x.i) (.int .i64 x.t) (.int .i64 a.base) (.slice ad a.l.length c))) := by
    intro w2 hb2 w4 a4 c4 hb4 hx4 hbk4; have e : M.prl a x k = M.vts a.l k := by unfold M.prl; rw [hp]; rfl
    have hbA : Below w.heap.size w (put2 w2 w.heap.size (.int .i64 x.i) (.int .i64 x.t)).drew := ((Bu HB1.out hb2 Lr).setCell (p := ⟨w.heap.size, 0, none⟩) Lr _ |>.setCell (p := ⟨w.heap.size, 1, none⟩) Lr _).drew; have hg : (fun k => k = w.heap.size + 2) (w.heap.size + 2) := rfl; have hF := fr_set (fr_set (fr_set (fr_set (Fr.refl w4 fun k => k = w.heap.size + 2) hg 0 (.int .i64 x.i)) hg 1 (.int .i64 x.t)) hg 2 (.int .i64 a.base)) hg 3 (.slice ad a.l.length c); have hsz : (put2 w2 w.heap.size (.int .i64 x.i) (.int .i64 x.t)).drew.heap.size = w2.heap.size := by simp [put2, World.drew]
    have hs2 := hb2.size; obtain ⟨q1, q2, q3⟩ := ds_of (Bu hbA hb4 Lr) hx4 hbk4 hF (fun j hj => by subst hj; omega); refine ⟨a4, c4, by rw [hp, M.prs_yes hp, e], by rw [e]; exact q1, q2, q3⟩
   clear HNOP HP hmx hp hk; go_enter func88, ntmps88; go_upto_region 1 with fail
   rw [HW1.out]; clear HW1; go_wp2_with fail; refine hm.mono ?_; rintro e w2 ⟨rfl, hb2⟩; have HQ' := Hf (HQP.out w2 hb2); have hR1 := Br HR1.out hb2; have hR2 := Br HR2.out hb2; have hR3 := Br HR3.out hb2; have hX2 := (HX.out.keep HB1.out).keep hb2; have hs2 := hb2.size; obtain ⟨x0, xf⟩ := row4 hR1; obtain ⟨t0, _⟩ := row2 hR2; have xf0 := xf 0; have xf1 := xf 1; have HR1d : Hid ((put2 w2 w.heap.size (.int .i64 x.i) (.int .i64 x.t)).drew.heap[w.heap.size]? = some (.cells #[.int .i64 x.i, .int .i64 x.t, .int .i64 a.base, .slice ad a.l.length c] 45 (0, 0))) := heap_setCell_same _ w.heap.size 1 _ _ _ (heap_setCell_same w2 w.heap.size 0 _ _ _ hR1); have HR2d : Hid ((put2 w2 w.heap.size (.int .i64 x.i) (.int .i64 x.t)).drew.heap[w.heap.size + 2]? = some (.cells #[.int .i64 0, .int .i64 0, .int .i64 0, .slice none 0 0] 45 (0, 0))) := ((heap_setCell_other _ ⟨w.heap.size, 1, none⟩ _ _ (by simp)).trans (heap_setCell_other _ ⟨w.heap.size, 0, none⟩ _ _ (by simp))).trans hR3; have hXd : XL vl (put2 w2 w.heap.size (.int .i64 x.i) (.int .i64 x.t)).drew ad c a.l := HX.out.keep (((Bu HB1.out hb2 Lr).setCell (p := ⟨w.heap.size, 0, none⟩) Lr _ |>.setCell (p := ⟨w.heap.size, 1, none⟩) Lr _).drew); have HV := Hf (rvotes_any ⟨x, a.base, a.l⟩ ad c k _ hXd hl)
   have HKT : Hid (∀ w7 : World, (w7.cell? ⟨w.heap.size, 0, none⟩ = some (.int .i64 x.i) ∧ w7.cell? ⟨w.heap.size, 1, none⟩ = some (.int .i64 x.t) ∧ w7.cell? ⟨w.heap.size, 2, none⟩ = some (.int .i64 a.base) ∧ w7.cell? ⟨w.heap.size, 3, none⟩ = some (.slice ad a.l.length c)) → ((put4 w7 (w.heap.size + 2) (.int .i64 x.i) (.int .i64 x.t) (.int .i64 a.base) (.slice ad a.l.length c)).cell? ⟨w.heap.size, 0, none⟩ = some (.int .i64 x.i) ∧ (put4 w7 (w.heap.size + 2) (.int .i64 x.i) (.int .i64 x.t) (.int .i64 a.base) (.slice ad a.l.length c)).cell? ⟨w.heap.size, 1, none⟩ = some (.int .i64 x.t) ∧ (put4 w7 (w.heap.size + 2) (.int .i64 x.i) (.int .i64 x.t) (.int .i64 a.base) (.slice ad a.l.length c)).cell? ⟨w.heap.size, 2, none⟩ = some (.int .i64 a.base) ∧ (put4 w7 (w.heap.size + 2) (.int .i64 x.i) (.int .i64 x.t) (.int .i64 a.base) (.slice ad a.l.length c)).cell? ⟨w.heap.size, 3, none⟩ = some (.slice ad a.l.length c))) := by
    intro w7 h7; have kept : ∀ o, (put4 w7 (w.heap.size + 2) (.int .i64 x.i) (.int .i64 x.t) (.int .i64 a.base) (.slice ad a.l.length c)).cell? ⟨w.heap.size, o, none⟩ = w7.cell? ⟨w.heap.size, o, none⟩ := fun o => World.cell?_of_block (w := w7) (a := ⟨w.heap.size, o, none⟩) (put4_oth (g := w.heap.size + 2) (k := w.heap.size) (by omega) _ _ _ _); rw [kept, kept, kept, kept]; exact h7
   obtain ⟨W3, HW3⟩ := Nh (put2 w2 w.heap.size (.int .i64 x.i) (.int .i64 x.t)); have HW3' : Hid ((w2.setCell ⟨w.heap.size, 0, none⟩ (.int .i64 x.i)).setCell ⟨w.heap.size, 1, none⟩ (.int .i64 x.t) = W3) := HW3.out; rw [HW3.out] at HQ' HR1d HR2d HV; have HQ := HQ'; clear hb2 hm hR1 hR2 hR3 hX2 hs2 xf hXd HW3 HQP HQ' HX HB1 HR1 HR2 HR3 z0 u0; go_wp2_with fail; rw [HW3'.out]; clear HW3' x0 t0 xf0 xf1; refine wp_region_held_drew (S := fun wq => wq.cell? ⟨w.heap.size, 0, none⟩ = some (.int .i64 x.i) ∧ wq.cell? ⟨w.heap.size, 1, none⟩ = some (.int .i64 x.t) ∧ wq.cell? ⟨w.heap.size, 2, none⟩ = some (.int .i64 a.base) ∧ wq.cell? ⟨w.heap.size, 3, none⟩ = some (.slice ad a.l.length c)) (by kernel_rfl) (row4 HR1d.out).1 fun Hl => ?_; refine Tk 0 ?pA ?vA ?yA Hl ?rA
   case yA => intro wq hq; obtain ⟨y0, y1, y2, y3⟩ := hq; go_simp; try with_reducible rfl
   refine Tk 1 ?pB ?vB ?yB Hl ?rB
   case yB => intro wq hq; obtain ⟨y0, y1, y2, y3⟩ := hq; go_simp; try with_reducible rfl
   refine Tm 2 Hl ?_
   simp only [Act.put, Pz]; refine Rd 3 ?pD ?sD; intro K hK; go_simp; refine HV.out.mono ?_; rintro e w4 ⟨v4, rfl, ho4, hb4⟩; obtain ⟨a4, c4, rfl, hx4, hbk4⟩ := ho4.at; have S4 := (row4 (Br HR1d.out hb4)).1; have HR4 := Hf (Br HR2d.out hb4); have HQ4 := Hf (HQ.out w4 a4 c4 hb4 hx4 (fun j hj => ⟨(hbk4 j hj).1, (hbk4 j hj).2.2⟩)); clear ho4 hx4 hbk4 hb4; refine hK.out _ _ S4 fun Hl => ?_; refine Rd 4 ?pE ?sE; intro K hK; go_simp; obtain ⟨⟨q0, q1, q2, q3⟩, qf⟩ := row4 HR4.out; have qf0 := qf 0; have qf1 := qf 1; have qf2 := qf 2; have qf3 := qf 3; clear qf; go_simp; refine hK.out _ _ (HKT.out _ Hl) fun Hl => ?_; refine Tm 5 Hl ?_; refine Tm 6 Hl ?_; simp only [Act.put, Pz]; refine Wd ?_; have HROW := Hf (put4_row HR4.out (.int .i64 x.i) (.int .i64 x.t) (.int .i64 a.base) (.slice ad a.l.length c)); go_wp2; refine bodyPost_ret ?_ rfl HQ4.out; exact res31_3 f88_res _ _ (w.heap.size + 2) _ _ _ _ rfl HROW.out
  ·have HNO := Hf (HNOP.out (by rw [HP.out, hmx, decide_eq_false hk]; rfl)); have d0 : decide (k < a.base) = true := decide_eq_true (by omega); clear HNOP HP hmx hk; go_enter func88, ntmps88; go_upto_region 1 with fail
   rw [HW1.out]; go_wp2_with fail; refine hm.mono ?_; rintro e w2 ⟨rfl, hb2⟩; have hR1 := Br HR1.out hb2; have hR3 := Br HR3.out hb2; obtain ⟨x0, _⟩ := row4 hR1; obtain ⟨⟨q0, q1, q2, q3⟩, qf⟩ := row4 hR3; have qf0 := qf 0; have qf1 := qf 1; have qf2 := qf 2; have qf3 := qf 3; have HROW := Hf (put4_row hR3 (.int .i64 a.p.i) (.int .i64 a.p.t) (.int .i64 a.base) (.slice ad a.l.length c)); have HF := Hf (HNO.out _ (put4_bel (g := w.heap.size + 2) (Bu HB1.out hb2 Lr) (by omega) (.int .i64 a.p.i) (.int .i64 a.p.t) (.int .i64 a.base) (.slice ad a.l.length c))); clear hb2 hm hR1 hR3 qf HNO z0 u0; go_wp2; refine bodyPost_ret ?_ rfl HF.out; exact res31_3 f88_res _ _ (w.heap.size + 2) _ _ _ _ rfl HROW.out
end Go.Proofs.YtgodnpngdbelhaaGreat.Na
