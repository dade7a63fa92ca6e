import Derived.Test.YtgodnpngdbelhaaGreatGP28
set_option maxRecDepth 100000
set_option maxHeartbeats 8000000
set_option linter.unusedVariables false
set_option linter.unusedSimpArgs false
open Go.Proofs.Tryz
namespace Go.Proofs.YtgodnpngdbelhaaGreat.Np
open Go.RowKit Go.Maps
open Go.Proofs.YtgodnpngdbelhaaGreat.M (E V)
open Go.Proofs.YtgodnpngdbelhaaGreat.Np.M (fup)
theorem f109_res : Tryz.f109.results = #[.cell 8 48, .tmp 9] := rfl
theorem nx_eq (a : Option Addr) (c : Nat) (x : M.R) (k : Int) : (dvv a c x).setIfInBounds 3 (.int .i64 k) = dvv a c { x with nx := k } := rfl
theorem l_eq (a : Option Addr) (c : Nat) (a2 : Option Addr) (c2 : Nat) (x : M.R) (q : List V) : (dvv a c x).setIfInBounds 16 (.slice a2 q.length c2) = dvv a2 c2 { x with l := q } := rfl
theorem who_eq (a : Option Addr) (c : Nat) (x : M.R) (j : Nat) (h : j < 7) : (dvv a c x).setIfInBounds (9 + j) (.bool true) = dvv a c { x with who := M.wset x.who j } := by
 obtain rfl | rfl | rfl | rfl | rfl | rfl | rfl : j = 0 ∨ j = 1 ∨ j = 2 ∨ j = 3 ∨ j = 4 ∨ j = 5 ∨ j = 6 := by omega
 all_goals simp [dvv, V17, M.wset]
theorem whoCell2 {w : World} {b : Nat} {x : M.R} {a : Option Addr} {c : Nat} (h : w.heap[b]? = some (.cells (dvv a c x) 48 (0, 0))) (j : Nat) (hj : j < 7) : w.cell? ⟨b, 9 + j, none⟩ = some (.bool (x.who j)) := by
 obtain ⟨⟨c0, c1, c2, c3, c4, c5, c6, c7, c8, c9, c10, c11, c12, c13, c14, c15, c16⟩, _⟩ := rowD h; obtain rfl | rfl | rfl | rfl | rfl | rfl | rfl : j = 0 ∨ j = 1 ∨ j = 2 ∨ j = 3 ∨ j = 4 ∨ j = 5 ∨ j = 6 := by omega
 ·exact c9
 ·exact c10
 ·exact c11
 ·exact c12
 ·exact c13
 ·exact c14
 ·exact c15
theorem M.wcnt_le (f : Nat → Bool) : ∀ m, M.wcnt f m ≤ m
 | 0 => Nat.le_refl _
 | m + 1 => by
  have := M.wcnt_le f m; rw [M.wcnt]
  split <;> omega
theorem M.filter_rtake (k : Int) (l : List V) (q : Nat) (h : q < l.length) : (l.take (q + 1)).filter (M.rmay k) = (l.take q).filter (M.rmay k) ++ if M.rmay k l[q] then [l[q]] else [] := by
 rw [List.take_add_one, List.getElem?_eq_getElem h, Option.toList_some, List.filter_append]; congr 1; rw [List.filter_cons]
 split <;> rfl
def DPr (w : World) (a : Option Addr) (c : Nat) (x : M.R) (k : Int) (e : E) (l : List V) (z : Ending) (w' : World) : Prop := ∃ a' c', z = .returned (.tuple #[.agg (dvv a' c' (M.rps x k e l)), .bool (M.rpb x k e)]) ∧ XX w' a' c' (M.rps x k e l) ∧ New w a a' ∧ Bl w w'
theorem rpromise_any {w : World} {a : Option Addr} {c : Nat} {x : M.R} (h : XX w a c x) (k : Int) (e : E) (ad : Option Addr) (cap : Nat) (l : List V) (hat : AtL vl w ad l) (htx : ∀ v ∈ l, v.v.size ≤ maxLen) (hn1 : 1 ≤ x.n) (hn7 : x.n ≤ 7) (hf0 : 0 ≤ x.fr) (hlen : x.l.length + l.length ≤ 900000) : Calls prog 109 #[.agg (dvv a c x), .int .i64 k, bV e, .slice ad l.length cap] w (DPr w a c x k e l) := by
 obtain ⟨W1, hW1, hb1, hr0, hr1, hr2, hs1⟩ := alloc3 w (.cells (dvv a c x) 48) (.cells #[.int .i64 e.i, .int .i64 e.t] 42) (.cells Z17 48); have HW1 := Hf hW1; have HB1 := Hf hb1; have HR0 := Hf hr0; have HR1 := Hf hr1; have HR2 := Hf hr2; obtain ⟨⟨y0, y1⟩, -⟩ := row2 hr1; obtain ⟨⟨c0, c1, c2, c3, c4, c5, c6, c7, c8, c9, c10, c11, c12, c13, c14, c15, c16⟩, -⟩ := rowD hr0; have hne := ne42 e.i e.t x.b.i x.b.t; have HX := Hf h; have HAT := Hf hat; have HTX := Hf htx; have HPM0 : Hid (M.rpm x k e = (decide (0 ≤ k) && decide (k < x.n) && x.ak && (decide (e.i = x.b.i) && decide (e.t = x.b.t)) && !x.who k.toNat)) := rfl; have HNO : Hid (M.rpm x k e = false → ∀ w', Bl w w' → DPr w a c x k e l (.returned (.tuple #[.agg (dvv a c x), .bool false])) w') := fun h0 w' hw' => ⟨a, c, by unfold M.rps M.rpb; rw [h0]; rfl, by unfold M.rps; rw [h0]; exact h.keep hw', New.refl _ _, hw'⟩; clear h hat htx hW1 hb1 hr0 hr1 hr2; by_cases h0 : k < 0
 ·have d0 : decide (k < 0) = true := decide_eq_true h0; have HPF : Hid (M.rpm x k e = false) := Hf (by rw [HPM0.out, decide_eq_false (show ¬ 0 ≤ k by omega)]; rfl); clear h0 HPM0 HTX; have HQ := Hf (HNO.out HPF.out); have ld := load32_row HR0.out; have st := store32_row (w := W1) (b := w.heap.size + 2) (cs := Z17) rfl a c x HR2.out; have HKB := Hf (bel_setRow HB1.out (show w.heap.size ≤ w.heap.size + 2 by omega) (dvv a c x)); have HKG := Hf (setRow32 HR2.out (dvv a c x)); clear HNO HPF HX HAT; go_enter func109, ntmps109; go_upto_region 1 with fail
  rw [HW1.out]; clear HW1; go_wp2; refine bodyPost_ret (v := .tuple #[.agg (dvv a c x), .bool false]) ?_ rfl (HQ.out _ HKB.out); exact res32 f109_res _ _ (w.heap.size + 2) _ _ _ rfl HKG.out
 ·have d0 : decide (k < 0) = false := decide_eq_false h0; by_cases h1 : x.n ≤ k
  ·have d1 : decide (x.n ≤ k) = true := decide_eq_true h1; have HPF : Hid (M.rpm x k e = false) := Hf (by rw [HPM0.out, decide_eq_false (show ¬ k < x.n by omega), Bool.and_false]; rfl); clear h0 h1 HPM0 HTX; have HQ := Hf (HNO.out HPF.out); have ld := load32_row HR0.out; have st := store32_row (w := W1) (b := w.heap.size + 2) (cs := Z17) rfl a c x HR2.out; have HKB := Hf (bel_setRow HB1.out (show w.heap.size ≤ w.heap.size + 2 by omega) (dvv a c x)); have HKG := Hf (setRow32 HR2.out (dvv a c x)); clear HNO HPF HX HAT; go_enter func109, ntmps109; go_upto_region 1 with fail
   rw [HW1.out]; clear HW1; go_wp2; refine bodyPost_ret (v := .tuple #[.agg (dvv a c x), .bool false]) ?_ rfl (HQ.out _ HKB.out); exact res32 f109_res _ _ (w.heap.size + 2) _ _ _ rfl HKG.out
  ·have d1 : decide (x.n ≤ k) = false := decide_eq_false h1; rcases Bool.eq_false_or_eq_true x.ak with h2 | h2
   ·rw [h2] at c6; cases hb : (decide (e.i = x.b.i) && decide (e.t = x.b.t)) with
    | false =>
     rw [hb] at hne; have HPF : Hid (M.rpm x k e = false) := Hf (by rw [HPM0.out, hb, Bool.and_false]; rfl); clear h0 h1 h2 hb HPM0 HTX; have HQ := Hf (HNO.out HPF.out); have ld := load32_row HR0.out; have st := store32_row (w := W1) (b := w.heap.size + 2) (cs := Z17) rfl a c x HR2.out; have HKB := Hf (bel_setRow HB1.out (show w.heap.size ≤ w.heap.size + 2 by omega) (dvv a c x)); have HKG := Hf (setRow32 HR2.out (dvv a c x)); clear HNO HPF HX HAT; go_enter func109, ntmps109; go_upto_region 1 with fail
     rw [HW1.out]; clear HW1; go_wp2; refine bodyPost_ret (v := .tuple #[.agg (dvv a c x), .bool false]) ?_ rfl (HQ.out _ HKB.out); exact res32 f109_res _ _ (w.heap.size + 2) _ _ _ rfl HKG.out
    | true =>
     rw [hb] at hne; obtain ⟨j, rfl⟩ : ∃ j : Nat, k = j := ⟨k.toNat, by omega⟩; have hj7 : j < 7 := by omega
     have hji : (j : Int) < 7 := by omega
     have cj := whoCell2 HR0.out j hj7; cases hw : x.who j with
     | true =>
      rw [hw] at cj; have HPF : Hid (M.rpm x (j : Int) e = false) := Hf (by rw [HPM0.out, Int.toNat_natCast, hw, Bool.not_true, Bool.and_false]); clear h0 h1 h2 hb hw HPM0 HTX; have HQ := Hf (HNO.out HPF.out); have ld := load32_row HR0.out; have st := store32_row (w := W1) (b := w.heap.size + 2) (cs := Z17) rfl a c x HR2.out; have HKB := Hf (bel_setRow HB1.out (show w.heap.size ≤ w.heap.size + 2 by omega) (dvv a c x)); have HKG := Hf (setRow32 HR2.out (dvv a c x)); clear HNO HPF HX HAT; go_enter func109, ntmps109; go_upto_region 1 with fail
      rw [HW1.out]; clear HW1; go_wp2; refine bodyPost_ret (v := .tuple #[.agg (dvv a c x), .bool false]) ?_ rfl (HQ.out _ HKB.out); exact res32 f109_res _ _ (w.heap.size + 2) _ _ _ rfl HKG.out
     | false =>
      have HPM : Hid (M.rpm x (j : Int) e = true) := Hf (by rw [HPM0.out, Int.toNat_natCast, hw, hb, h2, decide_eq_true (show (0 : Int) ≤ (j : Int) by omega), decide_eq_true (show (j : Int) < x.n by omega)]; rfl); rw [hw] at cj; have hcj := cj; have hc6 := c6; clear h0 h1 hb HPM0; obtain ⟨-, cf⟩ := rowD HR0.out; have cfj := cf (9 + j); obtain ⟨x1, HX1⟩ : ∃ x1 : M.R, Hid (({ x with who := M.wset x.who j } : M.R) = x1) := ⟨_, Hf rfl⟩
      have n0 : (W1.setCell ⟨w.heap.size, 9 + j, none⟩ (.bool true)).heap[w.heap.size]? = some (.cells (dvv a c x1) 48 (0, 0)) := by
       rw [heap_setCell_same W1 _ (9 + j) _ _ (.bool true) HR0.out, ← HX1.out, who_eq a c x j hj7]
      have n2 := (heap_setCell_other W1 ⟨w.heap.size, 9 + j, none⟩ (w.heap.size + 2) (.bool true) (show w.heap.size + 2 ≠ w.heap.size by omega)).trans HR2.out; have nb : Below w.heap.size w (W1.setCell ⟨w.heap.size, 9 + j, none⟩ (.bool true)) := HB1.out.setCell Lr _; have nxl : XL vl (W1.setCell ⟨w.heap.size, 9 + j, none⟩ (.bool true)) a c x.l := HX.out.xl.keepBut (fun kk hkk hb => by
       rw [heap_setCell_other W1 ⟨w.heap.size, 9 + j, none⟩ kk _ (by show kk ≠ w.heap.size; omega)]; exact HB1.out.block kk hkk)
      have ns : (W1.setCell ⟨w.heap.size, 9 + j, none⟩ (.bool true)).heap.size = w.heap.size + 3 := by simp [hs1]
      obtain ⟨W2, HW2⟩ := Nh (W1.setCell ⟨w.heap.size, 9 + j, none⟩ (.bool true)); rw [HW2.out] at n0 n2 nb nxl ns; obtain ⟨a3, c3', W3, hrun, ho3, hb3⟩ := run_copyL tiV W2 43 a c x.l nxl (by omega); rw [ns] at ho3; have HS0 := Hf (show W3.heap[w.heap.size]? = some (.cells (dvv a c { x1 with nx := M.rnx x.nx ((l.take 0).filter (M.rmay x.fr)) }) 48 (0, 0)) from by
       have e0 : ({ x1 with nx := M.rnx x.nx ((l.take 0).filter (M.rmay x.fr)) } : M.R) = x1 := by
        rw [List.take_zero, List.filter_nil]; show ({ x1 with nx := x.nx } : M.R) = x1
        rw [← HX1.out]
       rw [e0]; exact Br n0 hb3)
      have HS2 := Hf (Br n2 hb3); have HSO := Hf ho3; have HSB := Hf (Bu nb hb3 (show w.heap.size ≤ w.heap.size from Nat.le_refl _)); obtain ⟨⟨z0, z1, z2, z3, z4, z5, z6, z7, z8, z9, z10, z11, z12, z13, z14, z15, z16⟩, -⟩ := rowD n0; have hxl1 : x1.l = x.l := by rw [← HX1.out]
      rw [hxl1] at z16; have hrun : ∀ ty, (Builtin.append_ #[43, 43] ty #[.slice none 0 0, .slice a x.l.length c]).run prog W2 = .ok (.slice a3 x.l.length c3') W3 := fun ty => (append_ty _ _ _ ty 43).trans hrun; clear n0 n2 nb nxl ns hb3 ho3 HNO hxl1 h2 hw hcj hc6; go_enter func109, ntmps109; go_upto_region 1 with fail
      rw [HW1.out]; clear HW1; go_upto_region 4 with fail
      rw [HW2.out]; clear HW2 c0 c1 c2 c3 c4 c5 c6 c7 c8 c9 c10 c11 c12 c13 c14 c15 c16 cj cfj cf y0 y1 hne; go_wp2_with (at_builtin; refine wpList_append_known rfl _ _ 43 rfl _ _ rfl rfl _ _ (hrun _) ?_); go_loopw [10, 11] (fun v i wr => ∃ q : Nat, q ≤ l.length ∧ i = .int .i64 q ∧ wr.heap[w.heap.size]? = some (.cells (dvv a c { x1 with nx := M.rnx x.nx ((l.take q).filter (M.rmay x.fr)) }) 48 (0, 0)) ∧ wr.heap[w.heap.size + 2]? = some (.cells Z17 48 (0, 0)) ∧ OwnL vl 126 wr (w.heap.size + 3) v (x.l ++ (l.take q).filter (M.rmay x.fr)) ∧ Bl w wr) (fun v i _ => l.length - (intOf i).toNat)
      case atStart => exact ⟨0, by omega, rfl, HS0.out, HS2.out, by rw [List.take_zero, List.filter_nil, List.append_nil]; exact HSO.out, HSB.out⟩
      case round =>
       clear HS0 HS2 HSO HSB z0 z1 z2 z3 z4 z5 z6 z7 z8 z9 z10 z11 z12 z13 z14 z15 z16 hrun; obtain ⟨q, hq, rfl, hd0, hd2, how, hbr⟩ := hrel
       rename World => wb
       by_cases hlt : q < l.length
       ·have hqi : (q : Int) < (l.length : Int) := by omega
        obtain ⟨bv, ov, ea, x0, x1', x2', x3'⟩ := (HAT.out.keep hbr).getV q hlt; have HFT := Hf (M.filter_rtake x.fr l q hlt); have hsv := HTX.out _ (List.getElem_mem hlt); obtain ⟨v, HV⟩ := Nh (l[q]); rw [HV.out] at x0 x1' x2' x3' HFT hsv; have hsv' : v.v.size ≤ 9223372036854775807 := by unfold maxLen at hsv; omega
        obtain ⟨al, HAL⟩ := Nh (x.l ++ (l.take q).filter (M.rmay x.fr)); obtain ⟨xq, HXQ⟩ : ∃ xq : M.R, Hid (({ x1 with nx := M.rnx x.nx ((l.take q).filter (M.rmay x.fr)) } : M.R) = xq) := ⟨_, Hf rfl⟩
        have hxf : xq.fr = x.fr := by rw [← HXQ.out, ← HX1.out]
        rw [HAL.out] at how; rw [HXQ.out] at hd0; have hal : al.length ≤ x.l.length + l.length := by rw [← HAL.out, List.length_append]; have := List.length_filter_le (M.rmay x.fr) (l.take q); rw [List.length_take] at this; omega
        obtain ⟨W7, HW7⟩ := Nh (wb.alloc (.cells #[.int .i64 v.s, .int .i64 v.b.i, .int .i64 v.b.t, .string v.v] 126)); have hb7 := Ab HW7; have hr7 := Ac HW7; have HR7 := Hf hr7; have HB7 := Hf (Br hd0 hb7); have HD7 := Hf (Br hd2 hb7); have HNB : Hid (¬ u10.ownBlock = some wb.heap.size) := fun e' => by have := (how.lt e').2; omega
        have HOW := Hf (how.keep hb7); have HBE := Hf (Bu hbr hb7 (show w.heap.size ≤ w.heap.size from Nat.le_refl _)); obtain ⟨⟨y0, y1, y2, y3⟩, -⟩ := row4 hr7; obtain ⟨⟨d0, d1, d2, d3, d4, d5, d6, d7, d8, d9, d10, d11, d12, d13, d14, d15, d16⟩, -⟩ := rowD HB7.out; rw [hxf] at d2; have cv := rvalid_any v.b; subst ea; have hszb := (Array.getElem?_eq_some_iff.1 hd2).1; have hsz7 := hb7.size; clear hd0 hd2 how hbr hb7 hr7 HV hsv; by_cases h0 : x.fr ≤ v.s
        ·have e0' : decide (x.fr ≤ v.s) = true := decide_eq_true h0; by_cases h1 : v.s < 1024
         ·have e1' : decide (v.s < 1024) = true := decide_eq_true h1; have hwr : IntKind.i64.wrap (v.s + 1) = v.s + 1 := by rw [IntKind.wrap_i64]; omega
          cases hv2 : M.vld v.b with
          | false =>
           have HMY : Hid (M.rmay x.fr v = false) := Hf (by unfold M.rmay; rw [hv2, Bool.and_false]; rfl); rw [hv2] at cv; clear hv2 h0 h1; go_upto_region 9 with fail
           rw [HW7.out]; clear HW7 x0 x1' x2' x3'; go_wp2_with fail; refine (cv _).mono ?_; clear cv; rintro z w8 ⟨rfl, hb8⟩; obtain ⟨r0, -⟩ := row4 (Br HR7.out hb8); obtain ⟨⟨c0, c1, c2, c3, c4, c5, c6, c7, c8, c9, c10, c11, c12, c13, c14, c15, c16⟩, cf⟩ := rowD (Br HB7.out hb8); have HB8 := Hf hb8; clear hb8 y0 y1 y2 y3 d0 d1 d2 d3 d4 d5 d6 d7 d8 d9 d10 d11 d12 d13 d14 d15 d16; have HRR : Hid (x.l ++ (l.take (q + 1)).filter (M.rmay x.fr) = al ∧ ({ x1 with nx := M.rnx x.nx ((l.take (q + 1)).filter (M.rmay x.fr)) } : M.R) = xq) := Hf (by rw [HFT.out, HMY.out, if_neg (by simp), List.append_nil]; exact ⟨HAL.out, HXQ.out⟩)
           have H0 := Hf (Br HB7.out HB8.out); have H2 := Hf (Br HD7.out HB8.out); have HO := Hf (HOW.out.keep HB8.out); have HBB := Hf (Bu HBE.out HB8.out (show w.heap.size ≤ w.heap.size from Nat.le_refl _)); clear cf; go_wp2; go_roundw
           case rel => exact ⟨q + 1, by omega, by go_num, by rw [HRR.out.2]; exact H0.out, H2.out, by rw [HRR.out.1]; exact HO.out, HBB.out⟩
           case measure => simp [intOf]; omega
          | true =>
           rw [hv2] at cv; by_cases h3 : v.v.size ≤ 4096
           ·have e3' : decide ((v.v.size : Int) ≤ 4096) = true := decide_eq_true (by omega); have HMY : Hid (M.rmay x.fr v = true) := Hf (by unfold M.rmay; rw [hv2, e0', e1', decide_eq_true h3]; rfl); clear hv2 h0 h1 h3; go_upto_region 9 with fail
            rw [HW7.out]; clear HW7 x0 x1' x2' x3'; go_wp2_with fail; refine (cv _).mono ?_; clear cv; rintro z w8 ⟨rfl, hb8⟩; obtain ⟨r0, -⟩ := row4 (Br HR7.out hb8); obtain ⟨⟨c0, c1, c2, c3, c4, c5, c6, c7, c8, c9, c10, c11, c12, c13, c14, c15, c16⟩, cf⟩ := rowD (Br HB7.out hb8); have HB8 := Hf hb8; clear hb8 y0 y1 y2 y3 d0 d1 d2 d3 d4 d5 d6 d7 d8 d9 d10 d11 d12 d13 d14 d15 d16; have hsz8 := HB8.out.size; have hszE := HBE.out.size; obtain ⟨a', c', w9, hrun, ho9, hr9⟩ := app1 v (HOW.out.keep HB8.out) (by omega) (by omega); obtain ⟨q8, n8, hv8, -⟩ := HOW.out.at; subst hv8; have hw9 : ∀ kk, kk < w.heap.size + 3 → w9.heap[kk]? = w8.heap[kk]? := fun kk hkk => hr9.g.block kk (by omega) (fun e' => by
             have := (HOW.out.lt e'.symm).1
             omega)
            have p0 := (hw9 (w.heap.size) (by omega)).trans (Br HB7.out HB8.out); have p2 := (hw9 (w.heap.size + 2) (by omega)).trans (Br HD7.out HB8.out); have pb : Bl w w9 := (Bu HBE.out HB8.out (show w.heap.size ≤ w.heap.size from Nat.le_refl _)).trans (hr9.below (fun kk hkk => by have := (HOW.out.lt hkk).1; omega) (by omega)); have hr9b : w9.heap[wb.heap.size]? = some (.cells #[.int .i64 v.s, .int .i64 v.b.i, .int .i64 v.b.t, .string v.v] 126 (0, 0)) := (hr9.g.block _ (by have := (Array.getElem?_eq_some_iff.1 (Br HR7.out HB8.out)).1; exact this) (fun e' => HNB.out e'.symm)).trans (Br HR7.out HB8.out); obtain ⟨t0, -⟩ := row4 hr9b; obtain ⟨⟨e0, e1, e2, e3, e4, e5, e6, e7, e8, e9, e10, e11, e12, e13, e14, e15, e16⟩, ef⟩ := rowD p0; have ef3 := ef 3; have HRR : Hid (x.l ++ (l.take (q + 1)).filter (M.rmay x.fr) = al ++ [v] ∧ ({ x1 with nx := M.rnx x.nx ((l.take (q + 1)).filter (M.rmay x.fr)) } : M.R) = { xq with nx := max xq.nx (v.s + 1) }) := Hf (by
             rw [HFT.out, HMY.out, if_pos rfl, ← List.append_assoc, HAL.out, M.rnx_app, ← HXQ.out]; exact ⟨rfl, rfl⟩)
            have n0 : (w9.setCell ⟨w.heap.size, 3, none⟩ (.int .i64 (max xq.nx (v.s + 1)))).heap[w.heap.size]? = some (.cells (dvv a c { xq with nx := max xq.nx (v.s + 1) }) 48 (0, 0)) := by
             rw [heap_setCell_same w9 _ 3 _ _ (.int .i64 (max xq.nx (v.s + 1))) p0, nx_eq]
            have n2 := (heap_setCell_other w9 ⟨w.heap.size, 3, none⟩ (w.heap.size + 2) (.int .i64 (max xq.nx (v.s + 1))) (show w.heap.size + 2 ≠ w.heap.size by omega)).trans p2; have n9 : OwnL vl 126 (w9.setCell ⟨w.heap.size, 3, none⟩ (.int .i64 (max xq.nx (v.s + 1)))) (w.heap.size + 3) (.slice a' (al.length + 1) c') (al ++ [v]) := ho9.keepBut (fun kk hkk hown => heap_setCell_other w9 ⟨w.heap.size, 3, none⟩ kk _ (by
             have := (ho9.lt hown).1; show kk ≠ w.heap.size
             omega))
            have nb : Below w.heap.size w (w9.setCell ⟨w.heap.size, 3, none⟩ (.int .i64 (max xq.nx (v.s + 1)))) := pb.setCell Lr _; have H0 := Hf n0; have H2 := Hf n2; have HO := Hf n9; have HBB := Hf nb; clear n0 n2 n9 nb p0 p2 pb ho9 hr9 hw9 hr9b ef cf; go_wp2_with (at_builtin; refine wpList_append_known rfl _ _ 43 rfl _ _ rfl rfl _ _ (hrun _) ?_); go_roundw
            case rel => exact ⟨q + 1, by omega, by go_num, by rw [HRR.out.2]; exact H0.out, H2.out, by rw [HRR.out.1]; exact HO.out, HBB.out⟩
            case measure => simp [intOf]; omega
           ·have e3' : decide ((v.v.size : Int) ≤ 4096) = false := decide_eq_false (by omega); have HMY : Hid (M.rmay x.fr v = false) := Hf (by unfold M.rmay; rw [decide_eq_false h3, Bool.and_false]); clear hv2 h0 h1 h3; go_upto_region 9 with fail
            rw [HW7.out]; clear HW7 x0 x1' x2' x3'; go_wp2_with fail; refine (cv _).mono ?_; clear cv; rintro z w8 ⟨rfl, hb8⟩; obtain ⟨r0, -⟩ := row4 (Br HR7.out hb8); obtain ⟨⟨c0, c1, c2, c3, c4, c5, c6, c7, c8, c9, c10, c11, c12, c13, c14, c15, c16⟩, cf⟩ := rowD (Br HB7.out hb8); have HB8 := Hf hb8; clear hb8 y0 y1 y2 y3 d0 d1 d2 d3 d4 d5 d6 d7 d8 d9 d10 d11 d12 d13 d14 d15 d16; have HRR : Hid (x.l ++ (l.take (q + 1)).filter (M.rmay x.fr) = al ∧ ({ x1 with nx := M.rnx x.nx ((l.take (q + 1)).filter (M.rmay x.fr)) } : M.R) = xq) := Hf (by rw [HFT.out, HMY.out, if_neg (by simp), List.append_nil]; exact ⟨HAL.out, HXQ.out⟩)
            have H0 := Hf (Br HB7.out HB8.out); have H2 := Hf (Br HD7.out HB8.out); have HO := Hf (HOW.out.keep HB8.out); have HBB := Hf (Bu HBE.out HB8.out (show w.heap.size ≤ w.heap.size from Nat.le_refl _)); clear cf; go_wp2; go_roundw
            case rel => exact ⟨q + 1, by omega, by go_num, by rw [HRR.out.2]; exact H0.out, H2.out, by rw [HRR.out.1]; exact HO.out, HBB.out⟩
            case measure => simp [intOf]; omega
         ·have e1' : decide (v.s < 1024) = false := decide_eq_false h1; have HMY : Hid (M.rmay x.fr v = false) := Hf (by unfold M.rmay; rw [e1', Bool.and_false]; rfl); clear h0 h1 cv; go_upto_region 9 with fail
          rw [HW7.out]; clear HW7 x0 x1' x2' x3'; have HRR : Hid (x.l ++ (l.take (q + 1)).filter (M.rmay x.fr) = al ∧ ({ x1 with nx := M.rnx x.nx ((l.take (q + 1)).filter (M.rmay x.fr)) } : M.R) = xq) := Hf (by rw [HFT.out, HMY.out, if_neg (by simp), List.append_nil]; exact ⟨HAL.out, HXQ.out⟩)
          have H0 := Hf (Br HB7.out (Below.refl _ _)); have H2 := Hf (Br HD7.out (Below.refl _ _)); have HO := Hf (HOW.out.keep (Below.refl _ _)); have HBB := Hf (Bu HBE.out (Below.refl _ _) (show w.heap.size ≤ w.heap.size from Nat.le_refl _)); go_wp2; go_roundw
          case rel => exact ⟨q + 1, by omega, by go_num, by rw [HRR.out.2]; exact H0.out, H2.out, by rw [HRR.out.1]; exact HO.out, HBB.out⟩
          case measure => simp [intOf]; omega
        ·have e0' : decide (x.fr ≤ v.s) = false := decide_eq_false h0; have HMY : Hid (M.rmay x.fr v = false) := Hf (by unfold M.rmay; rw [e0']; rfl); clear h0 cv; go_upto_region 9 with fail
         rw [HW7.out]; clear HW7 x0 x1' x2' x3'; have HRR : Hid (x.l ++ (l.take (q + 1)).filter (M.rmay x.fr) = al ∧ ({ x1 with nx := M.rnx x.nx ((l.take (q + 1)).filter (M.rmay x.fr)) } : M.R) = xq) := Hf (by rw [HFT.out, HMY.out, if_neg (by simp), List.append_nil]; exact ⟨HAL.out, HXQ.out⟩)
         have H0 := Hf (Br HB7.out (Below.refl _ _)); have H2 := Hf (Br HD7.out (Below.refl _ _)); have HO := Hf (HOW.out.keep (Below.refl _ _)); have HBB := Hf (Bu HBE.out (Below.refl _ _) (show w.heap.size ≤ w.heap.size from Nat.le_refl _)); go_wp2; go_roundw
         case rel => exact ⟨q + 1, by omega, by go_num, by rw [HRR.out.2]; exact H0.out, H2.out, by rw [HRR.out.1]; exact HO.out, HBB.out⟩
         case measure => simp [intOf]; omega
       ·obtain rfl : q = l.length := by omega
        rw [List.take_of_length_le Lr] at hd0 how; obtain ⟨al, HAL⟩ := Nh (x.l ++ l.filter (M.rmay x.fr)); rw [HAL.out] at how; obtain ⟨a2, cz, hv10, hx2, hbk2⟩ := how.at; subst hv10; obtain ⟨x3, HX3⟩ : ∃ x3 : M.R, Hid (({ x1 with nx := M.rnx x.nx (l.filter (M.rmay x.fr)), l := al } : M.R) = x3) := ⟨_, Hf rfl⟩
        have n0 : (wb.setCell ⟨w.heap.size, 16, none⟩ (.slice a2 al.length cz)).heap[w.heap.size]? = some (.cells (dvv a2 cz x3) 48 (0, 0)) := by
         rw [heap_setCell_same wb _ 16 _ _ (.slice a2 al.length cz) hd0, ← HX3.out]; exact congrArg some (congrArg (fun z => Obj.cells z 48 (0, 0)) (l_eq a c a2 cz _ _))
        have n2 := (heap_setCell_other wb ⟨w.heap.size, 16, none⟩ (w.heap.size + 2) (.slice a2 al.length cz) (show w.heap.size + 2 ≠ w.heap.size by omega)).trans hd2; have nb : Below w.heap.size w (wb.setCell ⟨w.heap.size, 16, none⟩ (.slice a2 al.length cz)) := hbr.setCell Lr _; have nx3 : XX (wb.setCell ⟨w.heap.size, 16, none⟩ (.slice a2 al.length cz)) a2 cz x3 := ⟨by
         rw [← HX3.out]; exact hx2.keepBut (fun kk hkk hb => heap_setCell_other wb ⟨w.heap.size, 16, none⟩ kk _ (by
          have := (hbk2 kk hb).1; show kk ≠ w.heap.size
          omega)), fun kk hb => by have := (hbk2 kk hb).2.2; simpa using this⟩
        have HNW : Hid (New w a a2) := fun kk hb => .inr (by have := (hbk2 kk hb).1; omega); obtain ⟨W4, HW4⟩ := Nh (wb.setCell ⟨w.heap.size, 16, none⟩ (.slice a2 al.length cz)); rw [HW4.out] at n0 n2 nb nx3; obtain ⟨⟨c0, c1, c2, c3, c4, c5, c6, c7, c8, c9, c10, c11, c12, c13, c14, c15, c16⟩, cf⟩ := rowD hd0; have cf16 := cf 16; have H0 := Hf n0; have H2 := Hf n2; have HBB := Hf nb; have HXX := Hf nx3; have hn3 : x3.n = x.n := by rw [← HX3.out, ← HX1.out]
        have HWH : Hid (x3.who = M.wset x.who j) := Hf (by rw [← HX3.out, ← HX1.out]); have HEN : Hid (M.ren x (j : Int) = decide (M.quo x3.n ≤ (M.wcnt x3.who x3.n.toNat : Int))) := Hf (by unfold M.ren; rw [Int.toNat_natCast, hn3, HWH.out]); have HPL : Hid (M.rpl x (j : Int) l = x3) := Hf (by unfold M.rpl; rw [Int.toNat_natCast, ← HX3.out, ← HX1.out, HAL.out]); have HNE : Hid (∀ (aa : Option Addr) kk, blk a2 kk → kk ≠ w.heap.size) := fun _ kk hb => by have := (hbk2 kk hb).1; omega
        have HNE2 : Hid (∀ (aa : Option Addr) kk, blk a2 kk → kk ≠ w.heap.size + 2) := fun _ kk hb => by have := (hbk2 kk hb).1; omega
        clear n0 n2 nb nx3 hd0 hd2 how hbr hx2 hbk2 cf HX3 HAT HTX hlt; rw [hn3.symm] at hn7 hn1; clear hn3; go_upto_region 13 with fail
        rw [HW4.out]; clear HW4 c0 c1 c2 c3 c4 c5 c6 c7 c8 c9 c10 c11 c12 c13 c14 c15 c16 cf16; obtain ⟨⟨c0, c1, c2, c3, c4, c5, c6, c7, c8, c9, c10, c11, c12, c13, c14, c15, c16⟩, cf⟩ := rowD H0.out; go_wp2_with fail; go_loopw [13, 14] (fun t i wr => ∃ q : Nat, (q : Int) ≤ x3.n ∧ i = .int .i64 q ∧ t = .int .i64 (M.wcnt x3.who q : Nat) ∧ wr = W4) (fun t i _ => (x3.n - intOf i).toNat)
        case atStart => exact ⟨0, by omega, rfl, rfl, rfl⟩
        case round =>
         obtain ⟨q, hq, rfl, rfl, hwr⟩ := hrel; obtain rfl := hwr.symm; clear hwr; have hwl := M.wcnt_le x3.who q; by_cases hlq : (q : Int) < x3.n
         ·have hq7 : q < 7 := by omega
          have hqi7 : (q : Int) < 7 := by omega
          have cw := whoCell2 H0.out q hq7; have HE : Hid (M.wcnt x3.who (q + 1) = M.wcnt x3.who q + (if x3.who q then 1 else 0)) := Hf rfl; generalize M.wcnt x3.who q = q0 at *; cases hw : x3.who q with
          | false =>
           rw [hw] at HE cw; simp only [Bool.false_eq_true, if_false, Nat.add_zero] at HE; go_wp2; go_roundw
           case rel => exact ⟨q + 1, by omega, by go_num, by rw [HE.out], trivial⟩
           case measure => simp [intOf]; omega
          | true =>
           rw [hw] at HE cw; simp only [if_true] at HE; go_wp2; go_roundw
           case rel => exact ⟨q + 1, by omega, by go_num, by rw [HE.out]; go_num, trivial⟩
           case measure => simp [intOf]; omega
         ·have hqn : q = x3.n.toNat := by omega
          have cq := rquorum_any x3.n W4; obtain ⟨qn, HQN⟩ := Nh (M.quo x3.n); rw [HQN.out] at cq HEN; rw [← hqn] at HEN; generalize M.wcnt x3.who q = q0 at *; by_cases hge : qn ≤ (q0 : Int)
          ·have dge : decide ((q0 : Int) < qn) = false := decide_eq_false (by omega); have HE : Hid (M.ren x (j : Int) = true) := Hf (by rw [HEN.out]; exact decide_eq_true hge); have p0 : ((W4.setCell ⟨w.heap.size, 6, none⟩ (.bool false)).setCell ⟨w.heap.size, 7, none⟩ (.bool true)).heap[w.heap.size]? = some (.cells (dvv a2 cz { x3 with ak := false, ld := true }) 48 (0, 0)) := by
            rw [heap_setCell_same _ _ 7 _ _ (.bool true) (heap_setCell_same W4 _ 6 _ _ (.bool false) H0.out)]; rfl
           have p2 : ((W4.setCell ⟨w.heap.size, 6, none⟩ (.bool false)).setCell ⟨w.heap.size, 7, none⟩ (.bool true)).heap[w.heap.size + 2]? = some (.cells Z17 48 (0, 0)) := by
            rw [heap_setCell_other _ ⟨w.heap.size, 7, none⟩ _ _ (show w.heap.size + 2 ≠ w.heap.size by omega), heap_setCell_other _ ⟨w.heap.size, 6, none⟩ _ _ (show w.heap.size + 2 ≠ w.heap.size by omega)]; exact H2.out
           have pb : Below w.heap.size w ((W4.setCell ⟨w.heap.size, 6, none⟩ (.bool false)).setCell ⟨w.heap.size, 7, none⟩ (.bool true)) := (HBB.out.setCell Lr _).setCell Lr _; have px : XX ((W4.setCell ⟨w.heap.size, 6, none⟩ (.bool false)).setCell ⟨w.heap.size, 7, none⟩ (.bool true)) a2 cz { x3 with ak := false, ld := true } := (HXX.out.keepBut (w' := (W4.setCell ⟨w.heap.size, 6, none⟩ (.bool false)).setCell ⟨w.heap.size, 7, none⟩ (.bool true)) (fun kk hkk hb => by
            have hne : kk ≠ w.heap.size := HNE.out a2 kk hb; rw [heap_setCell_other _ ⟨w.heap.size, 7, none⟩ _ _ hne, heap_setCell_other _ ⟨w.heap.size, 6, none⟩ _ _ hne]) (by simp)).of rfl
           obtain ⟨W5, HW5⟩ := Nh ((W4.setCell ⟨w.heap.size, 6, none⟩ (.bool false)).setCell ⟨w.heap.size, 7, none⟩ (.bool true)); rw [HW5.out] at p0 p2 pb px; have ld := load32_row p0; have HPS : Hid (M.rps x (j : Int) e l = { x3 with ak := false, ld := true }) := Hf (by unfold M.rps; rw [HPM.out, HE.out, if_pos rfl, if_pos rfl, HPL.out])
           obtain ⟨x4, HX4⟩ : ∃ x4 : M.R, Hid (({ x3 with ak := false, ld := true } : M.R) = x4) := ⟨_, Hf rfl⟩
           rw [HX4.out] at p0 px ld HPS; have st := store32_row (w := W5) (b := w.heap.size + 2) (cs := Z17) rfl a2 cz x4 p2; have HKB := Hf (bel_setRow pb (show w.heap.size ≤ w.heap.size + 2 by omega) (dvv a2 cz x4)); have HKG := Hf (setRow32 p2 (dvv a2 cz x4)); have HKX : Hid (XX (W5.setRow (w.heap.size + 2) (dvv a2 cz x4)) a2 cz x4) := px.keepBut (fun kk hkk hb => setRow_oth _ (HNE2.out a2 kk hb)) (by simp [World.setRow]); have cf6 := cf 6; have cf7 := cf 7; clear p0 p2 pb px hge cf; go_wp2_with fail; refine cq.mono ?_; clear cq; rintro z w6 ⟨rfl, hw6⟩; obtain rfl := hw6.symm; clear hw6; go_upto_region 23 with fail
           rw [HW5.out]; clear HW5 c0 c1 c2 c3 c4 c5 c6 c7 c8 c9 c10 c11 c12 c13 c14 c15 c16 cf6 cf7; go_wp2; refine bodyPost_ret (v := .tuple #[.agg (dvv a2 cz x4), .bool true]) ?_ rfl ⟨a2, cz, by rw [HPS.out]; unfold M.rpb; rw [HPM.out, HE.out]; rfl, by rw [HPS.out]; exact HKX.out, HNW.out, HKB.out⟩; exact res32 f109_res _ _ (w.heap.size + 2) _ _ _ rfl HKG.out
          ·have dge : decide ((q0 : Int) < qn) = true := decide_eq_true (by omega); have HE : Hid (M.ren x (j : Int) = false) := Hf (by rw [HEN.out]; exact decide_eq_false hge); have HPS : Hid (M.rps x (j : Int) e l = x3) := Hf (by unfold M.rps; rw [HPM.out, HE.out, if_pos rfl, if_neg (by simp), HPL.out]); have ld := load32_row H0.out; have st := store32_row (w := W4) (b := w.heap.size + 2) (cs := Z17) rfl a2 cz x3 H2.out; have HKB := Hf (bel_setRow HBB.out (show w.heap.size ≤ w.heap.size + 2 by omega) (dvv a2 cz x3)); have HKG := Hf (setRow32 H2.out (dvv a2 cz x3)); have HKX : Hid (XX (W4.setRow (w.heap.size + 2) (dvv a2 cz x3)) a2 cz x3) := HXX.out.keepBut (fun kk hkk hb => setRow_oth _ (HNE2.out a2 kk hb)) (by simp [World.setRow]); clear hge cf; go_wp2_with fail; refine cq.mono ?_; clear cq; rintro z w6 ⟨rfl, hw6⟩; obtain rfl := hw6.symm; clear hw6; go_wp2; refine bodyPost_ret (v := .tuple #[.agg (dvv a2 cz x3), .bool false]) ?_ rfl ⟨a2, cz, by rw [HPS.out]; unfold M.rpb; rw [HPM.out, HE.out]; rfl, by rw [HPS.out]; exact HKX.out, HNW.out, HKB.out⟩; exact res32 f109_res _ _ (w.heap.size + 2) _ _ _ rfl HKG.out
   ·rw [h2] at c6; have HPF : Hid (M.rpm x k e = false) := Hf (by rw [HPM0.out, h2, Bool.and_false]; rfl); clear h0 h1 h2 HPM0 HTX; have HQ := Hf (HNO.out HPF.out); have ld := load32_row HR0.out; have st := store32_row (w := W1) (b := w.heap.size + 2) (cs := Z17) rfl a c x HR2.out; have HKB := Hf (bel_setRow HB1.out (show w.heap.size ≤ w.heap.size + 2 by omega) (dvv a c x)); have HKG := Hf (setRow32 HR2.out (dvv a c x)); clear HNO HPF HX HAT; go_enter func109, ntmps109; go_upto_region 1 with fail
    rw [HW1.out]; clear HW1; go_wp2; refine bodyPost_ret (v := .tuple #[.agg (dvv a c x), .bool false]) ?_ rfl (HQ.out _ HKB.out); exact res32 f109_res _ _ (w.heap.size + 2) _ _ _ rfl HKG.out
end Go.Proofs.YtgodnpngdbelhaaGreat.Np
