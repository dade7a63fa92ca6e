import Derived.Test.YtgodnpngdbelhaaGreatGP32
set_option maxRecDepth 100000
set_option maxHeartbeats 8000000
set_option linter.unusedVariables false
set_option linter.unusedSimpArgs false
open Go.Proofs.Tryz
namespace Go.Proofs.YtgodnpngdbelhaaGreat
open Go.RowKit Go.Maps
open M (E V)
open Dl (X)
open Np (put4 put4_row put4_bel put4_oth)
section
variable {w w' : World} {x : X} {a : LA}
theorem f86_res : Tryz.f86.results = #[.cell 6 52, .tmp 7] := rfl
def HrO (w : World) (x : X) (a : LA) (f : Int) (v : V) (e : Ending) (w' : World) : Prop := ∃ a' b, e = .returned (.tuple #[lV (Dl.hear x f v) a', .bool b]) ∧ LL w' (Dl.hear x f v) a' ∧ Bl w w' ∧ LNew w a a'
theorem rlhear_no (h : LL w x a) (f : Int) (v : V) (hv : v.v.size ≤ 9223372036854775807) (hlen : x.td.length ≤ 900000) (hk : Dl.hrk x f v = false) : Calls prog 86 #[lV x a, .int .i64 f, vV v] w (HrO w x a f v) := by
 obtain ⟨W1, hW1, hb1, hz1, hz2, hz3, hs1⟩ := Np.alloc3 w (lC x a) (.cells #[.int .i64 v.s, .int .i64 v.b.i, .int .i64 v.b.t, .string v.v] 126) (.cells #[.int .i64 0, .int .i64 0, .slice none 0 0, .slice none 0 0] 52); have HW1 := Hf hW1; obtain ⟨gz, hgz⟩ := Nq (w.heap.size); have HB1 := Hf hb1; have HGZ := Hf hgz; rw [hgz] at hz1 hz2 hz3 hs1; have HZ1 := Hf hz1; have HZ2 := Hf hz2; have HZ3 := Hf hz3; have HS1 := Hf hs1; have HL := Hf h; obtain ⟨c0, _⟩ := row4 hz1; obtain ⟨y0, _⟩ := row4 hz2; have HLEN := Hf hlen; clear h hz1 hz2 hz3 hgz hb1 hW1 hs1 hlen; have HF : Hid (∀ w', Bl w w' → HrO w x a f v (.returned (.tuple #[lV x a, .bool false])) w') := fun w' hb => by
  have e : Dl.hear x f v = x := by unfold Dl.hear; rw [hk]; rfl
  exact ⟨a, false, by rw [e], by rw [e]; exact HL.out.keep hb, hb, LNew.refl _ _⟩
 have hk' : (decide (0 ≤ f) && decide (f < x.n) && M.vld v.b && Dl.may x v.s v.v) = false := hk; clear hk; by_cases h0 : f < 0
 ·have d0 : decide (f < 0) = true := decide_eq_true h0; clear hk' h0 c0; go_enter func86, ntmps86; go_upto_region 1 with fail
  rw [HW1.out, HGZ.out]; clear HW1; have hbn := Below.refl W1.heap.size W1; have hz := Br HZ3.out hbn; obtain ⟨z0, zf⟩ := row4 hz; obtain ⟨⟨d0, d1, d2, d3⟩, _⟩ := row4 (Br HZ1.out hbn); have HZ := Hf hz; have zf0 := zf 0; have zf1 := zf 1; have zf2 := zf 2; have zf3 := zf 3; have HBN := Hf hbn; clear hz zf hbn; go_wp2; refine bodyPost_ret (v := .tuple #[lV x a, .bool false]) ?_ rfl (HF.out _ (put4_bel (Bu HB1.out HBN.out Lr) (by have := HGZ.out; omega) _ _ _ _)); exact res52 f86_res _ _ (gz + 2) _ _ _ _ rfl (put4_row HZ.out _ _ _ _)
 ·have d0 : decide (f < 0) = false := decide_eq_false h0; by_cases h1 : x.n ≤ f
  ·have d1 : decide (x.n ≤ f) = true := decide_eq_true h1; clear hk' h0 h1; go_enter func86, ntmps86; go_upto_region 1 with fail
   rw [HW1.out, HGZ.out]; clear HW1; have hbn := Below.refl W1.heap.size W1; have hz := Br HZ3.out hbn; obtain ⟨z0, zf⟩ := row4 hz; have HZ := Hf hz; have zf0 := zf 0; have zf1 := zf 1; have zf2 := zf 2; have zf3 := zf 3; have HBN := Hf hbn; clear hz zf hbn; go_wp2; refine bodyPost_ret (v := .tuple #[lV x a, .bool false]) ?_ rfl (HF.out _ (put4_bel (Bu HB1.out HBN.out Lr) (by have := HGZ.out; omega) _ _ _ _)); exact res52 f86_res _ _ (gz + 2) _ _ _ _ rfl (put4_row HZ.out _ _ _ _)
  ·have d1 : decide (x.n ≤ f) = false := decide_eq_false h1; rw [decide_eq_true (show 0 ≤ f by omega), decide_eq_true (show f < x.n by omega), Bool.true_and, Bool.true_and] at hk'; have cv := rvalid_any v.b W1; clear h0 h1; cases hvv : M.vld v.b with
   | false =>
    rw [hvv] at cv; clear hk' hvv; go_enter func86, ntmps86; go_upto_region 1 with fail
    rw [HW1.out, HGZ.out]; clear HW1; go_wp2_with fail; refine cv.mono ?_; clear cv c0 y0; rintro e w2 ⟨rfl, hb2⟩; have hz := Br HZ3.out hb2; obtain ⟨z0, zf⟩ := row4 hz; obtain ⟨⟨d0, d1, d2, d3⟩, _⟩ := row4 (Br HZ1.out hb2); have HZ := Hf hz; have zf0 := zf 0; have zf1 := zf 1; have zf2 := zf 2; have zf3 := zf 3; have HBN := Hf hb2; clear hz zf hb2; go_wp2; refine bodyPost_ret (v := .tuple #[lV x a, .bool false]) ?_ rfl (HF.out _ (put4_bel (Bu HB1.out HBN.out Lr) (by have := HGZ.out; omega) _ _ _ _)); exact res52 f86_res _ _ (gz + 2) _ _ _ _ rfl (put4_row HZ.out _ _ _ _)
   | true =>
    rw [hvv] at cv; rw [hvv, Bool.true_and] at hk'; clear hvv; have HMY := Hf hk'; clear hk'; go_enter func86, ntmps86; go_upto_region 1 with fail
    rw [HW1.out, HGZ.out]; clear HW1; go_wp2_with fail; refine cv.mono ?_; clear cv c0 y0; rintro e w2 ⟨rfl, hb2⟩; obtain ⟨c0, _⟩ := row4 (Br HZ1.out hb2); obtain ⟨y0, _⟩ := row4 (Br HZ2.out hb2); have cm := rlmay_any (HL.out.keep (Bu HB1.out hb2 Lr)) v.s v.v hv (by have := HLEN.out; omega); rw [HMY.out] at cm; have HB2 := Hf hb2; clear hb2; go_wp2_with fail; refine cm.mono ?_; clear cm c0 y0; rintro e w3 ⟨rfl, hb3'⟩; have hb3 := Bu HB2.out hb3' Lr; clear hb3'; have hz := Br HZ3.out hb3; obtain ⟨z0, zf⟩ := row4 hz; obtain ⟨⟨d0, d1, d2, d3⟩, _⟩ := row4 (Br HZ1.out hb3); have HZ := Hf hz; have zf0 := zf 0; have zf1 := zf 1; have zf2 := zf 2; have zf3 := zf 3; have HBN := Hf hb3; clear hz zf hb3; go_wp2; refine bodyPost_ret (v := .tuple #[lV x a, .bool false]) ?_ rfl (HF.out _ (put4_bel (Bu HB1.out HBN.out Lr) (by have := HGZ.out; omega) _ _ _ _)); exact res52 f86_res _ _ (gz + 2) _ _ _ _ rfl (put4_row HZ.out _ _ _ _)
theorem same_veq (a b : V) : Dl.same a b = Na.veq a.s a.b.i a.b.t a.v b.s b.b.i b.b.t b.v := by
 unfold Dl.same Na.veq; rw [Bool.and_assoc]; rfl
theorem rest_snoc (l : List (Int × V)) (f k : Int) (y : Int × V) : Dl.rest (l ++ [y]) f k = Dl.rest l f k ++ if Dl.own f k y then [] else [y] := by
 unfold Dl.rest; rw [List.filter_append]; cases h : Dl.own f k y <;> simp [h]
theorem late_snoc (l : List (Int × V)) (f : Int) (v : V) (y : Int × V) : Dl.late (l ++ [y]) f v = (Dl.late l f v || (Dl.own f v.s y && decide (0 ≤ M.cmpE y.2.b v.b))) := by
 unfold Dl.late; rw [List.any_append]; simp
theorem late_more (l : List (Int × V)) (f : Int) (v : V) (j : Nat) (h : Dl.late (l.take j) f v = true) : Dl.late l f v = true := by
 unfold Dl.late at *; rw [← List.take_append_drop j l, List.any_append, h]; rfl
theorem cnt_snoc (l : List (Int × V)) (v : V) (y : Int × V) : Dl.cnt (l ++ [y]) v = Dl.cnt l v + if Dl.same y.2 v then 1 else 0 := by
 unfold Dl.cnt; rw [List.filter_append, List.length_append]; cases h : Dl.same y.2 v <;> simp [h]
theorem rlhear_yes (h : LL w x a) (f : Int) (v : V) (hv : v.v.size ≤ 9223372036854775807) (hlen : x.td.length ≤ 900000) (hvl : x.vs.length ≤ 700000) (hk : Dl.hrk x f v = true) : Calls prog 86 #[lV x a, .int .i64 f, vV v] w (HrO w x a f v) := by
 obtain ⟨W1, hW1, hb1, hz1, hz2, hz3, hs1⟩ := Np.alloc3 w (lC x a) (.cells #[.int .i64 v.s, .int .i64 v.b.i, .int .i64 v.b.t, .string v.v] 126) (.cells #[.int .i64 0, .int .i64 0, .slice none 0 0, .slice none 0 0] 52); have HW1 := Hf hW1; obtain ⟨gz, hgz⟩ := Nq (w.heap.size); have HB1 := Hf hb1; have HGZ := Hf hgz; rw [hgz] at hz1 hz2 hz3 hs1; have HZ1 := Hf hz1; have HZ2 := Hf hz2; have HZ3 := Hf hz3; have HS1 := Hf hs1; have HL := Hf h; obtain ⟨c0, _⟩ := row4 hz1; obtain ⟨y0, _⟩ := row4 hz2; have HLEN := Hf hlen; clear h hz1 hz2 hz3 hgz hb1 hW1 hs1 hlen; have HVL := Hf hvl; have hk' : (decide (0 ≤ f) && decide (f < x.n) && M.vld v.b && Dl.may x v.s v.v) = true := hk; simp only [Bool.and_eq_true, decide_eq_true_eq] at hk'; obtain ⟨⟨⟨k0, k1⟩, hvv⟩, hmy⟩ := hk'; have HHE : Hid (Dl.hear x f v = if Dl.late x.vs f v then x else if ((Dl.cnt (Dl.hr1 x f v).vs v : Nat) : Int) < M.quo x.n then Dl.hr1 x f v else Dl.tell (Dl.hr1 x f v) v.s v.v) := Hf (by unfold Dl.hear; rw [hk]; rfl); have d0 : decide (f < 0) = false := decide_eq_false (by omega); have d1 : decide (x.n ≤ f) = false := decide_eq_false (by omega); have cv := rvalid_any v.b W1; rw [hvv] at cv; have HMY := Hf hmy; clear hk hvl k0 k1 hvv hmy; go_enter func86, ntmps86; go_upto_region 1 with fail
 rw [HW1.out, HGZ.out]; clear HW1; go_wp2_with fail; refine cv.mono ?_; clear cv c0 y0; rintro e w2 ⟨rfl, hb2⟩; obtain ⟨c0, _⟩ := row4 (Br HZ1.out hb2); obtain ⟨y0, _⟩ := row4 (Br HZ2.out hb2); have cm := rlmay_any (HL.out.keep (Bu HB1.out hb2 Lr)) v.s v.v hv (by have := HLEN.out; omega); rw [HMY.out] at cm; have HB2 := Hf hb2; clear hb2; go_wp2_with fail; refine cm.mono ?_; clear cm c0 y0 d0 d1; rintro e w3 ⟨rfl, hb3'⟩; have HB3 := Hf (Bu HB2.out hb3' Lr); clear hb3' HB2; go_wp2_with fail; go_loopw [9, 8] (fun i u wr => ∃ j : Nat, j ≤ x.vs.length ∧ i = .int .i64 j ∧ OwnL vsl 194 wr w3.heap.size u (Dl.rest (x.vs.take j) f v.s) ∧ Bl w3 wr ∧ Dl.late (x.vs.take j) f v = false) (fun i u _ => x.vs.length - (intOf i).toNat)
 case atStart => exact ⟨0, Nat.zero_le _, rfl, OwnL.nil _ _ _, Below.refl _ _, rfl⟩
 case round =>
  obtain ⟨j, hj, rfl, ho, hbl, hl0⟩ := hrel; have hbW := Bu HB3.out hbl Lr; obtain ⟨a1, cap1, rfl, hx1, _⟩ := ho.at; have hvb : x.vs.length ≤ 700000 := HVL.out; by_cases hlt : j < x.vs.length
  ·have hji : (j : Int) < (x.vs.length : Int) := by omega
   obtain ⟨⟨d0, d1, d2, d3⟩, _⟩ := row4 (Br HZ1.out hbW); obtain ⟨b1, o1, ha, q0, q1, q2, q3, q4⟩ := AtL.getVs (HL.out.keep (Bu HB1.out hbW Lr)).v.at' j hlt; obtain ⟨y, HY⟩ := Nh (x.vs[j]); rw [HY.out] at q0 q1 q2 q3 q4; rw [ha] at d3; have htk : x.vs.take (j + 1) = x.vs.take j ++ [y] := by rw [← HY.out]; exact (List.take_append_getElem hlt).symm
   have HRS : Hid (Dl.rest (x.vs.take (j + 1)) f v.s = Dl.rest (x.vs.take j) f v.s ++ if Dl.own f v.s y then [] else [y]) := Hf (by rw [htk, rest_snoc]); have HLT : Hid (Dl.late (x.vs.take (j + 1)) f v = (Dl.own f v.s y && decide (0 ≤ M.cmpE y.2.b v.b))) := Hf (by rw [htk, late_snoc, hl0, Bool.false_or]); have HLM := Hf (late_more x.vs f v (j + 1)); obtain ⟨W7, HW7⟩ := Nh (wr.alloc (.cells #[.int .i64 y.1, .int .i64 y.2.s, .int .i64 y.2.b.i, .int .i64 y.2.b.t, .string y.2.v] 194)); have hb7 := Ab HW7; have hz7 := Ac HW7; have HZ7 := Hf hz7; obtain ⟨⟨t0, t1, t2, t3, t4⟩, _⟩ := row5 hz7; have hbW7 := Bu hbW hb7 Lr; obtain ⟨y0, _⟩ := row4 (Br HZ2.out hbW7); have HBW7 := Hf hbW7; clear hl0 htk ha hbW hz7 hbW7; cases hown : Dl.own f v.s y with
   | false =>
    by_cases hf : y.1 = f
    ·have hs : ¬ y.2.s = v.s := fun e => by rw [Dl.own_iff.2 ⟨hf, e⟩] at hown; cases hown
     have HOWN := Hf hown; rw [hf] at t0; have HYF := Hf hf; clear hown hf; have HRR : Hid (Dl.rest (x.vs.take (j + 1)) f v.s = Dl.rest (x.vs.take j) f v.s ++ [y] ∧ Dl.late (x.vs.take (j + 1)) f v = false) := Hf (by rw [HRS.out, HLT.out, HOWN.out]; exact ⟨rfl, rfl⟩); obtain ⟨W8, HW8⟩ := Nh (W7.alloc (.cells #[.int .i64 f, .int .i64 y.2.s, .int .i64 y.2.b.i, .int .i64 y.2.b.t, .string y.2.v] 194)); have hb8 := Ab HW8; have hz8 : W8.heap[W7.heap.size]? = some (.cells (vsl.cs y).toArray 194 (0, 0)) := by
      have e : vsl.cs y = [.int .i64 y.1, .int .i64 y.2.s, .int .i64 y.2.b.i, .int .i64 y.2.b.t, .string y.2.v] := rfl; rw [← HW8.out, e, HYF.out]; exact heap_alloc_last _ _
     have hrl : (Dl.rest (x.vs.take j) f v.s).length ≤ 800000 := by
      have h1 := HVL.out; have h2 : (Dl.rest (x.vs.take j) f v.s).length ≤ (x.vs.take j).length := List.length_filter_le _ _; rw [List.length_take] at h2; omega
     have hsz7 := hb7.size; have hsz8 := hb8.size; have hszr := hbl.size; obtain ⟨a5, c5, w9, hrun, ho9, hr9⟩ := run_appL_ty tiVs W8 w3.heap.size (.slice a1 (Dl.rest (x.vs.take j) f v.s).length cap1) (Dl.rest (x.vs.take j) f v.s) [y] W7.heap.size 0 1 1 ((ho.keep hb7).keep hb8) (atL_one (Y := vsl) (t := 194) hz8) rfl (by omega) (by simp; omega); have hl1 : (Dl.rest (x.vs.take j) f v.s).length + [y].length = (Dl.rest (x.vs.take j) f v.s).length + 1 := rfl; rw [hl1] at hrun ho9 hr9; have HO9 := Hf ho9; have HB9 : Hid (Bl w3 w9) := (hbl.trans ((Bu hb7 hb8 Lr).mono hszr)).trans (hr9.below (fun k hk => (ho.lt hk).1) (by omega)); clear ho hb8 hz8 ho9 hr9 hrl hl1 hsz7 hsz8 hszr hbl hb7 HRS HLT HLM hx1; generalize Dl.rest (x.vs.take j) f v.s = O at *; go_upto_region 8 with fail
     rw [HW7.out]; clear HW7; go_wp2_with (first | (rw [HW8.out]) | (at_builtin; refine wpList_append_known rfl _ _ 50 rfl (.slice a1 O.length cap1) (.slice (some ⟨W7.heap.size, 0, none⟩) 1 1) rfl rfl _ _ (hrun _) ?_)); go_roundw
     case rel => exact ⟨j + 1, by omega, by go_num, by rw [HRR.out.1]; exact HO9.out, HB9.out, HRR.out.2⟩
     case measure => simp [intOf]; omega
    ·have HOWN := Hf hown; clear hown; have HRR : Hid (Dl.rest (x.vs.take (j + 1)) f v.s = Dl.rest (x.vs.take j) f v.s ++ [y] ∧ Dl.late (x.vs.take (j + 1)) f v = false) := Hf (by rw [HRS.out, HLT.out, HOWN.out]; exact ⟨rfl, rfl⟩); obtain ⟨W8, HW8⟩ := Nh (W7.alloc (.cells #[.int .i64 y.1, .int .i64 y.2.s, .int .i64 y.2.b.i, .int .i64 y.2.b.t, .string y.2.v] 194)); have hb8 := Ab HW8; have hz8 : W8.heap[W7.heap.size]? = some (.cells (vsl.cs y).toArray 194 (0, 0)) := by
      have e : vsl.cs y = [.int .i64 y.1, .int .i64 y.2.s, .int .i64 y.2.b.i, .int .i64 y.2.b.t, .string y.2.v] := rfl; rw [← HW8.out, e]; exact heap_alloc_last _ _
     have hrl : (Dl.rest (x.vs.take j) f v.s).length ≤ 800000 := by
      have h1 := HVL.out; have h2 : (Dl.rest (x.vs.take j) f v.s).length ≤ (x.vs.take j).length := List.length_filter_le _ _; rw [List.length_take] at h2; omega
     have hsz7 := hb7.size; have hsz8 := hb8.size; have hszr := hbl.size; obtain ⟨a5, c5, w9, hrun, ho9, hr9⟩ := run_appL_ty tiVs W8 w3.heap.size (.slice a1 (Dl.rest (x.vs.take j) f v.s).length cap1) (Dl.rest (x.vs.take j) f v.s) [y] W7.heap.size 0 1 1 ((ho.keep hb7).keep hb8) (atL_one (Y := vsl) (t := 194) hz8) rfl (by omega) (by simp; omega); have hl1 : (Dl.rest (x.vs.take j) f v.s).length + [y].length = (Dl.rest (x.vs.take j) f v.s).length + 1 := rfl; rw [hl1] at hrun ho9 hr9; have HO9 := Hf ho9; have HB9 : Hid (Bl w3 w9) := (hbl.trans ((Bu hb7 hb8 Lr).mono hszr)).trans (hr9.below (fun k hk => (ho.lt hk).1) (by omega)); clear ho hb8 hz8 ho9 hr9 hrl hl1 hsz7 hsz8 hszr hbl hb7 HRS HLT HLM hx1; generalize Dl.rest (x.vs.take j) f v.s = O at *; go_upto_region 8 with fail
     rw [HW7.out]; clear HW7; go_wp2_with (first | (rw [HW8.out]) | (at_builtin; refine wpList_append_known rfl _ _ 50 rfl (.slice a1 O.length cap1) (.slice (some ⟨W7.heap.size, 0, none⟩) 1 1) rfl rfl _ _ (hrun _) ?_)); go_roundw
     case rel => exact ⟨j + 1, by omega, by go_num, by rw [HRR.out.1]; exact HO9.out, HB9.out, HRR.out.2⟩
     case measure => simp [intOf]; omega
   | true =>
    obtain ⟨hf, hs⟩ := Dl.own_iff.1 hown; have cr := rcmp_any y.2.b v.b W7; obtain ⟨r, HR⟩ := Nh (M.cmpE y.2.b v.b); have hlt2 := HLT.out; rw [hown, HR.out, Bool.true_and] at hlt2; rw [HR.out] at cr; rw [hf] at t0; rw [hs] at t1; clear HLT hf hs; by_cases hge : 0 ≤ r
    ·have HF : Hid (∀ w', Bl w w' → HrO w x a f v (.returned (.tuple #[lV x a, .bool false])) w') := fun w' hb => by
      have e : Dl.hear x f v = x := by rw [HHE.out, HLM.out (by rw [hlt2]; exact decide_eq_true hge)]; rfl
      exact ⟨a, false, by rw [e], by rw [e]; exact HL.out.keep hb, hb, LNew.refl _ _⟩
     clear hlt2 HRS HLM HHE ho hown hx1; go_upto_region 8 with fail
     rw [HW7.out]; clear HW7; go_wp2_with fail; refine cr.mono ?_; clear cr d0 d1 d2 d3 t0 t1 t2 t3 t4 y0 q0 q1 q2 q3 q4; rintro e w8 ⟨rfl, hb8'⟩; have hb8 := Bu HBW7.out hb8' Lr; clear hb8'; have hz := Br HZ3.out hb8; obtain ⟨z0, zf⟩ := row4 hz; obtain ⟨⟨d0, d1, d2, d3⟩, _⟩ := row4 (Br HZ1.out hb8); have HZ := Hf hz; have zf0 := zf 0; have zf1 := zf 1; have zf2 := zf 2; have zf3 := zf 3; have HBN := Hf hb8; clear hz zf hb8; go_wp2; refine bodyPost_ret (v := .tuple #[lV x a, .bool false]) ?_ rfl (HF.out _ (put4_bel (Bu HB1.out HBN.out Lr) (by have := HGZ.out; omega) _ _ _ _)); exact res52 f86_res _ _ (gz + 2) _ _ _ _ rfl (put4_row HZ.out _ _ _ _)
    ·have HRR : Hid (Dl.rest (x.vs.take (j + 1)) f v.s = Dl.rest (x.vs.take j) f v.s ∧ Dl.late (x.vs.take (j + 1)) f v = false) := Hf (by rw [HRS.out, hown, hlt2, decide_eq_false hge, if_pos rfl, List.append_nil]; exact ⟨rfl, rfl⟩); have HO7 := Hf (ho.keep hb7); have HB7 := Hf (hbl.trans (hb7.mono hbl.size)); clear hlt2 HRS HLM HHE ho hown hx1 hb7 hbl; generalize Dl.rest (x.vs.take j) f v.s = O at *; go_upto_region 8 with fail
     rw [HW7.out]; clear HW7; go_wp2_with fail; refine cr.mono ?_; clear cr d0 d1 d2 d3 t0 t1 t2 t3 t4 y0 q0 q1 q2 q3 q4; rintro e w8 ⟨rfl, hb8⟩; have HO8 := Hf (HO7.out.keep hb8); have HB8 := Hf (HB7.out.trans (hb8.mono HB7.out.size)); clear hb8; go_wp2; go_roundw
     case rel => exact ⟨j + 1, by omega, by go_num, by rw [HRR.out.1]; exact HO8.out, HB8.out, HRR.out.2⟩
     case measure => simp [intOf]; omega
  ·obtain rfl : j = x.vs.length := by omega
   rw [List.take_length] at ho hl0 hx1; have hlt0 := hl0; rw [List.take_length]; have HLF := Hf hlt0; obtain ⟨O, HO⟩ := Nh (Dl.rest x.vs f v.s); have hOl : O.length ≤ 700000 := by
    rw [← HO.out]; exact Nat.le_trans (List.length_filter_le _ _) HVL.out
   rw [HO.out] at ho hx1; rw [HO.out]; obtain ⟨⟨d0, d1, d2, d3⟩, _⟩ := row4 (Br HZ1.out hbW); obtain ⟨y0, _⟩ := row4 (Br HZ2.out hbW); obtain ⟨W8, HW8⟩ := Nh (wr.alloc (.cells #[.int .i64 f, .int .i64 v.s, .int .i64 v.b.i, .int .i64 v.b.t, .string v.v] 194)); have hb8 := Ab HW8; have hz8 := Ac HW8; have hszr := hbl.size; have hsz8 := hb8.size; have hsz3 := HB3.out.size; have hsz1 := HS1.out; obtain ⟨a5, c5, w9, hrun, ho9, hr9⟩ := run_appL_ty tiVs W8 w3.heap.size (.slice a1 O.length cap1) O [(f, v)] wr.heap.size 0 1 1 (ho.keep hb8) (atL_one (Y := vsl) (t := 194) hz8) rfl (by omega) (by simp; omega); have hl1 : O.length + [(f, v)].length = O.length + 1 := rfl; rw [hl1] at hrun ho9 hr9; have hb9 : Bl w3 w9 := (hbl.trans (hb8.mono hszr)).trans (hr9.below (fun k hk => (ho.lt hk).1) (by omega)); have hB9 := Bu HB3.out hb9 Lr; have hrow9 := Br HZ1.out hB9; obtain ⟨e0, ef⟩ := row4 hrow9; have ef3 := ef 3; obtain ⟨W6, HW6⟩ := Nh (w9.setCell ⟨gz, 3, none⟩ (.slice a5 (O.length + 1) c5)); have hrow6 : W6.heap[gz]? = some (.cells #[.int .i64 x.n, .int .i64 x.base, .slice a.ta x.td.length a.tc, .slice a5 (O.length + 1) c5] 52 (0, 0)) := by rw [← HW6.out, heap_setCell_same w9 gz 3 _ _ _ hrow9]; rfl
   have hoth6 : ∀ k, k ≠ gz → W6.heap[k]? = w9.heap[k]? := fun k hk => by rw [← HW6.out]; exact heap_setCell_other w9 ⟨gz, 3, none⟩ k _ hk
   have hrowv : W6.heap[gz + 1]? = _ := (hoth6 (gz + 1) (by omega)).trans (Br HZ2.out hB9); have hrowz : W6.heap[gz + 2]? = _ := (hoth6 (gz + 2) (by omega)).trans (Br HZ3.out hB9); have hsz6 : W6.heap.size = w9.heap.size := by rw [← HW6.out]; simp
   have hbs : Bl w W6 := by
    rw [← HW6.out]; exact (Bu HB1.out hB9 Lr).setCell (by show w.heap.size ≤ gz; have := HGZ.out; omega) _
   have hXV : XL vsl W6 a5 c5 (O ++ [(f, v)]) ∧ ∀ q, blk a5 q → gz + 3 ≤ q ∧ q < W6.heap.size := by
    obtain ⟨ao, co, hoe, hxo, hbko⟩ := ho9.at; have hl2 : (O ++ [(f, v)]).length = O.length + 1 := by simp
    rw [hl2] at hoe; simp only [Value.slice.injEq, true_and] at hoe; obtain ⟨g1, g2⟩ := hoe; subst g1 g2; exact ⟨hxo.keepBut fun q hq hq2 => hoth6 q (by have := (hbko q hq2).1; omega), fun q hq => by have := hbko q hq; omega⟩
   obtain ⟨hXV, hbk5⟩ := hXV; have hL6 : LL W6 (Dl.hr1 x f v) ⟨a.ta, a.tc, a5, c5⟩ := by
    exact ⟨HL.out.t.keep hbs, by show XL vsl W6 a5 c5 (Dl.rest x.vs f v.s ++ [(f, v)]); rw [HO.out]; exact hXV, fun q h => h.elim (fun h => (HL.out.keep hbs).lt q (.inl h)) (fun h => (hbk5 q h).2)⟩
   have HL6 := Hf hL6; have HZ1' := Hf hrow6; have HZ2' := Hf hrowv; have HZ3' := Hf hrowz; have HBS := Hf hbs; have HBK := Hf hbk5; have HXV := Hf hXV; have hc1 : Dl.cnt (Dl.hr1 x f v).vs v = Dl.cnt (O ++ [(f, v)]) v := by show Dl.cnt (Dl.rest x.vs f v.s ++ [(f, v)]) v = _; rw [HO.out]
   have hh1 : Dl.hear x f v = if ((Dl.cnt (O ++ [(f, v)]) v : Nat) : Int) < M.quo x.n then Dl.hr1 x f v else Dl.tell (Dl.hr1 x f v) v.s v.v := by rw [HHE.out, HLF.out, hc1]; rfl
   have HHE2 := Hf hh1; clear hbk5 hL6 hrow6 hrowv hrowz hbs hXV hc1 hh1 hoth6 hrow9 hB9 hb9 hr9 ho9 hz8 hb8 ho hx1 hl1 hszr hsz8 hsz3 hsz1 hsz6 ef hbW hbl hlt0 hl0 HHE HLF hj hlt; go_upto_region 14 with (first | (rw [HW8.out]) | (at_builtin; refine wpList_append_known rfl _ _ 50 rfl (.slice a1 O.length cap1) (.slice (some ⟨wr.heap.size, 0, none⟩) 1 1) rfl rfl _ _ (hrun _) ?_))
   rw [HW6.out]; clear HW6 HW8 d0 d1 d2 d3 y0 e0 ef3 hrun; go_wp2_with fail; go_loopw [12, 11] (fun i t wx => ∃ j : Nat, j ≤ (O ++ [(f, v)]).length ∧ i = .int .i64 j ∧ t = .int .i64 ((Dl.cnt ((O ++ [(f, v)]).take j) v : Nat) : Int) ∧ Bl W6 wx) (fun i t _ => O.length + 1 - (intOf i).toNat)
   case atStart => exact ⟨0, Nat.zero_le _, rfl, rfl, Below.refl _ _⟩
   case round =>
    obtain ⟨j, hj, rfl, rfl, hbx⟩ := hrel
    rename World => wx
    have hl2 : (O ++ [(f, v)]).length = O.length + 1 := by simp
    rw [hl2] at hj; obtain ⟨⟨d0, d1, d2, d3⟩, _⟩ := row4 (Br HZ1'.out hbx); obtain ⟨y0, _⟩ := row4 (Br HZ2'.out hbx); by_cases hlt : j < O.length + 1
    ·have hji : (j : Int) < ((O.length + 1 : Nat) : Int) := by omega
     have hjl : j < (O ++ [(f, v)]).length := by omega
     obtain ⟨b1, o1, ha, q0, q1, q2, q3, q4⟩ := AtL.getVs (HXV.out.keep hbx).at' j hjl; obtain ⟨y, HY⟩ := Nh ((O ++ [(f, v)])[j]); rw [HY.out] at q0 q1 q2 q3 q4; rw [ha] at d3; have htk : (O ++ [(f, v)]).take (j + 1) = (O ++ [(f, v)]).take j ++ [y] := by rw [← HY.out]; exact (List.take_append_getElem hjl).symm
     have HCN : Hid (Dl.cnt ((O ++ [(f, v)]).take (j + 1)) v = Dl.cnt ((O ++ [(f, v)]).take j) v + if Dl.same y.2 v then 1 else 0) := Hf (by rw [htk, cnt_snoc]); have heq : ∀ W, (binOp .eql 126 (.agg #[.int .i64 y.2.s, .int .i64 y.2.b.i, .int .i64 y.2.b.t, .string y.2.v]) (.agg #[.int .i64 v.s, .int .i64 v.b.i, .int .i64 v.b.t, .string v.v])).run prog W = .ok (.bool (Dl.same y.2 v)) W := fun W => by rw [same_veq]; exact Na.ql126 _ _ _ _ _ _ _ _ W
     have hcl : Dl.cnt ((O ++ [(f, v)]).take j) v ≤ j := Nat.le_trans (List.length_filter_le _ _) (by rw [List.length_take]; omega); generalize Dl.cnt ((O ++ [(f, v)]).take j) v = k at *; have HBX : Hid (∀ n, Below W6.heap.size W6 (wx.drewN n)) := fun n => below_drewN hbx n; clear ha htk hbx HY; cases hsm : Dl.same y.2 v with
     | true =>
      rw [hsm] at heq HCN; clear hsm; go_wp2_with fail; go_quiet (fail); go_wp2; go_roundw
      case rel => exact ⟨j + 1, by omega, by go_num, by rw [HCN.out]; go_num, HBX.out _⟩
      case measure => simp [intOf]; omega
     | false =>
      rw [hsm] at heq HCN; clear hsm; go_wp2_with fail; go_quiet (fail); go_wp2; go_roundw
      case rel => exact ⟨j + 1, by omega, by go_num, by rw [HCN.out]; rfl, HBX.out _⟩
      case measure => simp [intOf]; omega
    ·obtain rfl : j = O.length + 1 := by omega
     have htl : (O ++ [(f, v)]).take (O.length + 1) = O ++ [(f, v)] := by rw [← hl2]; exact List.take_length
     rw [htl]; have HBX := Hf hbx; clear hbx htl hl2; obtain ⟨k, hkk⟩ := Nq (Dl.cnt (O ++ [(f, v)]) v); have hh := HHE2.out; rw [hkk] at hh ⊢; clear hkk; have cq := rquorum_any x.n wx; obtain ⟨q, hq⟩ := Nq (M.quo x.n); rw [hq] at hh cq; clear hq; by_cases hlq : (k : Int) < q
     ·have hd : decide ((k : Int) < q) = true := decide_eq_true hlq; rw [if_pos hlq] at hh; have hz := Br HZ3'.out HBX.out; obtain ⟨z0, zf⟩ := row4 hz; have HZ := Hf hz; have zf0 := zf 0; have zf1 := zf 1; have zf2 := zf 2; have zf3 := zf 3; have HF : Hid (∀ v0 v1 v2 v3, HrO w x a f v (.returned (.tuple #[lV (Dl.hr1 x f v) ⟨a.ta, a.tc, a5, c5⟩, .bool false])) (put4 wx (gz + 2) v0 v1 v2 v3)) := fun v0 v1 v2 v3 => by
       have hb : Bl W6 wx := HBX.out; have hsz : gz + 2 < W6.heap.size := (Array.getElem?_eq_some_iff.1 HZ3'.out).1; have hbp := put4_bel (Bu HBS.out hb Lr) (show w.heap.size ≤ gz + 2 by have := HGZ.out; omega) v0 v1 v2 v3; refine ⟨⟨a.ta, a.tc, a5, c5⟩, false, by rw [hh], ?_, hbp, fun q h => h.elim (fun h => .inl (.inl h)) (fun h => .inr (by have := HBK.out q h; have := HGZ.out; omega))⟩; rw [hh]; exact ⟨HL.out.t.keep hbp, (HL6.out.keep hb).v.keepBut fun q hq hq2 => put4_oth (by have := HBK.out q hq2; omega) _ _ _ _, fun q h => h.elim (fun h => (HL.out.keep hbp).lt q (.inl h)) (fun h => by have := HBK.out q h; have := HBX.out.size; simp [put4]; omega)⟩
      have hvl : (Dl.hr1 x f v).vs.length = O.length + 1 := by show (Dl.rest x.vs f v.s ++ [(f, v)]).length = _; rw [HO.out]; simp
      have hlv : lV (Dl.hr1 x f v) ⟨a.ta, a.tc, a5, c5⟩ = .agg #[.int .i64 x.n, .int .i64 x.base, .slice a.ta x.td.length a.tc, .slice a5 (O.length + 1) c5] := by
       show Value.agg #[.int .i64 x.n, .int .i64 x.base, .slice a.ta x.td.length a.tc, .slice a5 (Dl.hr1 x f v).vs.length c5] = _; rw [hvl]
      clear hz zf hh hlq hvl; go_wp2_with fail; refine cq.mono ?_; clear cq; rintro e w11 ⟨rfl, hw11⟩; obtain rfl := hw11.symm; clear hw11; go_wp2; refine bodyPost_ret (v := .tuple #[lV (Dl.hr1 x f v) ⟨a.ta, a.tc, a5, c5⟩, .bool false]) ?_ rfl (HF.out _ _ _ _); rw [hlv]; exact res52 f86_res _ _ (gz + 2) _ _ _ _ rfl (put4_row HZ.out _ _ _ _)
     ·have hd : decide ((k : Int) < q) = false := decide_eq_false hlq; rw [if_neg hlq] at hh; have hvl : (Dl.hr1 x f v).vs.length = O.length + 1 := by show (Dl.rest x.vs f v.s ++ [(f, v)]).length = _; rw [HO.out]; simp
      have ct : Calls prog 82 #[.agg #[.int .i64 x.n, .int .i64 x.base, .slice a.ta x.td.length a.tc, .slice a5 (O.length + 1) c5], .int .i64 v.s, .string v.v] wx (TlO wx (Dl.hr1 x f v) ⟨a.ta, a.tc, a5, c5⟩ v.s v.v) := by
       have c := rltell_any (HL6.out.keep HBX.out) v.s v.v hv HLEN.out; have e : lV (Dl.hr1 x f v) ⟨a.ta, a.tc, a5, c5⟩ = .agg #[.int .i64 x.n, .int .i64 x.base, .slice a.ta x.td.length a.tc, .slice a5 (O.length + 1) c5] := by
        show Value.agg #[.int .i64 x.n, .int .i64 x.base, .slice a.ta x.td.length a.tc, .slice a5 (Dl.hr1 x f v).vs.length c5] = _; rw [hvl]
       rw [e] at c; exact c
      have HH := Hf hh; clear hlq hh hvl; go_wp2_with fail; refine cq.mono ?_; clear cq; rintro e w11 ⟨rfl, hw11⟩; obtain rfl := hw11.symm; clear hw11; go_wp2_with fail; refine ct.mono ?_; clear ct d0 d1 d2 d3 y0; rintro e w12 ⟨a6, rfl, hL12, hb12, hta, hva⟩; have hbf := Bu HBX.out hb12 Lr; have hz := Br HZ3'.out hbf; obtain ⟨z0, zf⟩ := row4 hz; have HZ := Hf hz; have zf0 := zf 0; have zf1 := zf 1; have zf2 := zf 2; have zf3 := zf 3; have HF : Hid (∀ v0 v1 v2 v3, HrO w x a f v (.returned (.tuple #[lV (Dl.tell (Dl.hr1 x f v) v.s v.v) a6, .bool (Dl.may (Dl.hr1 x f v) v.s v.v)])) (put4 w12 (gz + 2) v0 v1 v2 v3)) := fun v0 v1 v2 v3 => by
       have hbp := put4_bel (Bu HBS.out hbf Lr) (show w.heap.size ≤ gz + 2 by have := HGZ.out; omega) v0 v1 v2 v3; refine ⟨a6, _, by rw [HH.out], ?_, hbp, fun q h => ?_⟩
       rotate_left
       ·rcases hta q h with (h1 | h1) | h1
        ·exact .inl (.inl h1)
        ·exact .inr (by have := HBK.out q h1; have := HGZ.out; omega)
        ·exact .inr (by have := HBX.out.size; have := HBS.out.size; omega)
       rw [HH.out]; refine ⟨hL12.t.keepBut fun q hq hq2 => put4_oth (fun e => ?_) _ _ _ _, hL12.v.keepBut fun q hq hq2 => put4_oth (by rw [hva] at hq2; have := HBK.out q hq2; omega) _ _ _ _, fun q hq => by have := hL12.lt q hq; simp [put4]; omega⟩; have hsx : gz + 2 < wx.heap.size := (Array.getElem?_eq_some_iff.1 (Br HZ3'.out HBX.out)).1; rcases hta q (.inl hq2) with (h1 | h1) | h1
       ·have := HL.out.lt q (.inl h1); have := HGZ.out; omega
       ·have := HBK.out q h1; omega
       ·omega
      generalize Dl.tell (Dl.hr1 x f v) v.s v.v = x6 at *; generalize Dl.may (Dl.hr1 x f v) v.s v.v = b6 at *; clear hz zf hL12 hb12 hbf hta hva; go_wp2; refine bodyPost_ret (v := .tuple #[lV x6 a6, .bool b6]) ?_ rfl (HF.out _ _ _ _); exact res52 f86_res _ _ (gz + 2) _ _ _ _ rfl (put4_row HZ.out _ _ _ _)
theorem rlhear_any (h : LL w x a) (f : Int) (v : V) (hv : v.v.size ≤ 9223372036854775807) (hlen : x.td.length ≤ 900000) (hvl : x.vs.length ≤ 700000) : Calls prog 86 #[lV x a, .int .i64 f, vV v] w (HrO w x a f v) := by
 cases hk : Dl.hrk x f v with
 | false => exact rlhear_no h f v hv hlen hk
 | true => exact rlhear_yes h f v hv hlen hvl hk
end
end Go.Proofs.YtgodnpngdbelhaaGreat
namespace Go.Proofs.YtgodnpngdbelhaaGreat.Dn
open Go.RowKit Go.Maps
open Go.Proofs.YtgodnpngdbelhaaGreat.M (E V)
open Go.Proofs.YtgodnpngdbelhaaGreat.Rm (NT R)
open Go.Proofs.YtgodnpngdbelhaaGreat.Np (dvv ld32 st32 Z17)
open Dl (X)
theorem alloc1 (w : World) (o1 : Obj) : ∃ W, w.alloc o1 = W ∧ Bl w W ∧ W.heap[w.heap.size]? = some o1 ∧ W.heap.size = w.heap.size + 1 := ⟨_, rfl, bel1 w o1, heap_alloc_last w o1, by simp⟩
theorem aH1 (w : World) (o1 : Obj) : ∃ W gz, Hid (w.alloc o1 = W) ∧ Hid (Bl w W) ∧ Hid (w.heap.size = gz) ∧ Hid (W.heap[gz]? = some o1) ∧ Hid (W.heap.size = gz + 1) := by
 obtain ⟨W, h0, h1, k0, h2⟩ := alloc1 w o1; exact ⟨W, _, h0, h1, rfl, k0, h2⟩
theorem f50_res : Tryz.f50.results = #[.cell 2 52, .tmp 3] := rfl
theorem rlnew_any (n : Int) (w : World) : Calls prog 50 #[.int .i64 n] w fun e w' => e = .returned (.tuple #[.agg #[.int .i64 n, .int .i64 0, .slice none 0 0, .slice none 0 0], .bool (decide (0 < M.quo n))]) ∧ Bl w w' := by
 obtain ⟨W1, gz, HW1, HB1, HGZ, Hz1, HS1⟩ := aH1 w (.cells #[.int .i64 0, .int .i64 0, .slice none 0 0, .slice none 0 0] 52); obtain ⟨z2c0, z2f⟩ := row4 Hz1.out; have zf0 := z2f 0; have zf1 := z2f 1; have zf2 := z2f 2; have zf3 := z2f 3; have cq := rquorum_any n W1; have HF := Hf (fun v0 v1 v2 v3 => Np.put4_bel HB1.out (show w.heap.size ≤ gz by have := HGZ.out; omega) v0 v1 v2 v3); clear z2f; go_enter func50, ntmps50; go_upto_region 1 with fail
 rw [HW1.out, HGZ.out]; clear HW1; go_wp2_with fail; refine cq.mono ?_; clear cq; rintro e w2 ⟨rfl, hw2⟩; obtain rfl := hw2.symm; clear hw2; go_wp2; refine bodyPost_ret (v := .tuple #[.agg #[.int .i64 n, .int .i64 0, .slice none 0 0, .slice none 0 0], .bool (decide (0 < M.quo n))]) ?_ rfl ⟨rfl, HF.out _ _ _ _⟩; exact res52 f50_res _ _ gz _ _ _ _ rfl (Np.put4_row Hz1.out _ _ _ _)
theorem rat_any (k : Int) (m : Nat) (hm : 0 < m) (hm2 : m ≤ 1024) (w : World) : Calls prog 53 #[.int .i64 k, .int .i64 m] w fun e w' => e = .returned (.int .i64 ((Tm.at' k m : Nat) : Int)) ∧ w' = w := by
 have hr := at_rem k m hm; have hw : wrap64 (Int.tmod k m + m) = Int.tmod k m + m := by
  have h1 := Int.lt_tmod_of_pos k (show (0 : Int) < (m : Int) by omega); have h2 := Int.tmod_lt_of_pos k (show (0 : Int) < (m : Int) by omega); unfold wrap64; omega
 have hm0 : ((m : Int) == 0) = false := beq_false_of_ne (by omega); have h0 : ¬ m = 0 := by omega
 have HR := Hf hr; clear hr hm0; go_enter func53, ntmps53; go_wp2; go_ret; exact ⟨by rw [← HR.out]; rfl, rfl⟩
theorem f83_res : Tryz.f83.results = #[.cell 4 54] := rfl
theorem step_any (x : DR) (d : DA) (b : E) (w : World) : Calls prog 83 #[.agg (rvv x d), bV b] w fun e w' => e = .returned (.agg (rvv (stD x b) d)) ∧ Bl w w' := by
 obtain ⟨W1, gz, HW1, HB1, HGZ, Hb1, Hc1, Hr1, HS1⟩ := Np.aH3 w (.cells (rvv x d) 54) (.cells #[.int .i64 b.i, .int .i64 b.t] 42) (.cells Z27 54); obtain ⟨b2c0, b2f⟩ := rowR Hb1.out; have b2l := loadR Hb1.out; have b2p := loadRp Hb1.out; obtain ⟨c3c0, c3f⟩ := row2 Hc1.out; have cs := Np.rstep_any d.pa d.pc x.p b W1; go_enter func83, ntmps83; go_upto_region 1 with fail
 rw [HW1.out, HGZ.out]; clear HW1; go_wp2_with fail; refine cs.mono ?_; clear b2c0 b2f b2l b2p c3c0 c3f cs; rintro e w2 ⟨rfl, hb2⟩; obtain ⟨y, HY⟩ := Nh (Np.M.rss x.p b); rw [HY.out]; generalize Np.M.rsb x.p b = bb; have HB4 := Hf (Bu HB1.out hb2 Lr); have Hb4 := Hf (Br Hb1.out hb2); have Hc4 := Hf (Br Hc1.out hb2); have Hr4 := Hf (Br Hr1.out hb2); obtain ⟨W3, HW3⟩ := Nh (w2.alloc (.cells (dvv d.pa d.pc y) 48)); have hb3 := Ab HW3; have hz3 := Ac HW3; have lp3 := Np.load32_row hz3; have HB5 := Hf (Bu HB4.out hb3 Lr); have Hb5 := Hf (Br Hb4.out hb3); have Hc5 := Hf (Br Hc4.out hb3); have Hr5 := Hf (Br Hr4.out hb3); obtain ⟨W4, hst4, hrow4, hf4⟩ := setP Hb5.out d.pa d.pc y; have HB6 := Hf (fr_bel HB5.out hf4 (by have := HGZ.out; omega) HB5.out.size); have Hb6 := Hf hrow4; have Hc6 := Hf (fr_row hf4 Hc5.out (by omega)); have Hr6 := Hf (fr_row hf4 Hr5.out (by omega)); have lr4 : (ldR ⟨gz, 0, none⟩).run prog W4 = .ok (rvv { x with p := y } d) W4 := loadR Hb6.out
 obtain ⟨W5, hst5, hrow5, hf5⟩ := setR Hr6.out rfl { x with p := y } d
 have HB7 := Hf (fr_bel HB6.out hf5 (by have := HGZ.out; omega) HB6.out.size); have Hb7 := Hf (fr_row hf5 Hb6.out (by omega)); have Hc7 := Hf (fr_row hf5 Hc6.out (by omega)); have Hr7 := Hf hrow5; have HE : Hid (stD x b = { x with p := y }) := Hf (by unfold stD; rw [HY.out])
 clear hf4 hf5 hrow4 hrow5 hz3 hb3 hb2 HY; go_upto_region 2 with fail
 rw [HW3.out]; clear HW3; go_wp2; refine bodyPost_ret (v := .agg (rvv { x with p := y } d)) ?_ rfl ⟨by rw [HE.out], HB7.out⟩
 exact resR1 f83_res _ _ (gz + 2) _ _ rfl Hr7.out
theorem log_any {w : World} {x : DR} {d : DA} {m : Nat} {r : R} (h : DM w x d) (hR : Rl m r x) (h0 : r.l.base = 0) (hm : m ≤ 300) : Calls prog 12 #[.agg (rvv x d)] w fun e w' => ∃ ad c, e = .returned (.slice ad (Rm.logL r).length c) ∧ XL Nl.tl w' ad c (Rm.logL r) ∧ (∀ j, blk ad j → w.heap.size ≤ j ∧ j < w'.heap.size) ∧ Bl w w' := by
 obtain ⟨W1, gz, HW1, HB1, HGZ, Hb1, HS1⟩ := aH1 w (.cells (rvv x d) 54); obtain ⟨b2c0, b2f⟩ := rowR Hb1.out; have b2l := loadR Hb1.out; have b2p := loadRp Hb1.out; have cl := rllog_any (h.l.keep HB1.out) hR.l 0 (by have := hR.tl; omega); have HL : Hid (Nl.M.lgs r.l 0 = Rm.logL r) := Hf (by unfold Rm.logL; rw [h0]); have HSW := HB1.out.size; clear h hR h0; go_enter func12, ntmps12; go_upto_region 1 with fail
 rw [HW1.out, HGZ.out]; clear HW1; go_wp2_with fail; refine cl.mono ?_; clear b2c0 b2f b2l b2p cl; rintro e w2 ⟨ad, c, rfl, hx, hk, hb⟩; rw [HL.out] at hx ⊢; have HX := Hf hx; have HK : Hid (∀ j, blk ad j → w.heap.size ≤ j ∧ j < w2.heap.size) := fun j hj => ⟨Nat.le_trans HSW (hk j hj).1, (hk j hj).2⟩; have HB := Hf (Bu HB1.out hb Lr); clear hx hk hb; go_wp2; go_ret; exact ⟨ad, c, rfl, HX.out, HK.out, HB.out⟩
theorem xn_one {w : World} {k : Nat} {P : Nat → Prop} {y : RN} {v : V} (h : w.heap[k]? = some (.cells (vl.cs v).toArray 126 (0, 0))) (hP : P k) (h1 : y.x.v = [v]) (h2 : y.ad = some ⟨k, 0, none⟩) (h3 : y.c = 1) : XN w P y := by
 obtain ⟨x, ad, c⟩ := y; simp only at h1 h2 h3; subst h2 h3; refine ⟨?_, fun j hj => ?_⟩
 ·rw [h1]; exact ⟨atL_one (Y := vl) (t := 126) h, Nat.le_refl _, show 1 ≤ maxLen by decide, fun e => by cases e⟩
 ·obtain ⟨o, s, e⟩ := hj; cases e; exact ⟨(Array.getElem?_eq_some_iff.1 h).1, hP⟩
def AlO (w : World) (B : Nat) (l : List NT) (e : Ending) (w' : World) : Prop := ∃ u ys, e = .returned u ∧ OW w' B u ys ∧ ys.map RN.x = l ∧ (∀ k, u.ownBlock = some k → w.heap.size ≤ k) ∧ Bl w w'
theorem all_any {w : World} (x : DR) (d : DA) (y : RN) (B : Nat) (hB : B ≤ w.heap.size) (hy : XN w (fun q => B ≤ q) y) (h0 : 0 ≤ x.n) (h7 : x.n ≤ 7) (r : R) (hn : x.n = r.n) (hm : x.me = r.me) : Calls prog 85 #[.agg (rvv x d), nV y] w (AlO w B (Rm.toF r y.x.k y.x.s y.x.b y.x.v r.n.toNat)) := by
 obtain ⟨W1, gz, HW1, HB1, HGZ, Hb1, Hc1, HS1⟩ := aH2 w (.cells (rvv x d) 54) (.cells #[.int .i64 y.x.k, .int .i64 y.x.f, .int .i64 y.x.t, .int .i64 y.x.s, .int .i64 y.x.b.i, .int .i64 y.x.b.t, .slice y.ad y.x.v.length y.c] 72); obtain ⟨nn, hnn⟩ : ∃ nn : Nat, x.n = nn := ⟨x.n.toNat, by omega⟩; have hr : r.n.toNat = nn := by omega
 have HY := Hf hy; have HWS := HB1.out.size; rw [hr]; have hn7 : nn ≤ 7 := by omega
 have HM := Hf hm; clear hn hr hy h0 h7 hm; go_enter func85, ntmps85; go_upto_region 1 with fail
 rw [HW1.out, HGZ.out]; clear HW1; go_wp2_with fail; go_loopw [6, 5] (fun i u wr => ∃ (j : Nat) (ys : List RN), j ≤ nn ∧ i = .int .i64 j ∧ OW wr B u ys ∧ ys.map RN.x = Rm.toF r y.x.k y.x.s y.x.b y.x.v j ∧ (∀ k, u.ownBlock = some k → W1.heap.size ≤ k) ∧ Bl W1 wr) (fun i u _ => nn - (intOf i).toNat)
 case atStart => exact ⟨0, [], Nat.zero_le _, rfl, OW.nil _ _, rfl, fun k hk => (by cases hk), Below.refl _ _⟩
 case round =>
  obtain ⟨j, ys, hj, rfl, how, hmp, hob, hbl⟩ := hrel; have hlen : ys.length = j := by rw [← List.length_map (f := RN.x), hmp, Rm.toF_len]
  obtain ⟨a1, cap1, rfl, hxs⟩ := how.at; rw [hlen] at how hob ⊢; have HB2 := Hf (Bu HB1.out hbl Lr); have Hb2 := Hf (Br Hb1.out hbl); have Hc2 := Hf (Br Hc1.out hbl); obtain ⟨⟨b3c0, b3c1, b3c2, b3c3, b3c4, b3c5, b3c23, b3c24, b3c25, b3c26⟩, b3f⟩ := rowR Hb2.out; have b3l := loadR Hb2.out; have b3p := loadRp Hb2.out; obtain ⟨c4c0, c4f⟩ := row7 Hc2.out; rw [hnn] at b3c0; by_cases hlt : j < nn
  ·have hji : (j : Int) < (nn : Int) := by omega
   obtain ⟨y', hy'⟩ : ∃ y' : RN, y' = ⟨⟨y.x.k, x.me, (j : Int), y.x.s, y.x.b, y.x.v⟩, y.ad, y.c⟩ := ⟨_, rfl⟩; obtain ⟨W5, HW5⟩ := Nh (wr.alloc (.cells #[.int .i64 y.x.k, .int .i64 y.x.f, .int .i64 y.x.t, .int .i64 y.x.s, .int .i64 y.x.b.i, .int .i64 y.x.b.t, .slice y.ad y.x.v.length y.c] 72)); have hb5 := Ab HW5; have hz5 := Ac HW5; obtain ⟨W7, HW7⟩ := Nh ((W5.setCell ⟨wr.heap.size, 1, none⟩ (.int .i64 x.me)).setCell ⟨wr.heap.size, 2, none⟩ (.int .i64 (j : Int))); have hz7 : W7.heap[wr.heap.size]? = some (.cells #[.int .i64 y.x.k, .int .i64 x.me, .int .i64 (j : Int), .int .i64 y.x.s, .int .i64 y.x.b.i, .int .i64 y.x.b.t, .slice y.ad y.x.v.length y.c] 72 (0, 0)) := by
    rw [← HW7.out]; exact heap_setCell_same _ _ 2 _ _ _ (heap_setCell_same _ _ 1 _ _ _ hz5)
   have hb7 : Bl wr W7 := by rw [← HW7.out]; exact (hb5.setCell Lr _).setCell Lr _
   have hyx : XN W7 (fun q => B ≤ q ∧ (Value.slice a1 j cap1).ownBlock ≠ some q) y' := by
    have h1 := ((HY.out.keep HB1.out).keep hbl).keep hb7; subst hy'; refine ⟨h1.xl, fun q hq => ⟨(h1.blk q hq).1, (h1.blk q hq).2, fun e => ?_⟩⟩; have := (HY.out.blk q hq).1; have := hob q e; have := HB1.out.size; omega
   obtain ⟨a', c', w8, hrun, ho8, hr8⟩ := (how.keep hb7).app1 y' hyx (by have := hbl.size; have := hb7.size; omega) (by omega); obtain ⟨W8, HW8⟩ := Nh (W7.alloc (.cells #[.int .i64 y.x.k, .int .i64 x.me, .int .i64 (j : Int), .int .i64 y.x.s, .int .i64 y.x.b.i, .int .i64 y.x.b.t, .slice y.ad y.x.v.length y.c] 72)); have e8 : nl.cs y' = [.int .i64 y.x.k, .int .i64 x.me, .int .i64 (j : Int), .int .i64 y.x.s, .int .i64 y.x.b.i, .int .i64 y.x.b.t, .slice y.ad y.x.v.length y.c] := by rw [hy']; rfl
   rw [e8, HW8.out, hlen] at hrun; rw [hlen] at ho8 hr8; have HO8 := Hf ho8; have HMP : Hid ((ys ++ [y']).map RN.x = Rm.toF r y.x.k y.x.s y.x.b y.x.v (j + 1)) := Hf (by rw [List.map_append, hmp, Rm.toF_succ, hy', ← HM.out]; rfl); have HOB : Hid (∀ k, (Value.slice a' (j + 1) c').ownBlock = some k → W1.heap.size ≤ k) := fun k hk => by
    rcases hr8.n k hk with h' | h'
    ·exact hob k h'
    ·have := hbl.size; have := hb7.size; omega
   have HB8 := Hf ((hbl.trans (hb7.mono hbl.size)).trans (hr8.below (B := W1.heap.size) (fun k hk => hob k hk) (Nat.le_trans hbl.size hb7.size))); obtain ⟨t0, tf⟩ := row7 hz5; have tf1 := tf 1; have tf2 := tf 2; obtain ⟨s0, _⟩ := row7 hz7; obtain ⟨v0, _⟩ := rowR (Br Hb2.out hb5); clear hmp hob hxs how hyx hy' ho8 hr8 hz5 hz7 hb5 hb7 e8 hbl tf; go_upto_region 6 with fail
   rw [HW5.out]; clear HW5; go_upto_region 8 with fail
   rw [HW7.out]; clear HW7; go_wp2_with (first | (rw [HW8.out]) | (at_builtin; refine wpList_append_known rfl _ _ 28 rfl (.slice a1 j cap1) (.slice (some ⟨W7.heap.size, 0, none⟩) 1 1) rfl rfl _ _ (hrun _) ?_)); go_roundw
   case rel => exact ⟨j + 1, _, by omega, by go_num, HO8.out, HMP.out, HOB.out, HB8.out⟩
   case measure => simp [intOf]; omega
  ·obtain rfl : j = nn := by omega
   have HO := Hf how; have HMP := Hf hmp; have HOB : Hid (∀ k, (Value.slice a1 j cap1).ownBlock = some k → w.heap.size ≤ k) := fun k hk => Nat.le_trans HB1.out.size (hob k hk); have HBB := Hf (Bu HB1.out hbl Lr); clear how hmp hob hbl hxs; go_wp2; go_ret; exact ⟨_, _, rfl, HO.out, HMP.out, HOB.out, HBB.out⟩
end Go.Proofs.YtgodnpngdbelhaaGreat.Dn
