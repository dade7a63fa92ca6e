import Derived.Test.YtlnedgjikkhplaaGreatGP38
set_option maxRecDepth 100000
set_option maxHeartbeats 8000000
set_option linter.unusedVariables false
set_option linter.unusedSimpArgs false
namespace Go.Proofs.YtlnedgjikkhplaaGreat.Du
open Go.RowKit
open Na (Fr AS XL vl bV vV Hf bel1 bel2 Bu Br row2 row4 blk OwnL AtL)
open Na.M (E V S S0)
open Ns (Hd XD)
open Ns.M (DD RR ofL)
open Nc.M (enc encT)
theorem ddo_any {w : World} {a : S} {ad : Option Addr} {c : Nat} (hx : XL vl w ad c a.l) (hlt : ∀ j, Na.blk ad j → j < w.heap.size) (ok : Na.M.Ok a) (r : R) (hr : Wf r) : Calls Tryz.prog 96 #[Na.aV a ad c, .string (ofL (kb r))] w (DoO w ad (redo a r)) := by
 cases r using R.split with
 | pr y => exact ddo_pr hx hlt ok y hr.1 hr.2
 | vo v => exact ddo_vo hx hlt ok v hr
 | tr u => exact ddo_tr hx hlt ok u hr
theorem f43_res : Tryz.f43.results = #[.cell 4 39, .tmp 5, .tmp 6] := rfl
def NxY (w : World) (ad : Option Addr) (d : S) (z : Nat) (e : Ending) (w' : World) : Prop := ∃ a2 c2, e = .returned (.tuple #[Na.aV d a2 c2, .int .i64 z, .bool true]) ∧ XL vl w' a2 c2 d.l ∧ (∀ j, Na.blk a2 j → (Na.blk ad j ∨ w.heap.size ≤ j) ∧ j < w'.heap.size) ∧ Below w.heap.size w w'
section
variable {w : World} {H : Hx} {D : DD} {x : X}
theorem dnext_yes (hx : XL vl w H.ad H.c x.a.l) (hlt : ∀ j, Na.blk H.ad j → j < w.heap.size) (ok : Na.M.Ok x.a) (r : R) (hr : Wf r) (l : List UInt8) (he : x.ep ≤ 2147483648) (hk : x.n ≤ 2147483648) (hl : l.length ≤ 300000) :
  Calls Tryz.prog 43 #[.agg (dvv H D x), .string (ofL (Du.rec x.ep x.n r ++ l))] w (NxY w H.ad (redo x.a r) (sec x.ep x.n r)) := by
 have hbl := body_len x.ep x.n r he hk hr
 have hrl := raw_len x.ep x.n r he hk hr
 have hrz : (Du.rec x.ep x.n r).length = sec x.ep x.n r * 64 := rec_len _ _ _
 have hrle := rec_le x.ep x.n r he hk hr
 have hsz : (ofL (Du.rec x.ep x.n r)).size = sec x.ep x.n r * 64 := by rw [Ns.M.ofL_size, hrz]
 have hss : (ofL (Du.rec x.ep x.n r ++ l)).size = sec x.ep x.n r * 64 + l.length := by rw [Ns.M.ofL_size, List.length_append, hrz]
 have hext : (ofL (Du.rec x.ep x.n r ++ l)).extract 0 (sec x.ep x.n r * 64) = ofL (Du.rec x.ep x.n r) := by
  have := Nc.ofL_take (Du.rec x.ep x.n r ++ l) (sec x.ep x.n r * 64)
  rw [List.take_left' hrz] at this
  exact this
 have ht : Nc.M.text (Du.rec x.ep x.n r ++ l) = some (K2.sealed (body x.ep x.n r), List.replicate (fil (raw x.ep x.n r).length) 0 ++ l) := by
  rw [rec_split]
  exact Nc.M.text_enc _ _ (by rw [sealed_len]; omega)
 have c1 := fun W => take_text ht (by rw [List.length_append, hrz]; omega) W
 have c2 := fun W => Ns.refOpen_any (ofL (K2.sealed (body x.ep x.n r))) W (by rw [Ns.M.ofL_size, sealed_len]; omega)
 rw [open_sealed] at c2
 have hi1 : Nc.M.int (body x.ep x.n r) = some ((x.ep : Int), enc (x.n : Int) ++ kb r) := Nc.M.int_enc _ _ (I64.nat he)
 have hi2 : Nc.M.int (enc (x.n : Int) ++ kb r) = some ((x.n : Int), kb r) := Nc.M.int_enc _ _ (I64.nat hk)
 have hb2 : (enc (x.n : Int) ++ kb r).length ≤ 4200 := by
  unfold body at hbl; rw [List.length_append] at hbl
  omega
 have c3 := fun W => take_int hi1 (by omega) W
 have c4 := fun W => take_int hi2 (by omega) W
 have c5 := fun W => drecord_any x.ep x.n r W he hk hr
 have HX := Hf hx
 have HOK := Hf ok
 have HLT := Hf hlt
 have HR := Hf hr
 have hz1 := sec_pos x.ep x.n r
 have hzb : sec x.ep x.n r ≤ 68 := by omega
 generalize ofL (Du.rec x.ep x.n r ++ l) = s at *
 have hzl : ((sec x.ep x.n r * 64 : Nat) : Int) / 64 = (sec x.ep x.n r : Int) := by omega
 generalize ofL (Du.rec x.ep x.n r) = R0 at *
 generalize sec x.ep x.n r = z at *
 clear hx ok hlt hr ht hi1 hi2 hbl hrl hrz hrle hb2
 obtain ⟨W1, HW1⟩ := Nh ((w.alloc (.cells (dvv H D x) 41)).alloc (.cells #[.int .i64 0, .int .i64 0, .int .i64 0, .slice none 0 0] 39))
 have hr0 : W1.heap[w.heap.size]? = some (.cells (dvv H D x) 41 (0, 0)) := by rw [← HW1.out]; exact heap_alloc2_old w _ _
 have hr1 : W1.heap[w.heap.size + 1]? = some (.cells #[.int .i64 0, .int .i64 0, .int .i64 0, .slice none 0 0] 39 (0, 0)) := by rw [← HW1.out]; exact heap_alloc2_new w _ _
 have hb1 : Below w.heap.size w W1 := by rw [← HW1.out]; exact bel2 w _ _
 have HR0 := Hf hr0
 have HR1 := Hf hr1
 have HB1 := Hf hb1
 clear hr0 hr1 hb1
 go_enter Tryz.func43, Tryz.ntmps43
 go_upto_region 1 with fail
 rw [HW1.out]; clear HW1
 go_wp2_with fail
 refine (c1 _).mono ?_; rintro e w2 ⟨rfl, hb2⟩
 obtain ⟨W3, HW3⟩ := Nh (w2.alloc (.cells #[.string (ofL (List.replicate (fil (raw x.ep x.n r).length) 0 ++ l)), .bool false] 162))
 have hb3 : Below w2.heap.size w2 W3 := by rw [← HW3.out]; exact bel1 _ _
 have hr7 : W3.heap[w2.heap.size]? = some (.cells #[.string (ofL (List.replicate (fil (raw x.ep x.n r).length) 0 ++ l)), .bool false] 162 (0, 0)) := by rw [← HW3.out]; exact heap_alloc_last _ _
 have HB3 := Hf (Bu hb2 hb3 Lr)
 have HR7 := Hf hr7
 clear c1 hb2 hb3 hr7
 go_upto_region 2 with fail
 rw [HW3.out]; clear HW3
 go_wp2_with fail
 refine (c2 _).mono ?_; rintro e w4 ⟨rfl, hb4⟩
 have HB4 := Hf (Bu HB3.out hb4 Lr)
 obtain ⟨⟨_, q1⟩, _⟩ := row2 (Br HR7.out hb4)
 clear c2 hb4 HB3
 go_wp2_with fail
 refine (c3 _).mono ?_; rintro e w5 ⟨rfl, hb5⟩
 obtain ⟨W6, HW6⟩ := Nh (w5.alloc (.cells #[.string (ofL (enc (x.n : Int) ++ kb r)), .bool false] 162))
 have hb6 : Below w5.heap.size w5 W6 := by rw [← HW6.out]; exact bel1 _ _
 have hr8 : W6.heap[w5.heap.size]? = some (.cells #[.string (ofL (enc (x.n : Int) ++ kb r)), .bool false] 162 (0, 0)) := by rw [← HW6.out]; exact heap_alloc_last _ _
 have HB6 := Hf (Bu HB4.out (Bu hb5 hb6 Lr) Lr)
 obtain ⟨b8, hb8⟩ := Nq (w5.heap.size)
 have h8w : W1.heap.size ≤ b8 := by rw [← hb8]; exact Nat.le_trans HB4.out.size hb5.size
 rw [hb8] at hr8
 have HR8 := Hf hr8
 have HBE := Hf hb8
 have H8W := Hf h8w
 obtain ⟨⟨y0, y1⟩, _⟩ := row2 hr8
 clear c3 hb5 hb6 hr8 hb8 h8w HB4 q1
 go_upto_region 6 with fail
 rw [HW6.out]
 try rw [HBE.out]
 clear HW6 HBE
 go_wp2_with fail
 refine (c4 _).mono ?_; rintro e w7 ⟨rfl, hb7⟩
 have hr8 := Br HR8.out hb7
 obtain ⟨⟨y0, y1⟩, yf⟩ := row2 hr8
 have yf0 := yf 0
 have yf1 := yf 1
 obtain ⟨W8, hW8⟩ := Nq (st2 w7 b8 (.string (ofL (kb r))) (.bool false))
 obtain ⟨p1, p2, p3⟩ := put2' (.string (ofL (kb r))) (.bool false) hr8
 have hB8 := below2' (v0 := .string (ofL (kb r))) (v1 := .bool false) (Bu HB6.out hb7 Lr) H8W.out
 rw [hW8] at p1 hB8
 have HR9 := Hf p1
 have HB8 := Hf hB8
 unfold st2 at hW8
 have HW8 := Hf hW8
 clear c4 hb7 hr8 yf p1 p2 p3 hB8 hW8 HR8 HB6
 go_upto_region 7 with fail
 rw [HW8.out]; clear HW8 y0 y1 yf0 yf1
 obtain ⟨⟨y0, y1⟩, _⟩ := row2 HR9.out
 obtain ⟨⟨_, _, _, _, _, k5, _, k7, k8, k9, k10, k11, _⟩, _⟩ := rowD (Br HR0.out HB8.out)
 go_wp2_with fail
 refine (c5 _).mono ?_; rintro e w9 ⟨rfl, hb9⟩
 have HB9 := Hf (Bu HB8.out hb9 Lr)
 have HR9b := Hf (Br HR9.out hb9)
 clear c5 hb9 y0 y1 k5 k7 k8 k9 k10 k11
 obtain ⟨⟨y0, y1⟩, _⟩ := row2 HR9b.out
 obtain ⟨⟨_, _, _, _, _, _, _, _, k8, k9, k10, k11, _⟩, _⟩ := rowD (Br HR0.out HB9.out)
 have hBw9 := Bu HB1.out HB9.out Lr
 have c6 := ddo_any (HX.out.keep hBw9) (fun j hj => Nat.lt_of_lt_of_le (HLT.out j hj) hBw9.size) HOK.out r HR.out
 obtain ⟨d2, hd2⟩ := Nq (redo x.a r)
 rw [hd2] at c6
 have HDD := Hf hd2
 clear hd2
 go_wp2_with fail
 refine c6.mono ?_; rintro e w10 ⟨a2, c2, rfl, hx2, hk2, hb10⟩
 obtain ⟨W11, HW11⟩ := Nh (w10.alloc (.cells #[.int .i64 d2.p.i, .int .i64 d2.p.t, .int .i64 d2.base, .slice a2 d2.l.length c2] 39))
 have hb11 : Below w10.heap.size w10 W11 := by rw [← HW11.out]; exact bel1 _ _
 have hr11 : W11.heap[w10.heap.size]? = some (.cells #[.int .i64 d2.p.i, .int .i64 d2.p.t, .int .i64 d2.base, .slice a2 d2.l.length c2] 39 (0, 0)) := by rw [← HW11.out]; exact heap_alloc_last _ _
 have hB11 := Bu HB9.out (Bu hb10 hb11 Lr) Lr
 have hRv := Br HR1.out hB11
 obtain ⟨b9, hb9⟩ := Nq (w10.heap.size)
 rw [hb9] at hr11
 obtain ⟨⟨t0, t1, t2, t3⟩, _⟩ := row4 hr11
 obtain ⟨⟨m0, m1, m2, m3⟩, mf⟩ := row4 hRv
 have mf0 := mf 0
 have mf1 := mf 1
 have mf2 := mf 2
 have mf3 := mf 3
 obtain ⟨W12, hW12⟩ := Nq (Na.put4 W11 (w.heap.size + 1) (.int .i64 d2.p.i) (.int .i64 d2.p.t) (.int .i64 d2.base) (.slice a2 d2.l.length c2))
 have hR12 := Na.put4_row hRv (.int .i64 d2.p.i) (.int .i64 d2.p.t) (.int .i64 d2.base) (.slice a2 d2.l.length c2)
 have hB12 := Na.put4_bel (Bu HB1.out hB11 Lr) (show w.heap.size ≤ w.heap.size + 1 by omega) (.int .i64 d2.p.i) (.int .i64 d2.p.t) (.int .i64 d2.base) (.slice a2 d2.l.length c2)
 have hO12 : ∀ k, k ≠ w.heap.size + 1 → W12.heap[k]? = W11.heap[k]? := fun k hk => by rw [← hW12]; exact Na.put4_oth hk _ _ _ _
 have hS12 : W12.heap.size = W11.heap.size := by rw [← hW12]; simp [Na.put4]
 rw [hW12] at hR12 hB12
 have hw1 : w.heap.size + 2 ≤ w9.heap.size := by
  have h1 := (Array.getElem?_eq_some_iff.1 HR1.out).1
  have := HB9.out.size
  omega
 have HFIN : Hid (NxY w H.ad (redo x.a r) z (.returned (.tuple #[Na.aV d2 a2 c2, .int .i64 z, .bool true])) W12) := Hf (by
  rw [HDD.out]
  exact ⟨a2, c2, rfl, hx2.keepBut (fun k hk hb => (hO12 k (fun e => by
   rcases (hk2 k hb).1 with h | h
   ·have := HLT.out k h; omega
   ·omega)).trans (hb11.block k hk)), fun j hj => ⟨(hk2 j hj).1.imp id (fun h => by omega), by rw [hS12]; exact Nat.lt_of_lt_of_le (hk2 j hj).2 hb11.size⟩, hB12⟩)
 have HR12 := Hf hR12
 unfold Na.put4 at hW12
 have HW12 := Hf hW12
 have HBE := Hf hb9
 clear c6 hb10 hb11 hr11 hB11 hRv hb9 mf hR12 hB12 hO12 hS12 hx2 hk2 hW12 hw1 hBw9 y0 y1 k8 k9 k10 k11
 go_upto_region 11 with fail
 rw [HW11.out]
 try rw [HBE.out]
 clear HW11 HBE
 have n1 : decide (z * 64 + l.length < z * 64) = false := decide_eq_false (by omega)
 have n2 : ¬ (z * 64 + l.length < z * 64) := by omega
 have n3 : z * 64 ≤ z * 64 + l.length := by omega
 have n4 : ((z : Int) * 64) / 64 = (z : Int) := by omega
 go_wp2; rw [HW12.out]
 refine bodyPost_ret (v := .tuple #[Na.aV d2 a2 c2, .int .i64 z, .bool true]) ?_ rfl HFIN.out
 exact Na.res31_3 f43_res _ _ (w.heap.size + 1) _ _ _ _ rfl HR12.out
def NxN (w : World) (H : Hx) (x : X) (e : Ending) (w' : World) : Prop := e = .returned (.tuple #[Na.aV x.a H.ad H.c, .int .i64 0, .bool false]) ∧ Below w.heap.size w w'
theorem dnext_no (k : Nat) (hk : k ≤ 300000) : Calls Tryz.prog 43 #[.agg (dvv H D x), .string (ofL (List.replicate k 0))] w (NxN w H x) := by
 obtain ⟨W1, HW1⟩ := Nh ((w.alloc (.cells (dvv H D x) 41)).alloc (.cells #[.int .i64 0, .int .i64 0, .int .i64 0, .slice none 0 0] 39))
 have hr0 : W1.heap[w.heap.size]? = some (.cells (dvv H D x) 41 (0, 0)) := by rw [← HW1.out]; exact heap_alloc2_old w _ _
 have hr1 : W1.heap[w.heap.size + 1]? = some (.cells #[.int .i64 0, .int .i64 0, .int .i64 0, .slice none 0 0] 39 (0, 0)) := by rw [← HW1.out]; exact heap_alloc2_new w _ _
 have hb1 : Below w.heap.size w W1 := by rw [← HW1.out]; exact bel2 w _ _
 have HR0 := Hf hr0
 have HR1 := Hf hr1
 have HB1 := Hf hb1
 clear hr0 hr1 hb1
 have c1 := fun W => Nc.takeText_any (List.replicate k 0) false W (by rw [List.length_replicate]; omega)
 have HT : Hid (∃ (q : Bool) (l : List UInt8), Nc.RV (Nc.nx (Nc.M.text (List.replicate k 0))) = .agg #[.string (ofL l), .bool q] ∧ Nc.vl [] (Nc.M.text (List.replicate k 0)) = []) := Hf (by
  cases k with
  | zero => exact ⟨true, [], rfl, rfl⟩
  | succ k =>
   have : Nc.M.text (List.replicate (k + 1) 0) = some ([], List.replicate k 0) := by
    rw [List.replicate_succ]
    exact Nc.M.text_enc [] (List.replicate k 0) (by simp)
   rw [this]
   exact ⟨false, List.replicate k 0, rfl, rfl⟩)
 obtain ⟨q, l, e1, e2⟩ := HT.out
 rw [e1, e2] at c1
 have c2 := fun W => Ns.refOpen_any (ofL []) W (by rw [Ns.M.ofL_size]; simp)
 have e3 : Ns.openOut (ofL []) = (ByteArray.empty, 2) := rfl
 rw [e3] at c2; clear e1 e2 e3 HT
 change ∀ W, Calls Tryz.prog 93 #[.agg #[.string (ofL (List.replicate k 0)), .bool false]] W fun x w' => x = .returned (.tuple #[.agg #[.string (ofL l), .bool q], .string (ofL [])]) ∧ Below W.heap.size W w' at c1
 go_enter Tryz.func43, Tryz.ntmps43
 go_upto_region 1 with fail
 rw [HW1.out]; clear HW1
 go_wp2_with fail
 refine (c1 _).mono ?_; rintro e w2 ⟨rfl, hb2⟩
 obtain ⟨W3, HW3⟩ := Nh (w2.alloc (.cells #[.string (ofL l), .bool q] 162))
 have hb3 : Below w2.heap.size w2 W3 := by rw [← HW3.out]; exact bel1 _ _
 have hr7 : W3.heap[w2.heap.size]? = some (.cells #[.string (ofL l), .bool q] 162 (0, 0)) := by rw [← HW3.out]; exact heap_alloc_last _ _
 have HB3 := Hf (Bu hb2 hb3 Lr)
 have HR7 := Hf hr7
 clear c1 hb2 hb3 hr7
 go_upto_region 2 with fail
 rw [HW3.out]; clear HW3
 go_wp2_with fail
 refine (c2 _).mono ?_; rintro e w4 ⟨rfl, hb4⟩
 have hB4 := Bu HB3.out hb4 Lr
 obtain ⟨⟨_, q1⟩, _⟩ := row2 (Br HR7.out hb4)
 obtain ⟨⟨_, _, _, _, _, _, _, _, k8, k9, k10, k11, _⟩, _⟩ := rowD (Br HR0.out hB4)
 have hRv := Br HR1.out hB4
 obtain ⟨⟨m0, m1, m2, m3⟩, mf⟩ := row4 hRv
 have mf0 := mf 0
 have mf1 := mf 1
 have mf2 := mf 2
 have mf3 := mf 3
 obtain ⟨W12, hW12⟩ := Nq (Na.put4 w4 (w.heap.size + 1) (.int .i64 x.a.p.i) (.int .i64 x.a.p.t) (.int .i64 x.a.base) (.slice H.ad x.a.l.length H.c))
 have hR12 := Na.put4_row hRv (.int .i64 x.a.p.i) (.int .i64 x.a.p.t) (.int .i64 x.a.base) (.slice H.ad x.a.l.length H.c)
 have hB12 := Na.put4_bel (Bu HB1.out hB4 Lr) (show w.heap.size ≤ w.heap.size + 1 by omega) (.int .i64 x.a.p.i) (.int .i64 x.a.p.t) (.int .i64 x.a.base) (.slice H.ad x.a.l.length H.c)
 rw [hW12] at hR12 hB12
 have HFIN : Hid (NxN w H x (.returned (.tuple #[Na.aV x.a H.ad H.c, .int .i64 0, .bool false])) W12) := Hf ⟨rfl, hB12⟩
 have HR12 := Hf hR12
 unfold Na.put4 at hW12
 have HW12 := Hf hW12
 clear c2 hb4 hB4 hRv mf hR12 hB12 hW12
 cases q with
 | true =>
  go_wp2; rw [HW12.out]
  refine bodyPost_ret (v := .tuple #[Na.aV x.a H.ad H.c, .int .i64 0, .bool false]) ?_ rfl HFIN.out
  exact Na.res31_3 f43_res _ _ (w.heap.size + 1) _ _ _ _ rfl HR12.out
 | false =>
  go_wp2; rw [HW12.out]
  refine bodyPost_ret (v := .tuple #[Na.aV x.a H.ad H.c, .int .i64 0, .bool false]) ?_ rfl HFIN.out
  exact Na.res31_3 f43_res _ _ (w.heap.size + 1) _ _ _ _ rfl HR12.out
end
end Go.Proofs.YtlnedgjikkhplaaGreat.Du
namespace Go.Proofs.YtlnedgjikkhplaaGreat.Du
open Go.RowKit
open Na (Fr AS XL vl bV vV Hf bel1 bel2 Bu Br row2 row4 blk OwnL AtL)
open Na.M (E V S S0)
open Na (Rw Ti run_appL_ty run_copyL atL_one append_ty)
open Ns.M (ofL)
def tl : Na.Ly ByteArray := ⟨1, fun x => [.string x], fun _ => rfl, fun x v h => by simp at h; subst h; rfl, by decide⟩
theorem tiT : Ti tl 31 9 := ⟨Tryz.underlying31, Tryz.t9, .string ⟨#[]⟩, by kernel_rfl, rfl, rfl, by decide, rfl⟩
theorem getT {w : World} {a : Option Addr} {l : List ByteArray} (h : AtL tl w a l) (j : Nat) (hj : j < l.length) : ∃ b off, a = some ⟨b, off, none⟩ ∧ w.cell? ⟨b, off + j, none⟩ = some (.string l[j]) := by
 obtain ⟨b, off, e, h0⟩ := h j hj
 have := h0 0 (by decide)
 rw [show off + j * tl.n + 0 = off + j by show off + j * 1 + 0 = _; omega] at this
 exact ⟨b, off, e, this⟩
theorem appT {w : World} {base : Nat} {v : Value} {l : List ByteArray} (s : ByteArray) (ho : OwnL tl 9 w base v l) (hb : base ≤ w.heap.size) (hl : l.length + 1 ≤ 1000000) :
  ∃ a' c' w', (∀ ty, (Builtin.append_ #[31, 31] ty #[v, .slice (some ⟨w.heap.size, 0, none⟩) 1 1]).run Tryz.prog (w.alloc (.cells #[.string s] 9)) = .ok (.slice a' (l.length + 1) c') w') ∧ OwnL tl 9 w' base (.slice a' (l.length + 1) c') (l ++ [s]) ∧ Rw w v w' (.slice a' (l.length + 1) c') := by
 obtain ⟨a', c', w4, hrun, ho4, hr4⟩ := run_appL_ty tiT (w.alloc (.cells #[.string s] 9)) base v l [s] w.heap.size 0 1 1 (ho.keep (bel1 w _)) (atL_one (Y := tl) (t := 9) (heap_alloc_last w _)) rfl (by simp; omega) (by simp; omega)
 exact ⟨a', c', w4, hrun, ho4, (Rw.ofBelow _ (bel1 w _)).trans hr4⟩
def tx (r : R) : ByteArray := ofL (kb r)
structure TO (w wr : World) (u : Value) (l : List R) (ad : Option Addr) : Prop where
 o : OwnL tl 9 wr w.heap.size u (l.map tx)
 bel : Below w.heap.size w wr
 ap : ∀ k, blk ad k → u.ownBlock ≠ some k ∧ k < wr.heap.size
section
variable {w wr wr' : World} {u : Value} {l : List R} {ad : Option Addr}
theorem TO.keep (h : TO w wr u l ad) (hb : Below wr.heap.size wr wr') : TO w wr' u l ad :=
 ⟨h.o.keep hb, Bu h.bel hb Lr, fun k hk => ⟨(h.ap k hk).1, Nat.lt_of_lt_of_le (h.ap k hk).2 hb.size⟩⟩
theorem TO.app (h : TO w wr u l ad) (r : R) (hl : l.length + 1 ≤ 100000) : ∃ ua uc a' c' w', u = .slice ua l.length uc ∧ (∀ ty, (Builtin.append_ #[31, 31] ty #[.slice ua l.length uc, .slice (some ⟨wr.heap.size, 0, none⟩) 1 1]).run Tryz.prog (wr.alloc (.cells #[.string (ofL (kb r))] 9)) = .ok (.slice a' (l.length + 1) c') w') ∧ TO w w' (.slice a' (l.length + 1) c') (l ++ [r]) ad ∧ ∀ k, blk ad k → w'.heap[k]? = wr.heap[k]? := by
 obtain ⟨a', c', w', hrun, ho, hrw⟩ := appT (ofL (kb r)) h.o h.bel.size (by rw [List.length_map]; omega)
 obtain ⟨ua, uc, eu, _, _⟩ := h.o.at
 rw [List.length_map] at hrun ho hrw eu
 refine ⟨ua, uc, a', c', w', eu, fun ty => by rw [← eu]; exact hrun ty, ⟨by rw [List.map_append]; exact ho, h.bel.trans (hrw.below (fun k hk => (h.o.lt hk).1) h.bel.size), fun k hk => ⟨fun e => ?_, ?_⟩⟩, fun k hk => ?_⟩
 ·rcases hrw.n k e with h' | h'
  ·exact (h.ap k hk).1 h'
  ·have := (h.ap k hk).2; omega
 ·exact Nat.lt_of_lt_of_le (h.ap k hk).2 hrw.g.size
 ·exact hrw.g.block k (h.ap k hk).2 (fun e => (h.ap k hk).1 e.symm)
def AlO (w : World) (a : S) (e : Ending) (w' : World) : Prop := ∃ ad c, e = .returned (.slice ad (few a).length c) ∧ AtL tl w' ad ((few a).map tx) ∧ (∀ k, blk ad k → w.heap.size ≤ k ∧ k < w'.heap.size) ∧ Below w.heap.size w w'
theorem AlO_of {w0 : World} {a : S} {ua : Option Addr} {uc m : Nat} (hw : Below w0.heap.size w0 w) (h : TO w wr (.slice ua m uc) (few a) ad) (hm : (few a).length = m) : AlO w0 a (.returned (.slice ua m uc)) wr := by
 obtain ⟨a', c, e, hx, hbk⟩ := h.o.at
 rw [List.length_map] at e
 refine ⟨a', c, by rw [e], hx.at', fun k hk => ⟨Nat.le_trans hw.size (hbk k hk).1, (hbk k hk).2.2⟩, Bu hw h.bel Lr⟩
end
def nxB (L : List V) (v : V) (p : Nat) : Bool := match L[p]? with
 | none => false
 | some x => decide (Na.M.cmpE x.b v.b ≤ 0)
theorem nxB_lt {L : List V} {v : V} {p : Nat} (h : p < L.length) : nxB L v p = decide (Na.M.cmpE L[p].b v.b ≤ 0) := by
 unfold nxB; rw [List.getElem?_eq_getElem h]
theorem nxB_ge {L : List V} {v : V} {p : Nat} (h : ¬ p < L.length) : nxB L v p = false := by
 unfold nxB; rw [List.getElem?_eq_none (by omega)]
theorem nxB_yes {L : List V} {v : V} {p : Nat} (h : nxB L v p = true) : p < L.length := by
 by_cases hp : p < L.length
 ·exact hp
 ·rw [nxB_ge hp] at h; cases h
theorem ins_at : ∀ (L : List V) (v : V) (p : Nat), p ≤ L.length → (∀ q, q < p → nxB L v q = true) → nxB L v p = false → ins v L = L.take p ++ v :: L.drop p
 | [], v, p, hp, _, _ => by
  have : p = 0 := by simpa using hp
  subst this
  rfl
 | x :: L, v, 0, _, _, h => by
  have : ¬ Na.M.cmpE x.b v.b ≤ 0 := by
   have h' : decide (Na.M.cmpE x.b v.b ≤ 0) = false := h
   exact of_decide_eq_false h'
  rw [ins, if_neg this]
  rfl
 | x :: L, v, p + 1, hp, hq, h => by
  have h0 : Na.M.cmpE x.b v.b ≤ 0 := by
   have h' : decide (Na.M.cmpE x.b v.b ≤ 0) = true := hq 0 (by omega)
   exact of_decide_eq_true h'
  have ih := ins_at L v p (by simpa using hp) (fun q h' => hq (q + 1) (by omega)) h
  rw [ins, if_pos h0, ih]
  rfl
theorem byB_step (l : List V) (j : Nat) (hj : j < l.length) : byB (l.take (j + 1)) = ins l[j] (byB (l.take j)) := by
 unfold byB; rw [List.take_succ_eq_append_getElem hj, List.foldl_append]
 rfl
theorem byB_len (l : List V) : (byB l).length = l.length := (byB_perm l).length_eq
theorem run_app_none {T t : TypeId} {α : Type} {Y : Na.Ly α} (hT : Ti Y T t) (w : World) (ty : TypeId) (g n c : Nat) (h : n ≤ c) (sp : Option Addr) (c' : Nat) : (Builtin.append_ #[T, T] ty #[.slice (some ⟨g, 0, none⟩) n c, .slice sp 0 c']).run Tryz.prog w = .ok (.slice (some ⟨g, 0, none⟩) n c) w := by
 obtain ⟨inf, z, hi, hz, hsz, hby, hzs⟩ := hT.i
 cases sp with
 | none => simp [Builtin.append_, run_underlying hT.u, sizeOf, typeInfo, hi, Builtin.lenOf, Builtin.firstCells, h, storeCells]
 | some ad =>
  have hl := run_loadCells_list (P := Tryz.prog) w ad [] (by simp)
  simp at hl
  simp [Builtin.append_, run_underlying hT.u, sizeOf, typeInfo, hi, Builtin.lenOf, Builtin.firstCells, hl, h, storeCells]
def Src (w : World) (v : Value) (l : List V) : Prop := (l = [] ∧ ∃ sp c, v = .slice sp 0 c) ∨ ∃ b off c, v = .slice (some ⟨b, off, none⟩) l.length c ∧ AtL vl w (some ⟨b, off, none⟩) l
theorem Src.keep {w w' : World} {v : Value} {l : List V} (h : Src w v l) (hb : Below w.heap.size w w') : Src w' v l := by
 rcases h with h | ⟨b, off, c, e, h⟩
 ·exact .inl h
 ·exact .inr ⟨b, off, c, e, h.keep hb⟩
theorem app2 (w : World) (base : Nat) (v : Value) (P : List V) (x : V) (bx : Nat) (hb : base ≤ w.heap.size) (ho : OwnL vl 48 w base v P) (hx : AtL vl w (some ⟨bx, 0, none⟩) [x]) (src : Value) (q : List V) (hs : Src w src q) (hbx : v.ownBlock ≠ some bx) (hq : ∀ k, (∃ a n c, src = .slice a n c ∧ blk a k) → v.ownBlock ≠ some k) (hl : P.length + q.length ≤ 5000) :
  ∃ a2 c2 w2, (∀ ty, (Builtin.append_ #[37, 37] ty #[v, .slice (some ⟨bx, 0, none⟩) 1 1]).run Tryz.prog w = .ok (.slice a2 (P.length + 1) c2) w2) ∧ Rw w v w2 (.slice a2 (P.length + 1) c2) ∧ ∃ a3 c3 w3, (∀ ty, (Builtin.append_ #[37, 37] ty #[.slice a2 (P.length + 1) c2, src]).run Tryz.prog w2 = .ok (.slice a3 (P.length + 1 + q.length) c3) w3) ∧ OwnL vl 48 w3 base (.slice a3 (P.length + 1 + q.length) c3) (P ++ [x] ++ q) ∧ Rw w v w3 (.slice a3 (P.length + 1 + q.length) c3) := by
 obtain ⟨a2, c2, w2, hr2, ho2, hR2⟩ := run_appL_ty Na.tiV w base v P [x] bx 0 1 1 ho hx rfl hb (by simp; omega)
 simp only [List.length_cons, List.length_nil, Nat.zero_add] at hr2 ho2 hR2
 refine ⟨a2, c2, w2, hr2, hR2, ?_⟩
 have hb2 : base ≤ w2.heap.size := Nat.le_trans hb hR2.g.size
 have hPl : (P ++ [x]).length = P.length + 1 := by simp
 rcases ho2.2 with ⟨hv, hz⟩ | ⟨g2, cap2, cur2, hv, _, _, hc2, _⟩
 ·rw [hPl] at hz; omega
 rw [hPl] at hv hc2
 simp only [Value.slice.injEq, true_and] at hv
 obtain ⟨rfl, rfl⟩ := hv
 rcases hs with ⟨rfl, sp, c, rfl⟩ | ⟨b, off, c, rfl, hat⟩
 ·refine ⟨some ⟨g2, 0, none⟩, c2, w2, fun ty => run_app_none Na.tiV w2 ty g2 (P.length + 1) c2 hc2 sp c, ?_, hR2⟩
  rw [List.append_nil]
  exact ho2
 ·have hat2 : AtL vl w2 (some ⟨b, off, none⟩) q := hat.keepBut (fun k hk hbk => hR2.g.block k hk (fun e => hq k ⟨_, _, _, rfl, hbk⟩ e.symm))
  obtain ⟨a3, c3, w3, hr3, ho3, hR3⟩ := run_appL_ty Na.tiV w2 base (.slice (some ⟨g2, 0, none⟩) (P.length + 1) c2) (P ++ [x]) q b off c q.length ho2 hat2 rfl hb2 (by rw [hPl]; omega)
  rw [hPl] at hr3 ho3 hR3
  exact ⟨a3, c3, w3, hr3, ho3, hR2.trans hR3⟩
def InsRun (wd : World) (l : List V) (p : Nat) (x : V) (v0 src : Value) : Prop :=
 (∃ a1 c1 w1, (∀ ty, (Builtin.append_ #[37, 37] ty #[.slice none 0 0, v0]).run Tryz.prog wd = .ok (.slice a1 p c1) w1) ∧ Below wd.heap.size wd w1 ∧ ∃ a2 c2 w2, (∀ ty, (Builtin.append_ #[37, 37] ty #[.slice a1 p c1, .slice (some ⟨w1.heap.size, 0, none⟩) 1 1]).run Tryz.prog (w1.alloc (.cells #[.int .i64 x.s, .int .i64 x.b.i, .int .i64 x.b.t, .string x.v] 48)) = .ok (.slice a2 (p + 1) c2) w2) ∧ Below wd.heap.size wd w2 ∧ ∃ a3 c3 w3, (∀ ty, (Builtin.append_ #[37, 37] ty #[.slice a2 (p + 1) c2, src]).run Tryz.prog w2 = .ok (.slice a3 (l.length + 1) c3) w3) ∧ OwnL vl 48 w3 wd.heap.size (.slice a3 (l.length + 1) c3) (l.take p ++ [x] ++ l.drop p) ∧ Below wd.heap.size wd w3) ∧
 (∃ a1 c1 w1, (∀ ty, (Builtin.append_ #[37, 37] ty #[.slice none 0 0, v0]).run Tryz.prog (wd.alloc (.cells #[.int .i64 x.s, .int .i64 x.b.i, .int .i64 x.b.t, .string x.v] 48)) = .ok (.slice a1 p c1) w1) ∧ Below wd.heap.size wd w1 ∧ ∃ a2 c2 w2, (∀ ty, (Builtin.append_ #[37, 37] ty #[.slice a1 p c1, .slice (some ⟨wd.heap.size, 0, none⟩) 1 1]).run Tryz.prog w1 = .ok (.slice a2 (p + 1) c2) w2) ∧ Below wd.heap.size wd w2 ∧ ∃ a3 c3 w3, (∀ ty, (Builtin.append_ #[37, 37] ty #[.slice a2 (p + 1) c2, src]).run Tryz.prog w2 = .ok (.slice a3 (l.length + 1) c3) w3) ∧ OwnL vl 48 w3 wd.heap.size (.slice a3 (l.length + 1) c3) (l.take p ++ [x] ++ l.drop p) ∧ Below wd.heap.size wd w3)
theorem ins_run (wd : World) (l : List V) (p : Nat) (hp : p ≤ l.length) (x : V) (a : Option Addr) (cap : Nat) (hx : XL vl wd a cap (l.take p)) (src : Value) (hs : Src wd src (l.drop p)) (hsb : ∀ q, (∃ a n c, src = .slice a n c ∧ blk a q) → q < wd.heap.size) (hl : l.length ≤ 2000) : InsRun wd l p x (.slice a p cap) src := by
 have htl : (l.take p).length = p := by rw [List.length_take]; omega
 have hdl : p + 1 + (l.drop p).length = l.length + 1 := by rw [List.length_drop]; omega
 have hone : ∀ W : World, AtL vl (W.alloc (.cells #[.int .i64 x.s, .int .i64 x.b.i, .int .i64 x.b.t, .string x.v] 48)) (some ⟨W.heap.size, 0, none⟩) [x] := fun W => atL_one (t := 48) (heap_alloc_last W _)
 constructor
 ·obtain ⟨a1, c1, w1, hr1, ho1, hb1⟩ := run_copyL Na.tiV wd 0 a cap (l.take p) hx (by omega)
  rw [htl] at hr1 ho1
  refine ⟨a1, c1, w1, fun ty => (append_ty _ _ _ ty 0).trans hr1, hb1, ?_⟩
  have hbx := bel1 w1 (.cells #[.int .i64 x.s, .int .i64 x.b.i, .int .i64 x.b.t, .string x.v] 48)
  obtain ⟨a2, c2, w2, hr2, hR2, g3, c3, w3, hr3, ho3, hR⟩ := app2 (w1.alloc (.cells #[.int .i64 x.s, .int .i64 x.b.i, .int .i64 x.b.t, .string x.v] 48)) wd.heap.size (.slice a1 p c1) (l.take p) x w1.heap.size (by have := hb1.size; simp; omega) (ho1.keep hbx) (hone w1) src (l.drop p) ((hs.keep hb1).keep hbx) (fun e => by have := (ho1.lt e).2; omega) (fun q hq e => by have := hsb q hq; have := (ho1.lt e).1; omega) (by rw [htl, List.length_drop]; omega)
  rw [htl] at hr2; rw [htl, hdl] at hr3 ho3 hR
  refine ⟨a2, c2, w2, hr2, (Bu hb1 hbx Lr).trans (hR2.below (fun q hq => (ho1.lt hq).1) (by have := hb1.size; simp; omega)), g3, c3, w3, hr3, ho3, ?_⟩
  exact (Bu hb1 hbx Lr).trans (hR.below (fun q hq => (ho1.lt hq).1) (by have := hb1.size; simp; omega))
 ·have hbx := bel1 wd (.cells #[.int .i64 x.s, .int .i64 x.b.i, .int .i64 x.b.t, .string x.v] 48)
  obtain ⟨a1, c1, w1, hr1, ho1, hb1⟩ := run_copyL Na.tiV (wd.alloc (.cells #[.int .i64 x.s, .int .i64 x.b.i, .int .i64 x.b.t, .string x.v] 48)) 0 a cap (l.take p) (hx.keep hbx) (by omega)
  rw [htl] at hr1 ho1
  refine ⟨a1, c1, w1, fun ty => (append_ty _ _ _ ty 0).trans hr1, Bu hbx hb1 Lr, ?_⟩
  have hbw := Bu hbx hb1 Lr
  have hsz : (wd.alloc (.cells #[.int .i64 x.s, .int .i64 x.b.i, .int .i64 x.b.t, .string x.v] 48)).heap.size = wd.heap.size + 1 := by simp
  obtain ⟨a2, c2, w2, hr2, hR2, g3, c3, w3, hr3, ho3, hR⟩ := app2 w1 wd.heap.size (.slice a1 p c1) (l.take p) x wd.heap.size hbw.size (ho1.low (by omega)) ((hone wd).keep hb1) src (l.drop p) (hs.keep hbw) (fun e => by have := (ho1.lt e).1; omega) (fun q hq e => by have := hsb q hq; have := (ho1.lt e).1; omega) (by rw [htl, List.length_drop]; omega)
  rw [htl] at hr2; rw [htl, hdl] at hr3 ho3 hR
  refine ⟨a2, c2, w2, hr2, hbw.trans (hR2.below (fun q hq => by have := (ho1.lt hq).1; omega) hbw.size), g3, c3, w3, hr3, ho3, ?_⟩
  exact hbw.trans (hR.below (fun q hq => by have := (ho1.lt hq).1; omega) hbw.size)
end Go.Proofs.YtlnedgjikkhplaaGreat.Du
