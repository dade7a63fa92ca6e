import Derived.Test.YtlnedgjikkhplaaGreatGP19
set_option maxRecDepth 100000
set_option maxHeartbeats 8000000
set_option linter.unusedVariables false
set_option linter.unusedSimpArgs false
namespace Go.Proofs.YtlnedgjikkhplaaGreat.Du
open Go.RowKit
open Na (Fr AS XL vl bV vV Hf bel1 bel2 Bu Br row2 row4 blk OwnL AtL)
open Na.M (E V S S0)
open Ns.M (ofL)
open Nc (RS)
open Na (Rw)
theorem hi97 : Tryz.prog.info? 97 = some Tryz.t97 := by kernel_rfl
theorem tiR : Na.Ti rl 93 97 := ⟨Tryz.underlying93, Tryz.t97, .agg #[.int .i64 0, .int .i64 0, .int .i64 0, .int .i64 0, .string ⟨#[]⟩, .int .i64 0], hi97, rfl, rfl, by decide, rfl⟩
theorem appR {w : World} {base : Nat} {v : Value} {l : List R} (x : R) (ho : OwnL rl 97 w base v l) (hb : base ≤ w.heap.size) (hl : l.length + 1 ≤ 1000000) :
  ∃ a' c' w', (∀ ty, (Builtin.append_ #[93, 93] ty #[v, .slice (some ⟨w.heap.size, 0, none⟩) 1 1]).run Tryz.prog (w.alloc (.cells #[.int .i64 (rk x), .int .i64 (rsl x), .int .i64 (ri x), .int .i64 (rt x), .string (rvv x), .int .i64 (ru x)] 97)) = .ok (.slice a' (l.length + 1) c') w') ∧ OwnL rl 97 w' base (.slice a' (l.length + 1) c') (l ++ [x]) ∧ Rw w v w' (.slice a' (l.length + 1) c') := by
 obtain ⟨a', c', w4, hrun, ho4, hr4⟩ := Na.run_appL_ty tiR (w.alloc (.cells #[.int .i64 (rk x), .int .i64 (rsl x), .int .i64 (ri x), .int .i64 (rt x), .string (rvv x), .int .i64 (ru x)] 97)) base v l [x] w.heap.size 0 1 1 (ho.keep (bel1 w _)) (Na.atL_one (t := 97) (heap_alloc_last w _)) rfl (by simp; omega) (by simp; omega)
 exact ⟨a', c', w4, hrun, ho4, (Rw.ofBelow _ (bel1 w _)).trans hr4⟩
def sln : Value → Nat
 | .slice _ n _ => n
 | _ => 0
theorem recs_drop (e : Nat) (l : List R) (j : Nat) (hj : j < l.length) : recs e j (l.drop j) = rec e j l[j] ++ recs e (j + 1) (l.drop (j + 1)) := by
 rw [List.drop_eq_getElem_cons hj, recs]
theorem secs_step (e : Nat) (l : List R) (j : Nat) (hj : j < l.length) : secs e 0 (l.take (j + 1)) = secs e 0 (l.take j) + sec e j l[j] := by
 rw [List.take_succ_eq_append_getElem hj, secs_app, List.length_take, Nat.min_eq_left (by omega), Nat.zero_add, secs, secs, Nat.add_zero]
theorem secs_split (e : Nat) (l : List R) (j : Nat) (hj : j ≤ l.length) : secs e 0 l = secs e 0 (l.take j) + secs e j (l.drop j) := by
 have h := secs_app e (l.take j) (l.drop j) 0
 rw [List.take_append_drop, List.length_take, Nat.min_eq_left hj, Nat.zero_add] at h
 exact h
theorem recordsOf_any (e : Nat) (rs : List R) (m : Nat) (w : World) (he : e ≤ 2147483648) (hwf : ∀ r ∈ rs, Wf r) (hl : rs.length ≤ 10000) (hm : m % 64 = 0) (hlen : secs e 0 rs * 64 + m ≤ 900000) :
  Calls Tryz.prog 38 #[.string (ofL (recs e 0 rs ++ List.replicate m 0)), .int .i64 e] w fun x w' => ∃ ad c, x = .returned (.tuple #[.slice ad rs.length c, .int .i64 (secs e 0 rs : Nat)]) ∧ XL rl w' ad c rs ∧ (∀ k, blk ad k → w.heap.size ≤ k ∧ k < w'.heap.size) ∧ Below w.heap.size w w' := by
 have hrl := recs_len e rs 0
 have hnr := Nc.newReader_any (recs e 0 rs ++ List.replicate m 0) w (by rw [List.length_append, List.length_replicate]; omega)
 have hsz : (ofL (recs e 0 rs ++ List.replicate m 0)).size = secs e 0 rs * 64 + m := by rw [Ns.M.ofL_size, List.length_append, List.length_replicate, hrl]
 have HWF := Hf hwf
 clear hwf hrl
 have hnr' : Calls Tryz.prog 89 #[.string (ofL (recs e 0 rs ++ List.replicate m 0))] w (Nc.NewR w (recs e 0 rs ++ List.replicate m 0)) := hnr
 clear hnr
 generalize hT : ofL (recs e 0 rs ++ List.replicate m 0) = T at *
 clear hT
 go_enter Tryz.func38, Tryz.ntmps38
 go_wp2_with fail
 refine hnr'.mono ?_; rintro e1 w1 ⟨rb, rfl, hrb, hq1, hb1⟩
 have HQ1 := Hf hq1
 have HB1 := Hf hb1
 have hlt1 := hq1.lt
 have HB1' : Hid (w.heap.size ≤ w1.heap.size) := hb1.size
 clear hnr' hq1 hb1; go_wp2
 go_loopw [6, 7] (fun u6 u7 wr => ∃ j : Nat, j ≤ rs.length ∧ OwnL rl 97 wr w1.heap.size u6 (rs.take j) ∧ u7 = .int .i64 (secs e 0 (rs.take j) : Nat) ∧ RS wr rb (some (recs e j (rs.drop j) ++ List.replicate m 0)) ∧ Below w.heap.size w wr ∧ w1.heap.size ≤ wr.heap.size) (fun u6 _ _ => rs.length - sln u6)
 case atStart => exact ⟨0, Nat.zero_le _, OwnL.nil _ _ _, rfl, HQ1.out, HB1.out, Nat.le_refl _⟩
 case round =>
  obtain ⟨j, hj, ho, rfl, hq, hbl, hsw⟩ := hrel
  clear HQ1 HB1
  obtain ⟨a1, cap1, hv1, hx1, hbk1⟩ := ho.at
  have hlj : (rs.take j).length = j := by simp; omega
  rw [hlj] at hv1; subst hv1
  by_cases hlt : j < rs.length
  ·have hsp := secs_split e rs (j + 1) hlt
   have hst := secs_step e rs j hlt
   have hdl := recs_len e (rs.drop (j + 1)) (j + 1)
   have hll : (recs e (j + 1) (rs.drop (j + 1)) ++ List.replicate m 0).length = secs e (j + 1) (rs.drop (j + 1)) * 64 + m := by rw [List.length_append, List.length_replicate, hdl]
   rw [recs_drop e rs j hlt, List.append_assoc] at hq
   have hrd := readRecord_yes e j rs[j] rb _ wr hq he (by omega) (HWF.out _ (List.getElem_mem hlt)) (by rw [hll]; omega) (by rw [hll]; omega)
   have HT : Hid (rs.take (j + 1) = rs.take j ++ [rs[j]]) := Hf (List.take_succ_eq_append_getElem hlt)
   have HRA := Hf (fun (w : World) (v : Value) (l : List R) (ho : OwnL rl 97 w w1.heap.size v l) => appR rs[j] ho)
   have HO := Hf ho
   have HBL := Hf hbl
   have HLL := Hf hll
   rw [rV, rcs_six] at hrd
   generalize rs[j] = X at *
   generalize rk X = z0 at *
   generalize rsl X = z1 at *
   generalize ri X = z2 at *
   generalize rt X = z3 at *
   generalize rvv X = z4 at *
   generalize ru X = z5 at *
   have hrbn : ∀ k, (Value.slice a1 j cap1).ownBlock = some k → k ≠ rb := fun k hk => by have := (HO.out.lt hk).1; omega
   have HNB := Hf hrbn
   clear ho hbl hx1 hbk1 hq hll hdl hrbn HWF
   go_wp2_with fail
   refine hrd.mono ?_; rintro e1 w2 ⟨rfl, q2, g2⟩
   have ho2 := HO.out.keepBut (w1 := w2) (fun k hk hk2 => g2.block k hk (fun e => HNB.out k hk2 (by cases e; rfl)))
   have hb2 : Below w.heap.size w w2 := HBL.out.trans (Nc.below_grown g2 HBL.out.size (fun k e => by cases e; exact hrb))
   have hs2 : w1.heap.size ≤ w2.heap.size := Nat.le_trans hsw g2.size
   obtain ⟨W3, HW3⟩ := Nh (w2.alloc (.cells #[.int .i64 z0, .int .i64 z1, .int .i64 z2, .int .i64 z3, .string z4, .int .i64 z5] 97))
   have hb3 : Below w2.heap.size w2 W3 := by rw [← HW3.out]; exact bel1 w2 _
   have hr3 : W3.heap[w2.heap.size]? = some (.cells #[.int .i64 z0, .int .i64 z1, .int .i64 z2, .int .i64 z3, .string z4, .int .i64 z5] 97 (0, 0)) := by rw [← HW3.out]; exact heap_alloc_last w2 _
   obtain ⟨⟨c0, c1, c2, c3, c4, c5⟩, _⟩ := row6 hr3
   obtain ⟨a', c', w4, hrun, ho4, hr4⟩ := HRA.out W3 _ _ (ho2.keep hb3) (by have := hb3.size; omega) (by rw [hlj]; omega)
   rw [hlj] at hrun ho4 hr4
   have hfr : Below w1.heap.size W3 w4 := hr4.below (fun k hk => (HO.out.lt hk).1) (by have := hb3.size; omega)
   have hq4 : RS w4 rb (some (recs e (j + 1) (rs.drop (j + 1)) ++ List.replicate m 0)) := Nc.RS.keep (Nc.RS.below q2 hb3) (hfr.block rb hlt1)
   have hlf := Nc.rleft_any rb _ w4 hq4
   have elf : ((Nc.lft (some (recs e (j + 1) (rs.drop (j + 1)) ++ List.replicate m 0))).length : Nat) = secs e (j + 1) (rs.drop (j + 1)) * 64 + m := HLL.out
   rw [elf] at hlf
   have HB4 : Hid (Below w.heap.size w w4) := (Bu hb2 hb3 Lr).trans (hfr.mono (by have := HBL.out.size; omega))
   have HS4 : Hid (w1.heap.size ≤ w4.heap.size) := Nat.le_trans hs2 (Nat.le_trans hb3.size hfr.size)
   have HQ4 := Hf hq4
   have HO4 := Hf ho4
   have HF : Hid (wrap64 ((wrap64 (((secs e 0 rs : Nat) : Int) * 64 + (m : Int) - ((secs e (j + 1) (rs.drop (j + 1)) * 64 + m : Nat) : Int))).tdiv 64) = ((secs e 0 (rs.take (j + 1)) : Nat) : Int)) := by
    show wrap64 _ = _
    rw [show ((secs e 0 rs : Nat) : Int) * 64 + (m : Int) - ((secs e (j + 1) (rs.drop (j + 1)) * 64 + m : Nat) : Int) = ((secs e 0 (rs.take (j + 1)) * 64 : Nat) : Int) by omega]
    rw [IntWalk.wrap64_in (((secs e 0 (rs.take (j + 1)) * 64 : Nat) : Int)) (by omega), Int.tdiv_eq_ediv_of_nonneg (by omega), IntWalk.wrap64_in _ (by omega)]
    omega
   have hub : secs e 0 (rs.take (j + 1)) * 64 ≤ 900000 := by omega
   clear hrd q2 g2 ho2 hb2 hb3 hr3 ho4 hr4 hfr hq4 elf HO HBL HRA HNB HLL hsp hst
   generalize secs e (j + 1) (rs.drop (j + 1)) * 64 + m = LF at *
   go_upto_region 5 with fail
   rw [HW3.out]; clear HW3
   go_wp2_with (at_builtin; refine Na.wpList_append_known rfl _ _ 93 rfl _ _ rfl rfl _ _ (hrun _) ?_)
   clear hrun c0 c1 c2 c3 c4 c5
   go_wp2_with fail
   refine hlf.mono ?_; rintro e1 w5 ⟨rfl, rfl⟩
   clear hlf; go_wp2
   go_roundw
   case rel => exact ⟨j + 1, by omega, by rw [HT.out]; exact HO4.out, congrArg (Value.int .i64) HF.out, HQ4.out, HB4.out, HS4.out⟩
   case measure => simp [sln]; omega
  ·obtain rfl : j = rs.length := by omega
   rw [List.drop_length, recs, List.nil_append] at hq; rw [List.take_length] at ho hx1
   have hrd := readRecord_no e rs.length rb m wr hq (by omega)
   have HO := Hf ho
   have HBL := Hf hbl
   have hrbn : ∀ k, (Value.slice a1 rs.length cap1).ownBlock = some k → k ≠ rb := fun k hk => by have := (HO.out.lt hk).1; omega
   have HNB := Hf hrbn
   have HTL : Hid (secs e 0 (rs.take rs.length) = secs e 0 rs) := by show secs e 0 (rs.take rs.length) = _; rw [List.take_length]
   clear ho hbl hx1 hbk1 hq hrbn HWF; rw [HTL.out]; clear HTL
   go_wp2_with fail
   refine hrd.mono ?_; rintro e1 w2 ⟨rfl, g2⟩
   have ho2 := HO.out.keepBut (w1 := w2) (fun k hk hk2 => g2.block k hk (fun e => HNB.out k hk2 (by cases e; rfl)))
   have hb2 : Below w.heap.size w w2 := HBL.out.trans (Nc.below_grown g2 HBL.out.size (fun k e => by cases e; exact hrb))
   obtain ⟨a2, c2, ev, hx2, hbk2⟩ := ho2.at
   have hnb : ∀ o k, blk a2 k → w.heap.size ≤ k ∧ k < (w2.alloc o).heap.size := fun o k hk => by
    obtain ⟨h1, _, h2⟩ := hbk2 k hk
    have := HB1'.out
    simp
    omega
   have HX := Hf (fun o => And.intro ev (And.intro (hx2.keep (bel1 w2 o)) (And.intro (hnb o) (Bu hb2 (bel1 w2 o) Lr))))
   clear hrd g2 ho2 hb2 ev hx2 HO HBL HNB hbk2 hnb; go_wp2
   go_ret2
   obtain ⟨ev, hx, hn, hb⟩ := HX.out _
   exact ⟨a1, cap1, rfl, by cases ev; exact hx, by cases ev; exact hn, hb⟩
end Go.Proofs.YtlnedgjikkhplaaGreat.Du
namespace Go.Proofs.YtlnedgjikkhplaaGreat.Ns
open Go.RowKit
open M (ofL ofL_size ofL_of)
def nxN (P : List M.Pl) (body : List UInt8) : List M.Pl := M.flush (M.wr P (((rdP (P.take 8)).1 + 1) % 2 * 4) (ofL (Sp.pk body ((rdP (P.take 8)).1 + 1))) 4)
def nxt (P : List M.Pl) (body : List UInt8) : List M.Pl := M.flush (M.wr P (((rdP P).1 + 1) % 2 * 4) (ofL (Sp.pk body ((rdP P).1 + 1))) 4)
theorem write_code (n g : Nat) (h8 : 8 ≤ n) (b : ByteArray) (P : List M.Pl) (hb : b.size ≤ 244) :
  (ofL (Sp.pk b.data.toList g)).size = 256 ∧ M.wcode n false ((g % 2 * 4 : Nat) : Int) (ofL (Sp.pk b.data.toList g)) = 0 ∧ M.wrote n false P ((g % 2 * 4 : Nat) : Int) (ofL (Sp.pk b.data.toList g)) = M.wr P (g % 2 * 4) (ofL (Sp.pk b.data.toList g)) 4 := by
 have hs : (ofL (Sp.pk b.data.toList g)).size = 256 := by rw [ofL_size, Sp.pk_len _ _ (by rw [len_data]; exact hb)]
 have hc : M.wcode n false ((g % 2 * 4 : Nat) : Int) (ofL (Sp.pk b.data.toList g)) = 0 := by
  unfold M.wcode; rw [hs]
  have hm : g % 2 < 2 := Nat.mod_lt _ (by omega)
  rw [decide_eq_true (show 256 % 64 = 0 from rfl)]
  show M.refused n false ((g % 2 * 4 : Nat) : Int) ((256 / 64 : Nat) : Int) = 0
  unfold M.refused; rw [decide_eq_false (show ¬ (((g % 2 * 4 : Nat) : Int) < 0) by omega), decide_eq_false (show ¬ (((256 / 64 : Nat) : Int) < 1) by omega), decide_eq_false (show ¬ (((g % 2 * 4 : Nat) : Int) > (n : Int) - ((256 / 64 : Nat) : Int)) by omega)]
  rfl
 refine ⟨hs, hc, ?_⟩
 unfold M.wrote; rw [hc, hs, Int.toNat_natCast]
 rfl
section
variable {w0 w : World} {b n : Nat} {F : Nat → Prop} {P : List M.Pl}
theorem DS.swrite (h : DS w0 w b F n P false) (h8 : 8 ≤ n) (body : ByteArray) (hb : body.size ≤ 244) (hg : (rdP (P.take 8)).1 < 2147483647) :
  Calls Tryz.prog 75 #[.pointer (some ⟨b, 0, none⟩), .string body] w fun e w' => ∃ G, e = .returned (.int .i64 0) ∧ DS w0 w' b G n (nxN P body.data.toList) false ∧ Ch w F w' G := by
 have hr := h.sread h8
 have HN : Hid (nxN P body.data.toList = M.flush (M.wr P (((rdP (P.take 8)).1 + 1) % 2 * 4) (ofL (Sp.pk body.data.toList ((rdP (P.take 8)).1 + 1))) 4)) := rfl
 have hw := write_code n ((rdP (P.take 8)).1 + 1) h8 body P hb
 have c1 := fun W => pack_any body (((rdP (P.take 8)).1 + 1 : Nat) : Int) W (by unfold maxLen; omega)
 have ep : pcode body (((rdP (P.take 8)).1 + 1 : Nat) : Int) = 0 ∧ ptext body (((rdP (P.take 8)).1 + 1 : Nat) : Int) = ofL (Sp.pk body.data.toList ((rdP (P.take 8)).1 + 1)) := by
  rcases pcode_cases body (((rdP (P.take 8)).1 + 1 : Nat) : Int) with ⟨h1, e1, e2⟩ | ⟨h1, h2, e1, e2⟩ | ⟨h1, h2, e1, e2⟩
  ·omega
  ·omega
  ·exact ⟨e1, e2⟩
 rw [ep.1, ep.2] at c1
 have c2 := fun W => placeOf_any ((rdP (P.take 8)).1 + 1) (by omega) W
 have hrc : (rdP (P.take 8)).1 = 0 ∧ rcode (rdP (P.take 8)) = 7 ∨ ¬ (rdP (P.take 8)).1 = 0 ∧ rcode (rdP (P.take 8)) = 0 := by
  unfold rcode
  by_cases h0 : (rdP (P.take 8)).1 = 0
  ·left; exact ⟨h0, by rw [decide_eq_true h0]; rfl⟩
  ·right; exact ⟨h0, by rw [decide_eq_false h0]; rfl⟩
 obtain ⟨hz, hc, he⟩ := hw
 have c3 : ∀ W, Below w.heap.size w W → Calls Tryz.prog 71 #[.pointer (some ⟨b, 0, none⟩), .int .i64 (((rdP (P.take 8)).1 + 1) % 2 * 4 : Nat), .string (ofL (Sp.pk body.data.toList ((rdP (P.take 8)).1 + 1)))] W fun e w' => ∃ G, e = .returned (.int .i64 0) ∧ DS w0 w' b G n (M.wr P (((rdP (P.take 8)).1 + 1) % 2 * 4) (ofL (Sp.pk body.data.toList ((rdP (P.take 8)).1 + 1))) 4) false ∧ Ch w F w' G := by
  intro W hW
  refine ((h.keep hW).write _ _ (by rw [hz]; omega)).mono ?_; rintro e w' ⟨G, h1, h2, h3⟩
  rw [hc] at h1; rw [he] at h2
  exact ⟨G, h1, h2, (Ch.ofBelow hW).trans h3⟩
 have HC3 := Hf c3
 clear ep h hz hc he c3
 generalize ofL (Sp.pk body.data.toList ((rdP (P.take 8)).1 + 1)) = T at *
 generalize ofL (rdP (P.take 8)).2 = B at *
 generalize rcode (rdP (P.take 8)) = rc at *
 generalize (rdP (P.take 8)).1 = g at *
 have d3 : decide ((244 : Int) < (body.size : Int)) = false := decide_eq_false (by omega)
 have d4 : ((g : Int) == 2147483647) = false := by rw [beq_eq_false_iff_ne]; omega
 rw [show ((g + 1 : Nat) : Int) = (g : Int) + 1 by omega] at c1 c2
 rcases hrc with ⟨-, rfl⟩ | ⟨-, rfl⟩
 all_goals
  go_enter Tryz.func75, Tryz.ntmps75
  go_wp2_with fail
  refine hr.mono ?_; rintro e w1 ⟨rfl, hb1⟩
  have HB1 := Hf hb1
  clear hr hb1
  go_wp2_with fail
  refine (c1 _).mono ?_; rintro e w2 ⟨rfl, hb2⟩
  have HB2 := Hf (Bu HB1.out hb2 Lr)
  clear c1 hb2 HB1
  go_wp2_with fail
  refine (c2 _).mono ?_; rintro e w3 ⟨rfl, rfl⟩
  clear c2
  have hc3 := HC3.out _ HB2.out
  rw [show (((g + 1) % 2 * 4 : Nat) : Int) = (((g + 1) % 2 : Nat) : Int) * 4 by omega] at hc3
  clear HC3
  go_wp2_with fail
  refine hc3.mono ?_; rintro e w4 ⟨G4, rfl, S4, C4⟩
  have hf := S4.flush
  have HC4 := Hf C4
  clear hc3 S4 C4 HB2
  go_wp2_with fail
  refine hf.mono ?_; rintro e w5 ⟨G5, rfl, S5, C5⟩
  have HS5 := Hf S5
  have HC5 := Hf (HC4.out.trans C5)
  clear hf S5 C5 HC4; go_wp2
  go_ret
  rw [HN.out]
  exact ⟨G5, rfl, HS5.out, HC5.out⟩
end
def fl (L : List ByteArray) : List UInt8 := L.flatMap fun s => s.data.toList
def plc (P : List M.Pl) (k : Nat) : List UInt8 := fl (((P.map M.last).drop (k * 4)).take 4)
theorem last_64 {P : List M.Pl} (h : M.Ok P) : ∀ s ∈ P.map M.last, s.size = 64 := fun s hs => by
 obtain ⟨p, hp, rfl⟩ := List.mem_map.1 hs
 exact h.last p hp
theorem both_parts {P : List M.Pl} (hl : P.length = 8) (h : M.Ok P) : (both P).take 256 = plc P 0 ∧ (both P).drop 256 = plc P 1 := by
 have h64 := last_64 h
 have e : both P = fl ((P.map M.last).take 4) ++ fl ((P.map M.last).drop 4) := by
  unfold both M.cat fl; rw [ofL_data, ← List.flatMap_append, List.take_append_drop]
 have el : (fl ((P.map M.last).take 4)).length = 256 := by
  unfold fl; rw [M.flat_len _ (fun s hs => h64 s (List.mem_of_mem_take hs)), List.length_take, List.length_map, hl]
  rfl
 rw [e, List.take_left' el, List.drop_left' el]
 refine ⟨rfl, ?_⟩
 show fl ((P.map M.last).drop 4) = fl (((P.map M.last).drop 4).take 4)
 rw [List.take_of_length_le (l := (P.map M.last).drop 4) (by rw [List.length_drop, List.length_map, hl]; omega)]
theorem rdP_eq {P : List M.Pl} (hl : P.length = 8) (h : M.Ok P) : rdP P = bif decide ((Sp.sa 0 (plc P 0)).1 < (Sp.sa 1 (plc P 1)).1) then Sp.sa 1 (plc P 1) else Sp.sa 0 (plc P 0) := by
 unfold rdP Sp.rd; rw [(both_parts hl h).1, (both_parts hl h).2]
theorem rdP_max {P : List M.Pl} (hl : P.length = 8) (h : M.Ok P) (k : Nat) (hk : k < 2) : (Sp.sa k (plc P k)).1 ≤ (rdP P).1 := by
 rw [rdP_eq hl h]
 cases hd : decide ((Sp.sa 0 (plc P 0)).1 < (Sp.sa 1 (plc P 1)).1)
 ·simp only [decide_eq_false_iff_not] at hd
  rcases (show k = 0 ∨ k = 1 by omega) with rfl | rfl
  ·exact Nat.le_refl _
  ·show _ ≤ (Sp.sa 0 (plc P 0)).1; omega
 ·simp only [decide_eq_true_iff] at hd
  rcases (show k = 0 ∨ k = 1 by omega) with rfl | rfl
  ·show _ ≤ (Sp.sa 1 (plc P 1)).1; omega
  ·exact Nat.le_refl _
theorem rdP_of {P : List M.Pl} (hl : P.length = 8) (h : M.Ok P) (k j : Nat) (hk : k < 2) (hj : j < 2) (hkj : k ≠ j) (hlt : (Sp.sa j (plc P j)).1 < (Sp.sa k (plc P k)).1) : rdP P = Sp.sa k (plc P k) := by
 rw [rdP_eq hl h]
 rcases (show k = 0 ∧ j = 1 ∨ k = 1 ∧ j = 0 by omega) with ⟨rfl, rfl⟩ | ⟨rfl, rfl⟩
 ·rw [decide_eq_false (by omega)]; rfl
 ·rw [decide_eq_true hlt]; rfl
theorem four_parts (l : List UInt8) (h : l.length = 256) : l.take 64 ++ ((l.drop 64).take 64 ++ ((l.drop 128).take 64 ++ (l.drop 192).take 64)) = l := by
 have e3 : (l.drop 192).take 64 = l.drop 192 := List.take_of_length_le (by rw [List.length_drop]; omega)
 have e2 : (l.drop 128).take 64 ++ l.drop 192 = l.drop 128 := by
  have := List.take_append_drop 64 (l.drop 128)
  rwa [List.drop_drop] at this
 have e1 : (l.drop 64).take 64 ++ l.drop 128 = l.drop 64 := by
  have := List.take_append_drop 64 (l.drop 64)
  rwa [List.drop_drop] at this
 rw [e3, e2, e1, List.take_append_drop]
theorem pc_list (s : ByteArray) (k : Nat) (h : k * 64 + 64 ≤ s.size) : (M.pc s k).data.toList = (s.data.toList.drop (k * 64)).take 64 := by
 unfold M.pc; rw [extract_list _ _ _ h, Nat.add_sub_cancel_left]
theorem fl_pc (s : ByteArray) (h : s.size = 256) : fl [M.pc s 0, M.pc s 1, M.pc s 2, M.pc s 3] = s.data.toList := by
 unfold fl
 simp only [List.flatMap_cons, List.flatMap_nil, List.append_nil]
 rw [pc_list s 0 (by omega), pc_list s 1 (by omega), pc_list s 2 (by omega), pc_list s 3 (by omega)]
 exact four_parts s.data.toList (by rw [len_data, h])
theorem wr_last (P : List M.Pl) (at' : Nat) (s : ByteArray) (h : s.size = 256) : (M.wr P at' s 4).map M.last = ((((P.map M.last).set at' (M.pc s 0)).set (at' + 1) (M.pc s 1)).set (at' + 2) (M.pc s 2)).set (at' + 3) (M.pc s 3) := by
 simp only [M.wr]
 rw [M.st_last _ _ _ (M.pc_size s 3 (by omega)), M.st_last _ _ _ (M.pc_size s 2 (by omega)), M.st_last _ _ _ (M.pc_size s 1 (by omega)), M.st_last _ _ _ (M.pc_size s 0 (by omega))]
 rfl
theorem wr_get (P : List M.Pl) (at' : Nat) (s : ByteArray) (i : Nat) (h : i < at' ∨ at' + 4 ≤ i) : (M.wr P at' s 4)[i]? = P[i]? := by
 simp only [M.wr, M.st]
 rw [List.getElem?_set_ne (by omega), List.getElem?_set_ne (by omega), List.getElem?_set_ne (by omega), List.getElem?_set_ne (by omega)]
theorem wr_ok {P : List M.Pl} (h : M.Ok P) (at' : Nat) (s : ByteArray) (hs : s.size = 256) (ha : at' + 4 ≤ P.length) : M.Ok (M.wr P at' s 4) := by
 simp only [M.wr]
 have h0 := M.st_ok h (at' + 0) (M.pc s 0) (by omega) (M.pc_size s 0 (by omega))
 have h1 := M.st_ok h0 (at' + 1) (M.pc s 1) (by rw [M.st_len]; omega) (M.pc_size s 1 (by omega))
 have h2 := M.st_ok h1 (at' + 2) (M.pc s 2) (by rw [M.st_len, M.st_len]; omega) (M.pc_size s 2 (by omega))
 exact M.st_ok h2 (at' + 3) (M.pc s 3) (by rw [M.st_len, M.st_len, M.st_len]; omega) (M.pc_size s 3 (by omega))
theorem list8 {α : Type} (L : List α) (h : L.length = 8) : ∃ a0 a1 a2 a3 a4 a5 a6 a7, L = [a0, a1, a2, a3, a4, a5, a6, a7] := by
 match L, h with
 | [a0, a1, a2, a3, a4, a5, a6, a7], _ => exact ⟨a0, a1, a2, a3, a4, a5, a6, a7, rfl⟩
theorem plc_wr {P : List M.Pl} (hl : P.length = 8) (k j : Nat) (hk : k < 2) (hj : j < 2) (hkj : k ≠ j) (s : ByteArray) (h : s.size = 256) : plc (M.wr P (k * 4) s 4) k = s.data.toList ∧ plc (M.wr P (k * 4) s 4) j = plc P j := by
 unfold plc; rw [wr_last P (k * 4) s h]
 obtain ⟨a0, a1, a2, a3, a4, a5, a6, a7, e⟩ := list8 (P.map M.last) (by rw [List.length_map, hl])
 rw [e]
 rcases (show k = 0 ∧ j = 1 ∨ k = 1 ∧ j = 0 by omega) with ⟨rfl, rfl⟩ | ⟨rfl, rfl⟩
 ·exact ⟨(congrArg fl (by simp)).trans (fl_pc s h), congrArg fl (by simp)⟩
 ·exact ⟨(congrArg fl (by simp)).trans (fl_pc s h), congrArg fl (by simp)⟩
theorem plc_flush (P : List M.Pl) (k : Nat) : plc (M.flush P) k = plc P k := by
 unfold plc; rw [M.flush_last]
theorem rd_nxt {P : List M.Pl} (hl : P.length = 8) (h : M.Ok P) (body : List UInt8) (hb : body.length ≤ 244) (hg : (rdP P).1 < 2147483647) : rdP (nxt P body) = ((rdP P).1 + 1, body) := by
 obtain ⟨g, hg'⟩ : ∃ g, (rdP P).1 = g := ⟨_, rfl⟩
 have hs : (ofL (Sp.pk body (g + 1))).size = 256 := by rw [ofL_size, Sp.pk_len _ _ hb]
 obtain ⟨k, hk⟩ := Nq ((g + 1) % 2)
 obtain ⟨j, hj⟩ := Nq (g % 2)
 have hm := rdP_max hl h j (by omega)
 unfold nxt; rw [hg'] at hg hm ⊢
 have ho := Sp.ok_pk body (g + 1) hb (by omega) (by omega)
 rw [hk] at ho ⊢
 have hq := plc_wr hl k j (by omega) (by omega) (by omega) (ofL (Sp.pk body (g + 1))) hs
 rw [ofL_data] at hq
 have h1 : M.Ok (M.flush (M.wr P (k * 4) (ofL (Sp.pk body (g + 1))) 4)) := M.flush_ok (wr_ok h _ _ hs (by omega))
 have h2 : (M.flush (M.wr P (k * 4) (ofL (Sp.pk body (g + 1))) 4)).length = 8 := by rw [M.flush_len, M.wr_len, hl]
 rw [rdP_of h2 h1 k j (by omega) (by omega) (by omega)]
 ·rw [plc_flush, hq.1, ho.2]
 ·rw [plc_flush, plc_flush, hq.1, hq.2, ho.2]
  show _ < g + 1
  omega
theorem rd_new : rdP (new 8) = (0, []) := by
 have hl : (new 8).length = 8 := new_len 8
 have h : plc (new 8) 0 = List.replicate 256 0 ∧ plc (new 8) 1 = List.replicate 256 0 := by
  constructor <;> decide +kernel
 rw [rdP_eq hl (new_ok 8), h.1, h.2, Sp.sa_zero 0 _ (by decide +kernel), Sp.sa_zero 1 _ (by decide +kernel)]
 rfl
end Go.Proofs.YtlnedgjikkhplaaGreat.Ns
namespace Go.Proofs.YtlnedgjikkhplaaGreat.Du
open Na.M (E V S S0)
open Ns (fl)
open Ns.M (ofL Pl last lse flush wr st pc crash)
theorem fl_app (L Q : List ByteArray) : fl (L ++ Q) = fl L ++ fl Q := by simp [fl]
theorem fl_len {L : List ByteArray} (h : ∀ s ∈ L, s.size = 64) : (fl L).length = L.length * 64 := Ns.M.flat_len L h
theorem fl_take {L : List ByteArray} (h : ∀ s ∈ L, s.size = 64) (j : Nat) : fl (L.take j) = (fl L).take (j * 64) := by
 rcases Nat.lt_or_ge L.length j with hj | hj
 ·rw [List.take_of_length_le (by omega), List.take_of_length_le (by rw [fl_len h]; omega)]
 ·have e : fl L = fl (L.take j) ++ fl (L.drop j) := by rw [← fl_app, List.take_append_drop]
  rw [e, List.take_left' (by rw [fl_len (fun s hs => h s (List.mem_of_mem_take hs)), List.length_take, Nat.min_eq_left hj])]
theorem fl_drop {L : List ByteArray} (h : ∀ s ∈ L, s.size = 64) (j : Nat) : fl (L.drop j) = (fl L).drop (j * 64) := by
 rcases Nat.lt_or_ge L.length j with hj | hj
 ·rw [List.drop_of_length_le (by omega), List.drop_of_length_le (by rw [fl_len h]; omega)]
  rfl
 ·have e : fl L = fl (L.take j) ++ fl (L.drop j) := by rw [← fl_app, List.take_append_drop]
  rw [e, List.drop_left' (by rw [fl_len (fun s hs => h s (List.mem_of_mem_take hs)), List.length_take, Nat.min_eq_left hj])]
def pcs (s : ByteArray) : Nat → List ByteArray
 | 0 => []
 | k + 1 => pcs s k ++ [pc s k]
theorem pcs_len (s : ByteArray) : ∀ k, (pcs s k).length = k
 | 0 => rfl
 | k + 1 => by rw [pcs, List.length_append, pcs_len s k]; rfl
theorem pcs_64 (s : ByteArray) : ∀ k, k * 64 ≤ s.size → ∀ p ∈ pcs s k, p.size = 64
 | 0, _, p, hp => by simp [pcs] at hp
 | k + 1, h, p, hp => by
  rw [pcs, List.mem_append] at hp
  rcases hp with hp | hp
  ·exact pcs_64 s k (by omega) p hp
  ·rw [List.mem_singleton.1 hp]; exact Ns.M.pc_size s k (by omega)
theorem fl_pcs (s : ByteArray) : ∀ k, k * 64 ≤ s.size → fl (pcs s k) = s.data.toList.take (k * 64)
 | 0, _ => by simp [pcs, fl]
 | k + 1, h => by
  have hp := Ns.pc_list s k (by omega)
  rw [pcs, fl_app, fl_pcs s k (by omega)]
  have : fl [pc s k] = (s.data.toList.drop (k * 64)).take 64 := by
   rw [← hp]; simp [fl]
  rw [this, show (k + 1) * 64 = k * 64 + 64 by omega, List.take_add]
theorem set_mid {α : Type} (A B : List α) (x y : α) (D : List α) : (A ++ (B ++ (y :: D))).set (A.length + B.length) x = A ++ ((B ++ [x]) ++ D) := by
 rw [← List.append_assoc, List.set_append_right _ _ (by simp), List.length_append, Nat.sub_self, List.set_cons_zero]
 simp
theorem wr_lastL (P : List Pl) (a : Nat) (s : ByteArray) : ∀ k, k * 64 ≤ s.size → a + k ≤ P.length → (wr P a s k).map last = (P.map last).take a ++ (pcs s k ++ (P.map last).drop (a + k))
 | 0, _, h => by
  show P.map last = _
  simp [pcs]
 | k + 1, hs, h => by
  show (st (wr P a s k) (a + k) (pc s k)).map last = _
  rw [Ns.M.st_last _ _ _ (Ns.M.pc_size s k (by omega)), wr_lastL P a s k (by omega) (by omega)]
  have hl : a + k < (P.map last).length := by rw [List.length_map]; omega
  rw [List.drop_eq_getElem_cons hl]
  have hta : ((P.map last).take a).length = a := by rw [List.length_take, List.length_map]; omega
  have := set_mid ((P.map last).take a) (pcs s k) (pc s k) (P.map last)[a + k] ((P.map last).drop (a + k + 1))
  rw [hta, pcs_len] at this; rw [this]
  rfl
theorem wr_okL {P : List Pl} (h : Ns.M.Ok P) (a : Nat) (s : ByteArray) : ∀ k, k * 64 ≤ s.size → a + k ≤ P.length → Ns.M.Ok (wr P a s k)
 | 0, _, _ => h
 | k + 1, hs, hl => Ns.M.st_ok (wr_okL h a s k (by omega) (by omega)) (a + k) (pc s k) (by rw [Ns.M.wr_len]; omega) (Ns.M.pc_size s k (by omega))
theorem wr_getL (P : List Pl) (a : Nat) (s : ByteArray) (i : Nat) : ∀ k, (i < a ∨ a + k ≤ i) → (wr P a s k)[i]? = P[i]?
 | 0, _ => rfl
 | k + 1, h => by
  show ((wr P a s k).set (a + k) _)[i]? = _
  rw [List.getElem?_set_ne (by omega)]
  exact wr_getL P a s i k (by omega)
theorem wr_take (P : List Pl) (a m : Nat) (s : ByteArray) : ∀ k, a + k ≤ m → (wr P a s k).take m = wr (P.take m) a s k
 | 0, _ => rfl
 | k + 1, h => by
  have ih := wr_take P a m s k (by omega)
  show ((wr P a s k).set (a + k) (((wr P a s k)[a + k]?.getD (Ns.M.E, Ns.M.E)).1, pc s k)).take m = (wr (P.take m) a s k).set (a + k) (((wr (P.take m) a s k)[a + k]?.getD (Ns.M.E, Ns.M.E)).1, pc s k)
  rw [List.take_set, ih, ← ih, List.getElem?_take, if_pos (by omega)]
theorem wr_take_out (P : List Pl) (a m : Nat) (s : ByteArray) (k : Nat) (h : m ≤ a) : (wr P a s k).take m = P.take m := by
 apply List.ext_getElem?
 intro i; rw [List.getElem?_take, List.getElem?_take]
 split
 ·exact wr_getL P a s i k (by omega)
 ·rfl
theorem flush_take (P : List Pl) (m : Nat) : (flush P).take m = flush (P.take m) := by
 unfold flush; rw [List.map_take]
def arT (n : Nat) (P : List Pl) (k : Nat) : List UInt8 := fl (((P.map last).drop (8 + k * hf n)).take (hf n))
theorem arT_flush (n : Nat) (P : List Pl) (k : Nat) : arT n (flush P) k = arT n P k := by
 unfold arT; rw [Ns.M.flush_last]
theorem hf_le (n : Nat) (h : 8 ≤ n) : 8 + 2 * hf n ≤ n := by unfold hf; omega
theorem mul_le1 {k h : Nat} (hk : k ≤ 1) : k * h + h ≤ 2 * h := by
 rcases (show k = 0 ∨ k = 1 by omega) with rfl | rfl <;> omega
theorem arT_wr {n : Nat} {P : List Pl} (hl : P.length = n) (hok : Ns.M.Ok P) (h8 : 8 ≤ n) (k u z : Nat) (hk : k ≤ 1) (s : ByteArray) (hs : s.size = z * 64) (hu : u + z ≤ hf n) :
  arT n (wr P (8 + k * hf n + u) s z) k = (arT n P k).take (u * 64) ++ (s.data.toList ++ (arT n P k).drop ((u + z) * 64)) := by
 have h2 := hf_le n h8
 have h3 := mul_le1 (h := hf n) hk
 have h64 : ∀ q ∈ P.map last, q.size = 64 := Ns.last_64 hok
 unfold arT; rw [wr_lastL P _ s z (by omega) (by omega)]
 have hAb : 8 + k * hf n + hf n ≤ n := by omega
 obtain ⟨A, hA⟩ := Nq (8 + k * hf n)
 rw [hA] at hAb ⊢; clear hA
 have e1 : ((P.map last).take (A + u) ++ (pcs s z ++ (P.map last).drop (A + u + z))).drop A = ((P.map last).drop A).take u ++ (pcs s z ++ (P.map last).drop (A + u + z)) := by
  rw [List.drop_append_of_le_length (by rw [List.length_take, List.length_map]; omega), List.drop_take, Nat.add_sub_cancel_left]
 have e2 : (((P.map last).drop A).take u).length = u := by rw [List.length_take, List.length_drop, List.length_map]; omega
 have e3 : (((P.map last).drop A).take u ++ (pcs s z ++ (P.map last).drop (A + u + z))).take (hf n) = ((P.map last).drop A).take u ++ (pcs s z ++ ((P.map last).drop (A + u + z)).take (hf n - u - z)) := by
  rw [List.take_append, e2, List.take_of_length_le (l := ((P.map last).drop A).take u) (by omega), List.take_append, pcs_len, List.take_of_length_le (l := pcs s z) (by rw [pcs_len]; omega)]
 rw [e1, e3, fl_app, fl_app, fl_pcs s z (by omega)]
 have h64a : ∀ q ∈ ((P.map last).drop A).take (hf n), q.size = 64 := fun q hq => h64 q (List.mem_of_mem_drop (List.mem_of_mem_take hq))
 have e4 : ((P.map last).drop A).take u = (((P.map last).drop A).take (hf n)).take u := by rw [List.take_take, Nat.min_eq_left (by omega)]
 have e5 : ((P.map last).drop (A + u + z)).take (hf n - u - z) = (((P.map last).drop A).take (hf n)).drop (u + z) := by
  rw [List.drop_take, List.drop_drop, show hf n - (u + z) = hf n - u - z by omega, show A + (u + z) = A + u + z by omega]
 rw [e4, e5, fl_take h64a, fl_drop h64a, List.take_of_length_le (l := s.data.toList) (by show s.size ≤ _; omega)]
theorem arT_same {n : Nat} {P Q : List Pl} (k : Nat) (h : ∀ i, 8 + k * hf n ≤ i → i < 8 + k * hf n + hf n → Q[i]? = P[i]?) : arT n Q k = arT n P k := by
 unfold arT
 congr 1
 apply List.ext_getElem?
 intro i; rw [List.getElem?_take, List.getElem?_take]
 split
 ·rw [List.getElem?_drop, List.getElem?_drop, List.getElem?_map, List.getElem?_map, h _ (by omega) (by omega)]
 ·rfl
theorem take_same {P Q : List Pl} (m : Nat) (h : ∀ i, i < m → Q[i]? = P[i]?) : Q.take m = P.take m := by
 apply List.ext_getElem?
 intro i; rw [List.getElem?_take, List.getElem?_take]
 split
 ·exact h i (by omega)
 ·rfl
structure Gd (n : Nat) (P : List Pl) (x : X) (rs : List R) : Prop where
 n10 : 10 ≤ n
 nle : n ≤ 4096
 len : P.length = n
 ok : Ns.M.Ok P
 ar : x.ar ≤ 1
 st : Ns.rdP (P.take 8) = (x.ep, bif decide (x.ep = 0) then [] else [UInt8.ofNat x.ar])
 a0 : x.ep = 0 → x.ar = 0
 wf : ∀ r ∈ rs, Wf r
 cn : x.n = rs.length
 us : x.us = secs x.ep 0 rs
 le : x.us ≤ hf n
 mk' : mk rs = x.a
 tx : arT n P x.ar = recs x.ep 0 rs ++ List.replicate ((hf n - x.us) * 64) 0
 nl : ∀ i p, (i < 8 ∨ (8 + x.ar * hf n ≤ i ∧ i < 8 + x.ar * hf n + hf n)) → P[i]? = some p → lse p = false
 cl : x.cut = false → ∀ p ∈ P, lse p = false
section
variable {n : Nat} {P : List Pl} {x : X} {rs : List R}
theorem Gd.ep (h : Gd n P x rs) : x.ep ≤ 2147483647 := by
 have hp := Ns.rd_par (Ns.both (P.take 8))
 have e : Ns.Sp.rd (Ns.both (P.take 8)) = (x.ep, bif decide (x.ep = 0) then [] else [UInt8.ofNat x.ar]) := h.st
 rw [e] at hp
 rcases hp with ⟨h1, _⟩ | ⟨_, h1, _⟩ <;> simp only at h1 <;> omega
theorem Gd.nn (h : Gd n P x rs) : x.n ≤ 2044 := by
 have h1 := secs_ge x.ep rs 0
 have h2 := h.us
 have h3 := h.le
 have h4 := h.cn
 have h5 := h.nle
 unfold hf at h3
 omega
theorem Gd.aok (h : Gd n P x rs) : Na.M.Ok x.a ∧ Vd x.a := by
 rw [← h.mk']
 exact ⟨mk_ok rs, mk_vd rs⟩
theorem Gd.crash (h : Gd n P x rs) (keep : Nat) : Gd n (Ns.M.crash P keep 0) { x with cut := false } rs := by
 obtain ⟨c1, c2, c3⟩ := Ns.M.crash_spec h.ok keep 0
 have hs : ∀ i, (i < 8 ∨ (8 + x.ar * hf n ≤ i ∧ i < 8 + x.ar * hf n + hf n)) → (Ns.M.crash P keep 0)[i]? = P[i]? := by
  intro i hi; unfold Ns.M.crash
  refine Ns.M.crs_other _ _ _ _ _ _ _ fun hm => ?_
  obtain ⟨h3, h4⟩ := Ns.M.mem_lo.1 hm
  rw [h.nl i _ hi (List.getElem?_eq_getElem h3)] at h4
  cases h4
 refine ⟨h.n10, h.nle, by rw [c1, h.len], c2, h.ar, ?_, h.a0, h.wf, h.cn, h.us, h.le, h.mk', ?_, fun i p hi hp => c3 p (List.mem_of_getElem? hp), fun _ => c3⟩
 ·rw [take_same 8 fun i hi => hs i (.inl hi)]
  exact h.st
 ·rw [arT_same x.ar fun i h1 h2 => hs i (.inr ⟨h1, h2⟩)]
  exact h.tx
def addP (n : Nat) (P : List Pl) (x : X) (r : R) : List Pl := flush (wr P (8 + x.ar * hf n + x.us) (ofL (Du.rec x.ep x.n r)) (sec x.ep x.n r))
def addX (x : X) (r : R) : X := { x with n := x.n + 1, us := x.us + sec x.ep x.n r, a := redo x.a r }
theorem Gd.add (h : Gd n P x rs) (r : R) (hr : Wf r) (hf' : sec x.ep x.n r ≤ hf n - x.us) : Gd n (addP n P x r) (addX x r) (rs ++ [r]) := by
 have hle := h.le
 have hn := h.n10
 have hz : (ofL (Du.rec x.ep x.n r)).size = sec x.ep x.n r * 64 := by rw [Ns.M.ofL_size, rec_len]
 have h2 := hf_le n (by omega)
 have h3 := mul_le1 (h := hf n) h.ar
 have hl := h.len
 have hw := arT_wr h.len h.ok (by omega) x.ar x.us (sec x.ep x.n r) h.ar (ofL (Du.rec x.ep x.n r)) hz (by omega)
 refine ⟨h.n10, h.nle, by unfold addP; rw [Ns.M.flush_len, Ns.M.wr_len, h.len], Ns.M.flush_ok (wr_okL h.ok _ _ _ (by omega) (by omega)), h.ar, ?_, h.a0, ?_, ?_, ?_, ?_, ?_, ?_, ?_, ?_⟩
 ·unfold addP
  rw [flush_take, wr_take_out _ _ _ _ _ (by omega), ← flush_take]
  have hfl : (flush P).take 8 = flush (P.take 8) := flush_take P 8
  have : Ns.rdP ((flush P).take 8) = Ns.rdP (P.take 8) := by
   unfold Ns.rdP Ns.both; rw [flush_take, Ns.M.flush_last]
  rw [this]
  exact h.st
 ·intro q hq
  rcases List.mem_append.1 hq with hq | hq
  ·exact h.wf q hq
  ·rw [List.mem_singleton.1 hq]; exact hr
 ·show x.n + 1 = _
  rw [List.length_append, h.cn]
  rfl
 ·show x.us + sec x.ep x.n r = secs x.ep 0 (rs ++ [r])
  rw [secs_app, ← h.us, Nat.zero_add, ← h.cn]
  rfl
 ·show x.us + sec x.ep x.n r ≤ hf n
  omega
 ·show Du.mk (rs ++ [r]) = redo x.a r
  rw [mk_snoc, h.mk']
 ·show arT n (addP n P x r) x.ar = recs x.ep 0 (rs ++ [r]) ++ List.replicate ((hf n - (x.us + sec x.ep x.n r)) * 64) 0
  unfold addP
  have hrl : (recs x.ep 0 rs).length = x.us * 64 := by rw [recs_len, h.us]
  rw [arT_flush, hw, h.tx, List.take_left' hrl, Ns.ofL_data, recs_app, Nat.zero_add, ← h.cn, List.drop_append, List.drop_of_length_le (by omega), List.nil_append, List.drop_replicate, hrl]; rw [show (hf n - x.us) * 64 - ((x.us + sec x.ep x.n r) * 64 - x.us * 64) = (hf n - (x.us + sec x.ep x.n r)) * 64 by omega]
  rw [recs, recs, List.append_nil, List.append_assoc]
 ·intro i p _ hp
  exact Ns.M.flush_lse _ p (List.mem_of_getElem? hp)
 ·intro _ p hp
  exact Ns.M.flush_lse _ p hp
end
end Go.Proofs.YtlnedgjikkhplaaGreat.Du
