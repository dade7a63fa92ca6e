/-
  A record is read.
  The records that an area begins with.
  A state is written to a device.
-/
import Derived.Test.YtlnedgjikkhplaaGreatGL26
import Derived.Test.YtlnedgjikkhplaaGreatGL20
section
namespace Go.Proofs.YtlnedgjikkhplaaGreat.Du
open Go.RowKit
set_option linter.unusedVariables false
set_option linter.unusedSimpArgs false
open Na (Fr AS XL vl bV vV Hid_of bel1 bel2 bel_up bel_row row2 row4 blk OwnL AtL)
open Na.M (E V S S0)

open Ns.M (ofL)
open Nc (RS)
open Nc.M (enc encT)
/-- How much a reader has left, off memory. -/
def mlen (rb : Nat) (w : World) : Nat := match w.cell? ⟨rb, 0, none⟩ with | some (.string s) => s.size | _ => 0
theorem mlen_rs {w : World} {rb : Nat} {l : List UInt8} (h : RS w rb (some l)) : mlen rb w = l.length := by
  unfold mlen
  rw [Nc.RIs.c0 h]
  exact Ns.M.ofL_size l
theorem gr_set {w w5 : World} {r : Option Nat} (h : w.grownBy w5 r) (g j : Nat) (v : Value) (hg : w.heap.size ≤ g) : w.grownBy (w5.setCell ⟨g, j, none⟩ v) r :=
  ⟨h.os, h.tape, h.output, by have := h.size; simp; omega, fun k hk hne => by rw [heap_setCell_other _ ⟨g, j, none⟩ k _ (by simp; omega)]; exact h.block k hk hne⟩
theorem put6_gr {w w5 : World} {r : Option Nat} (h : w.grownBy w5 r) {g : Nat} (hg : w.heap.size ≤ g) (a b c d e f : Value) : w.grownBy (put6 w5 g a b c d e f) r :=
  gr_set (gr_set (gr_set (gr_set (gr_set (gr_set h g 0 a hg) g 1 b hg) g 2 c hg) g 3 d hg) g 4 e hg) g 5 f hg
theorem f90_res : Tryz.f90.results = #[.cell 6 97, .tmp 7] := rfl
theorem fil_len (n : Nat) : (n + fil n) % 64 = 0 := by unfold fil; omega
theorem fil_lt (n : Nat) : fil n < 64 := by unfold fil; omega
theorem rec_split (e k : Nat) (r : R) (l : List UInt8) : rec e k r ++ l = encT (K2.sealed (body e k r)) ++ (List.replicate (fil (raw e k r).length) 0 ++ l) := by
  unfold rec raw
  rw [List.append_assoc]
set_option maxRecDepth 100000 in
set_option maxHeartbeats 4000000 in
theorem readRecord_yes (e k : Nat) (r : R) (rb : Nat) (l : List UInt8) (w : World) (h : RS w rb (some (rec e k r ++ l))) (he : e ≤ 2147483648) (hk : k ≤ 2147483648) (hr : Wf r) (hl : l.length ≤ 900000) (hm : l.length % 64 = 0) :
    Calls Tryz.prog 90 #[ptr rb, .int .i64 e, .int .i64 k] w fun x w' => x = .returned (.tuple #[rV r, .bool true]) ∧ RS w' rb (some l) ∧ w.grownBy w' (some rb) := by
  have hlt := h.lt
  obtain ⟨W1, HW1⟩ : ∃ W1, Hid (w.alloc (.cells #[.int .i64 0, .int .i64 0, .int .i64 0, .int .i64 0, .string ⟨#[]⟩, .int .i64 0] 97) = W1) := ⟨_, Hid_of rfl⟩
  have hb1 : Below w.heap.size w W1 := by rw [← HW1.out]; exact bel1 w _
  have hr1 : W1.heap[w.heap.size]? = some (.cells #[.int .i64 0, .int .i64 0, .int .i64 0, .int .i64 0, .string ⟨#[]⟩, .int .i64 0] 97 (0, 0)) := by rw [← HW1.out]; exact heap_alloc_last w _
  have hh := Nc.RS.below h hb1
  have hbl := body_len e k r he hk hr
  obtain ⟨F, hF⟩ : ∃ F, fil (raw e k r).length = F := ⟨_, rfl⟩
  have hFl : F < 64 := by rw [← hF]; exact fil_lt _
  rw [rec_split, hF] at hh
  have hc := rText (K2.sealed (body e k r)) hh (by rw [sealed_len]; omega) (by rw [List.length_append, List.length_replicate]; omega)
  have ho := fun W => Ns.open_any (ofL (K2.sealed (body e k r))) W (by rw [Ns.M.ofL_size, sealed_len]; omega)
  rw [open_sealed] at ho
  have hbd := fun W => bodyOf_any e k r W he hk hr
  rw [rV, rcs_six] at hbd
  have HRV : Hid (rV r = .agg #[.int .i64 (rk r), .int .i64 (rsl r), .int .i64 (ri r), .int .i64 (rt r), .string (rvv r), .int .i64 (ru r)]) := by show Value.agg (rcs r) = _; rw [rcs_six]
  generalize rV r = RV at *
  generalize rk r = z0 at *
  generalize rsl r = z1 at *
  generalize ri r = z2 at *
  generalize rt r = z3 at *
  generalize rvv r = z4 at *
  generalize ru r = z5 at *
  generalize K2.sealed (body e k r) = SB at *
  generalize body e k r = BB at *
  have HR1 := Hid_of hr1
  have HG1 : Hid (w.grownBy W1 (some rb)) := Nc.grown_below hb1
  clear h hh hr1 hb1 hF he hk hr hbl
  go_enter Tryz.func90, Tryz.ntmps90
  go_upto_region 1 with fail
  rw [HW1.out]
  clear HW1
  go_wp2_with fail
  refine hc.mono ?_
  rintro e1 w2 ⟨rfl, q2, g2⟩
  have HR2 := Hid_of (row_gr HR1.out g2 (by omega))
  have HG2 := Hid_of (Nc.grown_trans HG1.out g2)
  have HQ2 := Hid_of q2
  clear hc q2 g2 HR1 HG1
  go_wp2_with fail
  refine (ho _).mono ?_
  rintro e1 w3 ⟨rfl, hb3⟩
  have HR3 := Hid_of (bel_row HR2.out hb3)
  have HG3 : Hid (w.grownBy w3 (some rb)) := Nc.grown_trans HG2.out (Nc.grown_below hb3)
  have HQ3 := Hid_of (Nc.RS.below HQ2.out hb3)
  clear ho hb3 HR2 HG2 HQ2
  go_wp2
  go_loopw [7] (fun u wr => u = .bool false ∧ ∃ j : Nat, j ≤ F ∧ RS wr rb (some (List.replicate j 0 ++ l)) ∧ wr.heap[w.heap.size]? = some (.cells #[.int .i64 0, .int .i64 0, .int .i64 0, .int .i64 0, .string ⟨#[]⟩, .int .i64 0] 97 (0, 0)) ∧ w.grownBy wr (some rb)) (fun _ wr => mlen rb wr)
  case atStart => exact ⟨rfl, F, Nat.le_refl _, HQ3.out, HR3.out, HG3.out⟩
  case round =>
    obtain ⟨rfl, j, hj, hq, hrw, hg⟩ := hrel
    clear HQ3 HR3 HG3
    have hml := mlen_rs hq
    have hlf := Nc.rleft_any rb _ wr hq
    have el : (Nc.lft (some (List.replicate j 0 ++ l))).length = j + l.length := by show (List.replicate j 0 ++ l).length = _; rw [List.length_append, List.length_replicate]
    rw [el] at hlf
    rw [List.length_append, List.length_replicate] at hml
    clear el
    have HRW := Hid_of hrw
    have HG := Hid_of hg
    have htm : (((j + l.length : Nat) : Int)).tmod 64 = (((j + l.length) % 64 : Nat) : Int) := by rw [Int.tmod_eq_emod_of_nonneg (by omega)]; omega
    have hmd : ((j + l.length : Nat) : Int) % 64 = (((j + l.length) % 64 : Nat) : Int) := by omega
    have hjm : (j + l.length) % 64 = j := by omega
    rw [hjm] at htm hmd
    clear hrw hg hjm
    cases j with
    | zero =>
      simp only [List.replicate_zero, List.nil_append] at hq
      have HQ := Hid_of hq
      clear hq
      rw [Nat.zero_add] at hlf htm hmd
      generalize l.length = ll at *
      simp only [Int.natCast_zero] at htm hmd
      go_wp2_with fail
      refine hlf.mono ?_
      rintro e1 w4 ⟨rfl, rfl⟩
      clear hlf
      go_wp2_with fail
      refine (hbd _).mono ?_
      rintro e1 w5 ⟨rfl, hb5⟩
      have hr5 := bel_row HRW.out hb5
      obtain ⟨_, xf⟩ := row6 hr5
      have x0 := xf 0
      have x1 := xf 1
      have x2 := xf 2
      have x3 := xf 3
      have x4 := xf 4
      have x5 := xf 5
      obtain ⟨⟨k0, k1, k2, k3, k4, k5⟩, _⟩ := row6 hr5
      have HRP := Hid_of (put6_row hr5 (.int .i64 z0) (.int .i64 z1) (.int .i64 z2) (.int .i64 z3) (.string z4) (.int .i64 z5))
      have HQ5 := Hid_of ((Nc.RS.keep (Nc.RS.below HQ.out hb5) (put6_oth (g := w.heap.size) (by omega) (.int .i64 z0) (.int .i64 z1) (.int .i64 z2) (.int .i64 z3) (.string z4) (.int .i64 z5))))
      have HG5 := Hid_of (put6_gr (Nc.grown_trans HG.out (Nc.grown_below (r := some rb) hb5)) (Nat.le_refl _) (.int .i64 z0) (.int .i64 z1) (.int .i64 z2) (.int .i64 z3) (.string z4) (.int .i64 z5))
      clear hbd hb5 hr5 xf HRW HG HQ
      go_wp2
      refine bodyPost_ret (v := .tuple #[.agg #[.int .i64 z0, .int .i64 z1, .int .i64 z2, .int .i64 z3, .string z4, .int .i64 z5], .bool true]) ?_ rfl ⟨by rw [HRV.out], HQ5.out, HG5.out⟩
      exact res97 f90_res _ _ w.heap.size _ _ _ _ _ _ rfl HRP.out
    | succ j =>
      have hne : ((((j + 1 : Nat) : Int)) == 0) = false := by rw [beq_eq_false_iff_ne]; omega
      rw [List.replicate_succ, List.cons_append] at hq
      have hby := rByte 0 hq (by rw [List.length_append, List.length_replicate]; omega)
      rw [show (((0 : UInt8).toNat : Nat) : Int) = 0 from rfl] at hby
      clear hq
      obtain ⟨ll, hll⟩ : ∃ ll, j + 1 + l.length = ll := ⟨_, rfl⟩
      have HLL := Hid_of hll
      rw [hll] at hlf htm hmd
      clear hll
      go_wp2_with fail
      refine hlf.mono ?_
      rintro e1 w4 ⟨rfl, rfl⟩
      clear hlf
      go_wp2_with fail
      refine hby.mono ?_
      rintro e1 w5 ⟨rfl, q5, g5⟩
      have HR5 := Hid_of (row_gr HRW.out g5 (by omega))
      have HG5 := Hid_of (Nc.grown_trans HG.out g5)
      have HM : Hid (mlen rb w5 < mlen rb w4) := by
        show _ < _
        rw [hml, mlen_rs q5, List.length_append, List.length_replicate]
        omega
      have HQ5 := Hid_of q5
      clear hby q5 g5 HRW HG hml
      go_wp2
      go_roundw
      case rel => exact ⟨rfl, j, by omega, HQ5.out, HR5.out, HG5.out⟩
      case measure => exact HM.out
set_option maxRecDepth 100000 in
set_option maxHeartbeats 1000000 in
theorem readRecord_no (e k : Nat) (rb m : Nat) (w : World) (h : RS w rb (some (List.replicate m 0))) (hm : m ≤ 900000) :
    Calls Tryz.prog 90 #[ptr rb, .int .i64 e, .int .i64 k] w fun x w' => x = .returned (.tuple #[.agg #[.int .i64 0, .int .i64 0, .int .i64 0, .int .i64 0, .string ⟨#[]⟩, .int .i64 0], .bool false]) ∧ w.grownBy w' (some rb) := by
  have hlt := h.lt
  obtain ⟨W1, HW1⟩ : ∃ W1, Hid (w.alloc (.cells #[.int .i64 0, .int .i64 0, .int .i64 0, .int .i64 0, .string ⟨#[]⟩, .int .i64 0] 97) = W1) := ⟨_, Hid_of rfl⟩
  have hb1 : Below w.heap.size w W1 := by rw [← HW1.out]; exact bel1 w _
  have hr1 : W1.heap[w.heap.size]? = some (.cells #[.int .i64 0, .int .i64 0, .int .i64 0, .int .i64 0, .string ⟨#[]⟩, .int .i64 0] 97 (0, 0)) := by rw [← HW1.out]; exact heap_alloc_last w _
  have hh := Nc.RS.below h hb1
  have hc := (Nc.text_any rb _ W1 hh (by show (List.replicate m (0 : UInt8)).length ≤ _; rw [List.length_replicate]; omega))
  have e0 : Nc.vl [] (Nc.M.text (Nc.lft (some (List.replicate m (0 : UInt8))))) = [] := by
    cases m with
    | zero => rfl
    | succ m =>
      have e1 : Nc.M.text (encT [] ++ List.replicate m 0) = some ([], List.replicate m 0) := Nc.M.text_enc [] _ (by simp)
      show Nc.vl [] (Nc.M.text (0 :: List.replicate m 0)) = []
      have e2 : encT [] ++ List.replicate m 0 = 0 :: List.replicate m (0 : UInt8) := by
        show (enc 0 ++ []) ++ _ = _
        rw [Nc.enc_small 0 0 rfl (by omega)]
        rfl
      rw [← e2, e1]
      rfl
  rw [e0] at hc
  have ho := fun W => Ns.open_any (ofL []) W (by rw [Ns.M.ofL_size]; simp)
  rw [open_none] at ho
  have HR1 := Hid_of hr1
  have HG1 : Hid (w.grownBy W1 (some rb)) := Nc.grown_below hb1
  clear h hh hr1 hb1 e0
  go_enter Tryz.func90, Tryz.ntmps90
  go_upto_region 1 with fail
  rw [HW1.out]
  clear HW1
  go_wp2_with fail
  refine hc.mono ?_
  rintro e1 w2 ⟨rfl, q2, g2⟩
  have HR2 := Hid_of (row_gr HR1.out g2 (by omega))
  have HG2 := Hid_of (Nc.grown_trans HG1.out g2)
  clear hc q2 g2 HR1 HG1
  go_wp2_with fail
  refine (ho _).mono ?_
  rintro e1 w3 ⟨rfl, hb3⟩
  have hr3 := bel_row HR2.out hb3
  have hg3 : w.grownBy w3 (some rb) := Nc.grown_trans HG2.out (Nc.grown_below hb3)
  obtain ⟨⟨k0, k1, k2, k3, k4, k5⟩, xf⟩ := row6 hr3
  have x0 := xf 0
  have x1 := xf 1
  have x2 := xf 2
  have x3 := xf 3
  have x4 := xf 4
  have x5 := xf 5
  have HRP := Hid_of (put6_row hr3 (.int .i64 0) (.int .i64 0) (.int .i64 0) (.int .i64 0) (.string ⟨#[]⟩) (.int .i64 0))
  have HG5 := Hid_of (put6_gr hg3 (Nat.le_refl _) (.int .i64 0) (.int .i64 0) (.int .i64 0) (.int .i64 0) (.string ⟨#[]⟩) (.int .i64 0))
  clear ho hb3 HR2 HG2 hr3 hg3 xf
  go_wp2
  refine bodyPost_ret (v := .tuple #[.agg #[.int .i64 0, .int .i64 0, .int .i64 0, .int .i64 0, .string ⟨#[]⟩, .int .i64 0], .bool false]) ?_ rfl ⟨rfl, HG5.out⟩
  exact res97 f90_res _ _ w.heap.size _ _ _ _ _ _ rfl HRP.out
end Go.Proofs.YtlnedgjikkhplaaGreat.Du
end
section
namespace Go.Proofs.YtlnedgjikkhplaaGreat.Du
open Go.RowKit
set_option linter.unusedVariables false
set_option linter.unusedSimpArgs false
open Na (Fr AS XL vl bV vV Hid_of bel1 bel2 bel_up bel_row row2 row4 blk OwnL AtL)
open Na.M (E V S S0)

open Ns.M (ofL)
open Nc (RS)
open Na (Rw)
theorem hi97 : Tryz.prog.info? 97 = some Tryz.t97 := by kernel_rfl
theorem tiR : Na.Ti rl 93 97 := ⟨Tryz.underlying93, Tryz.t97, .agg #[.int .i64 0, .int .i64 0, .int .i64 0, .int .i64 0, .string ⟨#[]⟩, .int .i64 0], hi97, rfl, rfl, by decide, rfl⟩
theorem appR {w : World} {base : Nat} {v : Value} {l : List R} (x : R) (ho : OwnL rl 97 w base v l) (hb : base ≤ w.heap.size) (hl : l.length + 1 ≤ 1000000) :
    ∃ a' c' w', (∀ ty, (Builtin.append_ #[93, 93] ty #[v, .slice (some ⟨w.heap.size, 0, none⟩) 1 1]).run Tryz.prog (w.alloc (.cells #[.int .i64 (rk x), .int .i64 (rsl x), .int .i64 (ri x), .int .i64 (rt x), .string (rvv x), .int .i64 (ru x)] 97)) = .ok (.slice a' (l.length + 1) c') w') ∧ OwnL rl 97 w' base (.slice a' (l.length + 1) c') (l ++ [x]) ∧ Rw w v w' (.slice a' (l.length + 1) c') := by
  obtain ⟨a', c', w4, hrun, ho4, hr4⟩ := Na.run_appL_ty tiR (w.alloc (.cells #[.int .i64 (rk x), .int .i64 (rsl x), .int .i64 (ri x), .int .i64 (rt x), .string (rvv x), .int .i64 (ru x)] 97)) base v l [x] w.heap.size 0 1 1 (ho.keep (bel1 w _)) (Na.atL_one (t := 97) (heap_alloc_last w _)) rfl (by simp; omega) (by simp; omega)
  exact ⟨a', c', w4, hrun, ho4, (Rw.ofBelow _ (bel1 w _)).trans hr4⟩
def sln : Value → Nat
  | .slice _ n _ => n
  | _ => 0
theorem recs_drop (e : Nat) (l : List R) (j : Nat) (hj : j < l.length) : recs e j (l.drop j) = rec e j l[j] ++ recs e (j + 1) (l.drop (j + 1)) := by
  rw [List.drop_eq_getElem_cons hj, recs]
theorem secs_step (e : Nat) (l : List R) (j : Nat) (hj : j < l.length) : secs e 0 (l.take (j + 1)) = secs e 0 (l.take j) + sec e j l[j] := by
  rw [List.take_succ_eq_append_getElem hj, secs_app, List.length_take, Nat.min_eq_left (by omega), Nat.zero_add, secs, secs, Nat.add_zero]
theorem secs_split (e : Nat) (l : List R) (j : Nat) (hj : j ≤ l.length) : secs e 0 l = secs e 0 (l.take j) + secs e j (l.drop j) := by
  have h := secs_app e (l.take j) (l.drop j) 0
  rw [List.take_append_drop, List.length_take, Nat.min_eq_left hj, Nat.zero_add] at h
  exact h
set_option maxRecDepth 100000 in
set_option maxHeartbeats 1000000 in
theorem recordsOf_any (e : Nat) (rs : List R) (m : Nat) (w : World) (he : e ≤ 2147483648) (hwf : ∀ r ∈ rs, Wf r) (hl : rs.length ≤ 10000) (hm : m % 64 = 0) (hlen : secs e 0 rs * 64 + m ≤ 900000) :
    Calls Tryz.prog 38 #[.string (ofL (recs e 0 rs ++ List.replicate m 0)), .int .i64 e] w fun x w' => ∃ ad c, x = .returned (.tuple #[.slice ad rs.length c, .int .i64 (secs e 0 rs : Nat)]) ∧ XL rl w' ad c rs ∧ (∀ k, blk ad k → w.heap.size ≤ k ∧ k < w'.heap.size) ∧ Below w.heap.size w w' := by
  have hrl := recs_len e rs 0
  have hnr := Nc.newReader_any (recs e 0 rs ++ List.replicate m 0) w (by rw [List.length_append, List.length_replicate]; omega)
  have hsz : (ofL (recs e 0 rs ++ List.replicate m 0)).size = secs e 0 rs * 64 + m := by rw [Ns.M.ofL_size, List.length_append, List.length_replicate, hrl]
  have HWF := Hid_of hwf
  clear hwf hrl
  have hnr' : Calls Tryz.prog 89 #[.string (ofL (recs e 0 rs ++ List.replicate m 0))] w (Nc.NewR w (recs e 0 rs ++ List.replicate m 0)) := hnr
  clear hnr
  generalize hT : ofL (recs e 0 rs ++ List.replicate m 0) = T at *
  clear hT
  go_enter Tryz.func38, Tryz.ntmps38
  go_wp2_with fail
  refine hnr'.mono ?_
  rintro e1 w1 ⟨rb, rfl, hrb, hq1, hb1⟩
  have HQ1 := Hid_of hq1
  have HB1 := Hid_of hb1
  have hlt1 := hq1.lt
  have HB1' : Hid (w.heap.size ≤ w1.heap.size) := hb1.size
  clear hnr' hq1 hb1
  go_wp2
  go_loopw [6, 7] (fun u6 u7 wr => ∃ j : Nat, j ≤ rs.length ∧ OwnL rl 97 wr w1.heap.size u6 (rs.take j) ∧ u7 = .int .i64 (secs e 0 (rs.take j) : Nat) ∧ RS wr rb (some (recs e j (rs.drop j) ++ List.replicate m 0)) ∧ Below w.heap.size w wr ∧ w1.heap.size ≤ wr.heap.size) (fun u6 _ _ => rs.length - sln u6)
  case atStart => exact ⟨0, Nat.zero_le _, OwnL.nil _ _ _, rfl, HQ1.out, HB1.out, Nat.le_refl _⟩
  case round =>
    obtain ⟨j, hj, ho, rfl, hq, hbl, hsw⟩ := hrel
    clear HQ1 HB1
    obtain ⟨a1, cap1, hv1, hx1, hbk1⟩ := ho.at
    have hlj : (rs.take j).length = j := by simp; omega
    rw [hlj] at hv1
    subst hv1
    by_cases hlt : j < rs.length
    · have hsp := secs_split e rs (j + 1) hlt
      have hst := secs_step e rs j hlt
      have hdl := recs_len e (rs.drop (j + 1)) (j + 1)
      have hll : (recs e (j + 1) (rs.drop (j + 1)) ++ List.replicate m 0).length = secs e (j + 1) (rs.drop (j + 1)) * 64 + m := by rw [List.length_append, List.length_replicate, hdl]
      rw [recs_drop e rs j hlt, List.append_assoc] at hq
      have hrd := readRecord_yes e j rs[j] rb _ wr hq he (by omega) (HWF.out _ (List.getElem_mem hlt)) (by rw [hll]; omega) (by rw [hll]; omega)
      have HT : Hid (rs.take (j + 1) = rs.take j ++ [rs[j]]) := Hid_of (List.take_succ_eq_append_getElem hlt)
      have HRA := Hid_of (fun (w : World) (v : Value) (l : List R) (ho : OwnL rl 97 w w1.heap.size v l) => appR rs[j] ho)
      have HO := Hid_of ho
      have HBL := Hid_of hbl
      have HLL := Hid_of hll
      rw [rV, rcs_six] at hrd
      generalize rs[j] = X at *
      generalize rk X = z0 at *
      generalize rsl X = z1 at *
      generalize ri X = z2 at *
      generalize rt X = z3 at *
      generalize rvv X = z4 at *
      generalize ru X = z5 at *
      have hrbn : ∀ k, (Value.slice a1 j cap1).ownBlock = some k → k ≠ rb := fun k hk => by have := (HO.out.lt hk).1; omega
      have HNB := Hid_of hrbn
      clear ho hbl hx1 hbk1 hq hll hdl hrbn HWF
      go_wp2_with fail
      refine hrd.mono ?_
      rintro e1 w2 ⟨rfl, q2, g2⟩
      have ho2 := HO.out.keepBut (w1 := w2) (fun k hk hk2 => g2.block k hk (fun e => HNB.out k hk2 (by cases e; rfl)))
      have hb2 : Below w.heap.size w w2 := HBL.out.trans (Nc.below_grown g2 HBL.out.size (fun k e => by cases e; exact hrb))
      have hs2 : w1.heap.size ≤ w2.heap.size := Nat.le_trans hsw g2.size
      obtain ⟨W3, HW3⟩ : ∃ W3, Hid (w2.alloc (.cells #[.int .i64 z0, .int .i64 z1, .int .i64 z2, .int .i64 z3, .string z4, .int .i64 z5] 97) = W3) := ⟨_, Hid_of rfl⟩
      have hb3 : Below w2.heap.size w2 W3 := by rw [← HW3.out]; exact bel1 w2 _
      have hr3 : W3.heap[w2.heap.size]? = some (.cells #[.int .i64 z0, .int .i64 z1, .int .i64 z2, .int .i64 z3, .string z4, .int .i64 z5] 97 (0, 0)) := by rw [← HW3.out]; exact heap_alloc_last w2 _
      obtain ⟨⟨c0, c1, c2, c3, c4, c5⟩, _⟩ := row6 hr3
      obtain ⟨a', c', w4, hrun, ho4, hr4⟩ := HRA.out W3 _ _ (ho2.keep hb3) (by have := hb3.size; omega) (by rw [hlj]; omega)
      rw [hlj] at hrun ho4 hr4
      have hfr : Below w1.heap.size W3 w4 := hr4.below (fun k hk => (HO.out.lt hk).1) (by have := hb3.size; omega)
      have hq4 : RS w4 rb (some (recs e (j + 1) (rs.drop (j + 1)) ++ List.replicate m 0)) := Nc.RS.keep (Nc.RS.below q2 hb3) (hfr.block rb hlt1)
      have hlf := Nc.rleft_any rb _ w4 hq4
      have elf : ((Nc.lft (some (recs e (j + 1) (rs.drop (j + 1)) ++ List.replicate m 0))).length : Nat) = secs e (j + 1) (rs.drop (j + 1)) * 64 + m := HLL.out
      rw [elf] at hlf
      have HB4 : Hid (Below w.heap.size w w4) := (bel_up hb2 hb3 (Nat.le_refl _)).trans (hfr.mono (by have := HBL.out.size; omega))
      have HS4 : Hid (w1.heap.size ≤ w4.heap.size) := Nat.le_trans hs2 (Nat.le_trans hb3.size hfr.size)
      have HQ4 := Hid_of hq4
      have HO4 := Hid_of ho4
      have HF : Hid (wrap64 ((wrap64 (((secs e 0 rs : Nat) : Int) * 64 + (m : Int) - ((secs e (j + 1) (rs.drop (j + 1)) * 64 + m : Nat) : Int))).tdiv 64) = ((secs e 0 (rs.take (j + 1)) : Nat) : Int)) := by
        show wrap64 _ = _
        rw [show ((secs e 0 rs : Nat) : Int) * 64 + (m : Int) - ((secs e (j + 1) (rs.drop (j + 1)) * 64 + m : Nat) : Int) = ((secs e 0 (rs.take (j + 1)) * 64 : Nat) : Int) by omega]
        rw [IntWalk.wrap64_in (((secs e 0 (rs.take (j + 1)) * 64 : Nat) : Int)) (by omega), Int.tdiv_eq_ediv_of_nonneg (by omega), IntWalk.wrap64_in _ (by omega)]
        omega
      have hub : secs e 0 (rs.take (j + 1)) * 64 ≤ 900000 := by omega
      clear hrd q2 g2 ho2 hb2 hb3 hr3 ho4 hr4 hfr hq4 elf HO HBL HRA HNB HLL hsp hst
      generalize secs e (j + 1) (rs.drop (j + 1)) * 64 + m = LF at *
      go_upto_region 5 with fail
      rw [HW3.out]
      clear HW3
      go_wp2_with (at_builtin; refine Na.wpList_append_known rfl _ _ 93 rfl _ _ rfl rfl _ _ (hrun _) ?_)
      clear hrun c0 c1 c2 c3 c4 c5
      go_wp2_with fail
      refine hlf.mono ?_
      rintro e1 w5 ⟨rfl, rfl⟩
      clear hlf
      go_wp2
      go_roundw
      case rel => exact ⟨j + 1, by omega, by rw [HT.out]; exact HO4.out, congrArg (Value.int .i64) HF.out, HQ4.out, HB4.out, HS4.out⟩
      case measure => simp [sln]; omega
    · obtain rfl : j = rs.length := by omega
      rw [List.drop_length, recs, List.nil_append] at hq
      rw [List.take_length] at ho hx1
      have hrd := readRecord_no e rs.length rb m wr hq (by omega)
      have HO := Hid_of ho
      have HBL := Hid_of hbl
      have hrbn : ∀ k, (Value.slice a1 rs.length cap1).ownBlock = some k → k ≠ rb := fun k hk => by have := (HO.out.lt hk).1; omega
      have HNB := Hid_of hrbn
      have HTL : Hid (secs e 0 (rs.take rs.length) = secs e 0 rs) := by show secs e 0 (rs.take rs.length) = _; rw [List.take_length]
      clear ho hbl hx1 hbk1 hq hrbn HWF
      rw [HTL.out]
      clear HTL
      go_wp2_with fail
      refine hrd.mono ?_
      rintro e1 w2 ⟨rfl, g2⟩
      have ho2 := HO.out.keepBut (w1 := w2) (fun k hk hk2 => g2.block k hk (fun e => HNB.out k hk2 (by cases e; rfl)))
      have hb2 : Below w.heap.size w w2 := HBL.out.trans (Nc.below_grown g2 HBL.out.size (fun k e => by cases e; exact hrb))
      obtain ⟨a2, c2, ev, hx2, hbk2⟩ := ho2.at
      have hnb : ∀ o k, blk a2 k → w.heap.size ≤ k ∧ k < (w2.alloc o).heap.size := fun o k hk => by
        obtain ⟨h1, _, h2⟩ := hbk2 k hk
        have := HB1'.out
        simp
        omega
      have HX := Hid_of (fun o => And.intro ev (And.intro (hx2.keep (bel1 w2 o)) (And.intro (hnb o) (bel_up hb2 (bel1 w2 o) (Nat.le_refl _)))))
      clear hrd g2 ho2 hb2 ev hx2 HO HBL HNB hbk2 hnb
      go_wp2
      go_ret2
      obtain ⟨ev, hx, hn, hb⟩ := HX.out _
      exact ⟨a1, cap1, rfl, by cases ev; exact hx, by cases ev; exact hn, hb⟩
end Go.Proofs.YtlnedgjikkhplaaGreat.Du
end
section
namespace Go.Proofs.YtlnedgjikkhplaaGreat.Ns
open Go.RowKit
open M (ofL ofL_size ofL_of)
set_option linter.unusedVariables false

set_option maxHeartbeats 1000000 in
theorem sread_nil (w : World) : Calls Tryz.prog 83 #[.pointer none] w fun e w' => e = .returned (.tuple #[.string { data := #[] }, .int .i64 0, .int .i64 1]) ∧ w' = w := by
  go_enter Tryz.func83, Tryz.ntmps83
  go_wp2
  go_ret3
  exact ⟨rfl, rfl⟩
/-- The device behind a Write. -/
def nxN (P : List M.Pl) (body : List UInt8) : List M.Pl := M.flush (M.wr P (((rdP (P.take 8)).1 + 1) % 2 * 4) (ofL (Sp.pk body ((rdP (P.take 8)).1 + 1))) 4)
def nxt (P : List M.Pl) (body : List UInt8) : List M.Pl := M.flush (M.wr P (((rdP P).1 + 1) % 2 * 4) (ofL (Sp.pk body ((rdP P).1 + 1))) 4)
theorem write_code (n g : Nat) (h8 : 8 ≤ n) (b : ByteArray) (P : List M.Pl) (hb : b.size ≤ 244) :
    (ofL (Sp.pk b.data.toList g)).size = 256 ∧ M.wcode n false ((g % 2 * 4 : Nat) : Int) (ofL (Sp.pk b.data.toList g)) = 0 ∧ M.wrote n false P ((g % 2 * 4 : Nat) : Int) (ofL (Sp.pk b.data.toList g)) = M.wr P (g % 2 * 4) (ofL (Sp.pk b.data.toList g)) 4 := by
  have hs : (ofL (Sp.pk b.data.toList g)).size = 256 := by rw [ofL_size, Sp.pk_len _ _ (by rw [len_data]; exact hb)]
  have hc : M.wcode n false ((g % 2 * 4 : Nat) : Int) (ofL (Sp.pk b.data.toList g)) = 0 := by
    unfold M.wcode
    rw [hs]
    have hm : g % 2 < 2 := Nat.mod_lt _ (by omega)
    rw [decide_eq_true (show 256 % 64 = 0 from rfl)]
    show M.refused n false ((g % 2 * 4 : Nat) : Int) ((256 / 64 : Nat) : Int) = 0
    unfold M.refused
    rw [decide_eq_false (show ¬ (((g % 2 * 4 : Nat) : Int) < 0) by omega), decide_eq_false (show ¬ (((256 / 64 : Nat) : Int) < 1) by omega), decide_eq_false (show ¬ (((g % 2 * 4 : Nat) : Int) > (n : Int) - ((256 / 64 : Nat) : Int)) by omega)]
    rfl
  refine ⟨hs, hc, ?_⟩
  unfold M.wrote
  rw [hc, hs, Int.toNat_natCast]
  rfl
section
variable {w0 w : World} {b n : Nat} {F : Nat → Prop} {P : List M.Pl}
set_option maxRecDepth 100000 in
set_option maxHeartbeats 400000 in
theorem DS.swrite (h : DS w0 w b F n P false) (h8 : 8 ≤ n) (body : ByteArray) (hb : body.size ≤ 244) (hg : (rdP (P.take 8)).1 < 2147483647) :
    Calls Tryz.prog 75 #[.pointer (some ⟨b, 0, none⟩), .string body] w fun e w' => ∃ G, e = .returned (.int .i64 0) ∧ DS w0 w' b G n (nxN P body.data.toList) false ∧ Ch w F w' G := by
  have hr := h.sread h8
  have HN : Hid (nxN P body.data.toList = M.flush (M.wr P (((rdP (P.take 8)).1 + 1) % 2 * 4) (ofL (Sp.pk body.data.toList ((rdP (P.take 8)).1 + 1))) 4)) := rfl
  have hw := write_code n ((rdP (P.take 8)).1 + 1) h8 body P hb
  have c1 := fun W => pack_any body (((rdP (P.take 8)).1 + 1 : Nat) : Int) W (by unfold maxLen; omega)
  have ep : pcode body (((rdP (P.take 8)).1 + 1 : Nat) : Int) = 0 ∧ ptext body (((rdP (P.take 8)).1 + 1 : Nat) : Int) = ofL (Sp.pk body.data.toList ((rdP (P.take 8)).1 + 1)) := by
    rcases pcode_cases body (((rdP (P.take 8)).1 + 1 : Nat) : Int) with ⟨h1, e1, e2⟩ | ⟨h1, h2, e1, e2⟩ | ⟨h1, h2, e1, e2⟩
    · omega
    · omega
    · exact ⟨e1, e2⟩
  rw [ep.1, ep.2] at c1
  have c2 := fun W => placeOf_any ((rdP (P.take 8)).1 + 1) (by omega) W
  have hrc : (rdP (P.take 8)).1 = 0 ∧ rcode (rdP (P.take 8)) = 7 ∨ ¬ (rdP (P.take 8)).1 = 0 ∧ rcode (rdP (P.take 8)) = 0 := by
    unfold rcode
    by_cases h0 : (rdP (P.take 8)).1 = 0
    · left; exact ⟨h0, by rw [decide_eq_true h0]; rfl⟩
    · right; exact ⟨h0, by rw [decide_eq_false h0]; rfl⟩
  obtain ⟨hz, hc, he⟩ := hw
  have c3 : ∀ W, Below w.heap.size w W → Calls Tryz.prog 71 #[.pointer (some ⟨b, 0, none⟩), .int .i64 (((rdP (P.take 8)).1 + 1) % 2 * 4 : Nat), .string (ofL (Sp.pk body.data.toList ((rdP (P.take 8)).1 + 1)))] W fun e w' => ∃ G, e = .returned (.int .i64 0) ∧ DS w0 w' b G n (M.wr P (((rdP (P.take 8)).1 + 1) % 2 * 4) (ofL (Sp.pk body.data.toList ((rdP (P.take 8)).1 + 1))) 4) false ∧ Ch w F w' G := by
    intro W hW
    refine ((h.keep hW).write _ _ (by rw [hz]; omega)).mono ?_
    rintro e w' ⟨G, h1, h2, h3⟩
    rw [hc] at h1
    rw [he] at h2
    exact ⟨G, h1, h2, (Ch.ofBelow hW).trans h3⟩
  have HC3 := Hid_of c3
  clear ep h hz hc he c3
  generalize ofL (Sp.pk body.data.toList ((rdP (P.take 8)).1 + 1)) = T at *
  generalize ofL (rdP (P.take 8)).2 = B at *
  generalize rcode (rdP (P.take 8)) = rc at *
  generalize (rdP (P.take 8)).1 = g at *
  have d3 : decide ((244 : Int) < (body.size : Int)) = false := decide_eq_false (by omega)
  have d4 : ((g : Int) == 2147483647) = false := by rw [beq_eq_false_iff_ne]; omega
  rw [show ((g + 1 : Nat) : Int) = (g : Int) + 1 by omega] at c1 c2
  rcases hrc with ⟨-, rfl⟩ | ⟨-, rfl⟩
  all_goals
    go_enter Tryz.func75, Tryz.ntmps75
    go_wp2_with fail
    refine hr.mono ?_
    rintro e w1 ⟨rfl, hb1⟩
    have HB1 := Hid_of hb1
    clear hr hb1
    go_wp2_with fail
    refine (c1 _).mono ?_
    rintro e w2 ⟨rfl, hb2⟩
    have HB2 := Hid_of (bel_up HB1.out hb2 (Nat.le_refl _))
    clear c1 hb2 HB1
    go_wp2_with fail
    refine (c2 _).mono ?_
    rintro e w3 ⟨rfl, rfl⟩
    clear c2
    have hc3 := HC3.out _ HB2.out
    rw [show (((g + 1) % 2 * 4 : Nat) : Int) = (((g + 1) % 2 : Nat) : Int) * 4 by omega] at hc3
    clear HC3
    go_wp2_with fail
    refine hc3.mono ?_
    rintro e w4 ⟨G4, rfl, S4, C4⟩
    have hf := S4.flush
    have HC4 := Hid_of C4
    clear hc3 S4 C4 HB2
    go_wp2_with fail
    refine hf.mono ?_
    rintro e w5 ⟨G5, rfl, S5, C5⟩
    have HS5 := Hid_of S5
    have HC5 := Hid_of (HC4.out.trans C5)
    clear hf S5 C5 HC4
    go_wp2
    go_ret
    rw [HN.out]
    exact ⟨G5, rfl, HS5.out, HC5.out⟩
end
end Go.Proofs.YtlnedgjikkhplaaGreat.Ns
end
