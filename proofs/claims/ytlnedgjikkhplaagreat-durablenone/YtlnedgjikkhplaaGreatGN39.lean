/-
  The records that tell all are built.
-/
import Derived.Test.YtlnedgjikkhplaaGreatGN38
namespace Go.Proofs.YtlnedgjikkhplaaGreat.Du
open Go.RowKit
set_option linter.unusedVariables false
set_option linter.unusedSimpArgs false
open Na (Fr AS XL vl bV vV Hid_of bel1 bel2 bel_up bel_row row2 row4 blk OwnL AtL)
open Na.M (E V S S0)

open Na (Rw)
theorem sort_own {w : World} {base : Nat} {v : Value} {l : List V} (h : OwnL vl 48 w base v l) (hu : Na.M.Up l) (hl : l.length ≤ 100000) : ∃ ad c, v = .slice ad l.length c ∧ (∀ k, blk ad k → v.ownBlock = some k) ∧
    Calls Tryz.prog 114 #[.slice ad l.length c, .func (.func 115) #[] #[]] w fun e w' => e = .returned (.tuple #[]) ∧ AtL vl w' ad (byB l) ∧ w.grownBy w' v.ownBlock := by
  haveI : Inhabited V := ⟨⟨0, ⟨0, 0⟩, ⟨#[]⟩⟩⟩
  obtain ⟨ad, c, ev, hx, hbk⟩ := h.at
  refine ⟨ad, c, ev, fun k hk => (hbk k hk).2.1, ?_⟩
  cases l with
  | nil =>
    refine (sortV_none ad c _ w).mono ?_
    rintro e w' ⟨rfl, rfl⟩
    exact ⟨rfl, fun j hj => by simp [byB] at hj, ⟨rfl, rfl, rfl, Nat.le_refl _, fun _ _ _ => rfl⟩⟩
  | cons y r =>
    rcases h.2 with ⟨e, h0⟩ | ⟨g, cap, cur, e, _⟩
    · simp at h0
    · rw [e] at ev h
      cases ev
      obtain ⟨hH, hg, _⟩ := own_holdsV rfl h
      have hs := sortV_any g c (y :: r).toArray w hH hg (by simpa using hl)
      rw [show (y :: r).toArray.size = (y :: r).length by simp] at hs
      refine hs.mono ?_
      rintro e' w' ⟨d', rfl, h1, h2, h3, h4, h5⟩
      have hd : d'.toList = byB (y :: r) := sorted_is hu h2 (fun i j hij hj => h3 i j hij (by rw [h1] at hj; simpa using hj))
      refine ⟨rfl, ?_, ?_⟩
      · rw [← hd]; exact holds_atV h4
      · rw [e]; exact h5
section
variable {w0 w w' : World} {FA FD FA' FD' : Nat → Prop} {b ab db n : Nat} {P P' : List Ns.M.Pl} {x x' : X} {rs : List R}
theorem DU.votesO (h : DU w0 w FA FD b ab db n P x) (k : Int) : Calls Tryz.prog 21 #[ptr b, .int .i64 k] w fun e w' => ∃ v, e = .returned v ∧ OwnL vl 48 w' w.heap.size v (Na.M.vts x.a.l k) ∧ Below w.heap.size w w' := by
  obtain ⟨⟨c0, _⟩, _⟩ := row7 h.row
  obtain ⟨va, _, hX⟩ := h.a.ai
  have hb := Na.votes_any hX h.a.ok k
  clear h hX
  go_enter Tryz.func21, Tryz.ntmps21
  go_wp2_with fail
  refine hb.mono ?_
  rintro e w1 ⟨v, rfl, h1⟩
  have H1 := Hid_of h1
  clear hb h1
  go_wp2
  go_ret
  exact ⟨v, rfl, H1.out⟩
/-- Rows of records of one's own, new since w, apart from a slice that is read. -/
structure RO (w wr : World) (u : Value) (l : List R) (ad : Option Addr) : Prop where
  o : OwnL rl 97 wr w.heap.size u l
  bel : Below w.heap.size w wr
  ap : ∀ k, blk ad k → u.ownBlock ≠ some k ∧ k < wr.heap.size
theorem RO.keep {wr wr' : World} {u : Value} {l : List R} {ad : Option Addr} (h : RO w wr u l ad) (hb : Below wr.heap.size wr wr') : RO w wr' u l ad :=
  ⟨h.o.keep hb, bel_up h.bel hb (Nat.le_refl _), fun k hk => ⟨(h.ap k hk).1, Nat.lt_of_lt_of_le (h.ap k hk).2 hb.size⟩⟩
/-- One more. -/
theorem RO.app {wr : World} {u : Value} {l : List R} {ad : Option Addr} (h : RO w wr u l ad) (r : R) (hl : l.length + 1 ≤ 100000) : ∃ ua uc a' c' w', u = .slice ua l.length uc ∧ (∀ ty, (Builtin.append_ #[93, 93] ty #[.slice ua l.length uc, .slice (some ⟨wr.heap.size, 0, none⟩) 1 1]).run Tryz.prog (wr.alloc (.cells #[.int .i64 (rk r), .int .i64 (rsl r), .int .i64 (ri r), .int .i64 (rt r), .string (rvv r), .int .i64 (ru r)] 97)) = .ok (.slice a' (l.length + 1) c') w') ∧ RO w w' (.slice a' (l.length + 1) c') (l ++ [r]) ad ∧ ∀ k, blk ad k → w'.heap[k]? = wr.heap[k]? := by
  obtain ⟨a', c', w', hrun, ho, hrw⟩ := appR r h.o h.bel.size (by omega)
  obtain ⟨ua, uc, eu, _, _⟩ := h.o.at
  refine ⟨ua, uc, a', c', w', eu, fun ty => by rw [← eu]; exact hrun ty, ⟨ho, h.bel.trans (hrw.below (fun k hk => (h.o.lt hk).1) h.bel.size), fun k hk => ⟨fun e => ?_, ?_⟩⟩, fun k hk => ?_⟩
  · rcases hrw.n k e with h' | h'
    · exact (h.ap k hk).1 h'
    · have := (h.ap k hk).2; omega
  · exact Nat.lt_of_lt_of_le (h.ap k hk).2 hrw.g.size
  · exact hrw.g.block k (h.ap k hk).2 (fun e => (h.ap k hk).1 e.symm)
/-- What records leaves. -/
def RcO (w : World) (a : S) (e : Ending) (w' : World) : Prop := ∃ ad c, e = .returned (.slice ad (few a).length c) ∧ AtL rl w' ad (few a) ∧ (∀ k, blk ad k → w.heap.size ≤ k ∧ k < w'.heap.size) ∧ Below w.heap.size w w'
theorem RcO_of {wr : World} {ua : Option Addr} {uc m : Nat} {l : List R} {ad : Option Addr} (h : RO w wr (.slice ua m uc) l ad) (hm : l.length = m) : ∃ ad c, Ending.returned (.slice ua m uc) = .returned (.slice ad l.length c) ∧ AtL rl wr ad l ∧ (∀ k, blk ad k → w.heap.size ≤ k ∧ k < wr.heap.size) ∧ Below w.heap.size w wr := by
  obtain ⟨a, c, e, hx, hbk⟩ := h.o.at
  refine ⟨a, c, by rw [e], hx.at', fun k hk => ⟨(hbk k hk).1, (hbk k hk).2.2⟩, h.bel⟩
theorem nz36 (i t : Int) (h : ¬ (i = 0 ∧ t = 0)) (W : World) : (binOp .neq 36 (.agg #[.int .i64 i, .int .i64 t]) (.agg #[.int .i64 0, .int .i64 0])).run Tryz.prog W = .ok (.bool true) W := by
  have u3 := Tryz.underlying3
  have a3 := Tryz.isAgg3
  have z3 := Tryz.sizeOf3
  have hS2 : Tryz.prog.underlying 36 = some (.struct (Tryz.prog.fieldsOf 36)) := by kernel_rfl
  have hp2 : Tryz.prog.stoodInHeld 36 = false := by kernel_rfl
  rw [run_neq_struct, show (10000 : Nat) = 9999 + 1 from rfl, run_equalIn_agg W 9999 36 _ _ hS2 hp2]
  simp only [Program.fieldsOf, Tryz.underlying36]
  by_cases h1 : i = 0
  · by_cases h2 : t = 0
    · exact absurd ⟨h1, h2⟩ h
    · go_simp
  · go_simp
set_option maxRecDepth 100000 in
set_option maxHeartbeats 1000000 in
theorem DU.records (h : DU w0 w FA FD b ab db n P x) : Calls Tryz.prog 67 #[ptr b] w (RcO w x.a) := by
  have HAL : Hid (Na.M.vts x.a.l x.a.base = x.a.l) := h.a.ok.alb
  have HUP := Hid_of h.a.ok.up
  have hll := h.a.ok.len
  have hba := h.base
  have HH := Hid_of h
  clear h
  by_cases hb0 : x.a.base = 0
  · have HR : Hid (RO w w (.slice none 0 0) [] none) := ⟨OwnL.nil _ _ _, Below.refl _ _, fun k hk => (no_blk hk).elim⟩
    have HB0 := Hid_of hb0
    rw [hb0] at hba
    clear hb0
    go_enter Tryz.func67, Tryz.ntmps67
    go_wp2_with fail
    refine hba.mono ?_
    rintro e w1 ⟨rfl, hw1⟩
    obtain rfl := hw1.symm
    clear hba hw1
    have hvo := (HH.out.keep HR.out.bel).votesO x.a.base
    rw [HAL.out] at hvo
    have hba := (HH.out.keep HR.out.bel).base
    go_wp2_with fail
    refine hba.mono ?_
    rintro e w3 ⟨rfl, hw3⟩
    obtain rfl := hw3.symm
    clear hba hw3
    go_wp2_with fail
    refine hvo.mono ?_
    rintro e w4 ⟨v4, rfl, ho4, hb4⟩
    obtain ⟨ad, c, hv4, hbk4, hso⟩ := sort_own ho4 HUP.out (by omega)
    subst hv4
    have hge : ∀ k, (Value.slice ad x.a.l.length c).ownBlock = some k → w.heap.size ≤ k ∧ k < w4.heap.size := fun k hk => ho4.lt hk
    have HR4 := Hid_of (HR.out.keep hb4)
    have HGE := Hid_of hge
    have HBK := Hid_of hbk4
    clear hvo ho4 hbk4 hge hb4
    go_wp2_with fail
    refine hso.mono ?_
    rintro e w5 ⟨rfl, hat5, hg5⟩
    have hRO5 : RO w w5 (.slice none 0 0) [] ad := by
      refine ⟨HR4.out.o.keepBut (w1 := w5) (fun k hk hk2 => hg5.block k hk (fun e => ?_)), HR4.out.bel.trans ?_, fun k hk => ⟨fun e => ?_, ?_⟩⟩
      · have h1 := (HGE.out k e.symm).1
        have h2 := (HR.out.o.lt hk2).2
        omega
      · exact ⟨hg5.os, hg5.tape, hg5.output, hg5.size, fun k hk => hg5.block k (by have := HR4.out.bel.size; omega) (fun e => by have h1 := (HGE.out k e.symm).1; have := HR.out.bel.size; omega)⟩
      · have h1 := (HGE.out k (HBK.out k hk)).1
        have h2 := (HR.out.o.lt e).2
        omega
      · have h1 := (HGE.out k (HBK.out k hk)).2
        have := hg5.size
        omega
    have HST : Hid (RO w w5 (.slice none 0 0) (((byB x.a.l).take 0).map R.vo) ad ∧ AtL vl w5 ad (byB x.a.l)) := by
      rw [List.take_zero, List.map_nil]
      exact ⟨hRO5, hat5⟩
    have hbl : (byB x.a.l).length = x.a.l.length := (byB_perm x.a.l).length_eq
    clear hso hat5 hg5 hRO5 HR HR4 HGE HBK
    obtain ⟨B, hB⟩ : ∃ B, byB x.a.l = B := ⟨_, rfl⟩
    rw [hB] at HST hbl
    have HB := Hid_of hB
    clear hB
    go_wp2
    go_loopw [26, 3] (fun i u wr => ∃ j : Nat, j ≤ B.length ∧ i = .int .i64 j ∧ RO w wr u ((B.take j).map R.vo) ad ∧ AtL vl wr ad B) (fun i _ _ => B.length - (intOf i).toNat)
    case atStart => exact ⟨0, Nat.zero_le _, rfl, HST.out⟩
    case round =>
      obtain ⟨j, hj, rfl, hro, hat⟩ := hrel
      clear HST
      have hpl : ((B.take j).map R.vo).length = j := by simp; omega
      by_cases hlt : j < B.length
      · obtain ⟨g, off, hga, c0, c1, c2, c3⟩ := hat.getV j hlt
        obtain ⟨W3, HW3⟩ : ∃ W3, Hid (wr.alloc (.cells #[.int .i64 B[j].s, .int .i64 B[j].b.i, .int .i64 B[j].b.t, .string B[j].v] 48) = W3) := ⟨_, Hid_of rfl⟩
        have hb3 : Below wr.heap.size wr W3 := by rw [← HW3.out]; exact bel1 wr _
        have hr3 : W3.heap[wr.heap.size]? = some (.cells #[.int .i64 B[j].s, .int .i64 B[j].b.i, .int .i64 B[j].b.t, .string B[j].v] 48 (0, 0)) := by rw [← HW3.out]; exact heap_alloc_last wr _
        obtain ⟨⟨d0, d1, d2, d3⟩, _⟩ := row4 hr3
        have hvr := voteRecord_any B[j] W3
        have HNX : Hid ((B.take (j + 1)).map R.vo = ((B.take j).map R.vo) ++ [.vo B[j]]) := by
          show _ = _
          rw [List.take_succ_eq_append_getElem hlt, List.map_append]
          simp
        have HRO := Hid_of (hro.keep hb3)
        have HAT := Hid_of (hat.keep hb3)
        obtain ⟨ua, uc, hu, _, _⟩ := hro.o.at
        rw [hpl] at hu
        subst hu
        subst hga
        generalize B[j] = y at *
        clear hro hat hb3 hr3
        go_upto_region 10 with fail
        rw [HW3.out]
        clear HW3 c0 c1 c2 c3
        go_wp2_with fail
        refine hvr.mono ?_
        rintro e w6 ⟨rfl, hb6⟩
        obtain ⟨ua', uc', a', c', w7, eu, hrun, hro7, hsame⟩ := (HRO.out.keep hb6).app (.vo y) (by rw [hpl]; omega)
        rw [hpl] at eu hrun hro7
        cases eu
        have HF : Hid (RO w w7 (.slice a' (j + 1) c') ((B.take (j + 1)).map R.vo) (some ⟨g, off, none⟩) ∧ AtL vl w7 (some ⟨g, off, none⟩) B) := by
          rw [HNX.out]
          exact ⟨hro7, (HAT.out.keep hb6).keepBut fun k hk hk2 => hsame k hk2⟩
        clear hvr hb6 HRO HAT hro7 hsame d0 d1 d2 d3 HNX
        go_wp2_with (at_builtin; refine Na.wpList_append_known rfl _ _ 93 rfl _ _ rfl rfl _ _ (hrun _) ?_)
        clear hrun
        go_wp2
        go_roundw
        case rel => exact ⟨j + 1, by omega, by go_num, HF.out⟩
        case measure => simp [intOf]; omega
      · obtain rfl : j = B.length := by omega
        rw [List.take_length] at hro hpl
        rw [hbl] at hpl
        have hpm := (HH.out.keep hro.bel).promised
        have HRO := Hid_of hro
        obtain ⟨ua, uc, hu, _, _⟩ := hro.o.at
        rw [hpl] at hu
        subst hu
        clear hro hat
        go_wp2_with fail
        refine hpm.mono ?_
        rintro e w6 ⟨rfl, hb6⟩
        obtain ⟨W7, HW7⟩ : ∃ W7, Hid (w6.alloc (.cells #[.int .i64 x.a.p.i, .int .i64 x.a.p.t] 36) = W7) := ⟨_, Hid_of rfl⟩
        have hb7 : Below w6.heap.size w6 W7 := by rw [← HW7.out]; exact bel1 w6 _
        have hr7 : W7.heap[w6.heap.size]? = some (.cells #[.int .i64 x.a.p.i, .int .i64 x.a.p.t] 36 (0, 0)) := by rw [← HW7.out]; exact heap_alloc_last w6 _
        obtain ⟨⟨d0, d1⟩, _⟩ := row2 hr7
        have HRO7 := Hid_of ((HRO.out.keep hb6).keep hb7)
        have hpr := fun W => promiseRecord_any x.a.p W
        clear hpm hb6 hb7 hr7 HRO
        go_upto_region 13 with fail
        rw [HW7.out]
        clear HW7
        by_cases hz : x.a.p.i = 0 ∧ x.a.p.t = 0
        · obtain ⟨hz1, hz2⟩ := hz
          have HFW : Hid (few x.a = (B).map R.vo) := by
            show few x.a = _
            unfold few
            rw [HB.out, if_pos HB0.out, List.nil_append, if_pos ⟨hz1, hz2⟩, List.append_nil]
            try simp
          have HQ : Hid (RcO w x.a (.returned (.slice ua (x.a.l.length) uc)) W7) := by
            unfold RcO
            rw [HFW.out]
            exact RcO_of HRO7.out hpl
          clear HRO7 HFW hpr HB
          go_wp2
          go_ret
          exact HQ.out
        · have hnz : ¬ (x.a.p.i = 0 ∧ x.a.p.t = 0) := hz
          have HNZ := Hid_of hnz
          have hrunp : ∀ W, (binOp .neq 36 (.agg #[.int .i64 x.a.p.i, .int .i64 x.a.p.t]) (.agg #[.int .i64 0, .int .i64 0])).run Tryz.prog W = .ok (.bool true) W := fun W => nz36 _ _ hnz W
          have HFW : Hid (few x.a = ((B).map R.vo) ++ [.pr x.a.p]) := by
            show few x.a = _
            unfold few
            rw [HB.out, if_pos HB0.out, List.nil_append, if_neg hnz]
            try simp
          clear hz hnz
          go_wp2_with fail
          refine (hpr _).mono ?_
          rintro e w8 ⟨rfl, hb8⟩
          obtain ⟨ua', uc', a', c', w9, eu, hrun, hro9, _⟩ := (HRO7.out.keep hb8).app (.pr x.a.p) (by rw [hpl]; omega)
          have hpl9 : (((B).map R.vo) ++ [R.pr x.a.p]).length = x.a.l.length + 1 := by rw [List.length_append, hpl]; rfl
          rw [hpl] at eu hrun hro9
          cases eu
          have HQ : Hid (RcO w x.a (.returned (.slice a' (x.a.l.length + 1) c')) w9) := by
            unfold RcO
            rw [HFW.out]
            exact RcO_of hro9 hpl9
          clear HRO7 HFW hpr hb8 hro9 hpl9 HB
          go_wp2_with (at_builtin; refine Na.wpList_append_known rfl _ _ 93 rfl _ _ rfl rfl _ _ (hrun _) ?_)
          clear hrun
          go_wp2
          go_ret
          exact HQ.out
  · have HB0 := Hid_of hb0
    have hne : (x.a.base == 0) = false := by rw [beq_eq_false_iff_ne]; exact hb0
    have htr := fun W => trimRecord_any x.a.base W
    go_enter Tryz.func67, Tryz.ntmps67
    go_wp2_with fail
    refine hba.mono ?_
    rintro e w1 ⟨rfl, hw1⟩
    obtain rfl := hw1.symm
    clear hba hw1
    go_wp2_with fail
    refine (htr _).mono ?_
    rintro e w1 ⟨rfl, hb1⟩
    have hR1 : RO w w1 (.slice none 0 0) [] none := ⟨OwnL.nil _ _ _, hb1, fun k hk => (no_blk hk).elim⟩
    obtain ⟨ua, uc, a', c', w2, eu, hrun, hR2, _⟩ := hR1.app (.tr x.a.base) (by simp)
    cases eu
    have HR : Hid (RO w w2 (.slice a' 1 c') [R.tr x.a.base] none) := hR2
    clear htr hb1 hR1 hR2
    go_wp2_with (at_builtin; refine Na.wpList_append_known rfl _ _ 93 rfl _ _ rfl rfl _ _ (hrun _) ?_)
    clear hrun hne hb0
    have hvo := (HH.out.keep HR.out.bel).votesO x.a.base
    rw [HAL.out] at hvo
    have hba := (HH.out.keep HR.out.bel).base
    go_wp2_with fail
    refine hba.mono ?_
    rintro e w3 ⟨rfl, hw3⟩
    obtain rfl := hw3.symm
    clear hba hw3
    go_wp2_with fail
    refine hvo.mono ?_
    rintro e w4 ⟨v4, rfl, ho4, hb4⟩
    obtain ⟨ad, c, hv4, hbk4, hso⟩ := sort_own ho4 HUP.out (by omega)
    subst hv4
    have hge : ∀ k, (Value.slice ad x.a.l.length c).ownBlock = some k → w2.heap.size ≤ k ∧ k < w4.heap.size := fun k hk => ho4.lt hk
    have HR4 := Hid_of (HR.out.keep hb4)
    have HGE := Hid_of hge
    have HBK := Hid_of hbk4
    clear hvo ho4 hbk4 hge hb4
    go_wp2_with fail
    refine hso.mono ?_
    rintro e w5 ⟨rfl, hat5, hg5⟩
    have hRO5 : RO w w5 (.slice a' 1 c') [R.tr x.a.base] ad := by
      refine ⟨HR4.out.o.keepBut (w1 := w5) (fun k hk hk2 => hg5.block k hk (fun e => ?_)), HR4.out.bel.trans ?_, fun k hk => ⟨fun e => ?_, ?_⟩⟩
      · have h1 := (HGE.out k e.symm).1
        have h2 := (HR.out.o.lt hk2).2
        omega
      · exact ⟨hg5.os, hg5.tape, hg5.output, hg5.size, fun k hk => hg5.block k (by have := HR4.out.bel.size; omega) (fun e => by have h1 := (HGE.out k e.symm).1; have := HR.out.bel.size; omega)⟩
      · have h1 := (HGE.out k (HBK.out k hk)).1
        have h2 := (HR.out.o.lt e).2
        omega
      · have h1 := (HGE.out k (HBK.out k hk)).2
        have := hg5.size
        omega
    have HST : Hid (RO w w5 (.slice a' 1 c') (R.tr x.a.base :: ((byB x.a.l).take 0).map R.vo) ad ∧ AtL vl w5 ad (byB x.a.l)) := by
      rw [List.take_zero, List.map_nil]
      exact ⟨hRO5, hat5⟩
    have hbl : (byB x.a.l).length = x.a.l.length := (byB_perm x.a.l).length_eq
    clear hso hat5 hg5 hRO5 HR HR4 HGE HBK
    obtain ⟨B, hB⟩ : ∃ B, byB x.a.l = B := ⟨_, rfl⟩
    rw [hB] at HST hbl
    have HB := Hid_of hB
    clear hB
    go_wp2
    go_loopw [26, 3] (fun i u wr => ∃ j : Nat, j ≤ B.length ∧ i = .int .i64 j ∧ RO w wr u (R.tr x.a.base :: (B.take j).map R.vo) ad ∧ AtL vl wr ad B) (fun i _ _ => B.length - (intOf i).toNat)
    case atStart => exact ⟨0, Nat.zero_le _, rfl, HST.out⟩
    case round =>
      obtain ⟨j, hj, rfl, hro, hat⟩ := hrel
      clear HST
      have hpl : (R.tr x.a.base :: (B.take j).map R.vo).length = j + 1 := by simp; omega
      by_cases hlt : j < B.length
      · obtain ⟨g, off, hga, c0, c1, c2, c3⟩ := hat.getV j hlt
        obtain ⟨W3, HW3⟩ : ∃ W3, Hid (wr.alloc (.cells #[.int .i64 B[j].s, .int .i64 B[j].b.i, .int .i64 B[j].b.t, .string B[j].v] 48) = W3) := ⟨_, Hid_of rfl⟩
        have hb3 : Below wr.heap.size wr W3 := by rw [← HW3.out]; exact bel1 wr _
        have hr3 : W3.heap[wr.heap.size]? = some (.cells #[.int .i64 B[j].s, .int .i64 B[j].b.i, .int .i64 B[j].b.t, .string B[j].v] 48 (0, 0)) := by rw [← HW3.out]; exact heap_alloc_last wr _
        obtain ⟨⟨d0, d1, d2, d3⟩, _⟩ := row4 hr3
        have hvr := voteRecord_any B[j] W3
        have HNX : Hid (R.tr x.a.base :: (B.take (j + 1)).map R.vo = (R.tr x.a.base :: (B.take j).map R.vo) ++ [.vo B[j]]) := by
          show _ = _
          rw [List.take_succ_eq_append_getElem hlt, List.map_append]
          simp
        have HRO := Hid_of (hro.keep hb3)
        have HAT := Hid_of (hat.keep hb3)
        obtain ⟨ua, uc, hu, _, _⟩ := hro.o.at
        rw [hpl] at hu
        subst hu
        subst hga
        generalize B[j] = y at *
        clear hro hat hb3 hr3
        go_upto_region 10 with fail
        rw [HW3.out]
        clear HW3 c0 c1 c2 c3
        go_wp2_with fail
        refine hvr.mono ?_
        rintro e w6 ⟨rfl, hb6⟩
        obtain ⟨ua', uc', a', c', w7, eu, hrun, hro7, hsame⟩ := (HRO.out.keep hb6).app (.vo y) (by rw [hpl]; omega)
        rw [hpl] at eu hrun hro7
        cases eu
        have HF : Hid (RO w w7 (.slice a' (j + 1 + 1) c') (R.tr x.a.base :: (B.take (j + 1)).map R.vo) (some ⟨g, off, none⟩) ∧ AtL vl w7 (some ⟨g, off, none⟩) B) := by
          rw [HNX.out]
          exact ⟨hro7, (HAT.out.keep hb6).keepBut fun k hk hk2 => hsame k hk2⟩
        clear hvr hb6 HRO HAT hro7 hsame d0 d1 d2 d3 HNX
        go_wp2_with (at_builtin; refine Na.wpList_append_known rfl _ _ 93 rfl _ _ rfl rfl _ _ (hrun _) ?_)
        clear hrun
        go_wp2
        go_roundw
        case rel => exact ⟨j + 1, by omega, by go_num, HF.out⟩
        case measure => simp [intOf]; omega
      · obtain rfl : j = B.length := by omega
        rw [List.take_length] at hro hpl
        rw [hbl] at hpl
        have hpm := (HH.out.keep hro.bel).promised
        have HRO := Hid_of hro
        obtain ⟨ua, uc, hu, _, _⟩ := hro.o.at
        rw [hpl] at hu
        subst hu
        clear hro hat
        go_wp2_with fail
        refine hpm.mono ?_
        rintro e w6 ⟨rfl, hb6⟩
        obtain ⟨W7, HW7⟩ : ∃ W7, Hid (w6.alloc (.cells #[.int .i64 x.a.p.i, .int .i64 x.a.p.t] 36) = W7) := ⟨_, Hid_of rfl⟩
        have hb7 : Below w6.heap.size w6 W7 := by rw [← HW7.out]; exact bel1 w6 _
        have hr7 : W7.heap[w6.heap.size]? = some (.cells #[.int .i64 x.a.p.i, .int .i64 x.a.p.t] 36 (0, 0)) := by rw [← HW7.out]; exact heap_alloc_last w6 _
        obtain ⟨⟨d0, d1⟩, _⟩ := row2 hr7
        have HRO7 := Hid_of ((HRO.out.keep hb6).keep hb7)
        have hpr := fun W => promiseRecord_any x.a.p W
        clear hpm hb6 hb7 hr7 HRO
        go_upto_region 13 with fail
        rw [HW7.out]
        clear HW7
        by_cases hz : x.a.p.i = 0 ∧ x.a.p.t = 0
        · obtain ⟨hz1, hz2⟩ := hz
          have HFW : Hid (few x.a = R.tr x.a.base :: (B).map R.vo) := by
            show few x.a = _
            unfold few
            rw [HB.out, if_neg HB0.out, if_pos ⟨hz1, hz2⟩, List.append_nil]
            try simp
          have HQ : Hid (RcO w x.a (.returned (.slice ua (x.a.l.length + 1) uc)) W7) := by
            unfold RcO
            rw [HFW.out]
            exact RcO_of HRO7.out hpl
          clear HRO7 HFW hpr HB
          go_wp2
          go_ret
          exact HQ.out
        · have hnz : ¬ (x.a.p.i = 0 ∧ x.a.p.t = 0) := hz
          have HNZ := Hid_of hnz
          have hrunp : ∀ W, (binOp .neq 36 (.agg #[.int .i64 x.a.p.i, .int .i64 x.a.p.t]) (.agg #[.int .i64 0, .int .i64 0])).run Tryz.prog W = .ok (.bool true) W := fun W => nz36 _ _ hnz W
          have HFW : Hid (few x.a = (R.tr x.a.base :: (B).map R.vo) ++ [.pr x.a.p]) := by
            show few x.a = _
            unfold few
            rw [HB.out, if_neg HB0.out, if_neg hnz]
            try simp
          clear hz hnz
          go_wp2_with fail
          refine (hpr _).mono ?_
          rintro e w8 ⟨rfl, hb8⟩
          obtain ⟨ua', uc', a', c', w9, eu, hrun, hro9, _⟩ := (HRO7.out.keep hb8).app (.pr x.a.p) (by rw [hpl]; omega)
          have hpl9 : ((R.tr x.a.base :: (B).map R.vo) ++ [R.pr x.a.p]).length = x.a.l.length + 1 + 1 := by rw [List.length_append, hpl]; rfl
          rw [hpl] at eu hrun hro9
          cases eu
          have HQ : Hid (RcO w x.a (.returned (.slice a' (x.a.l.length + 1 + 1) c')) w9) := by
            unfold RcO
            rw [HFW.out]
            exact RcO_of hro9 hpl9
          clear HRO7 HFW hpr hb8 hro9 hpl9 HB
          go_wp2_with (at_builtin; refine Na.wpList_append_known rfl _ _ 93 rfl _ _ rfl rfl _ _ (hrun _) ?_)
          clear hrun
          go_wp2
          go_ret
          exact HQ.out
end
end Go.Proofs.YtlnedgjikkhplaaGreat.Du
