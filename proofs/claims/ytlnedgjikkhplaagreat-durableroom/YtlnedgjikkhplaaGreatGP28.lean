import Derived.Test.YtlnedgjikkhplaaGreatGP27
set_option maxRecDepth 100000
set_option maxHeartbeats 8000000
set_option linter.unusedVariables false
set_option linter.unusedSimpArgs false
namespace Go.Proofs.YtlnedgjikkhplaaGreat.Ns
open Go.RowKit
open M (ofL ofL_size ofL_of DD)
theorem run_copyV (w : World) (ts te : TypeId) (zz : Value) (bytes : Nat) (hu : Tryz.prog.underlying ts = some (.slice te)) (hinfo : (Tryz.prog.info? te).map (fun i => (i.zero, i.size, i.bytes)) = some (some zz, 1, bytes)) (hz : zz.cells.size = 1) (hby : bytes ≤ 64) (a : Option Addr) (c : Nat) (cs : List Value) (hat : AtV w a cs) (h1 : ∀ v ∈ cs, v.oneCell' = true) (h0 : 0 < cs.length) (hl : cs.length ≤ 100000) (hzc : zz.cells.size = 1) (hone : ∀ v ∈ zz.cells.toList, v.oneCell' = true) :
  ∃ g c' w', (∀ ty, (Builtin.append_ #[ts, ts] ty #[.slice none 0 0, .slice a cs.length c]).run Tryz.prog w = .ok (.slice (some ⟨g, 0, none⟩) cs.length c') w') ∧ w'.ownsRow w.heap.size te 1 (.slice (some ⟨g, 0, none⟩) cs.length c') cs.length cs ∧ Below w.heap.size w w' := by
 obtain ⟨i0, hi, hz0, hz1, hz2⟩ := info_parts hinfo
 obtain ⟨b, off, rfl, _⟩ := hat 0 h0
 obtain ⟨g, cap, w', hr, h2, h3, h4, h5⟩ := run_append_lies (P := Tryz.prog) w ts 0 w.heap.size te i0 _ 1 bytes hu hi hz0 hz1 hz2 hz (by decide) (.slice none 0 0) 0 [] (World.ownsRow_nil _ _ _ _) ⟨b, off, none⟩ cs.length c cs (by simp) (atV_cells hat) h1 h0 (by unfold maxLen; omega) (by rw [Nat.zero_add]; exact Nat.le_trans (Nat.mul_le_mul hl hby) (by decide)) Lr _ rfl
 rw [Nat.zero_add] at hr h2; rw [List.nil_append] at h2
 exact ⟨_, cap, w', fun ty => hr, h2, ⟨h3.os, h3.tape, h3.output, h3.size, fun k hk => h3.block k hk (by simp [Value.ownBlock])⟩⟩
theorem owns_set {w : World} {base n : Nat} {t : TypeId} {v : Value} {cs : List Value} {k : Nat} (h : w.ownsRow base t 1 v n cs) (hk : k < n) :
  ∃ g cap, v = .slice (some ⟨g, 0, none⟩) n cap ∧ base ≤ g ∧ (∃ u, cs[k]? = some u ∧ w.cell? ⟨g, k, none⟩ = some u) ∧ w.frozen? ⟨g, k, none⟩ = false ∧
   ∀ x : Value, (w.setCell ⟨g, k, none⟩ x).ownsRow base t 1 v n (cs.set k x) := by
 have hn : cs.length = n := by have := h.1; omega
 rcases h.2 with ⟨rfl, h0⟩ | ⟨g, cap, cur, hv, hb', hh, hc, hm, hs, ht⟩
 ·omega
 ·refine ⟨g, cap, hv, hb', ⟨cs[k], List.getElem?_eq_getElem (by omega), ?_⟩, frozen_of_row w g _ _ _ hh, fun q => ⟨by rw [List.length_set]; omega, .inr ⟨g, cap, _, hv, hb', heap_setCell_same w g _ _ _ _ hh, hc, hm, by simp; omega, ?_⟩⟩⟩
  ·have := h.cells (g := g) (by rw [hv]; rfl) k cs[k] (List.getElem?_eq_getElem (by omega))
   rwa [add_none, Nat.zero_add] at this
  ·rw [Array.toList_setIfInBounds, List.take_set, ht]
theorem res_cell_tmp4 {fn : Func} {p u : Tmp} (h : fn.results = #[.cell p 34, .tmp u]) (tmps : Array Value) (w : World) (g : Nat) (v0 v1 v2 v3 : Value) (hp : tmps.getD p undef = .pointer (some ⟨g, 0, none⟩)) (hg : w.heap[g]? = some (.cells #[v0, v1, v2, v3] 34 (0, 0))) :
  (results fn tmps).run Tryz.prog w = .ok (.tuple #[.agg #[v0, v1, v2, v3], tmps.getD u undef]) w := by
 have hp' : tmps[p]?.getD undef = .pointer (some ⟨g, 0, none⟩) := by simpa using hp
 rw [results_cell_tmp h]
 simp [asAddr, hp', run_loadVar_row w g 34 34 #[v0, v1, v2, v3] (0, 0) _ hg Tryz.underlying34 rfl Tryz.size34]
theorem f79_res : Tryz.f79.results = #[.cell 6 34, .tmp 7] := rfl
def wrV (r : Int) (vs : Array Value) : Value := .tuple #[.agg vs, .int .i64 r]
theorem rwrite_no (h : Hd) (D : DD) (at' : Int) (s : ByteArray) (w : World) (hn : D.now.length ≤ 4096) (hs : s.size ≤ 131072) (hx : XD w h D) (hz : M.wcode D.now.length D.lost at' s ≠ 0) :
  Calls Tryz.prog 79 #[.agg (h.vals D), .int .i64 at', .string s] w (DOut w h D (wrV (M.wcode D.now.length D.lost at' s))) := by
 obtain ⟨aN, cN, aS, cS, aL, cL⟩ := h
 obtain ⟨W1, hW1, hs1, hB1, hr0, hr1⟩ := box2 w (.slice aN D.now.length cN) (.slice aS D.sure.length cS) (.slice aL D.loo.length cL) (.bool D.lost)
 have HW1 := Hf hW1
 obtain ⟨m2, m3⟩ := ret4 (h := ⟨aN, cN, aS, cS, aL, cL⟩) hB1 hr1 (hx.keep hB1) (fun k hk => ⟨by have := hx.lt k hk; omega, .inl hk⟩) (wrV (M.wcode D.now.length D.lost at' s))
 have HM2 := Hf m2
 have HM3 := Hf m3
 obtain ⟨⟨k0, k1, k2, k3⟩, _⟩ := row4 hr0
 obtain ⟨⟨s0, s1, s2, s3⟩, sf⟩ := row4 hr1
 have sf0 := sf 0
 have sf1 := sf 1
 have sf2 := sf 2
 have sf3 := sf 3
 unfold Hd.vals at HM2 HM3 ⊢
 dsimp only at HM2 HM3 ⊢
 clear m2 m3 hx hW1 hr0 hr1 hB1 hs1 sf
 have hdv : (s.size : Int).tdiv 64 = ((s.size / 64 : Nat) : Int) := by rw [Int.tdiv_eq_ediv_of_nonneg (by omega)]; omega
 have hdm : (s.size : Int) / 64 = ((s.size / 64 : Nat) : Int) := by omega
 obtain ⟨m, hmm⟩ := Nq (s.size / 64)
 have HMM := Hf hmm
 rw [hmm] at hdv hdm; clear hmm
 by_cases h1 : at' < 0
 ·have hc : M.wcode D.now.length D.lost at' s = 1 := by
   unfold M.wcode M.refused; rw [decide_eq_true h1]
   cases decide (s.size % 64 = 0) <;> rfl
  rw [hc] at HM3 ⊢
  have hd : decide (at' < 0) = true := by simpa using h1
  clear hc hz
  go_enter Tryz.func79, Tryz.ntmps79
  go_upto_region 1 with fail
  rw [HW1.out]; clear HW1; go_wp2
  refine bodyPost_ret (v := wrV 1 #[.slice aN D.now.length cN, .slice aS D.sure.length cS, .slice aL D.loo.length cL, .bool D.lost]) ?_ rfl HM3.out
  exact res_cell_tmp4 f79_res _ _ (w.heap.size + 1) _ _ _ _ rfl HM2.out
 ·have hd : decide (at' < 0) = false := by simpa using h1
  by_cases h2 : s.size = 0
  ·have hE : s = M.E := M.eq_E h2
   have hc : M.wcode D.now.length D.lost at' s = 1 := by
    unfold M.wcode M.refused; rw [h2, decide_eq_true (show ((0 / 64 : Nat) : Int) < 1 by decide), Bool.or_true]
    rfl
   rw [hc] at HM3 ⊢
   have he : s.toList.isEmpty = true := by rw [hE]; exact is_nil
   clear hc hz hE
   go_enter Tryz.func79, Tryz.ntmps79
   go_upto_region 1 with fail
   rw [HW1.out]; clear HW1; go_wp2
   refine bodyPost_ret (v := wrV 1 #[.slice aN D.now.length cN, .slice aS D.sure.length cS, .slice aL D.loo.length cL, .bool D.lost]) ?_ rfl HM3.out
   exact res_cell_tmp4 f79_res _ _ (w.heap.size + 1) _ _ _ _ rfl HM2.out
  ·have he : s.toList.isEmpty = false := by
    rw [ByteArray.toList_eq]
    cases hd : s.data.toList with
    | nil => exact absurd (by rw [← ByteArray.size_data, ← Array.length_toList, hd]; rfl) h2
    | cons a r => rfl
   by_cases hm : s.size % 64 = 0
   ·have hmi : (s.size : Int) % 64 = 0 := by omega
    have hmt : (s.size : Int).tmod 64 = 0 := by rw [Int.tmod_eq_emod_of_nonneg (by omega)]; exact hmi
    have hwc : M.wcode D.now.length D.lost at' s = M.refused D.now.length D.lost at' (m : Int) := by unfold M.wcode; simp [hm, HMM.out]
    have hm1 : 1 ≤ m := by have := HMM.out; omega
    rw [hwc] at hz HM3 ⊢; clear hwc
    rcases ref_cases D.now.length D.lost at' (m : Int) with ⟨q1, hr⟩ | ⟨q1, q2, hr⟩ | ⟨q1, q2, q3, hr⟩ | ⟨q1, q2, q3, q4, hr⟩ | ⟨q1, q2, q3, q4, q5, hr⟩ | ⟨q5, _, hr⟩
    ·exact absurd q1 h1
    ·omega
    ·rw [hr] at HM3 ⊢
     have hd3 : decide ((D.now.length : Int) < at') = true := by simpa using q3
     clear hr hz
     go_enter Tryz.func79, Tryz.ntmps79
     go_upto_region 1 with fail
     rw [HW1.out]; clear HW1; go_wp2
     refine bodyPost_ret (v := wrV 5 #[.slice aN D.now.length cN, .slice aS D.sure.length cS, .slice aL D.loo.length cL, .bool D.lost]) ?_ rfl HM3.out
     exact res_cell_tmp4 f79_res _ _ (w.heap.size + 1) _ _ _ _ rfl HM2.out
    ·rw [hr] at HM3 ⊢
     have hd3 : decide ((D.now.length : Int) < at') = false := by simpa using q3
     have hd4 : decide ((D.now.length : Int) - at' < (m : Int)) = true := by simpa using q4
     clear hr hz
     go_enter Tryz.func79, Tryz.ntmps79
     go_upto_region 1 with fail
     rw [HW1.out]; clear HW1; go_wp2
     refine bodyPost_ret (v := wrV 5 #[.slice aN D.now.length cN, .slice aS D.sure.length cS, .slice aL D.loo.length cL, .bool D.lost]) ?_ rfl HM3.out
     exact res_cell_tmp4 f79_res _ _ (w.heap.size + 1) _ _ _ _ rfl HM2.out
    ·rw [hr] at HM3 ⊢
     have hd3 : decide ((D.now.length : Int) < at') = false := by simpa using q3
     have hd4 : decide ((D.now.length : Int) - at' < (m : Int)) = false := by simpa using q4
     clear hr hz; rw [q5] at HM2 HM3 HW1 k3 ⊢; clear q5
     go_enter Tryz.func79, Tryz.ntmps79
     go_upto_region 1 with fail
     rw [HW1.out]; clear HW1; go_wp2
     refine bodyPost_ret (v := wrV 8 #[.slice aN D.now.length cN, .slice aS D.sure.length cS, .slice aL D.loo.length cL, .bool true]) ?_ rfl HM3.out
     exact res_cell_tmp4 f79_res _ _ (w.heap.size + 1) _ _ _ _ rfl HM2.out
    ·exact absurd hr hz
   ·have hmt : (s.size : Int).tmod 64 ≠ 0 := by rw [Int.tmod_eq_emod_of_nonneg (by omega)]; omega
    have hmt' : ((s.size : Int).tmod 64 == 0) = false := by simpa using hmt
    have hme : ((s.size : Int) % 64 == 0) = false := by simp; omega
    have hc : M.wcode D.now.length D.lost at' s = 1 := by unfold M.wcode; simp [hm]
    rw [hc] at HM3 ⊢; clear hc hz
    go_enter Tryz.func79, Tryz.ntmps79
    go_upto_region 1 with fail
    rw [HW1.out]; clear HW1; go_wp2
    refine bodyPost_ret (v := wrV 1 #[.slice aN D.now.length cN, .slice aS D.sure.length cS, .slice aL D.loo.length cL, .bool D.lost]) ?_ rfl HM3.out
    exact res_cell_tmp4 f79_res _ _ (w.heap.size + 1) _ _ _ _ rfl HM2.out
theorem SC_set (l : List ByteArray) (k : Nat) (s : ByteArray) : (SC l).set k (.string s) = SC (l.set k s) := by simp [SC, List.map_set]
theorem BC_set (l : List Bool) (k : Nat) (q : Bool) : (BC l).set k (.bool q) = BC (l.set k q) := by simp [BC, List.map_set]
theorem copyS (w : World) (a : Option Addr) (c : Nat) (l : List ByteArray) (hat : AtV w a (SC l)) (h0 : 0 < l.length) (hl : l.length ≤ 100000) :
  ∃ g c' w', (∀ ty, (Builtin.append_ #[31, 31] ty #[.slice none 0 0, .slice a l.length c]).run Tryz.prog w = .ok (.slice (some ⟨g, 0, none⟩) l.length c') w') ∧ w'.ownsRow w.heap.size 9 1 (.slice (some ⟨g, 0, none⟩) l.length c') l.length (SC l) ∧ Below w.heap.size w w' := by
 have := run_copyV w 31 9 (.string ByteArray.empty) 16 Tryz.underlying31 Tryz.info9 rfl (by decide) a c (SC l) hat (SC_one l) (by rw [SC_len]; exact h0) (by rw [SC_len]; exact hl) rfl (by simp [Value.cells]; rfl)
 rw [SC_len] at this
 exact this
theorem copyB (w : World) (a : Option Addr) (c : Nat) (l : List Bool) (hat : AtV w a (BC l)) (h0 : 0 < l.length) (hl : l.length ≤ 100000) :
  ∃ g c' w', (∀ ty, (Builtin.append_ #[32, 32] ty #[.slice none 0 0, .slice a l.length c]).run Tryz.prog w = .ok (.slice (some ⟨g, 0, none⟩) l.length c') w') ∧ w'.ownsRow w.heap.size 4 1 (.slice (some ⟨g, 0, none⟩) l.length c') l.length (BC l) ∧ Below w.heap.size w w' := by
 have := run_copyV w 32 4 (.bool false) 1 Tryz.underlying32 Tryz.info4 rfl (by decide) a c (BC l) hat (BC_one l) (by rw [BC_len]; exact h0) (by rw [BC_len]; exact hl) rfl (by simp [Value.cells]; rfl)
 rw [BC_len] at this
 exact this
structure WL (w wr : World) (g1 c1 g2 c2 : Nat) (vS : Value) (lost : Bool) (N : List ByteArray) (L : List Bool) : Prop where
 r0 : wr.heap[w.heap.size]? = some (.cells #[.slice (some ⟨g1, 0, none⟩) N.length c1, vS, .slice (some ⟨g2, 0, none⟩) L.length c2, .bool lost] 34 (0, 0))
 r1 : wr.heap[w.heap.size + 1]? = some (.cells #[.slice none 0 0, .slice none 0 0, .slice none 0 0, .bool false] 34 (0, 0))
 o1 : wr.ownsRow (w.heap.size + 2) 9 1 (.slice (some ⟨g1, 0, none⟩) N.length c1) N.length (SC N)
 o2 : wr.ownsRow (w.heap.size + 2) 4 1 (.slice (some ⟨g2, 0, none⟩) L.length c2) L.length (BC L)
 ne : g1 ≠ g2
 bel : Below w.heap.size w wr
section
variable {w wr : World} {g1 c1 g2 c2 : Nat} {vS : Value} {lost : Bool} {N : List ByteArray} {L : List Bool}
theorem own_g {w : World} {base : Nat} {t : TypeId} {g n c : Nat} {cs : List Value} (h : w.ownsRow base t 1 (.slice (some ⟨g, 0, none⟩) n c) n cs) : base ≤ g ∧ g < w.heap.size := World.ownsRow.lt h g rfl
theorem WL.setN (h : WL w wr g1 c1 g2 c2 vS lost N L) (i : Nat) (hi : i < N.length) (s : ByteArray) :
  (∃ u, wr.cell? ⟨g1, i, none⟩ = some (.string u)) ∧ wr.frozen? ⟨g1, i, none⟩ = false ∧ WL w (wr.setCell ⟨g1, i, none⟩ (.string s)) g1 c1 g2 c2 vS lost (N.set i s) L := by
 obtain ⟨g, cap, e, hb, ⟨u, hu, hc⟩, hf, hset⟩ := owns_set h.o1 hi
 simp only [Value.slice.injEq, Option.some.injEq, Addr.mk.injEq, and_true, true_and] at e
 obtain ⟨rfl, rfl⟩ := e
 obtain ⟨q1, q2⟩ := own_g h.o1
 have hne : ∀ k, k ≠ g1 → (wr.setCell ⟨g1, i, none⟩ (.string s)).heap[k]? = wr.heap[k]? := fun k hk => heap_setCell_other wr ⟨g1, i, none⟩ k _ hk
 refine ⟨⟨N[i], by rw [hc, ← hu, SC_get N i hi]⟩, hf, ⟨?_, (hne _ (by omega)).trans h.r1, ?_, owns_keepBut h.o2 (fun k hk e => hne k (by simp only [Value.ownBlock, Option.some.injEq] at e; rw [← e]; exact fun e' => h.ne e'.symm)), h.ne, h.bel.setCell (by show w.heap.size ≤ _; dsimp only; omega) _⟩⟩
 ·rw [List.length_set]; exact (hne _ (by omega)).trans h.r0
 ·rw [List.length_set, ← SC_set]; exact hset _
theorem WL.setL (h : WL w wr g1 c1 g2 c2 vS lost N L) (i : Nat) (hi : i < L.length) (q : Bool) :
  (∃ u, wr.cell? ⟨g2, i, none⟩ = some (.bool u)) ∧ wr.frozen? ⟨g2, i, none⟩ = false ∧ WL w (wr.setCell ⟨g2, i, none⟩ (.bool q)) g1 c1 g2 c2 vS lost N (L.set i q) := by
 obtain ⟨g, cap, e, hb, ⟨u, hu, hc⟩, hf, hset⟩ := owns_set h.o2 hi
 simp only [Value.slice.injEq, Option.some.injEq, Addr.mk.injEq, and_true, true_and] at e
 obtain ⟨rfl, rfl⟩ := e
 obtain ⟨q1, q2⟩ := own_g h.o2
 have hne : ∀ k, k ≠ g2 → (wr.setCell ⟨g2, i, none⟩ (.bool q)).heap[k]? = wr.heap[k]? := fun k hk => heap_setCell_other wr ⟨g2, i, none⟩ k _ hk
 refine ⟨⟨L[i], by rw [hc, ← hu]; simp [BC, hi]⟩, hf, ⟨?_, (hne _ (by omega)).trans h.r1, owns_keepBut h.o1 (fun k hk e => hne k (by simp only [Value.ownBlock, Option.some.injEq] at e; rw [← e]; exact h.ne)), ?_, h.ne, h.bel.setCell (by show w.heap.size ≤ _; dsimp only; omega) _⟩⟩
 ·rw [List.length_set]; exact (hne _ (by omega)).trans h.r0
 ·rw [List.length_set, ← BC_set]; exact hset _
theorem WL.drew (h : WL w wr g1 c1 g2 c2 vS lost N L) : WL w wr.drew g1 c1 g2 c2 vS lost N L := ⟨h.r0, h.r1, h.o1, h.o2, h.ne, Below.drew h.bel⟩
theorem WL.start {h : Hd} {D : DD} (hx : XD w h D) {W1 : World} (hs1 : W1.heap.size = w.heap.size + 2) (hB1 : Below w.heap.size w W1)
  (hr0 : W1.heap[w.heap.size]? = some (.cells #[.slice h.aN D.now.length h.cN, .slice h.aS D.sure.length h.cS, .slice h.aL D.loo.length h.cL, .bool D.lost] 34 (0, 0))) (hr1 : W1.heap[w.heap.size + 1]? = some (.cells #[.slice none 0 0, .slice none 0 0, .slice none 0 0, .bool false] 34 (0, 0)))
  (h1 : 0 < D.now.length) (h2 : 0 < D.loo.length) (h3 : D.now.length ≤ 4096) (h4 : D.loo.length ≤ 4096) :
  ∃ g1 c1 w2 w3 g2 c2 w4 w5, (∀ ty, (Builtin.append_ #[31, 31] ty #[.slice none 0 0, .slice h.aN D.now.length h.cN]).run Tryz.prog W1 = .ok (.slice (some ⟨g1, 0, none⟩) D.now.length c1) w2) ∧ (w2.cell? ⟨w.heap.size, 0, none⟩ = some (.slice h.aN D.now.length h.cN) ∧ w2.frozen? ⟨w.heap.size, 0, none⟩ = false) ∧ w2.setCell ⟨w.heap.size, 0, none⟩ (.slice (some ⟨g1, 0, none⟩) D.now.length c1) = w3 ∧
   w3.cell? ⟨w.heap.size, 2, none⟩ = some (.slice h.aL D.loo.length h.cL) ∧ (∀ ty, (Builtin.append_ #[32, 32] ty #[.slice none 0 0, .slice h.aL D.loo.length h.cL]).run Tryz.prog w3 = .ok (.slice (some ⟨g2, 0, none⟩) D.loo.length c2) w4) ∧ (w4.cell? ⟨w.heap.size, 2, none⟩ = some (.slice h.aL D.loo.length h.cL) ∧ w4.frozen? ⟨w.heap.size, 2, none⟩ = false) ∧
   w4.setCell ⟨w.heap.size, 2, none⟩ (.slice (some ⟨g2, 0, none⟩) D.loo.length c2) = w5 ∧ WL w w5 g1 c1 g2 c2 (.slice h.aS D.sure.length h.cS) D.lost D.now D.loo := by
 obtain ⟨g1, c1, w2, run1, o1, b2⟩ := copyS W1 h.aN h.cN D.now (hx.keep hB1).n h1 (by omega)
 have r2 := (b2.block _ (by omega)).trans hr0
 have z2 := (b2.block _ (by omega)).trans hr1
 obtain ⟨⟨e0, e1, e2, e3⟩, ef⟩ := row4 r2
 obtain ⟨w3, hw3⟩ := Nq (w2.setCell ⟨w.heap.size, 0, none⟩ (.slice (some ⟨g1, 0, none⟩) D.now.length c1))
 have r3 : w3.heap[w.heap.size]? = some (.cells #[.slice (some ⟨g1, 0, none⟩) D.now.length c1, .slice h.aS D.sure.length h.cS, .slice h.aL D.loo.length h.cL, .bool D.lost] 34 (0, 0)) := by rw [← hw3]; exact heap_setCell_same w2 _ 0 _ _ _ r2
 have n3 : ∀ k, k ≠ w.heap.size → w3.heap[k]? = w2.heap[k]? := fun k hk => by rw [← hw3]; exact heap_setCell_other w2 ⟨w.heap.size, 0, none⟩ k _ hk
 have s3 : w3.heap.size = w2.heap.size := by rw [← hw3]; simp
 have hb3 : Below w.heap.size w w3 := by rw [← hw3]; exact (Bu hB1 b2 Lr).setCell Lr _
 obtain ⟨q1, q2⟩ := own_g o1
 have o13 : w3.ownsRow W1.heap.size 9 1 (.slice (some ⟨g1, 0, none⟩) D.now.length c1) D.now.length (SC D.now) := owns_keepBut o1 (fun k hk e => n3 k (by simp only [Value.ownBlock, Option.some.injEq] at e; omega))
 obtain ⟨⟨_, _, f2, _⟩, _⟩ := row4 r3
 obtain ⟨g2, c2, w4, run2, o2, b4⟩ := copyB w3 h.aL h.cL D.loo (hx.keep hb3).l h2 (by omega)
 have r4 := (b4.block _ (by have := b2.size; omega)).trans r3
 have z4 := (b4.block _ (by have := b2.size; omega)).trans ((n3 _ (by omega)).trans z2)
 obtain ⟨⟨_, _, p2, _⟩, pf⟩ := row4 r4
 obtain ⟨q3, q4⟩ := own_g o2
 have n5 : ∀ k, k ≠ w.heap.size → (w4.setCell ⟨w.heap.size, 2, none⟩ (.slice (some ⟨g2, 0, none⟩) D.loo.length c2)).heap[k]? = w4.heap[k]? := fun k hk => heap_setCell_other w4 ⟨w.heap.size, 2, none⟩ k _ hk
 have hsz := b2.size
 refine ⟨g1, c1, w2, w3, g2, c2, w4, _, run1, ⟨e0, ef 0⟩, hw3, f2, run2, ⟨p2, pf 2⟩, rfl, ⟨heap_setCell_same w4 _ 2 _ _ _ r4, (n5 _ (by omega)).trans z4, ?_, ?_, by omega, (Bu hb3 b4 Lr).setCell Lr _⟩⟩
 ·refine owns_low (base := W1.heap.size) (owns_keepBut (owns_keep o13 b4) fun k hk e => n5 k ?_) (by omega)
  simp only [Value.ownBlock, Option.some.injEq] at e
  omega
 ·refine owns_low (base := w3.heap.size) (owns_keepBut o2 fun k hk e => n5 k ?_) (by omega)
  simp only [Value.ownBlock, Option.some.injEq] at e
  omega
theorem WL.fin {h : Hd} {D D' : DD} (hx : XD w h D) (hw : WL w wr g1 c1 g2 c2 (.slice h.aS D.sure.length h.cS) D.lost N L) (hD : D' = { D with now := N, loo := L }) (v : Array Value → Value) :
  (st4 wr (w.heap.size + 1) (.slice (some ⟨g1, 0, none⟩) N.length c1) (.slice h.aS D.sure.length h.cS) (.slice (some ⟨g2, 0, none⟩) L.length c2) (.bool D.lost)).heap[w.heap.size + 1]? = some (.cells #[.slice (some ⟨g1, 0, none⟩) N.length c1, .slice h.aS D.sure.length h.cS, .slice (some ⟨g2, 0, none⟩) L.length c2, .bool D.lost] 34 (0, 0)) ∧
   DOut w h D' v (.returned (v #[.slice (some ⟨g1, 0, none⟩) N.length c1, .slice h.aS D.sure.length h.cS, .slice (some ⟨g2, 0, none⟩) L.length c2, .bool D.lost])) (st4 wr (w.heap.size + 1) (.slice (some ⟨g1, 0, none⟩) N.length c1) (.slice h.aS D.sure.length h.cS) (.slice (some ⟨g2, 0, none⟩) L.length c2) (.bool D.lost)) := by
 subst hD
 have hx3 := hx.keep hw.bel
 obtain ⟨a1, k1, e1, at1, bl1, _⟩ := owns_at hw.o1
 obtain ⟨a2, k2, e2, at2, bl2, _⟩ := owns_at hw.o2
 simp only [Value.slice.injEq, true_and] at e1 e2
 obtain ⟨rfl, rfl⟩ := e1
 obtain ⟨rfl, rfl⟩ := e2
 refine ret4 (h := h) (h' := ⟨some ⟨g1, 0, none⟩, c1, h.aS, h.cS, some ⟨g2, 0, none⟩, c2⟩) (D' := { D with now := N, loo := L }) hw.bel hw.r1 ⟨at1, hx3.s, at2, ?_⟩ ?_ v
 ·rintro k (hk | hk | hk)
  ·exact (bl1 k hk).2.2
  ·exact hx3.lt k (.inr (.inl hk))
  ·exact (bl2 k hk).2.2
 ·rintro k (hk | hk | hk)
  ·have := (bl1 k hk).1; exact ⟨by omega, .inr (by omega)⟩
  ·have := hx.lt k (.inr (.inl hk)); exact ⟨by omega, .inl (.inr (.inl hk))⟩
  ·have := (bl2 k hk).1; exact ⟨by omega, .inr (by omega)⟩
end
theorem rwrite_yes (h : Hd) (D : DD) (n : Nat) (at' : Int) (s : ByteArray) (w : World) (hok : D.Ok n) (hs : s.size ≤ 131072) (hx : XD w h D) (hz : M.wcode D.now.length D.lost at' s = 0) :
  Calls Tryz.prog 79 #[.agg (h.vals D), .int .i64 at', .string s] w (DOut w h (M.dwrote D at' s) (wrV 0)) := by
 have hn := hok.n1
 have hnl := hok.l1
 have hll := hok.l3
 obtain ⟨hm, hr⟩ := M.wcode_ok hz
 obtain ⟨hlost, a, m, rfl, hmm, hm1, ham⟩ := M.refused_ok hr
 have hmm' : s.size / 64 = m := by omega
 have hD : M.dwrote D (a : Int) s = { D with now := M.dwn D.now a s m, loo := M.dwl D.loo a m } := by
  unfold M.dwrote; rw [hz, hmm']
  rfl
 rw [hD]
 obtain ⟨aN, cN, aS, cS, aL, cL⟩ := h
 obtain ⟨W1, hW1, hs1, hB1, hr0, hr1⟩ := box2 w (.slice aN D.now.length cN) (.slice aS D.sure.length cS) (.slice aL D.loo.length cL) (.bool D.lost)
 have HW1 := Hf hW1
 obtain ⟨g1, c1, w2, w3, g2, c2, w4, w5, run1, ⟨e0, ef0⟩, hw3, f2, run2, ⟨p2, pf2⟩, hw5, HWL⟩ := WL.start (h := ⟨aN, cN, aS, cS, aL, cL⟩) hx hs1 hB1 hr0 hr1 (by omega) (by omega) (by omega) (by omega)
 obtain ⟨⟨k0, k1, k2, k3⟩, _⟩ := row4 hr0
 have HWL0 := Hf HWL
 have HW3 := Hf hw3
 have HW5 := Hf hw5
 have HF : Hid (∀ wr, WL w wr g1 c1 g2 c2 (.slice aS D.sure.length cS) D.lost (M.dwn D.now a s m) (M.dwl D.loo a m) → _) := fun wr hw => WL.fin (h := ⟨aN, cN, aS, cS, aL, cL⟩) hx hw rfl (wrV 0)
 unfold Hd.vals
 dsimp only at k0 run1 e0 f2 run2 p2 HF ⊢
 have hss : s.size = 64 * m := by omega
 have hmt : (s.size : Int).tmod 64 = 0 := by rw [Int.tmod_eq_emod_of_nonneg (by omega)]; omega
 have hmi : (s.size : Int) % 64 = 0 := by omega
 have hdv : (s.size : Int).tdiv 64 = (m : Int) := by rw [Int.tdiv_eq_ediv_of_nonneg (by omega)]; omega
 have hdm : (s.size : Int) / 64 = (m : Int) := by omega
 have he : s.toList.isEmpty = false := by
  rw [ByteArray.toList_eq]
  cases hd : s.data.toList with
  | nil =>
   have : s.size = 0 := by rw [← ByteArray.size_data, ← Array.length_toList, hd]; rfl
   omega
  | cons a r => rfl
 have hd1 : decide ((a : Int) < 0) = false := by simp
 have hd3 : decide ((D.now.length : Int) < (a : Int)) = false := by simp; omega
 have hd5 : decide (D.now.length < a) = false := by simp; omega
 have hd4 : decide ((D.now.length : Int) - (a : Int) < (m : Int)) = false := by simp; omega
 rw [hlost] at k3 HW1 HWL0 HF ⊢
 have hnn : D.now.length ≤ 4096 := by omega
 have hl1 : D.now.length ≤ D.loo.length := by omega
 have hl2 : D.loo.length ≤ D.now.length := by omega
 clear hx hW1 hB1 hr0 hr1 HWL hw3 hw5 hr hmm hmm' hD hok hm hs1 hz hnl hll
 go_enter Tryz.func79, Tryz.ntmps79
 go_upto_region 1 with fail
 rw [HW1.out]; clear HW1
 go_upto_region 9 with (at_builtin; refine wpList_append_known rfl (.const (.slice none 0 0)) (.tmp 48) 31 rfl _ _ (by simp [Act.eval]) (by simp [Act.eval]) _ _ (run1 _) ?_)
 rw [HW3.out]; clear HW3 run1 e0 ef0
 go_upto_region 10 with (at_builtin; refine wpList_append_known rfl (.const (.slice none 0 0)) (.tmp 52) 32 rfl _ _ (by simp [Act.eval]) (by simp [Act.eval]) _ _ (run2 _) ?_)
 rw [HW5.out]; clear HW5 run2 p2 pf2 f2 k0 k1 k2 k3; go_wp2
 go_loopw [9] (fun i wr => ∃ k : Nat, k ≤ m ∧ i = .int .i64 k ∧ WL w wr g1 c1 g2 c2 (.slice aS D.sure.length cS) false (M.dwn D.now a s k) (M.dwl D.loo a k)) (fun i _ => m - (intOf i).toNat)
 case atStart => exact ⟨0, Nat.zero_le _, rfl, HWL0.out⟩
 case round =>
  obtain ⟨k, hk, rfl, hw⟩ := hrel
  clear HWL0
  obtain ⟨⟨t0, t1, t2, t3⟩, _⟩ := row4 hw.r0
  rw [M.dwn_len] at t0; rw [M.dwl_len] at t2
  by_cases hlt : k < m
  ·obtain ⟨⟨u1, c1'⟩, f1', hw2⟩ := hw.setN (a + k) (by rw [M.dwn_len]; omega) (M.pc s k)
   have hw2' : WL w (wr.setCell ⟨g1, a + k, none⟩ (.string (M.pc s k))).drew g1 c1 g2 c2 (.slice aS D.sure.length cS) false (M.dwn D.now a s (k + 1)) (M.dwl D.loo a k) := hw2.drew
   obtain ⟨⟨u2, c2'⟩, f2', hw3⟩ := hw2'.setL (a + k) (by rw [M.dwl_len]; omega) true
   have HW3 : Hid (WL w ((wr.setCell ⟨g1, a + k, none⟩ (.string (M.pc s k))).drew.setCell ⟨g2, a + k, none⟩ (.bool true)) g1 c1 g2 c2 (.slice aS D.sure.length cS) false (M.dwn D.now a s (k + 1)) (M.dwl D.loo a (k + 1))) := hw3
   obtain ⟨⟨v0, v1, v2, v3⟩, _⟩ := row4 hw2'.r0
   rw [M.dwl_len] at v2
   have hpc : s.extract (k * 64) ((k + 1) * 64) = M.pc s k := by unfold M.pc; congr 1; omega
   clear hw hw2 hw2' hw3 HF
   generalize M.pc s k = pk at *
   go_wp2_with fail
   go_region
   all_goals
    go_wp2
    go_roundw
    case rel => exact ⟨k + 1, by omega, by go_num, HW3.out⟩
    case measure => simp [intOf]; omega
  ·obtain rfl : k = m := by omega
   obtain ⟨m2, m3⟩ := HF.out wr hw
   have HM2 := Hf m2
   have HM3 := Hf m3
   obtain ⟨⟨s0, s1, s2, s3⟩, sf⟩ := row4 hw.r1
   have sf0 := sf 0
   have sf1 := sf 1
   have sf2 := sf 2
   have sf3 := sf 3
   rw [M.dwn_len, M.dwl_len] at HM2 HM3; clear hw HF m2 m3 sf; go_wp2
   refine bodyPost_ret (v := wrV 0 #[.slice (some ⟨g1, 0, none⟩) D.now.length c1, .slice aS D.sure.length cS, .slice (some ⟨g2, 0, none⟩) D.loo.length c2, .bool false]) ?_ rfl HM3.out
   exact res_cell_tmp4 f79_res _ _ (w.heap.size + 1) _ _ _ _ rfl HM2.out
theorem rwrite_any (h : Hd) (D : DD) (n : Nat) (at' : Int) (s : ByteArray) (w : World) (hok : D.Ok n) (hs : s.size ≤ 131072) (hx : XD w h D) :
  Calls Tryz.prog 79 #[.agg (h.vals D), .int .i64 at', .string s] w (DOut w h (M.dwrote D at' s) (wrV (M.wcode D.now.length D.lost at' s))) := by
 by_cases hz : M.wcode D.now.length D.lost at' s = 0
 ·rw [hz]
  exact rwrite_yes h D n at' s w hok hs hx hz
 ·have : M.dwrote D at' s = D := by unfold M.dwrote; rw [decide_eq_false hz]; rfl
  rw [this]
  exact rwrite_no h D at' s w (by have := hok.l1; have := hok.n1; omega) hs hx hz
end Go.Proofs.YtlnedgjikkhplaaGreat.Ns
