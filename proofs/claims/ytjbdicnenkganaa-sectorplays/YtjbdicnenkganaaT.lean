/-
  The document's device: sectors are written.
-/
import Derived.Test.YtjbdicnenkganaaS
namespace Go.Proofs.Ytjbdicnenkganaa
open Go.RowKit
open M (ofL ofL_size ofL_of DD)
set_option linter.unusedVariables false

/-- A slice of one-cell values copied into new memory. -/
theorem run_copyV (w : World) (ts te : TypeId) (zz : Value) (bytes : Nat) (hu : Try.prog.underlying ts = some (.slice te)) (hinfo : (Try.prog.info? te).map (fun i => (i.zero, i.size, i.bytes)) = some (some zz, 1, bytes)) (hz : zz.cells.size = 1) (hby : bytes ≤ 64) (a : Option Addr) (c : Nat) (cs : List Value) (hat : AtV w a cs) (h1 : ∀ v ∈ cs, v.oneCell' = true) (h0 : 0 < cs.length) (hl : cs.length ≤ 100000) (hzc : zz.cells.size = 1) (hone : ∀ v ∈ zz.cells.toList, v.oneCell' = true) :
    ∃ g c' w', (∀ ty, (Builtin.append_ #[ts, ts] ty #[.slice none 0 0, .slice a cs.length c]).run Try.prog w = .ok (.slice (some ⟨g, 0, none⟩) cs.length c') w') ∧ w'.ownsRow w.heap.size te 1 (.slice (some ⟨g, 0, none⟩) cs.length c') cs.length cs ∧ Below w.heap.size w w' := by
  obtain ⟨i0, hi, hz0, hz1, hz2⟩ := info_parts hinfo
  obtain ⟨b, off, rfl, _⟩ := hat 0 h0
  obtain ⟨g, cap, w', hr, h2, h3, h4, h5⟩ := run_append_lies (P := Try.prog) w ts 0 w.heap.size te i0 _ 1 bytes hu hi hz0 hz1 hz2 hz (by decide) (.slice none 0 0) 0 [] (World.ownsRow_nil _ _ _ _) ⟨b, off, none⟩ cs.length c cs (by simp) (atV_cells hat) h1 h0 (by unfold maxLen; omega) (by rw [Nat.zero_add]; exact Nat.le_trans (Nat.mul_le_mul hl hby) (by decide)) (Nat.le_refl _) _ rfl
  rw [Nat.zero_add] at hr h2
  rw [List.nil_append] at h2
  exact ⟨_, cap, w', fun ty => hr, h2, ⟨h3.os, h3.tape, h3.output, h3.size, fun k hk => h3.block k hk (by simp [Value.ownBlock])⟩⟩
/-- A cell of a row of one's own is set. -/
theorem owns_set {w : World} {base n : Nat} {t : TypeId} {v : Value} {cs : List Value} {k : Nat} (h : w.ownsRow base t 1 v n cs) (hk : k < n) :
    ∃ g cap, v = .slice (some ⟨g, 0, none⟩) n cap ∧ base ≤ g ∧ (∃ u, cs[k]? = some u ∧ w.cell? ⟨g, k, none⟩ = some u) ∧ w.frozen? ⟨g, k, none⟩ = false ∧
      ∀ x : Value, (w.setCell ⟨g, k, none⟩ x).ownsRow base t 1 v n (cs.set k x) := by
  have hn : cs.length = n := by have := h.1; omega
  rcases h.2 with ⟨rfl, h0⟩ | ⟨g, cap, cur, hv, hb', hh, hc, hm, hs, ht⟩
  · omega
  · refine ⟨g, cap, hv, hb', ⟨cs[k], List.getElem?_eq_getElem (by omega), ?_⟩, frozen_of_row w g _ _ _ hh, fun q => ⟨by rw [List.length_set]; omega, .inr ⟨g, cap, _, hv, hb', heap_setCell_same w g _ _ _ _ hh, hc, hm, by simp; omega, ?_⟩⟩⟩
    · have := h.cells (g := g) (by rw [hv]; rfl) k cs[k] (List.getElem?_eq_getElem (by omega))
      rwa [add_none, Nat.zero_add] at this
    · rw [Array.toList_setIfInBounds, List.take_set, ht]
theorem res_cell_tmp4 {fn : Func} {p u : Tmp} (h : fn.results = #[.cell p 30, .tmp u]) (tmps : Array Value) (w : World) (g : Nat) (v0 v1 v2 v3 : Value) (hp : tmps.getD p undef = .pointer (some ⟨g, 0, none⟩)) (hg : w.heap[g]? = some (.cells #[v0, v1, v2, v3] 30 (0, 0))) :
    (results fn tmps).run Try.prog w = .ok (.tuple #[.agg #[v0, v1, v2, v3], tmps.getD u undef]) w := by
  have hp' : tmps[p]?.getD undef = .pointer (some ⟨g, 0, none⟩) := by simpa using hp
  rw [results_cell_tmp h]
  simp [asAddr, hp', run_loadVar_row w g 30 30 #[v0, v1, v2, v3] (0, 0) _ hg Try.underlying30 rfl Try.size30]
theorem f12_res : Try.f12.results = #[.cell 6 30, .tmp 7] := rfl
def wrV (r : Int) (vs : Array Value) : Value := .tuple #[.agg vs, .int .i64 r]
set_option maxRecDepth 100000 in
set_option maxHeartbeats 2000000 in
/-- A write that is refused. -/
theorem rwrite_no (h : Hd) (D : DD) (at' : Int) (s : ByteArray) (w : World) (hn : D.now.length ≤ 4096) (hs : s.size ≤ 131072) (hx : XD w h D) (hz : M.wcode D.now.length D.lost at' s ≠ 0) :
    Calls Try.prog 12 #[.agg (h.vals D), .int .i64 at', .string s] w (DOut w h D (wrV (M.wcode D.now.length D.lost at' s))) := by
  obtain ⟨aN, cN, aS, cS, aL, cL⟩ := h
  obtain ⟨W1, hW1, hs1, hB1, hr0, hr1⟩ := box2 w (.slice aN D.now.length cN) (.slice aS D.sure.length cS) (.slice aL D.loo.length cL) (.bool D.lost)
  have HW1 := Hid_of hW1
  obtain ⟨m2, m3⟩ := ret4 (h := ⟨aN, cN, aS, cS, aL, cL⟩) hB1 hr1 (hx.keep hB1) (fun k hk => ⟨by have := hx.lt k hk; omega, .inl hk⟩) (wrV (M.wcode D.now.length D.lost at' s))
  have HM2 := Hid_of m2
  have HM3 := Hid_of m3
  obtain ⟨⟨k0, k1, k2, k3⟩, _⟩ := row4 hr0
  obtain ⟨⟨s0, s1, s2, s3⟩, sf⟩ := row4 hr1
  have sf0 := sf 0
  have sf1 := sf 1
  have sf2 := sf 2
  have sf3 := sf 3
  unfold Hd.vals at HM2 HM3 ⊢
  dsimp only at HM2 HM3 ⊢
  clear m2 m3 hx hW1 hr0 hr1 hB1 hs1 sf
  have hdv : (s.size : Int).tdiv 64 = ((s.size / 64 : Nat) : Int) := by rw [Int.tdiv_eq_ediv_of_nonneg (by omega)]; omega
  have hdm : (s.size : Int) / 64 = ((s.size / 64 : Nat) : Int) := by omega
  obtain ⟨m, hmm⟩ : ∃ m, s.size / 64 = m := ⟨_, rfl⟩
  have HMM := Hid_of hmm
  rw [hmm] at hdv hdm
  clear hmm
  by_cases h1 : at' < 0
  · have hc : M.wcode D.now.length D.lost at' s = 1 := by
      unfold M.wcode M.refused
      rw [decide_eq_true h1]
      cases decide (s.size % 64 = 0) <;> rfl
    rw [hc] at HM3 ⊢
    have hd : decide (at' < 0) = true := by simpa using h1
    clear hc hz
    go_enter Try.func12, Try.ntmps12
    go_upto_region 1 with fail
    rw [HW1.out]
    clear HW1
    go_wp2
    refine bodyPost_ret (v := wrV 1 #[.slice aN D.now.length cN, .slice aS D.sure.length cS, .slice aL D.loo.length cL, .bool D.lost]) ?_ rfl HM3.out
    exact res_cell_tmp4 f12_res _ _ (w.heap.size + 1) _ _ _ _ rfl HM2.out
  · have hd : decide (at' < 0) = false := by simpa using h1
    by_cases h2 : s.size = 0
    · have hE : s = M.E := M.eq_E h2
      have hc : M.wcode D.now.length D.lost at' s = 1 := by
        unfold M.wcode M.refused
        rw [h2, decide_eq_true (show ((0 / 64 : Nat) : Int) < 1 by decide), Bool.or_true]
        rfl
      rw [hc] at HM3 ⊢
      have he : s.toList.isEmpty = true := by rw [hE]; exact is_nil
      clear hc hz hE
      go_enter Try.func12, Try.ntmps12
      go_upto_region 1 with fail
      rw [HW1.out]
      clear HW1
      go_wp2
      refine bodyPost_ret (v := wrV 1 #[.slice aN D.now.length cN, .slice aS D.sure.length cS, .slice aL D.loo.length cL, .bool D.lost]) ?_ rfl HM3.out
      exact res_cell_tmp4 f12_res _ _ (w.heap.size + 1) _ _ _ _ rfl HM2.out
    · have he : s.toList.isEmpty = false := by
        rw [ByteArray.toList_eq]
        cases hd : s.data.toList with
        | nil => exact absurd (by rw [← ByteArray.size_data, ← Array.length_toList, hd]; rfl) h2
        | cons a r => rfl
      by_cases hm : s.size % 64 = 0
      · have hmi : (s.size : Int) % 64 = 0 := by omega
        have hmt : (s.size : Int).tmod 64 = 0 := by rw [Int.tmod_eq_emod_of_nonneg (by omega)]; exact hmi
        have hwc : M.wcode D.now.length D.lost at' s = M.refused D.now.length D.lost at' (m : Int) := by unfold M.wcode; simp [hm, HMM.out]
        have hm1 : 1 ≤ m := by have := HMM.out; omega
        rw [hwc] at hz HM3 ⊢
        clear hwc
        rcases ref_cases D.now.length D.lost at' (m : Int) with ⟨q1, hr⟩ | ⟨q1, q2, hr⟩ | ⟨q1, q2, q3, hr⟩ | ⟨q1, q2, q3, q4, hr⟩ | ⟨q1, q2, q3, q4, q5, hr⟩ | ⟨q5, _, hr⟩
        · exact absurd q1 h1
        · omega
        · rw [hr] at HM3 ⊢
          have hd3 : decide ((D.now.length : Int) < at') = true := by simpa using q3
          clear hr hz
          go_enter Try.func12, Try.ntmps12
          go_upto_region 1 with fail
          rw [HW1.out]
          clear HW1
          go_wp2
          refine bodyPost_ret (v := wrV 5 #[.slice aN D.now.length cN, .slice aS D.sure.length cS, .slice aL D.loo.length cL, .bool D.lost]) ?_ rfl HM3.out
          exact res_cell_tmp4 f12_res _ _ (w.heap.size + 1) _ _ _ _ rfl HM2.out
        · rw [hr] at HM3 ⊢
          have hd3 : decide ((D.now.length : Int) < at') = false := by simpa using q3
          have hd4 : decide ((D.now.length : Int) - at' < (m : Int)) = true := by simpa using q4
          clear hr hz
          go_enter Try.func12, Try.ntmps12
          go_upto_region 1 with fail
          rw [HW1.out]
          clear HW1
          go_wp2
          refine bodyPost_ret (v := wrV 5 #[.slice aN D.now.length cN, .slice aS D.sure.length cS, .slice aL D.loo.length cL, .bool D.lost]) ?_ rfl HM3.out
          exact res_cell_tmp4 f12_res _ _ (w.heap.size + 1) _ _ _ _ rfl HM2.out
        · rw [hr] at HM3 ⊢
          have hd3 : decide ((D.now.length : Int) < at') = false := by simpa using q3
          have hd4 : decide ((D.now.length : Int) - at' < (m : Int)) = false := by simpa using q4
          clear hr hz
          rw [q5] at HM2 HM3 HW1 k3 ⊢
          clear q5
          go_enter Try.func12, Try.ntmps12
          go_upto_region 1 with fail
          rw [HW1.out]
          clear HW1
          go_wp2
          refine bodyPost_ret (v := wrV 8 #[.slice aN D.now.length cN, .slice aS D.sure.length cS, .slice aL D.loo.length cL, .bool true]) ?_ rfl HM3.out
          exact res_cell_tmp4 f12_res _ _ (w.heap.size + 1) _ _ _ _ rfl HM2.out
        · exact absurd hr hz
      · have hmt : (s.size : Int).tmod 64 ≠ 0 := by rw [Int.tmod_eq_emod_of_nonneg (by omega)]; omega
        have hmt' : ((s.size : Int).tmod 64 == 0) = false := by simpa using hmt
        have hme : ((s.size : Int) % 64 == 0) = false := by simp; omega
        have hc : M.wcode D.now.length D.lost at' s = 1 := by unfold M.wcode; simp [hm]
        rw [hc] at HM3 ⊢
        clear hc hz
        go_enter Try.func12, Try.ntmps12
        go_upto_region 1 with fail
        rw [HW1.out]
        clear HW1
        go_wp2
        refine bodyPost_ret (v := wrV 1 #[.slice aN D.now.length cN, .slice aS D.sure.length cS, .slice aL D.loo.length cL, .bool D.lost]) ?_ rfl HM3.out
        exact res_cell_tmp4 f12_res _ _ (w.heap.size + 1) _ _ _ _ rfl HM2.out
end Go.Proofs.Ytjbdicnenkganaa
