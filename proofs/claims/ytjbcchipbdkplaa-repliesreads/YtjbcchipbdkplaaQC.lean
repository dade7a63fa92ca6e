/-
  The document's Take of a fresh call.
-/
import Derived.Test.YtjbcchipbdkplaaQB
import Derived.Deep.CutRange
namespace Go.Proofs.Ytjbcchipbdkplaa
open Go.RowKit Go.Maps
set_option linter.unusedVariables false
open Rp (C fup)

set_option maxRecDepth 100000 in
set_option maxHeartbeats 2000000 in
theorem dtk_more {w : World} {T : Int → List C} {dv : Nat → Value} (room : Nat) (h : DR w T dv) (ok : Rp.Ok room T) (cn : Nat) (k : Int) (hm : Rp.may cn k = true) (hP : Rp.fnd (T cn) k = none) (hno : ¬ (room ≤ (T cn).length ∧ Rp.plc (T cn) k = 0)) (hne : T cn ≠ []) : Calls Try.prog 14 #[.agg (DA room dv), .int .i64 cn, .int .i64 k] w (DTk w room T dv cn k) := by
  have hcn : cn ≤ 63 := by
    have : Rp.mayC cn = true := by unfold Rp.may at hm; simp only [Bool.and_eq_true] at hm; exact hm.1
    have := Rp.mayC_yes this
    omega
  obtain ⟨W1, HW1⟩ : ∃ W1, Hid ((w.alloc (.cells (DA room dv) 30)).alloc (.cells (DA 0 nodv) 30) = W1) := ⟨_, Hid_of rfl⟩
  have HB1 : Hid (Below w.heap.size w W1) := by rw [← HW1.out]; exact bel_up (bel1 w _) (bel1 _ _) (Nat.le_refl _)
  have hr1 := heap_alloc2_old w (.cells (DA room dv) 30) (.cells (DA 0 nodv) 30)
  have hr2 := heap_alloc2_new w (.cells (DA room dv) 30) (.cells (DA 0 nodv) 30)
  rw [HW1.out] at hr1 hr2
  have HROW : Hid (∀ W, Below W1.heap.size W1 W → W.heap[w.heap.size]? = some (.cells (DA room dv) 30 (0, 0)) ∧ W.heap[w.heap.size + 1]? = some (.cells (DA 0 nodv) 30 (0, 0)) ∧ Below w.heap.size w W) := fun W hW => ⟨(hW.block _ (Array.getElem?_eq_some_iff.1 hr1).1).trans hr1, (hW.block _ (Array.getElem?_eq_some_iff.1 hr2).1).trans hr2, bel_up HB1.out hW (Nat.le_refl _)⟩
  have HFIN : Hid (∀ W dv', W.heap[w.heap.size + 1]? = some (.cells (DA 0 nodv) 30 (0, 0)) → Sl dv' → Below w.heap.size w W → (st30 ⟨w.heap.size + 1, 0, none⟩ (DA room dv')).run Try.prog W = .ok () (W.setRow (w.heap.size + 1) (DA room dv')) ∧ (W.setRow (w.heap.size + 1) (DA room dv')).heap[w.heap.size + 1]? = some (.cells (DA room dv') 30 (0, 0)) ∧ Below w.heap.size w (W.setRow (w.heap.size + 1) (DA room dv')) ∧ ∀ q, q ≠ w.heap.size + 1 → (W.setRow (w.heap.size + 1) (DA room dv')).heap[q]? = W.heap[q]?) := fun W dv' h1 h2 h3 => ⟨store30_row W _ _ _ _ _ h2 h1, setRow_heap W _ _ _ _ _ h1, below_setRow h3 (by omega) _, fun q hq => setRow_other W _ q _ hq⟩
  have hmy := may_any cn k
  rw [hm] at hmy
  have HE : Hid (Rp.code room T cn k = Rp.tkc room (T cn) k ∧ Rp.told T cn k = Rp.tkr (T cn) k ∧ Rp.take room T cn k = fup T cn (Rp.tkl room (T cn) k)) := by
    unfold Rp.code Rp.told Rp.take; rw [hm]; exact ⟨rfl, rfl, rfl⟩
  obtain ⟨a, cap, hdv, hx⟩ := h.row cn
  obtain ⟨r1, r2, rB⟩ := HROW.out W1 (Below.refl _ _)
  have hcc : W1.cell? ⟨w.heap.size, 1 + cn, none⟩ = some (.slice a (T cn).length cap) := by rw [cell_of_row W1 _ _ _ _ _ r1, DA_get _ _ _ (by omega), hdv]
  have hl16 := (ok.l cn).le
  have h16 := ok.r16
  have h01 := ok.r1
  have hu := (ok.l cn).up
  have hfd := find_any a cap (T cn) k W1 (by omega) (hx.keep HB1.out).at' hu
  have HDR := Hid_of h
  have HX := Hid_of hx
  have HDV := Hid_of hdv
  have HU := Hid_of hu
  have HM := Hid_of hm
  have hple := Rp.plc_le (T cn) k
  have HSR := Hid_of (Rp.plc_sr k hu)
  clear h ok hr1 hr2 HB1 r1 r2 rB hx hdv hu hm
  have HFU := Hid_of (And.intro hP hno)
  rw [hP] at hfd
  clear hP hno
  have HNE := Hid_of hne
  clear hne
  go_enter Try.func14, Try.ntmps14
  go_upto_region 1 with fail
  rw [HW1.out]
  go_wp2_with fail
  refine (hmy _).mono ?_
  rintro e w2 ⟨rfl, rfl⟩
  go_wp2_with fail
  refine hfd.mono ?_
  rintro e w3 ⟨rfl, hb3⟩
  obtain ⟨r1, r2, rB⟩ := HROW.out w3 hb3
  have HX3 := Hid_of (HX.out.keep rB)
  have HDR3 := Hid_of (HDR.out.keep rB)
  clear hfd hcc hmy HROW hb3
  have hc0 : w3.cell? ⟨w.heap.size, 0, none⟩ = some (.int .i64 room) := by rw [cell_of_row w3 _ _ _ _ _ r1, DA_zero]
  have hTC : Rp.tkc room (T cn) k = 1 ∧ Rp.tkr (T cn) k = [] := by
    refine ⟨?_, by unfold Rp.tkr; rw [HFU.out.1]⟩
    unfold Rp.tkc; rw [HFU.out.1]; simp only; rw [if_neg HFU.out.2]
  have hTL : Rp.tkl room (T cn) k = if room ≤ (T cn).length then (Rp.ins (T cn) (Rp.plc (T cn) k) k).drop 1 else Rp.ins (T cn) (Rp.plc (T cn) k) k := by
    unfold Rp.tkl; rw [HFU.out.1]; simp only; rw [if_neg HFU.out.2]
  have hg1 : ¬ room ≤ (T cn).length ∨ (room ≤ (T cn).length ∧ ¬ Rp.plc (T cn) k = 0) := by
    by_cases h' : room ≤ (T cn).length
    · exact .inr ⟨h', fun e => HFU.out.2 ⟨h', e⟩⟩
    · exact .inl h'
  obtain ⟨p, hp⟩ : ∃ p, Rp.plc (T cn) k = p := ⟨_, rfl⟩
  rw [hp] at hTL hg1 hple ⊢
  have hNL : (Rp.ins (T cn) p k).length = (T cn).length + 1 := Rp.ins_len hple k
  -- what becomes of the rows
  have HEND : Hid (∀ W g3 c3, Below w3.heap.size w3 W → OwnL cl 62 W w3.heap.size (.slice (some ⟨g3, 0, none⟩) ((T cn).length + 1) c3) (Rp.ins (T cn) p k) →
      W.cell? ⟨w.heap.size, 0, none⟩ = some (.int .i64 room) ∧ W.cell? ⟨w.heap.size, 1 + cn, none⟩ = some (.slice a (T cn).length cap) ∧ W.frozen? ⟨w.heap.size, 1 + cn, none⟩ = false ∧ (T cn).length + 1 ≤ c3 ∧ c3 ≤ 9223372036854775807 ∧
      ∀ v, v = (if room ≤ (T cn).length then .slice (some ⟨g3, 3, none⟩) (T cn).length (c3 - 1) else .slice (some ⟨g3, 0, none⟩) ((T cn).length + 1) c3) → ∃ W4, W.setCell ⟨w.heap.size, 1 + cn, none⟩ v = W4 ∧ (ld30 ⟨w.heap.size, 0, none⟩).run Try.prog W4 = .ok (DA room (dvup dv cn v)) W4 ∧ (st30 ⟨w.heap.size + 1, 0, none⟩ (DA room (dvup dv cn v))).run Try.prog W4 = .ok () (W4.setRow (w.heap.size + 1) (DA room (dvup dv cn v))) ∧ Hid ((W4.setRow (w.heap.size + 1) (DA room (dvup dv cn v))).heap[w.heap.size + 1]? = some (.cells (DA room (dvup dv cn v)) 30 (0, 0)) ∧ DTk w room T dv cn k (.returned (.tuple #[.agg (DA room (dvup dv cn v)), .int .i64 1, .string ⟨#[]⟩])) (W4.setRow (w.heap.size + 1) (DA room (dvup dv cn v))))) := by
    intro W g3 c3 hbW hoW
    have s1 := (hbW.block _ (Array.getElem?_eq_some_iff.1 r1).1).trans r1
    have s2 := (hbW.block _ (Array.getElem?_eq_some_iff.1 r2).1).trans r2
    have sB : Below w.heap.size w W := bel_up rB hbW (Nat.le_refl _)
    have s3 : W.cell? ⟨w.heap.size, 1 + cn, none⟩ = some (.slice a (T cn).length cap) := by rw [cell_of_row W _ _ _ _ _ s1, DA_get _ _ _ (by omega), HDV.out]
    obtain ⟨aa, cc, hvv, hxx, _⟩ := hoW.at
    rw [hNL] at hvv
    simp only [Value.slice.injEq, true_and] at hvv
    obtain ⟨rfl, rfl⟩ := hvv
    have hle := hxx.le
    have hmx := hxx.mx
    rw [hNL] at hle
    unfold maxLen at hmx
    refine ⟨by rw [cell_of_row W _ _ _ _ _ s1, DA_zero], s3, frozen_of_row W _ _ _ _ s1, hle, by omega, fun v hv => ⟨_, rfl, ?_⟩⟩
    have hslv : ∃ av nv cv, v = .slice av nv cv ∧ nv = (Rp.tkl room (T cn) k).length ∧ XL cl W av cv (Rp.tkl room (T cn) k) ∧ ∀ q, blk av q → q = g3 := by
      rw [hTL]
      by_cases h' : room ≤ (T cn).length
      · rw [if_pos h'] at hv ⊢
        refine ⟨_, _, _, hv, by rw [List.length_drop, hNL]; omega, ⟨?_, by rw [List.length_drop, hNL]; omega, by unfold maxLen; omega, fun e => by cases e⟩, fun q hq => by obtain ⟨_, _, e⟩ := hq; cases e; rfl⟩
        have := hxx.at'.drop 1
        simpa [cl] using this
      · rw [if_neg h'] at hv ⊢
        exact ⟨_, _, _, hv, hNL.symm, hxx, fun q hq => by obtain ⟨_, _, e⟩ := hq; cases e; rfl⟩
    obtain ⟨av, nv, cv, rfl, hnv, hxv, hqv⟩ := hslv
    subst hnv
    have s1' : (W.setCell ⟨w.heap.size, 1 + cn, none⟩ (.slice av (Rp.tkl room (T cn) k).length cv)).heap[w.heap.size]? = some (.cells (DA room (dvup dv cn (.slice av (Rp.tkl room (T cn) k).length cv))) 30 (0, 0)) := by
      rw [heap_setCell_same W _ _ _ _ _ s1, DA_set _ _ _ _ (by omega)]
    have s2' : (W.setCell ⟨w.heap.size, 1 + cn, none⟩ (.slice av (Rp.tkl room (T cn) k).length cv)).heap[w.heap.size + 1]? = some (.cells (DA 0 nodv) 30 (0, 0)) := by
      rw [heap_setCell_other W ⟨w.heap.size, 1 + cn, none⟩ _ _ (by simp)]; exact s2
    have sB' : Below w.heap.size w (W.setCell ⟨w.heap.size, 1 + cn, none⟩ (.slice av (Rp.tkl room (T cn) k).length cv)) := sB.setCell (p := ⟨w.heap.size, 1 + cn, none⟩) (Nat.le_refl _) _
    have hdr : DR W T dv := HDR3.out.keep hbW
    have hne : Rp.tkl room (T cn) k ≠ [] := fun e => by
      have := congrArg List.length e
      rw [hTL] at this
      split at this
      · rename_i h'; rw [List.length_drop, hNL, List.length_nil] at this; omega
      · rw [hNL, List.length_nil] at this; omega
    obtain ⟨f1, f2, f3, f4⟩ := HFIN.out _ (dvup dv cn (.slice av (Rp.tkl room (T cn) k).length cv)) s2' (HDR.out.sl.up _ _ _ _) sB'
    have hbl : ∀ q, blk av q → q ≠ w.heap.size ∧ q ≠ w.heap.size + 1 ∧ w.heap.size ≤ q := fun q hq => by
      have h1 := (hoW.lt (b := g3) rfl).1
      have h2 : w.heap.size + 1 < w3.heap.size := (Array.getElem?_eq_some_iff.1 r2).1
      have := hqv q hq
      omega
    refine ⟨load30_row _ _ _ _ s1', f1, ?_⟩
    refine Hid_of (And.intro f2 (?_ : DTk w room T dv cn k _ _))
    refine ⟨dvup dv cn (.slice av (Rp.tkl room (T cn) k).length cv), ?_, ?_, f3, New.up _ (fun q hq => (hbl q hq).2.2)⟩
    · rw [HE.out.1, HE.out.2.1, hTC.1, hTC.2]; rfl
    · rw [HE.out.2.2]
      refine (HDR.out.keep f3).up cn _ av cv (hxv.keepBut (fun q _ hq => ?_)) hne
      rw [f4 q (hbl q hq).2.1, heap_setCell_other W ⟨w.heap.size, 1 + cn, none⟩ q _ (hbl q hq).1]
  obtain ⟨g0, off, ha, -⟩ := HX.out.at' 0 (List.length_pos_iff.2 HNE.out)
  subst ha
  have hg0 : g0 < w.heap.size := by
    obtain ⟨g1, off1, e1, y0, _, _⟩ := HX.out.at'.getC 0 (List.length_pos_iff.2 HNE.out)
    cases e1
    exact World.block_lt_of_cell? w _ y0
  have hcap := HX.out.le
  have hcm := HX.out.mx
  unfold maxLen at hcm
  have HINS : Hid (∀ wd, w3.drew = wd → ∀ src, src = (if cap = p then .slice (some ⟨g0, off, none⟩) 0 0 else .slice (some ⟨g0, off + p * 3, none⟩) ((T cn).length - p) (cap - p)) → InsRun wd (T cn) p k (.slice (some ⟨g0, off, none⟩) p cap) src) := by
    intro wd hwd src hsrc
    have hb : Below w3.heap.size w3 wd := by rw [← hwd]; exact (Below.refl _ _).drew
    have hxd := HX3.out.keep hb
    refine ins_run wd (T cn) p hple k _ cap ⟨hxd.at'.take p, by rw [List.length_take]; omega, hxd.mx, hxd.nil⟩ src ?_ ?_ (by omega)
    · by_cases hcp : cap = p
      · rw [if_pos hcp] at hsrc
        exact .inl ⟨List.drop_of_length_le (by omega), _, _, hsrc⟩
      · rw [if_neg hcp] at hsrc
        have := hxd.at'.drop p
        exact .inr ⟨g0, off + p * 3, cap - p, by rw [List.length_drop]; exact hsrc, this⟩
    · rintro q ⟨a, n, c, e, hq⟩
      have hqg : q = g0 := by
        by_cases hcp : cap = p
        · rw [if_pos hcp] at hsrc
          rw [hsrc] at e
          cases e
          obtain ⟨_, _, e⟩ := hq
          cases e
          rfl
        · rw [if_neg hcp] at hsrc
          rw [hsrc] at e
          cases e
          obtain ⟨_, _, e⟩ := hq
          cases e
          rfl
      have := rB.size
      have := hb.size
      omega
  have hpI : (p : Int) ≤ ((T cn).length : Int) := by omega
  have hpc : p ≤ cap := by omega
  unfold InsRun at HINS
  clear r1 r2 rB HFIN HDR HX3 HX HDR3 HSR HFU HU HM HE HDV hTC hTL hp HNE hg0
  generalize Rp.ins (T cn) p k = NL at *
  clear hNL
  generalize hL : (T cn).length = L at *
  have hg2 : (∃ bb : Bool, decide ((room : Int) ≤ (L : Int)) = bb ∧ decide (room ≤ L) = bb ∧ (bb = true → ¬ p = 0 ∧ ¬ ((p : Int) = 0) ∧ ((p : Int) == 0) = false)) := by
    rcases hg1 with d | ⟨d, e⟩
    · exact ⟨false, decide_eq_false (by omega), decide_eq_false d, fun h => by cases h⟩
    · exact ⟨true, decide_eq_true (by omega), decide_eq_true d, fun _ => ⟨e, by omega, by simp; omega⟩⟩
  obtain ⟨bb, d1, d2, d3⟩ := hg2
  clear hg1
  cases bb with
  | false =>
    clear d3
    by_cases hcp : cap = p
    · have HIN2 := Hid_of (fun wd h => HINS.out wd h _ (by rw [if_pos hcp]))
      clear HINS
      have hcL : L = cap := by omega
      have hpL : L = p := by omega
      clear hcp
      subst hcL
      subst hpL
      go_upto_region 11 with fail
      obtain ⟨wd, hwd⟩ : ∃ wd, w3.drew = wd := ⟨_, rfl⟩
      have HWD : Hid (Below w3.heap.size w3 wd) := by rw [← hwd]; exact (Below.refl _ _).drew
      obtain ⟨⟨a1, c1, w4, hr4, a2, c2, w5, hr5, g3, c3, w6, hr6, ho6, hb6⟩, ⟨a1', c1', w4', hr4', a2', c2', w5', hr5', g3', c3', w6', hr6', ho6', hb6'⟩⟩ := HIN2.out wd hwd
      have HOA := Hid_of (And.intro ho6 hb6)
      have HOB := Hid_of (And.intro ho6' hb6')
      clear ho6 hb6 ho6' hb6' HIN2
      refine wp_region_held_drew (S := fun _ => True) (by kernel_rfl) trivial (fun hHeld => ?_)
      rw [hwd]
      clear hwd
      refine wpAnyH_take (i := 0) (oi := ?p0x1fa) (v := ?v0x1fa) ?o0x1fa (by kernel_rfl) (by kernel_rfl) (by kernel_rfl) ?q0x1fa ?y0x1fa hHeld ?r0x1fa
      case o0x1fa => (simp only [List.getElem?_toArray, List.getElem?_cons_zero]; try rfl)
      case q0x1fa => exact fun _ _ _ h => h
      case y0x1fa => (refine Or.inl ⟨rfl, ?_⟩; intro wq hq; obtain q0 := hq; go_simp; try with_reducible rfl)
      simp only [Act.put, List.setIfInBounds_toArray, List.set_cons_zero, List.set_cons_succ]
      refine wpAnyH_take (i := 1) (oi := ?p1x2fa) (v := ?v1x2fa) ?o1x2fa (by kernel_rfl) (by kernel_rfl) (by kernel_rfl) ?q1x2fa ?y1x2fa hHeld ?r1x2fa
      case o1x2fa => (simp only [List.getElem?_toArray, List.getElem?_cons_succ, List.getElem?_cons_zero]; try rfl)
      case q1x2fa => exact fun _ _ _ h => h
      case y1x2fa => (refine Or.inl ⟨rfl, ?_⟩; intro wq hq; obtain q0 := hq; go_simp; try with_reducible rfl)
      simp only [Act.put, List.setIfInBounds_toArray, List.set_cons_zero, List.set_cons_succ]
      refine wpAnyH_take (i := 2) (oi := ?p2x3fa) (v := ?v2x3fa) ?o2x3fa (by kernel_rfl) (by kernel_rfl) (by kernel_rfl) ?q2x3fa ?y2x3fa hHeld ?r2x3fa
      case o2x3fa => (simp only [List.getElem?_toArray, List.getElem?_cons_succ, List.getElem?_cons_zero]; try rfl)
      case q2x3fa => exact fun _ _ _ h => h
      case y2x3fa => (refine Or.inl ⟨rfl, ?_⟩; intro wq hq; obtain q0 := hq; go_simp; try with_reducible rfl)
      simp only [Act.put, List.setIfInBounds_toArray, List.set_cons_zero, List.set_cons_succ]
      refine wpAnyH_take (i := 4) (oi := ?p4x4fa) (v := ?v4x4fa) ?o4x4fa (by kernel_rfl) (by kernel_rfl) (by kernel_rfl) ?q4x4fa ?y4x4fa hHeld ?r4x4fa
      case o4x4fa => (simp only [List.getElem?_toArray, List.getElem?_cons_succ, List.getElem?_cons_zero]; try rfl)
      case q4x4fa => exact fun _ _ _ h => h
      case y4x4fa => (refine Or.inl ⟨rfl, ?_⟩; intro wq hq; obtain q0 := hq; go_simp; try with_reducible rfl)
      simp only [Act.put, List.setIfInBounds_toArray, List.set_cons_zero, List.set_cons_succ]
      refine wpAnyH_take (i := 5) (oi := ?p5x5fa) (v := ?v5x5fa) ?o5x5fa (by kernel_rfl) (by kernel_rfl) (by kernel_rfl) ?q5x5fa ?y5x5fa hHeld ?r5x5fa
      case o5x5fa => (simp only [List.getElem?_toArray, List.getElem?_cons_succ, List.getElem?_cons_zero]; try rfl)
      case q5x5fa => exact fun _ _ _ h => h
      case y5x5fa => (refine Or.inl ⟨rfl, ?_⟩; intro wq hq; obtain q0 := hq; go_simp; try with_reducible rfl)
      simp only [Act.put, List.setIfInBounds_toArray, List.set_cons_zero, List.set_cons_succ]
      refine wpAnyH_take (i := 8) (oi := ?p8x6fa) (v := ?v8x6fa) ?o8x6fa (by kernel_rfl) (by kernel_rfl) (by kernel_rfl) ?q8x6fa ?y8x6fa hHeld ?r8x6fa
      case o8x6fa => (simp only [List.getElem?_toArray, List.getElem?_cons_succ, List.getElem?_cons_zero]; try rfl)
      case q8x6fa => exact fun _ _ _ h => h
      case y8x6fa => (refine Or.inl ⟨rfl, ?_⟩; intro wq hq; obtain q0 := hq; go_simp; try with_reducible rfl)
      simp only [Act.put, List.setIfInBounds_toArray, List.set_cons_zero, List.set_cons_succ]
      refine wpAnyH_take (i := 9) (oi := ?p9x7fa) (v := ?v9x7fa) ?o9x7fa (by kernel_rfl) (by kernel_rfl) (by kernel_rfl) ?q9x7fa ?y9x7fa hHeld ?r9x7fa
      case o9x7fa => (simp only [List.getElem?_toArray, List.getElem?_cons_succ, List.getElem?_cons_zero]; try rfl)
      case q9x7fa => exact fun _ _ _ h => h
      case y9x7fa => (refine Or.inl ⟨rfl, ?_⟩; intro wq hq; obtain q0 := hq; go_simp; try with_reducible rfl)
      simp only [Act.put, List.setIfInBounds_toArray, List.set_cons_zero, List.set_cons_succ]
      refine wpAnyH_take (i := 10) (oi := ?p10x8fa) (v := ?v10x8fa) ?o10x8fa (by kernel_rfl) (by kernel_rfl) (by kernel_rfl) ?q10x8fa ?y10x8fa hHeld ?r10x8fa
      case o10x8fa => (simp only [List.getElem?_toArray, List.getElem?_cons_succ, List.getElem?_cons_zero]; try rfl)
      case q10x8fa => exact fun _ _ _ h => h
      case y10x8fa => (refine Or.inl ⟨rfl, ?_⟩; intro wq hq; obtain q0 := hq; go_simp; try with_reducible rfl)
      simp only [Act.put, List.setIfInBounds_toArray, List.set_cons_zero, List.set_cons_succ]
      refine wpAnyH_ready (rs := [3, 6]) (by kernel_rfl) (by simp) ?_
      refine (AllReadyH.cons (o := ?p3x9fa) ?o3x9fa ?s3x9fa (AllReadyH.cons (o := ?p6x9fa) ?o6x9fa ?s6x9fa AllReadyH.nil))
      case o3x9fa => (simp only [List.getElem?_toArray, List.getElem?_cons_succ, List.getElem?_cons_zero]; try rfl)
      case o6x9fa => (simp only [List.getElem?_toArray, List.getElem?_cons_succ, List.getElem?_cons_zero]; try rfl)
      case s3x9fa =>
        intro Kk hK
        refine step_append_known rfl (.const (.slice none 0 0)) (.tmp 59) 27 rfl _ _ rfl rfl _ _ (hr4 _) ?_
        refine hK.out _ _ trivial (fun hHeld => ?_)
        clear hK Kk
        simp only [Act.put, List.setIfInBounds_toArray, List.set_cons_zero, List.set_cons_succ]
        refine wpAnyH_ready (rs := [6]) (by kernel_rfl) (by simp) ?_
        refine (AllReadyH.cons (o := ?p6x10fa) ?o6x10fa ?s6x10fa AllReadyH.nil)
        case o6x10fa => (simp only [List.getElem?_toArray, List.getElem?_cons_succ, List.getElem?_cons_zero]; try rfl)
        intro Kk hK
        go_simp
        refine hK.out _ _ trivial (fun hHeld => ?_)
        clear hK Kk
        refine wpAnyH_ready (rs := [7]) (by kernel_rfl) (by simp) ?_
        refine (AllReadyH.cons (o := ?p7x11fa) ?o7x11fa ?s7x11fa AllReadyH.nil)
        case o7x11fa => (simp only [List.getElem?_toArray, List.getElem?_cons_succ, List.getElem?_cons_zero]; try rfl)
        intro Kk hK
        refine step_append_known rfl (.tmp 60) (.tmp 63) 27 rfl _ _ rfl rfl _ _ (hr5 _) ?_
        refine hK.out _ _ trivial (fun hHeld => ?_)
        clear hK Kk
        simp only [Act.put, List.setIfInBounds_toArray, List.set_cons_zero, List.set_cons_succ]
        refine wpAnyH_ready (rs := [11]) (by kernel_rfl) (by simp) ?_
        refine (AllReadyH.cons (o := ?p11x12fa) ?o11x12fa ?s11x12fa AllReadyH.nil)
        case o11x12fa => (simp only [List.getElem?_toArray, List.getElem?_cons_succ, List.getElem?_cons_zero]; try rfl)
        intro Kk hK
        refine step_append_known rfl (.tmp 64) (.tmp 67) 27 rfl _ _ rfl rfl _ _ (hr6 _) ?_
        refine hK.out _ _ trivial (fun hHeld => ?_)
        clear hK Kk
        simp only [Act.put, List.setIfInBounds_toArray, List.set_cons_zero, List.set_cons_succ]
        refine wpAnyH_take (i := 12) (oi := ?p12x13fa) (v := ?v12x13fa) ?o12x13fa (by kernel_rfl) (by kernel_rfl) (by kernel_rfl) ?q12x13fa ?y12x13fa hHeld ?r12x13fa
        case o12x13fa => (simp only [List.getElem?_toArray, List.getElem?_cons_succ, List.getElem?_cons_zero]; try rfl)
        case q12x13fa => exact fun _ _ _ h => h
        case y12x13fa => (refine Or.inl ⟨rfl, ?_⟩; intro wq hq; obtain q0 := hq; go_simp; try with_reducible rfl)
        simp only [Act.put, List.setIfInBounds_toArray, List.set_cons_zero, List.set_cons_succ]
        refine wpAnyH_done (by kernel_rfl) ?_ _
        have hEB : Below w3.heap.size w3 w6 := by
          have h1 := HWD.out
          have h2 := HOA.out.2
          exact bel_up h1 (h2.mono (Nat.le_refl _)) (Nat.le_refl _)
        have hEO : OwnL cl 62 w6 w3.heap.size (.slice (some ⟨g3, 0, none⟩) (L + 1) c3) NL := HOA.out.1.low HWD.out.size
        obtain ⟨k0, k1, k2, k3, k4, hend⟩ := HEND.out w6 g3 c3 hEB hEO
        clear hEB hEO HEND HOA HOB HWD hr4 hr5 hr6 hr4' hr5' hr6'
        by_cases hfl : room ≤ L
        · obtain ⟨W7, hW7, y1, y2, HY⟩ := hend (.slice (some ⟨g3, 3, none⟩) L (c3 - 1)) (by rw [if_pos hfl])
          have HW7 := Hid_of hW7
          have hfa : decide ((room : Int) < ((L + 1 : Nat) : Int)) = true := decide_eq_true (by omega)
          have hfb : decide (room < L + 1) = true := decide_eq_true (by omega)
          have hfc : decide ((room : Int) < (L : Int) + 1) = true := decide_eq_true (by omega)
          have hfd : ¬ c3 = 1 := by omega
          clear hend hW7 hfl
          generalize dvup dv cn (.slice (some ⟨g3, 3, none⟩) L (c3 - 1)) = dv' at *
          go_upto_region 15 with fail
          rw [HW7.out]
          go_wp2
          refine bodyPost_ret (v := .tuple #[.agg (DA room dv'), .int .i64 1, .string ⟨#[]⟩]) ?_ rfl HY.out.2
          exact res30_3 f14_res _ _ (w.heap.size + 1) _ _ rfl HY.out.1
        · obtain ⟨W7, hW7, y1, y2, HY⟩ := hend (.slice (some ⟨g3, 0, none⟩) (L + 1) c3) (by rw [if_neg hfl])
          have HW7 := Hid_of hW7
          have hfa : decide ((room : Int) < ((L + 1 : Nat) : Int)) = false := decide_eq_false (by omega)
          have hfb : decide (room < L + 1) = false := decide_eq_false (by omega)
          have hfc : decide ((room : Int) < (L : Int) + 1) = false := decide_eq_false (by omega)
          clear hend hW7 hfl
          generalize dvup dv cn (.slice (some ⟨g3, 0, none⟩) (L + 1) c3) = dv' at *
          go_upto_region 15 with fail
          rw [HW7.out]
          go_wp2
          refine bodyPost_ret (v := .tuple #[.agg (DA room dv'), .int .i64 1, .string ⟨#[]⟩]) ?_ rfl HY.out.2
          exact res30_3 f14_res _ _ (w.heap.size + 1) _ _ rfl HY.out.1
      case s6x9fa =>
        intro Kk hK
        go_simp
        refine hK.out _ _ trivial (fun hHeld => ?_)
        clear hK Kk
        refine wpAnyH_ready (rs := [3]) (by kernel_rfl) (by simp) ?_
        refine (AllReadyH.cons (o := ?p3x14fa) ?o3x14fa ?s3x14fa AllReadyH.nil)
        case o3x14fa => (simp only [List.getElem?_toArray, List.getElem?_cons_succ, List.getElem?_cons_zero]; try rfl)
        intro Kk hK
        refine step_append_known rfl (.const (.slice none 0 0)) (.tmp 59) 27 rfl _ _ rfl rfl _ _ (hr4' _) ?_
        refine hK.out _ _ trivial (fun hHeld => ?_)
        clear hK Kk
        simp only [Act.put, List.setIfInBounds_toArray, List.set_cons_zero, List.set_cons_succ]
        refine wpAnyH_ready (rs := [7]) (by kernel_rfl) (by simp) ?_
        refine (AllReadyH.cons (o := ?p7x15fa) ?o7x15fa ?s7x15fa AllReadyH.nil)
        case o7x15fa => (simp only [List.getElem?_toArray, List.getElem?_cons_succ, List.getElem?_cons_zero]; try rfl)
        intro Kk hK
        refine step_append_known rfl (.tmp 60) (.tmp 63) 27 rfl _ _ rfl rfl _ _ (hr5' _) ?_
        refine hK.out _ _ trivial (fun hHeld => ?_)
        clear hK Kk
        simp only [Act.put, List.setIfInBounds_toArray, List.set_cons_zero, List.set_cons_succ]
        refine wpAnyH_ready (rs := [11]) (by kernel_rfl) (by simp) ?_
        refine (AllReadyH.cons (o := ?p11x16fa) ?o11x16fa ?s11x16fa AllReadyH.nil)
        case o11x16fa => (simp only [List.getElem?_toArray, List.getElem?_cons_succ, List.getElem?_cons_zero]; try rfl)
        intro Kk hK
        refine step_append_known rfl (.tmp 64) (.tmp 67) 27 rfl _ _ rfl rfl _ _ (hr6' _) ?_
        refine hK.out _ _ trivial (fun hHeld => ?_)
        clear hK Kk
        simp only [Act.put, List.setIfInBounds_toArray, List.set_cons_zero, List.set_cons_succ]
        refine wpAnyH_take (i := 12) (oi := ?p12x17fa) (v := ?v12x17fa) ?o12x17fa (by kernel_rfl) (by kernel_rfl) (by kernel_rfl) ?q12x17fa ?y12x17fa hHeld ?r12x17fa
        case o12x17fa => (simp only [List.getElem?_toArray, List.getElem?_cons_succ, List.getElem?_cons_zero]; try rfl)
        case q12x17fa => exact fun _ _ _ h => h
        case y12x17fa => (refine Or.inl ⟨rfl, ?_⟩; intro wq hq; obtain q0 := hq; go_simp; try with_reducible rfl)
        simp only [Act.put, List.setIfInBounds_toArray, List.set_cons_zero, List.set_cons_succ]
        refine wpAnyH_done (by kernel_rfl) ?_ _
        have hEB : Below w3.heap.size w3 w6' := by
          have h1 := HWD.out
          have h2 := HOB.out.2
          exact bel_up h1 (h2.mono (Nat.le_refl _)) (Nat.le_refl _)
        have hEO : OwnL cl 62 w6' w3.heap.size (.slice (some ⟨g3', 0, none⟩) (L + 1) c3') NL := HOB.out.1.low HWD.out.size
        obtain ⟨k0, k1, k2, k3, k4, hend⟩ := HEND.out w6' g3' c3' hEB hEO
        clear hEB hEO HEND HOA HOB HWD hr4 hr5 hr6 hr4' hr5' hr6'
        by_cases hfl : room ≤ L
        · obtain ⟨W7, hW7, y1, y2, HY⟩ := hend (.slice (some ⟨g3', 3, none⟩) L (c3' - 1)) (by rw [if_pos hfl])
          have HW7 := Hid_of hW7
          have hfa : decide ((room : Int) < ((L + 1 : Nat) : Int)) = true := decide_eq_true (by omega)
          have hfb : decide (room < L + 1) = true := decide_eq_true (by omega)
          have hfc : decide ((room : Int) < (L : Int) + 1) = true := decide_eq_true (by omega)
          have hfd : ¬ c3' = 1 := by omega
          clear hend hW7 hfl
          generalize dvup dv cn (.slice (some ⟨g3', 3, none⟩) L (c3' - 1)) = dv' at *
          go_upto_region 15 with fail
          rw [HW7.out]
          go_wp2
          refine bodyPost_ret (v := .tuple #[.agg (DA room dv'), .int .i64 1, .string ⟨#[]⟩]) ?_ rfl HY.out.2
          exact res30_3 f14_res _ _ (w.heap.size + 1) _ _ rfl HY.out.1
        · obtain ⟨W7, hW7, y1, y2, HY⟩ := hend (.slice (some ⟨g3', 0, none⟩) (L + 1) c3') (by rw [if_neg hfl])
          have HW7 := Hid_of hW7
          have hfa : decide ((room : Int) < ((L + 1 : Nat) : Int)) = false := decide_eq_false (by omega)
          have hfb : decide (room < L + 1) = false := decide_eq_false (by omega)
          have hfc : decide ((room : Int) < (L : Int) + 1) = false := decide_eq_false (by omega)
          clear hend hW7 hfl
          generalize dvup dv cn (.slice (some ⟨g3', 0, none⟩) (L + 1) c3') = dv' at *
          go_upto_region 15 with fail
          rw [HW7.out]
          go_wp2
          refine bodyPost_ret (v := .tuple #[.agg (DA room dv'), .int .i64 1, .string ⟨#[]⟩]) ?_ rfl HY.out.2
          exact res30_3 f14_res _ _ (w.heap.size + 1) _ _ rfl HY.out.1
    · have HIN2 := Hid_of (fun wd h => HINS.out wd h _ (by rw [if_neg hcp]))
      clear HINS
      go_upto_region 11 with fail
      obtain ⟨wd, hwd⟩ : ∃ wd, w3.drew = wd := ⟨_, rfl⟩
      have HWD : Hid (Below w3.heap.size w3 wd) := by rw [← hwd]; exact (Below.refl _ _).drew
      obtain ⟨⟨a1, c1, w4, hr4, a2, c2, w5, hr5, g3, c3, w6, hr6, ho6, hb6⟩, ⟨a1', c1', w4', hr4', a2', c2', w5', hr5', g3', c3', w6', hr6', ho6', hb6'⟩⟩ := HIN2.out wd hwd
      have HOA := Hid_of (And.intro ho6 hb6)
      have HOB := Hid_of (And.intro ho6' hb6')
      clear ho6 hb6 ho6' hb6' HIN2
      refine wp_region_held_drew (S := fun _ => True) (by kernel_rfl) trivial (fun hHeld => ?_)
      rw [hwd]
      clear hwd
      refine wpAnyH_take (i := 0) (oi := ?p0x1fb) (v := ?v0x1fb) ?o0x1fb (by kernel_rfl) (by kernel_rfl) (by kernel_rfl) ?q0x1fb ?y0x1fb hHeld ?r0x1fb
      case o0x1fb => (simp only [List.getElem?_toArray, List.getElem?_cons_zero]; try rfl)
      case q0x1fb => exact fun _ _ _ h => h
      case y0x1fb => (refine Or.inl ⟨rfl, ?_⟩; intro wq hq; obtain q0 := hq; go_simp; try with_reducible rfl)
      simp only [Act.put, List.setIfInBounds_toArray, List.set_cons_zero, List.set_cons_succ]
      refine wpAnyH_take (i := 1) (oi := ?p1x2fb) (v := ?v1x2fb) ?o1x2fb (by kernel_rfl) (by kernel_rfl) (by kernel_rfl) ?q1x2fb ?y1x2fb hHeld ?r1x2fb
      case o1x2fb => (simp only [List.getElem?_toArray, List.getElem?_cons_succ, List.getElem?_cons_zero]; try rfl)
      case q1x2fb => exact fun _ _ _ h => h
      case y1x2fb => (refine Or.inl ⟨rfl, ?_⟩; intro wq hq; obtain q0 := hq; go_simp; try with_reducible rfl)
      simp only [Act.put, List.setIfInBounds_toArray, List.set_cons_zero, List.set_cons_succ]
      refine wpAnyH_take (i := 2) (oi := ?p2x3fb) (v := ?v2x3fb) ?o2x3fb (by kernel_rfl) (by kernel_rfl) (by kernel_rfl) ?q2x3fb ?y2x3fb hHeld ?r2x3fb
      case o2x3fb => (simp only [List.getElem?_toArray, List.getElem?_cons_succ, List.getElem?_cons_zero]; try rfl)
      case q2x3fb => exact fun _ _ _ h => h
      case y2x3fb => (refine Or.inl ⟨rfl, ?_⟩; intro wq hq; obtain q0 := hq; go_simp; try with_reducible rfl)
      simp only [Act.put, List.setIfInBounds_toArray, List.set_cons_zero, List.set_cons_succ]
      refine wpAnyH_take (i := 4) (oi := ?p4x4fb) (v := ?v4x4fb) ?o4x4fb (by kernel_rfl) (by kernel_rfl) (by kernel_rfl) ?q4x4fb ?y4x4fb hHeld ?r4x4fb
      case o4x4fb => (simp only [List.getElem?_toArray, List.getElem?_cons_succ, List.getElem?_cons_zero]; try rfl)
      case q4x4fb => exact fun _ _ _ h => h
      case y4x4fb => (refine Or.inl ⟨rfl, ?_⟩; intro wq hq; obtain q0 := hq; go_simp; try with_reducible rfl)
      simp only [Act.put, List.setIfInBounds_toArray, List.set_cons_zero, List.set_cons_succ]
      refine wpAnyH_take (i := 5) (oi := ?p5x5fb) (v := ?v5x5fb) ?o5x5fb (by kernel_rfl) (by kernel_rfl) (by kernel_rfl) ?q5x5fb ?y5x5fb hHeld ?r5x5fb
      case o5x5fb => (simp only [List.getElem?_toArray, List.getElem?_cons_succ, List.getElem?_cons_zero]; try rfl)
      case q5x5fb => exact fun _ _ _ h => h
      case y5x5fb => (refine Or.inl ⟨rfl, ?_⟩; intro wq hq; obtain q0 := hq; go_simp; try with_reducible rfl)
      simp only [Act.put, List.setIfInBounds_toArray, List.set_cons_zero, List.set_cons_succ]
      refine wpAnyH_take (i := 8) (oi := ?p8x6fb) (v := ?v8x6fb) ?o8x6fb (by kernel_rfl) (by kernel_rfl) (by kernel_rfl) ?q8x6fb ?y8x6fb hHeld ?r8x6fb
      case o8x6fb => (simp only [List.getElem?_toArray, List.getElem?_cons_succ, List.getElem?_cons_zero]; try rfl)
      case q8x6fb => exact fun _ _ _ h => h
      case y8x6fb => (refine Or.inl ⟨rfl, ?_⟩; intro wq hq; obtain q0 := hq; go_simp; try with_reducible rfl)
      simp only [Act.put, List.setIfInBounds_toArray, List.set_cons_zero, List.set_cons_succ]
      refine wpAnyH_take (i := 9) (oi := ?p9x7fb) (v := ?v9x7fb) ?o9x7fb (by kernel_rfl) (by kernel_rfl) (by kernel_rfl) ?q9x7fb ?y9x7fb hHeld ?r9x7fb
      case o9x7fb => (simp only [List.getElem?_toArray, List.getElem?_cons_succ, List.getElem?_cons_zero]; try rfl)
      case q9x7fb => exact fun _ _ _ h => h
      case y9x7fb => (refine Or.inl ⟨rfl, ?_⟩; intro wq hq; obtain q0 := hq; go_simp; try with_reducible rfl)
      simp only [Act.put, List.setIfInBounds_toArray, List.set_cons_zero, List.set_cons_succ]
      refine wpAnyH_take (i := 10) (oi := ?p10x8fb) (v := ?v10x8fb) ?o10x8fb (by kernel_rfl) (by kernel_rfl) (by kernel_rfl) ?q10x8fb ?y10x8fb hHeld ?r10x8fb
      case o10x8fb => (simp only [List.getElem?_toArray, List.getElem?_cons_succ, List.getElem?_cons_zero]; try rfl)
      case q10x8fb => exact fun _ _ _ h => h
      case y10x8fb => (refine Or.inl ⟨rfl, ?_⟩; intro wq hq; obtain q0 := hq; go_simp; try with_reducible rfl)
      simp only [Act.put, List.setIfInBounds_toArray, List.set_cons_zero, List.set_cons_succ]
      refine wpAnyH_ready (rs := [3, 6]) (by kernel_rfl) (by simp) ?_
      refine (AllReadyH.cons (o := ?p3x9fb) ?o3x9fb ?s3x9fb (AllReadyH.cons (o := ?p6x9fb) ?o6x9fb ?s6x9fb AllReadyH.nil))
      case o3x9fb => (simp only [List.getElem?_toArray, List.getElem?_cons_succ, List.getElem?_cons_zero]; try rfl)
      case o6x9fb => (simp only [List.getElem?_toArray, List.getElem?_cons_succ, List.getElem?_cons_zero]; try rfl)
      case s3x9fb =>
        intro Kk hK
        refine step_append_known rfl (.const (.slice none 0 0)) (.tmp 59) 27 rfl _ _ rfl rfl _ _ (hr4 _) ?_
        refine hK.out _ _ trivial (fun hHeld => ?_)
        clear hK Kk
        simp only [Act.put, List.setIfInBounds_toArray, List.set_cons_zero, List.set_cons_succ]
        refine wpAnyH_ready (rs := [6]) (by kernel_rfl) (by simp) ?_
        refine (AllReadyH.cons (o := ?p6x10fb) ?o6x10fb ?s6x10fb AllReadyH.nil)
        case o6x10fb => (simp only [List.getElem?_toArray, List.getElem?_cons_succ, List.getElem?_cons_zero]; try rfl)
        intro Kk hK
        go_simp
        refine hK.out _ _ trivial (fun hHeld => ?_)
        clear hK Kk
        refine wpAnyH_ready (rs := [7]) (by kernel_rfl) (by simp) ?_
        refine (AllReadyH.cons (o := ?p7x11fb) ?o7x11fb ?s7x11fb AllReadyH.nil)
        case o7x11fb => (simp only [List.getElem?_toArray, List.getElem?_cons_succ, List.getElem?_cons_zero]; try rfl)
        intro Kk hK
        refine step_append_known rfl (.tmp 60) (.tmp 63) 27 rfl _ _ rfl rfl _ _ (hr5 _) ?_
        refine hK.out _ _ trivial (fun hHeld => ?_)
        clear hK Kk
        simp only [Act.put, List.setIfInBounds_toArray, List.set_cons_zero, List.set_cons_succ]
        refine wpAnyH_ready (rs := [11]) (by kernel_rfl) (by simp) ?_
        refine (AllReadyH.cons (o := ?p11x12fb) ?o11x12fb ?s11x12fb AllReadyH.nil)
        case o11x12fb => (simp only [List.getElem?_toArray, List.getElem?_cons_succ, List.getElem?_cons_zero]; try rfl)
        intro Kk hK
        refine step_append_known rfl (.tmp 64) (.tmp 67) 27 rfl _ _ rfl rfl _ _ (hr6 _) ?_
        refine hK.out _ _ trivial (fun hHeld => ?_)
        clear hK Kk
        simp only [Act.put, List.setIfInBounds_toArray, List.set_cons_zero, List.set_cons_succ]
        refine wpAnyH_take (i := 12) (oi := ?p12x13fb) (v := ?v12x13fb) ?o12x13fb (by kernel_rfl) (by kernel_rfl) (by kernel_rfl) ?q12x13fb ?y12x13fb hHeld ?r12x13fb
        case o12x13fb => (simp only [List.getElem?_toArray, List.getElem?_cons_succ, List.getElem?_cons_zero]; try rfl)
        case q12x13fb => exact fun _ _ _ h => h
        case y12x13fb => (refine Or.inl ⟨rfl, ?_⟩; intro wq hq; obtain q0 := hq; go_simp; try with_reducible rfl)
        simp only [Act.put, List.setIfInBounds_toArray, List.set_cons_zero, List.set_cons_succ]
        refine wpAnyH_done (by kernel_rfl) ?_ _
        have hEB : Below w3.heap.size w3 w6 := by
          have h1 := HWD.out
          have h2 := HOA.out.2
          exact bel_up h1 (h2.mono (Nat.le_refl _)) (Nat.le_refl _)
        have hEO : OwnL cl 62 w6 w3.heap.size (.slice (some ⟨g3, 0, none⟩) (L + 1) c3) NL := HOA.out.1.low HWD.out.size
        obtain ⟨k0, k1, k2, k3, k4, hend⟩ := HEND.out w6 g3 c3 hEB hEO
        clear hEB hEO HEND HOA HOB HWD hr4 hr5 hr6 hr4' hr5' hr6'
        by_cases hfl : room ≤ L
        · obtain ⟨W7, hW7, y1, y2, HY⟩ := hend (.slice (some ⟨g3, 3, none⟩) L (c3 - 1)) (by rw [if_pos hfl])
          have HW7 := Hid_of hW7
          have hfa : decide ((room : Int) < ((L + 1 : Nat) : Int)) = true := decide_eq_true (by omega)
          have hfb : decide (room < L + 1) = true := decide_eq_true (by omega)
          have hfc : decide ((room : Int) < (L : Int) + 1) = true := decide_eq_true (by omega)
          have hfd : ¬ c3 = 1 := by omega
          clear hend hW7 hfl
          generalize dvup dv cn (.slice (some ⟨g3, 3, none⟩) L (c3 - 1)) = dv' at *
          go_upto_region 15 with fail
          rw [HW7.out]
          go_wp2
          refine bodyPost_ret (v := .tuple #[.agg (DA room dv'), .int .i64 1, .string ⟨#[]⟩]) ?_ rfl HY.out.2
          exact res30_3 f14_res _ _ (w.heap.size + 1) _ _ rfl HY.out.1
        · obtain ⟨W7, hW7, y1, y2, HY⟩ := hend (.slice (some ⟨g3, 0, none⟩) (L + 1) c3) (by rw [if_neg hfl])
          have HW7 := Hid_of hW7
          have hfa : decide ((room : Int) < ((L + 1 : Nat) : Int)) = false := decide_eq_false (by omega)
          have hfb : decide (room < L + 1) = false := decide_eq_false (by omega)
          have hfc : decide ((room : Int) < (L : Int) + 1) = false := decide_eq_false (by omega)
          clear hend hW7 hfl
          generalize dvup dv cn (.slice (some ⟨g3, 0, none⟩) (L + 1) c3) = dv' at *
          go_upto_region 15 with fail
          rw [HW7.out]
          go_wp2
          refine bodyPost_ret (v := .tuple #[.agg (DA room dv'), .int .i64 1, .string ⟨#[]⟩]) ?_ rfl HY.out.2
          exact res30_3 f14_res _ _ (w.heap.size + 1) _ _ rfl HY.out.1
      case s6x9fb =>
        intro Kk hK
        go_simp
        refine hK.out _ _ trivial (fun hHeld => ?_)
        clear hK Kk
        refine wpAnyH_ready (rs := [3]) (by kernel_rfl) (by simp) ?_
        refine (AllReadyH.cons (o := ?p3x14fb) ?o3x14fb ?s3x14fb AllReadyH.nil)
        case o3x14fb => (simp only [List.getElem?_toArray, List.getElem?_cons_succ, List.getElem?_cons_zero]; try rfl)
        intro Kk hK
        refine step_append_known rfl (.const (.slice none 0 0)) (.tmp 59) 27 rfl _ _ rfl rfl _ _ (hr4' _) ?_
        refine hK.out _ _ trivial (fun hHeld => ?_)
        clear hK Kk
        simp only [Act.put, List.setIfInBounds_toArray, List.set_cons_zero, List.set_cons_succ]
        refine wpAnyH_ready (rs := [7]) (by kernel_rfl) (by simp) ?_
        refine (AllReadyH.cons (o := ?p7x15fb) ?o7x15fb ?s7x15fb AllReadyH.nil)
        case o7x15fb => (simp only [List.getElem?_toArray, List.getElem?_cons_succ, List.getElem?_cons_zero]; try rfl)
        intro Kk hK
        refine step_append_known rfl (.tmp 60) (.tmp 63) 27 rfl _ _ rfl rfl _ _ (hr5' _) ?_
        refine hK.out _ _ trivial (fun hHeld => ?_)
        clear hK Kk
        simp only [Act.put, List.setIfInBounds_toArray, List.set_cons_zero, List.set_cons_succ]
        refine wpAnyH_ready (rs := [11]) (by kernel_rfl) (by simp) ?_
        refine (AllReadyH.cons (o := ?p11x16fb) ?o11x16fb ?s11x16fb AllReadyH.nil)
        case o11x16fb => (simp only [List.getElem?_toArray, List.getElem?_cons_succ, List.getElem?_cons_zero]; try rfl)
        intro Kk hK
        refine step_append_known rfl (.tmp 64) (.tmp 67) 27 rfl _ _ rfl rfl _ _ (hr6' _) ?_
        refine hK.out _ _ trivial (fun hHeld => ?_)
        clear hK Kk
        simp only [Act.put, List.setIfInBounds_toArray, List.set_cons_zero, List.set_cons_succ]
        refine wpAnyH_take (i := 12) (oi := ?p12x17fb) (v := ?v12x17fb) ?o12x17fb (by kernel_rfl) (by kernel_rfl) (by kernel_rfl) ?q12x17fb ?y12x17fb hHeld ?r12x17fb
        case o12x17fb => (simp only [List.getElem?_toArray, List.getElem?_cons_succ, List.getElem?_cons_zero]; try rfl)
        case q12x17fb => exact fun _ _ _ h => h
        case y12x17fb => (refine Or.inl ⟨rfl, ?_⟩; intro wq hq; obtain q0 := hq; go_simp; try with_reducible rfl)
        simp only [Act.put, List.setIfInBounds_toArray, List.set_cons_zero, List.set_cons_succ]
        refine wpAnyH_done (by kernel_rfl) ?_ _
        have hEB : Below w3.heap.size w3 w6' := by
          have h1 := HWD.out
          have h2 := HOB.out.2
          exact bel_up h1 (h2.mono (Nat.le_refl _)) (Nat.le_refl _)
        have hEO : OwnL cl 62 w6' w3.heap.size (.slice (some ⟨g3', 0, none⟩) (L + 1) c3') NL := HOB.out.1.low HWD.out.size
        obtain ⟨k0, k1, k2, k3, k4, hend⟩ := HEND.out w6' g3' c3' hEB hEO
        clear hEB hEO HEND HOA HOB HWD hr4 hr5 hr6 hr4' hr5' hr6'
        by_cases hfl : room ≤ L
        · obtain ⟨W7, hW7, y1, y2, HY⟩ := hend (.slice (some ⟨g3', 3, none⟩) L (c3' - 1)) (by rw [if_pos hfl])
          have HW7 := Hid_of hW7
          have hfa : decide ((room : Int) < ((L + 1 : Nat) : Int)) = true := decide_eq_true (by omega)
          have hfb : decide (room < L + 1) = true := decide_eq_true (by omega)
          have hfc : decide ((room : Int) < (L : Int) + 1) = true := decide_eq_true (by omega)
          have hfd : ¬ c3' = 1 := by omega
          clear hend hW7 hfl
          generalize dvup dv cn (.slice (some ⟨g3', 3, none⟩) L (c3' - 1)) = dv' at *
          go_upto_region 15 with fail
          rw [HW7.out]
          go_wp2
          refine bodyPost_ret (v := .tuple #[.agg (DA room dv'), .int .i64 1, .string ⟨#[]⟩]) ?_ rfl HY.out.2
          exact res30_3 f14_res _ _ (w.heap.size + 1) _ _ rfl HY.out.1
        · obtain ⟨W7, hW7, y1, y2, HY⟩ := hend (.slice (some ⟨g3', 0, none⟩) (L + 1) c3') (by rw [if_neg hfl])
          have HW7 := Hid_of hW7
          have hfa : decide ((room : Int) < ((L + 1 : Nat) : Int)) = false := decide_eq_false (by omega)
          have hfb : decide (room < L + 1) = false := decide_eq_false (by omega)
          have hfc : decide ((room : Int) < (L : Int) + 1) = false := decide_eq_false (by omega)
          clear hend hW7 hfl
          generalize dvup dv cn (.slice (some ⟨g3', 0, none⟩) (L + 1) c3') = dv' at *
          go_upto_region 15 with fail
          rw [HW7.out]
          go_wp2
          refine bodyPost_ret (v := .tuple #[.agg (DA room dv'), .int .i64 1, .string ⟨#[]⟩]) ?_ rfl HY.out.2
          exact res30_3 f14_res _ _ (w.heap.size + 1) _ _ rfl HY.out.1
  | true =>
    obtain ⟨e1, e2, e3⟩ := d3 rfl
    clear d3
    by_cases hcp : cap = p
    · have HIN2 := Hid_of (fun wd h => HINS.out wd h _ (by rw [if_pos hcp]))
      clear HINS
      have hcL : L = cap := by omega
      have hpL : L = p := by omega
      clear hcp
      subst hcL
      subst hpL
      go_upto_region 11 with fail
      obtain ⟨wd, hwd⟩ : ∃ wd, w3.drew = wd := ⟨_, rfl⟩
      have HWD : Hid (Below w3.heap.size w3 wd) := by rw [← hwd]; exact (Below.refl _ _).drew
      obtain ⟨⟨a1, c1, w4, hr4, a2, c2, w5, hr5, g3, c3, w6, hr6, ho6, hb6⟩, ⟨a1', c1', w4', hr4', a2', c2', w5', hr5', g3', c3', w6', hr6', ho6', hb6'⟩⟩ := HIN2.out wd hwd
      have HOA := Hid_of (And.intro ho6 hb6)
      have HOB := Hid_of (And.intro ho6' hb6')
      clear ho6 hb6 ho6' hb6' HIN2
      refine wp_region_held_drew (S := fun _ => True) (by kernel_rfl) trivial (fun hHeld => ?_)
      rw [hwd]
      clear hwd
      refine wpAnyH_take (i := 0) (oi := ?p0x1fc) (v := ?v0x1fc) ?o0x1fc (by kernel_rfl) (by kernel_rfl) (by kernel_rfl) ?q0x1fc ?y0x1fc hHeld ?r0x1fc
      case o0x1fc => (simp only [List.getElem?_toArray, List.getElem?_cons_zero]; try rfl)
      case q0x1fc => exact fun _ _ _ h => h
      case y0x1fc => (refine Or.inl ⟨rfl, ?_⟩; intro wq hq; obtain q0 := hq; go_simp; try with_reducible rfl)
      simp only [Act.put, List.setIfInBounds_toArray, List.set_cons_zero, List.set_cons_succ]
      refine wpAnyH_take (i := 1) (oi := ?p1x2fc) (v := ?v1x2fc) ?o1x2fc (by kernel_rfl) (by kernel_rfl) (by kernel_rfl) ?q1x2fc ?y1x2fc hHeld ?r1x2fc
      case o1x2fc => (simp only [List.getElem?_toArray, List.getElem?_cons_succ, List.getElem?_cons_zero]; try rfl)
      case q1x2fc => exact fun _ _ _ h => h
      case y1x2fc => (refine Or.inl ⟨rfl, ?_⟩; intro wq hq; obtain q0 := hq; go_simp; try with_reducible rfl)
      simp only [Act.put, List.setIfInBounds_toArray, List.set_cons_zero, List.set_cons_succ]
      refine wpAnyH_take (i := 2) (oi := ?p2x3fc) (v := ?v2x3fc) ?o2x3fc (by kernel_rfl) (by kernel_rfl) (by kernel_rfl) ?q2x3fc ?y2x3fc hHeld ?r2x3fc
      case o2x3fc => (simp only [List.getElem?_toArray, List.getElem?_cons_succ, List.getElem?_cons_zero]; try rfl)
      case q2x3fc => exact fun _ _ _ h => h
      case y2x3fc => (refine Or.inl ⟨rfl, ?_⟩; intro wq hq; obtain q0 := hq; go_simp; try with_reducible rfl)
      simp only [Act.put, List.setIfInBounds_toArray, List.set_cons_zero, List.set_cons_succ]
      refine wpAnyH_take (i := 4) (oi := ?p4x4fc) (v := ?v4x4fc) ?o4x4fc (by kernel_rfl) (by kernel_rfl) (by kernel_rfl) ?q4x4fc ?y4x4fc hHeld ?r4x4fc
      case o4x4fc => (simp only [List.getElem?_toArray, List.getElem?_cons_succ, List.getElem?_cons_zero]; try rfl)
      case q4x4fc => exact fun _ _ _ h => h
      case y4x4fc => (refine Or.inl ⟨rfl, ?_⟩; intro wq hq; obtain q0 := hq; go_simp; try with_reducible rfl)
      simp only [Act.put, List.setIfInBounds_toArray, List.set_cons_zero, List.set_cons_succ]
      refine wpAnyH_take (i := 5) (oi := ?p5x5fc) (v := ?v5x5fc) ?o5x5fc (by kernel_rfl) (by kernel_rfl) (by kernel_rfl) ?q5x5fc ?y5x5fc hHeld ?r5x5fc
      case o5x5fc => (simp only [List.getElem?_toArray, List.getElem?_cons_succ, List.getElem?_cons_zero]; try rfl)
      case q5x5fc => exact fun _ _ _ h => h
      case y5x5fc => (refine Or.inl ⟨rfl, ?_⟩; intro wq hq; obtain q0 := hq; go_simp; try with_reducible rfl)
      simp only [Act.put, List.setIfInBounds_toArray, List.set_cons_zero, List.set_cons_succ]
      refine wpAnyH_take (i := 8) (oi := ?p8x6fc) (v := ?v8x6fc) ?o8x6fc (by kernel_rfl) (by kernel_rfl) (by kernel_rfl) ?q8x6fc ?y8x6fc hHeld ?r8x6fc
      case o8x6fc => (simp only [List.getElem?_toArray, List.getElem?_cons_succ, List.getElem?_cons_zero]; try rfl)
      case q8x6fc => exact fun _ _ _ h => h
      case y8x6fc => (refine Or.inl ⟨rfl, ?_⟩; intro wq hq; obtain q0 := hq; go_simp; try with_reducible rfl)
      simp only [Act.put, List.setIfInBounds_toArray, List.set_cons_zero, List.set_cons_succ]
      refine wpAnyH_take (i := 9) (oi := ?p9x7fc) (v := ?v9x7fc) ?o9x7fc (by kernel_rfl) (by kernel_rfl) (by kernel_rfl) ?q9x7fc ?y9x7fc hHeld ?r9x7fc
      case o9x7fc => (simp only [List.getElem?_toArray, List.getElem?_cons_succ, List.getElem?_cons_zero]; try rfl)
      case q9x7fc => exact fun _ _ _ h => h
      case y9x7fc => (refine Or.inl ⟨rfl, ?_⟩; intro wq hq; obtain q0 := hq; go_simp; try with_reducible rfl)
      simp only [Act.put, List.setIfInBounds_toArray, List.set_cons_zero, List.set_cons_succ]
      refine wpAnyH_take (i := 10) (oi := ?p10x8fc) (v := ?v10x8fc) ?o10x8fc (by kernel_rfl) (by kernel_rfl) (by kernel_rfl) ?q10x8fc ?y10x8fc hHeld ?r10x8fc
      case o10x8fc => (simp only [List.getElem?_toArray, List.getElem?_cons_succ, List.getElem?_cons_zero]; try rfl)
      case q10x8fc => exact fun _ _ _ h => h
      case y10x8fc => (refine Or.inl ⟨rfl, ?_⟩; intro wq hq; obtain q0 := hq; go_simp; try with_reducible rfl)
      simp only [Act.put, List.setIfInBounds_toArray, List.set_cons_zero, List.set_cons_succ]
      refine wpAnyH_ready (rs := [3, 6]) (by kernel_rfl) (by simp) ?_
      refine (AllReadyH.cons (o := ?p3x9fc) ?o3x9fc ?s3x9fc (AllReadyH.cons (o := ?p6x9fc) ?o6x9fc ?s6x9fc AllReadyH.nil))
      case o3x9fc => (simp only [List.getElem?_toArray, List.getElem?_cons_succ, List.getElem?_cons_zero]; try rfl)
      case o6x9fc => (simp only [List.getElem?_toArray, List.getElem?_cons_succ, List.getElem?_cons_zero]; try rfl)
      case s3x9fc =>
        intro Kk hK
        refine step_append_known rfl (.const (.slice none 0 0)) (.tmp 59) 27 rfl _ _ rfl rfl _ _ (hr4 _) ?_
        refine hK.out _ _ trivial (fun hHeld => ?_)
        clear hK Kk
        simp only [Act.put, List.setIfInBounds_toArray, List.set_cons_zero, List.set_cons_succ]
        refine wpAnyH_ready (rs := [6]) (by kernel_rfl) (by simp) ?_
        refine (AllReadyH.cons (o := ?p6x10fc) ?o6x10fc ?s6x10fc AllReadyH.nil)
        case o6x10fc => (simp only [List.getElem?_toArray, List.getElem?_cons_succ, List.getElem?_cons_zero]; try rfl)
        intro Kk hK
        go_simp
        refine hK.out _ _ trivial (fun hHeld => ?_)
        clear hK Kk
        refine wpAnyH_ready (rs := [7]) (by kernel_rfl) (by simp) ?_
        refine (AllReadyH.cons (o := ?p7x11fc) ?o7x11fc ?s7x11fc AllReadyH.nil)
        case o7x11fc => (simp only [List.getElem?_toArray, List.getElem?_cons_succ, List.getElem?_cons_zero]; try rfl)
        intro Kk hK
        refine step_append_known rfl (.tmp 60) (.tmp 63) 27 rfl _ _ rfl rfl _ _ (hr5 _) ?_
        refine hK.out _ _ trivial (fun hHeld => ?_)
        clear hK Kk
        simp only [Act.put, List.setIfInBounds_toArray, List.set_cons_zero, List.set_cons_succ]
        refine wpAnyH_ready (rs := [11]) (by kernel_rfl) (by simp) ?_
        refine (AllReadyH.cons (o := ?p11x12fc) ?o11x12fc ?s11x12fc AllReadyH.nil)
        case o11x12fc => (simp only [List.getElem?_toArray, List.getElem?_cons_succ, List.getElem?_cons_zero]; try rfl)
        intro Kk hK
        refine step_append_known rfl (.tmp 64) (.tmp 67) 27 rfl _ _ rfl rfl _ _ (hr6 _) ?_
        refine hK.out _ _ trivial (fun hHeld => ?_)
        clear hK Kk
        simp only [Act.put, List.setIfInBounds_toArray, List.set_cons_zero, List.set_cons_succ]
        refine wpAnyH_take (i := 12) (oi := ?p12x13fc) (v := ?v12x13fc) ?o12x13fc (by kernel_rfl) (by kernel_rfl) (by kernel_rfl) ?q12x13fc ?y12x13fc hHeld ?r12x13fc
        case o12x13fc => (simp only [List.getElem?_toArray, List.getElem?_cons_succ, List.getElem?_cons_zero]; try rfl)
        case q12x13fc => exact fun _ _ _ h => h
        case y12x13fc => (refine Or.inl ⟨rfl, ?_⟩; intro wq hq; obtain q0 := hq; go_simp; try with_reducible rfl)
        simp only [Act.put, List.setIfInBounds_toArray, List.set_cons_zero, List.set_cons_succ]
        refine wpAnyH_done (by kernel_rfl) ?_ _
        have hEB : Below w3.heap.size w3 w6 := by
          have h1 := HWD.out
          have h2 := HOA.out.2
          exact bel_up h1 (h2.mono (Nat.le_refl _)) (Nat.le_refl _)
        have hEO : OwnL cl 62 w6 w3.heap.size (.slice (some ⟨g3, 0, none⟩) (L + 1) c3) NL := HOA.out.1.low HWD.out.size
        obtain ⟨k0, k1, k2, k3, k4, hend⟩ := HEND.out w6 g3 c3 hEB hEO
        clear hEB hEO HEND HOA HOB HWD hr4 hr5 hr6 hr4' hr5' hr6'
        by_cases hfl : room ≤ L
        · obtain ⟨W7, hW7, y1, y2, HY⟩ := hend (.slice (some ⟨g3, 3, none⟩) L (c3 - 1)) (by rw [if_pos hfl])
          have HW7 := Hid_of hW7
          have hfa : decide ((room : Int) < ((L + 1 : Nat) : Int)) = true := decide_eq_true (by omega)
          have hfb : decide (room < L + 1) = true := decide_eq_true (by omega)
          have hfc : decide ((room : Int) < (L : Int) + 1) = true := decide_eq_true (by omega)
          have hfd : ¬ c3 = 1 := by omega
          clear hend hW7 hfl
          generalize dvup dv cn (.slice (some ⟨g3, 3, none⟩) L (c3 - 1)) = dv' at *
          go_upto_region 15 with fail
          rw [HW7.out]
          go_wp2
          refine bodyPost_ret (v := .tuple #[.agg (DA room dv'), .int .i64 1, .string ⟨#[]⟩]) ?_ rfl HY.out.2
          exact res30_3 f14_res _ _ (w.heap.size + 1) _ _ rfl HY.out.1
        · obtain ⟨W7, hW7, y1, y2, HY⟩ := hend (.slice (some ⟨g3, 0, none⟩) (L + 1) c3) (by rw [if_neg hfl])
          have HW7 := Hid_of hW7
          have hfa : decide ((room : Int) < ((L + 1 : Nat) : Int)) = false := decide_eq_false (by omega)
          have hfb : decide (room < L + 1) = false := decide_eq_false (by omega)
          have hfc : decide ((room : Int) < (L : Int) + 1) = false := decide_eq_false (by omega)
          clear hend hW7 hfl
          generalize dvup dv cn (.slice (some ⟨g3, 0, none⟩) (L + 1) c3) = dv' at *
          go_upto_region 15 with fail
          rw [HW7.out]
          go_wp2
          refine bodyPost_ret (v := .tuple #[.agg (DA room dv'), .int .i64 1, .string ⟨#[]⟩]) ?_ rfl HY.out.2
          exact res30_3 f14_res _ _ (w.heap.size + 1) _ _ rfl HY.out.1
      case s6x9fc =>
        intro Kk hK
        go_simp
        refine hK.out _ _ trivial (fun hHeld => ?_)
        clear hK Kk
        refine wpAnyH_ready (rs := [3]) (by kernel_rfl) (by simp) ?_
        refine (AllReadyH.cons (o := ?p3x14fc) ?o3x14fc ?s3x14fc AllReadyH.nil)
        case o3x14fc => (simp only [List.getElem?_toArray, List.getElem?_cons_succ, List.getElem?_cons_zero]; try rfl)
        intro Kk hK
        refine step_append_known rfl (.const (.slice none 0 0)) (.tmp 59) 27 rfl _ _ rfl rfl _ _ (hr4' _) ?_
        refine hK.out _ _ trivial (fun hHeld => ?_)
        clear hK Kk
        simp only [Act.put, List.setIfInBounds_toArray, List.set_cons_zero, List.set_cons_succ]
        refine wpAnyH_ready (rs := [7]) (by kernel_rfl) (by simp) ?_
        refine (AllReadyH.cons (o := ?p7x15fc) ?o7x15fc ?s7x15fc AllReadyH.nil)
        case o7x15fc => (simp only [List.getElem?_toArray, List.getElem?_cons_succ, List.getElem?_cons_zero]; try rfl)
        intro Kk hK
        refine step_append_known rfl (.tmp 60) (.tmp 63) 27 rfl _ _ rfl rfl _ _ (hr5' _) ?_
        refine hK.out _ _ trivial (fun hHeld => ?_)
        clear hK Kk
        simp only [Act.put, List.setIfInBounds_toArray, List.set_cons_zero, List.set_cons_succ]
        refine wpAnyH_ready (rs := [11]) (by kernel_rfl) (by simp) ?_
        refine (AllReadyH.cons (o := ?p11x16fc) ?o11x16fc ?s11x16fc AllReadyH.nil)
        case o11x16fc => (simp only [List.getElem?_toArray, List.getElem?_cons_succ, List.getElem?_cons_zero]; try rfl)
        intro Kk hK
        refine step_append_known rfl (.tmp 64) (.tmp 67) 27 rfl _ _ rfl rfl _ _ (hr6' _) ?_
        refine hK.out _ _ trivial (fun hHeld => ?_)
        clear hK Kk
        simp only [Act.put, List.setIfInBounds_toArray, List.set_cons_zero, List.set_cons_succ]
        refine wpAnyH_take (i := 12) (oi := ?p12x17fc) (v := ?v12x17fc) ?o12x17fc (by kernel_rfl) (by kernel_rfl) (by kernel_rfl) ?q12x17fc ?y12x17fc hHeld ?r12x17fc
        case o12x17fc => (simp only [List.getElem?_toArray, List.getElem?_cons_succ, List.getElem?_cons_zero]; try rfl)
        case q12x17fc => exact fun _ _ _ h => h
        case y12x17fc => (refine Or.inl ⟨rfl, ?_⟩; intro wq hq; obtain q0 := hq; go_simp; try with_reducible rfl)
        simp only [Act.put, List.setIfInBounds_toArray, List.set_cons_zero, List.set_cons_succ]
        refine wpAnyH_done (by kernel_rfl) ?_ _
        have hEB : Below w3.heap.size w3 w6' := by
          have h1 := HWD.out
          have h2 := HOB.out.2
          exact bel_up h1 (h2.mono (Nat.le_refl _)) (Nat.le_refl _)
        have hEO : OwnL cl 62 w6' w3.heap.size (.slice (some ⟨g3', 0, none⟩) (L + 1) c3') NL := HOB.out.1.low HWD.out.size
        obtain ⟨k0, k1, k2, k3, k4, hend⟩ := HEND.out w6' g3' c3' hEB hEO
        clear hEB hEO HEND HOA HOB HWD hr4 hr5 hr6 hr4' hr5' hr6'
        by_cases hfl : room ≤ L
        · obtain ⟨W7, hW7, y1, y2, HY⟩ := hend (.slice (some ⟨g3', 3, none⟩) L (c3' - 1)) (by rw [if_pos hfl])
          have HW7 := Hid_of hW7
          have hfa : decide ((room : Int) < ((L + 1 : Nat) : Int)) = true := decide_eq_true (by omega)
          have hfb : decide (room < L + 1) = true := decide_eq_true (by omega)
          have hfc : decide ((room : Int) < (L : Int) + 1) = true := decide_eq_true (by omega)
          have hfd : ¬ c3' = 1 := by omega
          clear hend hW7 hfl
          generalize dvup dv cn (.slice (some ⟨g3', 3, none⟩) L (c3' - 1)) = dv' at *
          go_upto_region 15 with fail
          rw [HW7.out]
          go_wp2
          refine bodyPost_ret (v := .tuple #[.agg (DA room dv'), .int .i64 1, .string ⟨#[]⟩]) ?_ rfl HY.out.2
          exact res30_3 f14_res _ _ (w.heap.size + 1) _ _ rfl HY.out.1
        · obtain ⟨W7, hW7, y1, y2, HY⟩ := hend (.slice (some ⟨g3', 0, none⟩) (L + 1) c3') (by rw [if_neg hfl])
          have HW7 := Hid_of hW7
          have hfa : decide ((room : Int) < ((L + 1 : Nat) : Int)) = false := decide_eq_false (by omega)
          have hfb : decide (room < L + 1) = false := decide_eq_false (by omega)
          have hfc : decide ((room : Int) < (L : Int) + 1) = false := decide_eq_false (by omega)
          clear hend hW7 hfl
          generalize dvup dv cn (.slice (some ⟨g3', 0, none⟩) (L + 1) c3') = dv' at *
          go_upto_region 15 with fail
          rw [HW7.out]
          go_wp2
          refine bodyPost_ret (v := .tuple #[.agg (DA room dv'), .int .i64 1, .string ⟨#[]⟩]) ?_ rfl HY.out.2
          exact res30_3 f14_res _ _ (w.heap.size + 1) _ _ rfl HY.out.1
    · have HIN2 := Hid_of (fun wd h => HINS.out wd h _ (by rw [if_neg hcp]))
      clear HINS
      go_upto_region 11 with fail
      obtain ⟨wd, hwd⟩ : ∃ wd, w3.drew = wd := ⟨_, rfl⟩
      have HWD : Hid (Below w3.heap.size w3 wd) := by rw [← hwd]; exact (Below.refl _ _).drew
      obtain ⟨⟨a1, c1, w4, hr4, a2, c2, w5, hr5, g3, c3, w6, hr6, ho6, hb6⟩, ⟨a1', c1', w4', hr4', a2', c2', w5', hr5', g3', c3', w6', hr6', ho6', hb6'⟩⟩ := HIN2.out wd hwd
      have HOA := Hid_of (And.intro ho6 hb6)
      have HOB := Hid_of (And.intro ho6' hb6')
      clear ho6 hb6 ho6' hb6' HIN2
      refine wp_region_held_drew (S := fun _ => True) (by kernel_rfl) trivial (fun hHeld => ?_)
      rw [hwd]
      clear hwd
      refine wpAnyH_take (i := 0) (oi := ?p0x1fd) (v := ?v0x1fd) ?o0x1fd (by kernel_rfl) (by kernel_rfl) (by kernel_rfl) ?q0x1fd ?y0x1fd hHeld ?r0x1fd
      case o0x1fd => (simp only [List.getElem?_toArray, List.getElem?_cons_zero]; try rfl)
      case q0x1fd => exact fun _ _ _ h => h
      case y0x1fd => (refine Or.inl ⟨rfl, ?_⟩; intro wq hq; obtain q0 := hq; go_simp; try with_reducible rfl)
      simp only [Act.put, List.setIfInBounds_toArray, List.set_cons_zero, List.set_cons_succ]
      refine wpAnyH_take (i := 1) (oi := ?p1x2fd) (v := ?v1x2fd) ?o1x2fd (by kernel_rfl) (by kernel_rfl) (by kernel_rfl) ?q1x2fd ?y1x2fd hHeld ?r1x2fd
      case o1x2fd => (simp only [List.getElem?_toArray, List.getElem?_cons_succ, List.getElem?_cons_zero]; try rfl)
      case q1x2fd => exact fun _ _ _ h => h
      case y1x2fd => (refine Or.inl ⟨rfl, ?_⟩; intro wq hq; obtain q0 := hq; go_simp; try with_reducible rfl)
      simp only [Act.put, List.setIfInBounds_toArray, List.set_cons_zero, List.set_cons_succ]
      refine wpAnyH_take (i := 2) (oi := ?p2x3fd) (v := ?v2x3fd) ?o2x3fd (by kernel_rfl) (by kernel_rfl) (by kernel_rfl) ?q2x3fd ?y2x3fd hHeld ?r2x3fd
      case o2x3fd => (simp only [List.getElem?_toArray, List.getElem?_cons_succ, List.getElem?_cons_zero]; try rfl)
      case q2x3fd => exact fun _ _ _ h => h
      case y2x3fd => (refine Or.inl ⟨rfl, ?_⟩; intro wq hq; obtain q0 := hq; go_simp; try with_reducible rfl)
      simp only [Act.put, List.setIfInBounds_toArray, List.set_cons_zero, List.set_cons_succ]
      refine wpAnyH_take (i := 4) (oi := ?p4x4fd) (v := ?v4x4fd) ?o4x4fd (by kernel_rfl) (by kernel_rfl) (by kernel_rfl) ?q4x4fd ?y4x4fd hHeld ?r4x4fd
      case o4x4fd => (simp only [List.getElem?_toArray, List.getElem?_cons_succ, List.getElem?_cons_zero]; try rfl)
      case q4x4fd => exact fun _ _ _ h => h
      case y4x4fd => (refine Or.inl ⟨rfl, ?_⟩; intro wq hq; obtain q0 := hq; go_simp; try with_reducible rfl)
      simp only [Act.put, List.setIfInBounds_toArray, List.set_cons_zero, List.set_cons_succ]
      refine wpAnyH_take (i := 5) (oi := ?p5x5fd) (v := ?v5x5fd) ?o5x5fd (by kernel_rfl) (by kernel_rfl) (by kernel_rfl) ?q5x5fd ?y5x5fd hHeld ?r5x5fd
      case o5x5fd => (simp only [List.getElem?_toArray, List.getElem?_cons_succ, List.getElem?_cons_zero]; try rfl)
      case q5x5fd => exact fun _ _ _ h => h
      case y5x5fd => (refine Or.inl ⟨rfl, ?_⟩; intro wq hq; obtain q0 := hq; go_simp; try with_reducible rfl)
      simp only [Act.put, List.setIfInBounds_toArray, List.set_cons_zero, List.set_cons_succ]
      refine wpAnyH_take (i := 8) (oi := ?p8x6fd) (v := ?v8x6fd) ?o8x6fd (by kernel_rfl) (by kernel_rfl) (by kernel_rfl) ?q8x6fd ?y8x6fd hHeld ?r8x6fd
      case o8x6fd => (simp only [List.getElem?_toArray, List.getElem?_cons_succ, List.getElem?_cons_zero]; try rfl)
      case q8x6fd => exact fun _ _ _ h => h
      case y8x6fd => (refine Or.inl ⟨rfl, ?_⟩; intro wq hq; obtain q0 := hq; go_simp; try with_reducible rfl)
      simp only [Act.put, List.setIfInBounds_toArray, List.set_cons_zero, List.set_cons_succ]
      refine wpAnyH_take (i := 9) (oi := ?p9x7fd) (v := ?v9x7fd) ?o9x7fd (by kernel_rfl) (by kernel_rfl) (by kernel_rfl) ?q9x7fd ?y9x7fd hHeld ?r9x7fd
      case o9x7fd => (simp only [List.getElem?_toArray, List.getElem?_cons_succ, List.getElem?_cons_zero]; try rfl)
      case q9x7fd => exact fun _ _ _ h => h
      case y9x7fd => (refine Or.inl ⟨rfl, ?_⟩; intro wq hq; obtain q0 := hq; go_simp; try with_reducible rfl)
      simp only [Act.put, List.setIfInBounds_toArray, List.set_cons_zero, List.set_cons_succ]
      refine wpAnyH_take (i := 10) (oi := ?p10x8fd) (v := ?v10x8fd) ?o10x8fd (by kernel_rfl) (by kernel_rfl) (by kernel_rfl) ?q10x8fd ?y10x8fd hHeld ?r10x8fd
      case o10x8fd => (simp only [List.getElem?_toArray, List.getElem?_cons_succ, List.getElem?_cons_zero]; try rfl)
      case q10x8fd => exact fun _ _ _ h => h
      case y10x8fd => (refine Or.inl ⟨rfl, ?_⟩; intro wq hq; obtain q0 := hq; go_simp; try with_reducible rfl)
      simp only [Act.put, List.setIfInBounds_toArray, List.set_cons_zero, List.set_cons_succ]
      refine wpAnyH_ready (rs := [3, 6]) (by kernel_rfl) (by simp) ?_
      refine (AllReadyH.cons (o := ?p3x9fd) ?o3x9fd ?s3x9fd (AllReadyH.cons (o := ?p6x9fd) ?o6x9fd ?s6x9fd AllReadyH.nil))
      case o3x9fd => (simp only [List.getElem?_toArray, List.getElem?_cons_succ, List.getElem?_cons_zero]; try rfl)
      case o6x9fd => (simp only [List.getElem?_toArray, List.getElem?_cons_succ, List.getElem?_cons_zero]; try rfl)
      case s3x9fd =>
        intro Kk hK
        refine step_append_known rfl (.const (.slice none 0 0)) (.tmp 59) 27 rfl _ _ rfl rfl _ _ (hr4 _) ?_
        refine hK.out _ _ trivial (fun hHeld => ?_)
        clear hK Kk
        simp only [Act.put, List.setIfInBounds_toArray, List.set_cons_zero, List.set_cons_succ]
        refine wpAnyH_ready (rs := [6]) (by kernel_rfl) (by simp) ?_
        refine (AllReadyH.cons (o := ?p6x10fd) ?o6x10fd ?s6x10fd AllReadyH.nil)
        case o6x10fd => (simp only [List.getElem?_toArray, List.getElem?_cons_succ, List.getElem?_cons_zero]; try rfl)
        intro Kk hK
        go_simp
        refine hK.out _ _ trivial (fun hHeld => ?_)
        clear hK Kk
        refine wpAnyH_ready (rs := [7]) (by kernel_rfl) (by simp) ?_
        refine (AllReadyH.cons (o := ?p7x11fd) ?o7x11fd ?s7x11fd AllReadyH.nil)
        case o7x11fd => (simp only [List.getElem?_toArray, List.getElem?_cons_succ, List.getElem?_cons_zero]; try rfl)
        intro Kk hK
        refine step_append_known rfl (.tmp 60) (.tmp 63) 27 rfl _ _ rfl rfl _ _ (hr5 _) ?_
        refine hK.out _ _ trivial (fun hHeld => ?_)
        clear hK Kk
        simp only [Act.put, List.setIfInBounds_toArray, List.set_cons_zero, List.set_cons_succ]
        refine wpAnyH_ready (rs := [11]) (by kernel_rfl) (by simp) ?_
        refine (AllReadyH.cons (o := ?p11x12fd) ?o11x12fd ?s11x12fd AllReadyH.nil)
        case o11x12fd => (simp only [List.getElem?_toArray, List.getElem?_cons_succ, List.getElem?_cons_zero]; try rfl)
        intro Kk hK
        refine step_append_known rfl (.tmp 64) (.tmp 67) 27 rfl _ _ rfl rfl _ _ (hr6 _) ?_
        refine hK.out _ _ trivial (fun hHeld => ?_)
        clear hK Kk
        simp only [Act.put, List.setIfInBounds_toArray, List.set_cons_zero, List.set_cons_succ]
        refine wpAnyH_take (i := 12) (oi := ?p12x13fd) (v := ?v12x13fd) ?o12x13fd (by kernel_rfl) (by kernel_rfl) (by kernel_rfl) ?q12x13fd ?y12x13fd hHeld ?r12x13fd
        case o12x13fd => (simp only [List.getElem?_toArray, List.getElem?_cons_succ, List.getElem?_cons_zero]; try rfl)
        case q12x13fd => exact fun _ _ _ h => h
        case y12x13fd => (refine Or.inl ⟨rfl, ?_⟩; intro wq hq; obtain q0 := hq; go_simp; try with_reducible rfl)
        simp only [Act.put, List.setIfInBounds_toArray, List.set_cons_zero, List.set_cons_succ]
        refine wpAnyH_done (by kernel_rfl) ?_ _
        have hEB : Below w3.heap.size w3 w6 := by
          have h1 := HWD.out
          have h2 := HOA.out.2
          exact bel_up h1 (h2.mono (Nat.le_refl _)) (Nat.le_refl _)
        have hEO : OwnL cl 62 w6 w3.heap.size (.slice (some ⟨g3, 0, none⟩) (L + 1) c3) NL := HOA.out.1.low HWD.out.size
        obtain ⟨k0, k1, k2, k3, k4, hend⟩ := HEND.out w6 g3 c3 hEB hEO
        clear hEB hEO HEND HOA HOB HWD hr4 hr5 hr6 hr4' hr5' hr6'
        by_cases hfl : room ≤ L
        · obtain ⟨W7, hW7, y1, y2, HY⟩ := hend (.slice (some ⟨g3, 3, none⟩) L (c3 - 1)) (by rw [if_pos hfl])
          have HW7 := Hid_of hW7
          have hfa : decide ((room : Int) < ((L + 1 : Nat) : Int)) = true := decide_eq_true (by omega)
          have hfb : decide (room < L + 1) = true := decide_eq_true (by omega)
          have hfc : decide ((room : Int) < (L : Int) + 1) = true := decide_eq_true (by omega)
          have hfd : ¬ c3 = 1 := by omega
          clear hend hW7 hfl
          generalize dvup dv cn (.slice (some ⟨g3, 3, none⟩) L (c3 - 1)) = dv' at *
          go_upto_region 15 with fail
          rw [HW7.out]
          go_wp2
          refine bodyPost_ret (v := .tuple #[.agg (DA room dv'), .int .i64 1, .string ⟨#[]⟩]) ?_ rfl HY.out.2
          exact res30_3 f14_res _ _ (w.heap.size + 1) _ _ rfl HY.out.1
        · obtain ⟨W7, hW7, y1, y2, HY⟩ := hend (.slice (some ⟨g3, 0, none⟩) (L + 1) c3) (by rw [if_neg hfl])
          have HW7 := Hid_of hW7
          have hfa : decide ((room : Int) < ((L + 1 : Nat) : Int)) = false := decide_eq_false (by omega)
          have hfb : decide (room < L + 1) = false := decide_eq_false (by omega)
          have hfc : decide ((room : Int) < (L : Int) + 1) = false := decide_eq_false (by omega)
          clear hend hW7 hfl
          generalize dvup dv cn (.slice (some ⟨g3, 0, none⟩) (L + 1) c3) = dv' at *
          go_upto_region 15 with fail
          rw [HW7.out]
          go_wp2
          refine bodyPost_ret (v := .tuple #[.agg (DA room dv'), .int .i64 1, .string ⟨#[]⟩]) ?_ rfl HY.out.2
          exact res30_3 f14_res _ _ (w.heap.size + 1) _ _ rfl HY.out.1
      case s6x9fd =>
        intro Kk hK
        go_simp
        refine hK.out _ _ trivial (fun hHeld => ?_)
        clear hK Kk
        refine wpAnyH_ready (rs := [3]) (by kernel_rfl) (by simp) ?_
        refine (AllReadyH.cons (o := ?p3x14fd) ?o3x14fd ?s3x14fd AllReadyH.nil)
        case o3x14fd => (simp only [List.getElem?_toArray, List.getElem?_cons_succ, List.getElem?_cons_zero]; try rfl)
        intro Kk hK
        refine step_append_known rfl (.const (.slice none 0 0)) (.tmp 59) 27 rfl _ _ rfl rfl _ _ (hr4' _) ?_
        refine hK.out _ _ trivial (fun hHeld => ?_)
        clear hK Kk
        simp only [Act.put, List.setIfInBounds_toArray, List.set_cons_zero, List.set_cons_succ]
        refine wpAnyH_ready (rs := [7]) (by kernel_rfl) (by simp) ?_
        refine (AllReadyH.cons (o := ?p7x15fd) ?o7x15fd ?s7x15fd AllReadyH.nil)
        case o7x15fd => (simp only [List.getElem?_toArray, List.getElem?_cons_succ, List.getElem?_cons_zero]; try rfl)
        intro Kk hK
        refine step_append_known rfl (.tmp 60) (.tmp 63) 27 rfl _ _ rfl rfl _ _ (hr5' _) ?_
        refine hK.out _ _ trivial (fun hHeld => ?_)
        clear hK Kk
        simp only [Act.put, List.setIfInBounds_toArray, List.set_cons_zero, List.set_cons_succ]
        refine wpAnyH_ready (rs := [11]) (by kernel_rfl) (by simp) ?_
        refine (AllReadyH.cons (o := ?p11x16fd) ?o11x16fd ?s11x16fd AllReadyH.nil)
        case o11x16fd => (simp only [List.getElem?_toArray, List.getElem?_cons_succ, List.getElem?_cons_zero]; try rfl)
        intro Kk hK
        refine step_append_known rfl (.tmp 64) (.tmp 67) 27 rfl _ _ rfl rfl _ _ (hr6' _) ?_
        refine hK.out _ _ trivial (fun hHeld => ?_)
        clear hK Kk
        simp only [Act.put, List.setIfInBounds_toArray, List.set_cons_zero, List.set_cons_succ]
        refine wpAnyH_take (i := 12) (oi := ?p12x17fd) (v := ?v12x17fd) ?o12x17fd (by kernel_rfl) (by kernel_rfl) (by kernel_rfl) ?q12x17fd ?y12x17fd hHeld ?r12x17fd
        case o12x17fd => (simp only [List.getElem?_toArray, List.getElem?_cons_succ, List.getElem?_cons_zero]; try rfl)
        case q12x17fd => exact fun _ _ _ h => h
        case y12x17fd => (refine Or.inl ⟨rfl, ?_⟩; intro wq hq; obtain q0 := hq; go_simp; try with_reducible rfl)
        simp only [Act.put, List.setIfInBounds_toArray, List.set_cons_zero, List.set_cons_succ]
        refine wpAnyH_done (by kernel_rfl) ?_ _
        have hEB : Below w3.heap.size w3 w6' := by
          have h1 := HWD.out
          have h2 := HOB.out.2
          exact bel_up h1 (h2.mono (Nat.le_refl _)) (Nat.le_refl _)
        have hEO : OwnL cl 62 w6' w3.heap.size (.slice (some ⟨g3', 0, none⟩) (L + 1) c3') NL := HOB.out.1.low HWD.out.size
        obtain ⟨k0, k1, k2, k3, k4, hend⟩ := HEND.out w6' g3' c3' hEB hEO
        clear hEB hEO HEND HOA HOB HWD hr4 hr5 hr6 hr4' hr5' hr6'
        by_cases hfl : room ≤ L
        · obtain ⟨W7, hW7, y1, y2, HY⟩ := hend (.slice (some ⟨g3', 3, none⟩) L (c3' - 1)) (by rw [if_pos hfl])
          have HW7 := Hid_of hW7
          have hfa : decide ((room : Int) < ((L + 1 : Nat) : Int)) = true := decide_eq_true (by omega)
          have hfb : decide (room < L + 1) = true := decide_eq_true (by omega)
          have hfc : decide ((room : Int) < (L : Int) + 1) = true := decide_eq_true (by omega)
          have hfd : ¬ c3' = 1 := by omega
          clear hend hW7 hfl
          generalize dvup dv cn (.slice (some ⟨g3', 3, none⟩) L (c3' - 1)) = dv' at *
          go_upto_region 15 with fail
          rw [HW7.out]
          go_wp2
          refine bodyPost_ret (v := .tuple #[.agg (DA room dv'), .int .i64 1, .string ⟨#[]⟩]) ?_ rfl HY.out.2
          exact res30_3 f14_res _ _ (w.heap.size + 1) _ _ rfl HY.out.1
        · obtain ⟨W7, hW7, y1, y2, HY⟩ := hend (.slice (some ⟨g3', 0, none⟩) (L + 1) c3') (by rw [if_neg hfl])
          have HW7 := Hid_of hW7
          have hfa : decide ((room : Int) < ((L + 1 : Nat) : Int)) = false := decide_eq_false (by omega)
          have hfb : decide (room < L + 1) = false := decide_eq_false (by omega)
          have hfc : decide ((room : Int) < (L : Int) + 1) = false := decide_eq_false (by omega)
          clear hend hW7 hfl
          generalize dvup dv cn (.slice (some ⟨g3', 0, none⟩) (L + 1) c3') = dv' at *
          go_upto_region 15 with fail
          rw [HW7.out]
          go_wp2
          refine bodyPost_ret (v := .tuple #[.agg (DA room dv'), .int .i64 1, .string ⟨#[]⟩]) ?_ rfl HY.out.2
          exact res30_3 f14_res _ _ (w.heap.size + 1) _ _ rfl HY.out.1
set_option maxRecDepth 100000 in
set_option maxHeartbeats 2000000 in
theorem dtk_new {w : World} {T : Int → List C} {dv : Nat → Value} (room : Nat) (h : DR w T dv) (ok : Rp.Ok room T) (cn : Nat) (k : Int) (hm : Rp.may cn k = true) (hP : Rp.fnd (T cn) k = none) (hno : ¬ (room ≤ (T cn).length ∧ Rp.plc (T cn) k = 0)) (he : T cn = []) : Calls Try.prog 14 #[.agg (DA room dv), .int .i64 cn, .int .i64 k] w (DTk w room T dv cn k) := by
  have hcn : cn ≤ 63 := by
    have : Rp.mayC cn = true := by unfold Rp.may at hm; simp only [Bool.and_eq_true] at hm; exact hm.1
    have := Rp.mayC_yes this
    omega
  obtain ⟨W1, HW1⟩ : ∃ W1, Hid ((w.alloc (.cells (DA room dv) 30)).alloc (.cells (DA 0 nodv) 30) = W1) := ⟨_, Hid_of rfl⟩
  have HB1 : Hid (Below w.heap.size w W1) := by rw [← HW1.out]; exact bel_up (bel1 w _) (bel1 _ _) (Nat.le_refl _)
  have hr1 := heap_alloc2_old w (.cells (DA room dv) 30) (.cells (DA 0 nodv) 30)
  have hr2 := heap_alloc2_new w (.cells (DA room dv) 30) (.cells (DA 0 nodv) 30)
  rw [HW1.out] at hr1 hr2
  have HROW : Hid (∀ W, Below W1.heap.size W1 W → W.heap[w.heap.size]? = some (.cells (DA room dv) 30 (0, 0)) ∧ W.heap[w.heap.size + 1]? = some (.cells (DA 0 nodv) 30 (0, 0)) ∧ Below w.heap.size w W) := fun W hW => ⟨(hW.block _ (Array.getElem?_eq_some_iff.1 hr1).1).trans hr1, (hW.block _ (Array.getElem?_eq_some_iff.1 hr2).1).trans hr2, bel_up HB1.out hW (Nat.le_refl _)⟩
  have HFIN : Hid (∀ W dv', W.heap[w.heap.size + 1]? = some (.cells (DA 0 nodv) 30 (0, 0)) → Sl dv' → Below w.heap.size w W → (st30 ⟨w.heap.size + 1, 0, none⟩ (DA room dv')).run Try.prog W = .ok () (W.setRow (w.heap.size + 1) (DA room dv')) ∧ (W.setRow (w.heap.size + 1) (DA room dv')).heap[w.heap.size + 1]? = some (.cells (DA room dv') 30 (0, 0)) ∧ Below w.heap.size w (W.setRow (w.heap.size + 1) (DA room dv')) ∧ ∀ q, q ≠ w.heap.size + 1 → (W.setRow (w.heap.size + 1) (DA room dv')).heap[q]? = W.heap[q]?) := fun W dv' h1 h2 h3 => ⟨store30_row W _ _ _ _ _ h2 h1, setRow_heap W _ _ _ _ _ h1, below_setRow h3 (by omega) _, fun q hq => setRow_other W _ q _ hq⟩
  have hmy := may_any cn k
  rw [hm] at hmy
  have HE : Hid (Rp.code room T cn k = Rp.tkc room (T cn) k ∧ Rp.told T cn k = Rp.tkr (T cn) k ∧ Rp.take room T cn k = fup T cn (Rp.tkl room (T cn) k)) := by
    unfold Rp.code Rp.told Rp.take; rw [hm]; exact ⟨rfl, rfl, rfl⟩
  obtain ⟨a, cap, hdv, hx⟩ := h.row cn
  obtain ⟨r1, r2, rB⟩ := HROW.out W1 (Below.refl _ _)
  have hcc : W1.cell? ⟨w.heap.size, 1 + cn, none⟩ = some (.slice a (T cn).length cap) := by rw [cell_of_row W1 _ _ _ _ _ r1, DA_get _ _ _ (by omega), hdv]
  have hl16 := (ok.l cn).le
  have h16 := ok.r16
  have h01 := ok.r1
  have hu := (ok.l cn).up
  have hfd := find_any a cap (T cn) k W1 (by omega) (hx.keep HB1.out).at' hu
  have HDR := Hid_of h
  have HX := Hid_of hx
  have HDV := Hid_of hdv
  have HU := Hid_of hu
  have HM := Hid_of hm
  have hple := Rp.plc_le (T cn) k
  have HSR := Hid_of (Rp.plc_sr k hu)
  clear h ok hr1 hr2 HB1 r1 r2 rB hx hdv hu hm
  have HFU := Hid_of (And.intro hP hno)
  rw [hP] at hfd
  clear hP hno
  have hL0 : (T cn).length = 0 := by rw [he]; rfl
  obtain ⟨rfl, rfl⟩ : a = none ∧ cap = 0 := by
    have h1 := HDR.out.non cn he
    rw [HDV.out] at h1
    simp only [Value.slice.injEq] at h1
    exact ⟨h1.1, h1.2.2⟩
  rw [hL0] at hfd hcc
  have HL0 := Hid_of hL0
  have HEE := Hid_of he
  clear he hL0
  go_enter Try.func14, Try.ntmps14
  go_upto_region 1 with fail
  rw [HW1.out]
  go_wp2_with fail
  refine (hmy _).mono ?_
  rintro e w2 ⟨rfl, rfl⟩
  go_wp2_with fail
  refine hfd.mono ?_
  rintro e w3 ⟨rfl, hb3⟩
  obtain ⟨r1, r2, rB⟩ := HROW.out w3 hb3
  have HX3 := Hid_of (HX.out.keep rB)
  have HDR3 := Hid_of (HDR.out.keep rB)
  clear hfd hcc hmy HROW hb3
  have hc0 : w3.cell? ⟨w.heap.size, 0, none⟩ = some (.int .i64 room) := by rw [cell_of_row w3 _ _ _ _ _ r1, DA_zero]
  have hTC : Rp.tkc room (T cn) k = 1 ∧ Rp.tkr (T cn) k = [] := by
    refine ⟨?_, by unfold Rp.tkr; rw [HFU.out.1]⟩
    unfold Rp.tkc; rw [HFU.out.1]; simp only; rw [if_neg HFU.out.2]
  have hTL : Rp.tkl room (T cn) k = if room ≤ (T cn).length then (Rp.ins (T cn) (Rp.plc (T cn) k) k).drop 1 else Rp.ins (T cn) (Rp.plc (T cn) k) k := by
    unfold Rp.tkl; rw [HFU.out.1]; simp only; rw [if_neg HFU.out.2]
  have hg1 : ¬ room ≤ (T cn).length ∨ (room ≤ (T cn).length ∧ ¬ Rp.plc (T cn) k = 0) := by
    by_cases h' : room ≤ (T cn).length
    · exact .inr ⟨h', fun e => HFU.out.2 ⟨h', e⟩⟩
    · exact .inl h'
  obtain ⟨p, hp⟩ : ∃ p, Rp.plc (T cn) k = p := ⟨_, rfl⟩
  rw [hp] at hTL hg1 hple ⊢
  have hNL : (Rp.ins (T cn) p k).length = (T cn).length + 1 := Rp.ins_len hple k
  -- what becomes of the rows
  have HEND : Hid (∀ W g3 c3, Below w3.heap.size w3 W → OwnL cl 62 W w3.heap.size (.slice (some ⟨g3, 0, none⟩) ((T cn).length + 1) c3) (Rp.ins (T cn) p k) →
      W.cell? ⟨w.heap.size, 0, none⟩ = some (.int .i64 room) ∧ W.cell? ⟨w.heap.size, 1 + cn, none⟩ = some (.slice none (T cn).length 0) ∧ W.frozen? ⟨w.heap.size, 1 + cn, none⟩ = false ∧ (T cn).length + 1 ≤ c3 ∧ c3 ≤ 9223372036854775807 ∧
      ∀ v, v = (if room ≤ (T cn).length then .slice (some ⟨g3, 3, none⟩) (T cn).length (c3 - 1) else .slice (some ⟨g3, 0, none⟩) ((T cn).length + 1) c3) → ∃ W4, W.setCell ⟨w.heap.size, 1 + cn, none⟩ v = W4 ∧ (ld30 ⟨w.heap.size, 0, none⟩).run Try.prog W4 = .ok (DA room (dvup dv cn v)) W4 ∧ (st30 ⟨w.heap.size + 1, 0, none⟩ (DA room (dvup dv cn v))).run Try.prog W4 = .ok () (W4.setRow (w.heap.size + 1) (DA room (dvup dv cn v))) ∧ Hid ((W4.setRow (w.heap.size + 1) (DA room (dvup dv cn v))).heap[w.heap.size + 1]? = some (.cells (DA room (dvup dv cn v)) 30 (0, 0)) ∧ DTk w room T dv cn k (.returned (.tuple #[.agg (DA room (dvup dv cn v)), .int .i64 1, .string ⟨#[]⟩])) (W4.setRow (w.heap.size + 1) (DA room (dvup dv cn v))))) := by
    intro W g3 c3 hbW hoW
    have s1 := (hbW.block _ (Array.getElem?_eq_some_iff.1 r1).1).trans r1
    have s2 := (hbW.block _ (Array.getElem?_eq_some_iff.1 r2).1).trans r2
    have sB : Below w.heap.size w W := bel_up rB hbW (Nat.le_refl _)
    have s3 : W.cell? ⟨w.heap.size, 1 + cn, none⟩ = some (.slice none (T cn).length 0) := by rw [cell_of_row W _ _ _ _ _ s1, DA_get _ _ _ (by omega), HDV.out]
    obtain ⟨aa, cc, hvv, hxx, _⟩ := hoW.at
    rw [hNL] at hvv
    simp only [Value.slice.injEq, true_and] at hvv
    obtain ⟨rfl, rfl⟩ := hvv
    have hle := hxx.le
    have hmx := hxx.mx
    rw [hNL] at hle
    unfold maxLen at hmx
    refine ⟨by rw [cell_of_row W _ _ _ _ _ s1, DA_zero], s3, frozen_of_row W _ _ _ _ s1, hle, by omega, fun v hv => ⟨_, rfl, ?_⟩⟩
    have hslv : ∃ av nv cv, v = .slice av nv cv ∧ nv = (Rp.tkl room (T cn) k).length ∧ XL cl W av cv (Rp.tkl room (T cn) k) ∧ ∀ q, blk av q → q = g3 := by
      rw [hTL]
      by_cases h' : room ≤ (T cn).length
      · rw [if_pos h'] at hv ⊢
        refine ⟨_, _, _, hv, by rw [List.length_drop, hNL]; omega, ⟨?_, by rw [List.length_drop, hNL]; omega, by unfold maxLen; omega, fun e => by cases e⟩, fun q hq => by obtain ⟨_, _, e⟩ := hq; cases e; rfl⟩
        have := hxx.at'.drop 1
        simpa [cl] using this
      · rw [if_neg h'] at hv ⊢
        exact ⟨_, _, _, hv, hNL.symm, hxx, fun q hq => by obtain ⟨_, _, e⟩ := hq; cases e; rfl⟩
    obtain ⟨av, nv, cv, rfl, hnv, hxv, hqv⟩ := hslv
    subst hnv
    have s1' : (W.setCell ⟨w.heap.size, 1 + cn, none⟩ (.slice av (Rp.tkl room (T cn) k).length cv)).heap[w.heap.size]? = some (.cells (DA room (dvup dv cn (.slice av (Rp.tkl room (T cn) k).length cv))) 30 (0, 0)) := by
      rw [heap_setCell_same W _ _ _ _ _ s1, DA_set _ _ _ _ (by omega)]
    have s2' : (W.setCell ⟨w.heap.size, 1 + cn, none⟩ (.slice av (Rp.tkl room (T cn) k).length cv)).heap[w.heap.size + 1]? = some (.cells (DA 0 nodv) 30 (0, 0)) := by
      rw [heap_setCell_other W ⟨w.heap.size, 1 + cn, none⟩ _ _ (by simp)]; exact s2
    have sB' : Below w.heap.size w (W.setCell ⟨w.heap.size, 1 + cn, none⟩ (.slice av (Rp.tkl room (T cn) k).length cv)) := sB.setCell (p := ⟨w.heap.size, 1 + cn, none⟩) (Nat.le_refl _) _
    have hdr : DR W T dv := HDR3.out.keep hbW
    have hne : Rp.tkl room (T cn) k ≠ [] := fun e => by
      have := congrArg List.length e
      rw [hTL] at this
      split at this
      · rename_i h'; rw [List.length_drop, hNL, List.length_nil] at this; omega
      · rw [hNL, List.length_nil] at this; omega
    obtain ⟨f1, f2, f3, f4⟩ := HFIN.out _ (dvup dv cn (.slice av (Rp.tkl room (T cn) k).length cv)) s2' (HDR.out.sl.up _ _ _ _) sB'
    have hbl : ∀ q, blk av q → q ≠ w.heap.size ∧ q ≠ w.heap.size + 1 ∧ w.heap.size ≤ q := fun q hq => by
      have h1 := (hoW.lt (b := g3) rfl).1
      have h2 : w.heap.size + 1 < w3.heap.size := (Array.getElem?_eq_some_iff.1 r2).1
      have := hqv q hq
      omega
    refine ⟨load30_row _ _ _ _ s1', f1, ?_⟩
    refine Hid_of (And.intro f2 (?_ : DTk w room T dv cn k _ _))
    refine ⟨dvup dv cn (.slice av (Rp.tkl room (T cn) k).length cv), ?_, ?_, f3, New.up _ (fun q hq => (hbl q hq).2.2)⟩
    · rw [HE.out.1, HE.out.2.1, hTC.1, hTC.2]; rfl
    · rw [HE.out.2.2]
      refine (HDR.out.keep f3).up cn _ av cv (hxv.keepBut (fun q _ hq => ?_)) hne
      rw [f4 q (hbl q hq).2.1, heap_setCell_other W ⟨w.heap.size, 1 + cn, none⟩ q _ (hbl q hq).1]
  have hp0 : p = 0 := by have := HL0.out; omega
  have HINS : Hid (∀ wd, w3.drew = wd → InsRun wd (T cn) p k (.slice none p 0) (.slice none 0 0)) := by
    intro wd hwd
    refine ins_run wd (T cn) p hple k none 0 (by rw [HEE.out]; simpa using XL.emp wd) _ (.inl ⟨by rw [HEE.out]; simp, _, _, rfl⟩) ?_ (by omega)
    rintro q ⟨a, n, c, e, hq⟩
    cases e
    obtain ⟨_, _, e⟩ := hq
    cases e
  unfold InsRun at HINS
  have hL0 := HL0.out
  clear r1 r2 rB HFIN HDR HX3 HX HDR3 HSR HFU HU HM HE HDV hTC hTL hp HEE HL0 hg1
  generalize Rp.ins (T cn) p k = NL at *
  clear hNL
  generalize hL : (T cn).length = L at *
  clear hL
  subst hL0
  subst hp0
  have d1 : decide ((room : Int) ≤ 0) = false := decide_eq_false (by omega)
  have d2 : decide (room ≤ 0) = false := decide_eq_false (by omega)
  have d3 : ¬ room = 0 := by omega
  have HIN2 := HINS
  clear HINS
  simp only [Nat.zero_add] at HIN2 HEND
  go_upto_region 11 with fail
  obtain ⟨wd, hwd⟩ : ∃ wd, w3.drew = wd := ⟨_, rfl⟩
  have HWD : Hid (Below w3.heap.size w3 wd) := by rw [← hwd]; exact (Below.refl _ _).drew
  obtain ⟨⟨a1, c1, w4, hr4, a2, c2, w5, hr5, g3, c3, w6, hr6, ho6, hb6⟩, ⟨a1', c1', w4', hr4', a2', c2', w5', hr5', g3', c3', w6', hr6', ho6', hb6'⟩⟩ := HIN2.out wd hwd
  have HOA := Hid_of (And.intro ho6 hb6)
  have HOB := Hid_of (And.intro ho6' hb6')
  clear ho6 hb6 ho6' hb6' HIN2
  refine wp_region_held_drew (S := fun _ => True) (by kernel_rfl) trivial (fun hHeld => ?_)
  rw [hwd]
  clear hwd
  refine wpAnyH_take (i := 0) (oi := ?p0x1fn) (v := ?v0x1fn) ?o0x1fn (by kernel_rfl) (by kernel_rfl) (by kernel_rfl) ?q0x1fn ?y0x1fn hHeld ?r0x1fn
  case o0x1fn => (simp only [List.getElem?_toArray, List.getElem?_cons_zero]; try rfl)
  case q0x1fn => exact fun _ _ _ h => h
  case y0x1fn => (refine Or.inl ⟨rfl, ?_⟩; intro wq hq; obtain q0 := hq; go_simp; try with_reducible rfl)
  simp only [Act.put, List.setIfInBounds_toArray, List.set_cons_zero, List.set_cons_succ]
  refine wpAnyH_take (i := 1) (oi := ?p1x2fn) (v := ?v1x2fn) ?o1x2fn (by kernel_rfl) (by kernel_rfl) (by kernel_rfl) ?q1x2fn ?y1x2fn hHeld ?r1x2fn
  case o1x2fn => (simp only [List.getElem?_toArray, List.getElem?_cons_succ, List.getElem?_cons_zero]; try rfl)
  case q1x2fn => exact fun _ _ _ h => h
  case y1x2fn => (refine Or.inl ⟨rfl, ?_⟩; intro wq hq; obtain q0 := hq; go_simp; try with_reducible rfl)
  simp only [Act.put, List.setIfInBounds_toArray, List.set_cons_zero, List.set_cons_succ]
  refine wpAnyH_take (i := 2) (oi := ?p2x3fn) (v := ?v2x3fn) ?o2x3fn (by kernel_rfl) (by kernel_rfl) (by kernel_rfl) ?q2x3fn ?y2x3fn hHeld ?r2x3fn
  case o2x3fn => (simp only [List.getElem?_toArray, List.getElem?_cons_succ, List.getElem?_cons_zero]; try rfl)
  case q2x3fn => exact fun _ _ _ h => h
  case y2x3fn => (refine Or.inl ⟨rfl, ?_⟩; intro wq hq; obtain q0 := hq; go_simp; try with_reducible rfl)
  simp only [Act.put, List.setIfInBounds_toArray, List.set_cons_zero, List.set_cons_succ]
  refine wpAnyH_take (i := 4) (oi := ?p4x4fn) (v := ?v4x4fn) ?o4x4fn (by kernel_rfl) (by kernel_rfl) (by kernel_rfl) ?q4x4fn ?y4x4fn hHeld ?r4x4fn
  case o4x4fn => (simp only [List.getElem?_toArray, List.getElem?_cons_succ, List.getElem?_cons_zero]; try rfl)
  case q4x4fn => exact fun _ _ _ h => h
  case y4x4fn => (refine Or.inl ⟨rfl, ?_⟩; intro wq hq; obtain q0 := hq; go_simp; try with_reducible rfl)
  simp only [Act.put, List.setIfInBounds_toArray, List.set_cons_zero, List.set_cons_succ]
  refine wpAnyH_take (i := 5) (oi := ?p5x5fn) (v := ?v5x5fn) ?o5x5fn (by kernel_rfl) (by kernel_rfl) (by kernel_rfl) ?q5x5fn ?y5x5fn hHeld ?r5x5fn
  case o5x5fn => (simp only [List.getElem?_toArray, List.getElem?_cons_succ, List.getElem?_cons_zero]; try rfl)
  case q5x5fn => exact fun _ _ _ h => h
  case y5x5fn => (refine Or.inl ⟨rfl, ?_⟩; intro wq hq; obtain q0 := hq; go_simp; try with_reducible rfl)
  simp only [Act.put, List.setIfInBounds_toArray, List.set_cons_zero, List.set_cons_succ]
  refine wpAnyH_take (i := 8) (oi := ?p8x6fn) (v := ?v8x6fn) ?o8x6fn (by kernel_rfl) (by kernel_rfl) (by kernel_rfl) ?q8x6fn ?y8x6fn hHeld ?r8x6fn
  case o8x6fn => (simp only [List.getElem?_toArray, List.getElem?_cons_succ, List.getElem?_cons_zero]; try rfl)
  case q8x6fn => exact fun _ _ _ h => h
  case y8x6fn => (refine Or.inl ⟨rfl, ?_⟩; intro wq hq; obtain q0 := hq; go_simp; try with_reducible rfl)
  simp only [Act.put, List.setIfInBounds_toArray, List.set_cons_zero, List.set_cons_succ]
  refine wpAnyH_take (i := 9) (oi := ?p9x7fn) (v := ?v9x7fn) ?o9x7fn (by kernel_rfl) (by kernel_rfl) (by kernel_rfl) ?q9x7fn ?y9x7fn hHeld ?r9x7fn
  case o9x7fn => (simp only [List.getElem?_toArray, List.getElem?_cons_succ, List.getElem?_cons_zero]; try rfl)
  case q9x7fn => exact fun _ _ _ h => h
  case y9x7fn => (refine Or.inl ⟨rfl, ?_⟩; intro wq hq; obtain q0 := hq; go_simp; try with_reducible rfl)
  simp only [Act.put, List.setIfInBounds_toArray, List.set_cons_zero, List.set_cons_succ]
  refine wpAnyH_take (i := 10) (oi := ?p10x8fn) (v := ?v10x8fn) ?o10x8fn (by kernel_rfl) (by kernel_rfl) (by kernel_rfl) ?q10x8fn ?y10x8fn hHeld ?r10x8fn
  case o10x8fn => (simp only [List.getElem?_toArray, List.getElem?_cons_succ, List.getElem?_cons_zero]; try rfl)
  case q10x8fn => exact fun _ _ _ h => h
  case y10x8fn => (refine Or.inl ⟨rfl, ?_⟩; intro wq hq; obtain q0 := hq; go_simp; try with_reducible rfl)
  simp only [Act.put, List.setIfInBounds_toArray, List.set_cons_zero, List.set_cons_succ]
  refine wpAnyH_ready (rs := [3, 6]) (by kernel_rfl) (by simp) ?_
  refine (AllReadyH.cons (o := ?p3x9fn) ?o3x9fn ?s3x9fn (AllReadyH.cons (o := ?p6x9fn) ?o6x9fn ?s6x9fn AllReadyH.nil))
  case o3x9fn => (simp only [List.getElem?_toArray, List.getElem?_cons_succ, List.getElem?_cons_zero]; try rfl)
  case o6x9fn => (simp only [List.getElem?_toArray, List.getElem?_cons_succ, List.getElem?_cons_zero]; try rfl)
  case s3x9fn =>
    intro Kk hK
    refine step_append_known rfl (.const (.slice none 0 0)) (.tmp 59) 27 rfl _ _ rfl rfl _ _ (hr4 _) ?_
    refine hK.out _ _ trivial (fun hHeld => ?_)
    clear hK Kk
    simp only [Act.put, List.setIfInBounds_toArray, List.set_cons_zero, List.set_cons_succ]
    refine wpAnyH_ready (rs := [6]) (by kernel_rfl) (by simp) ?_
    refine (AllReadyH.cons (o := ?p6x10fn) ?o6x10fn ?s6x10fn AllReadyH.nil)
    case o6x10fn => (simp only [List.getElem?_toArray, List.getElem?_cons_succ, List.getElem?_cons_zero]; try rfl)
    intro Kk hK
    go_simp
    refine hK.out _ _ trivial (fun hHeld => ?_)
    clear hK Kk
    refine wpAnyH_ready (rs := [7]) (by kernel_rfl) (by simp) ?_
    refine (AllReadyH.cons (o := ?p7x11fn) ?o7x11fn ?s7x11fn AllReadyH.nil)
    case o7x11fn => (simp only [List.getElem?_toArray, List.getElem?_cons_succ, List.getElem?_cons_zero]; try rfl)
    intro Kk hK
    refine step_append_known rfl (.tmp 60) (.tmp 63) 27 rfl _ _ rfl rfl _ _ (hr5 _) ?_
    refine hK.out _ _ trivial (fun hHeld => ?_)
    clear hK Kk
    simp only [Act.put, List.setIfInBounds_toArray, List.set_cons_zero, List.set_cons_succ]
    refine wpAnyH_ready (rs := [11]) (by kernel_rfl) (by simp) ?_
    refine (AllReadyH.cons (o := ?p11x12fn) ?o11x12fn ?s11x12fn AllReadyH.nil)
    case o11x12fn => (simp only [List.getElem?_toArray, List.getElem?_cons_succ, List.getElem?_cons_zero]; try rfl)
    intro Kk hK
    refine step_append_known rfl (.tmp 64) (.tmp 67) 27 rfl _ _ rfl rfl _ _ (hr6 _) ?_
    refine hK.out _ _ trivial (fun hHeld => ?_)
    clear hK Kk
    simp only [Act.put, List.setIfInBounds_toArray, List.set_cons_zero, List.set_cons_succ]
    refine wpAnyH_take (i := 12) (oi := ?p12x13fn) (v := ?v12x13fn) ?o12x13fn (by kernel_rfl) (by kernel_rfl) (by kernel_rfl) ?q12x13fn ?y12x13fn hHeld ?r12x13fn
    case o12x13fn => (simp only [List.getElem?_toArray, List.getElem?_cons_succ, List.getElem?_cons_zero]; try rfl)
    case q12x13fn => exact fun _ _ _ h => h
    case y12x13fn => (refine Or.inl ⟨rfl, ?_⟩; intro wq hq; obtain q0 := hq; go_simp; try with_reducible rfl)
    simp only [Act.put, List.setIfInBounds_toArray, List.set_cons_zero, List.set_cons_succ]
    refine wpAnyH_done (by kernel_rfl) ?_ _
    have hEB : Below w3.heap.size w3 w6 := by
      have h1 := HWD.out
      have h2 := HOA.out.2
      exact bel_up h1 (h2.mono (Nat.le_refl _)) (Nat.le_refl _)
    have hEO : OwnL cl 62 w6 w3.heap.size (.slice (some ⟨g3, 0, none⟩) (1) c3) NL := HOA.out.1.low HWD.out.size
    obtain ⟨k0, k1, k2, k3, k4, hend⟩ := HEND.out w6 g3 c3 hEB hEO
    clear hEB hEO HEND HOA HOB HWD hr4 hr5 hr6 hr4' hr5' hr6'
    by_cases hfl : room ≤ 0
    · obtain ⟨W7, hW7, y1, y2, HY⟩ := hend (.slice (some ⟨g3, 3, none⟩) 0 (c3 - 1)) (by rw [if_pos hfl])
      have HW7 := Hid_of hW7
      have hfa : decide ((room : Int) < (1 : Int)) = true := decide_eq_true (by omega)
      have hfb : decide (room < 1) = true := decide_eq_true (by omega)
      have hfc : decide ((room : Int) < (0 : Int) + 1) = true := decide_eq_true (by omega)
      have hfd : ¬ c3 = 1 := by omega
      clear hend hW7 hfl
      generalize dvup dv cn (.slice (some ⟨g3, 3, none⟩) 0 (c3 - 1)) = dv' at *
      go_upto_region 15 with fail
      rw [HW7.out]
      go_wp2
      refine bodyPost_ret (v := .tuple #[.agg (DA room dv'), .int .i64 1, .string ⟨#[]⟩]) ?_ rfl HY.out.2
      exact res30_3 f14_res _ _ (w.heap.size + 1) _ _ rfl HY.out.1
    · obtain ⟨W7, hW7, y1, y2, HY⟩ := hend (.slice (some ⟨g3, 0, none⟩) (1) c3) (by rw [if_neg hfl])
      have HW7 := Hid_of hW7
      have hfa : decide ((room : Int) < (1 : Int)) = false := decide_eq_false (by omega)
      have hfb : decide (room < 1) = false := decide_eq_false (by omega)
      have hfc : decide ((room : Int) < (0 : Int) + 1) = false := decide_eq_false (by omega)
      clear hend hW7 hfl
      generalize dvup dv cn (.slice (some ⟨g3, 0, none⟩) (1) c3) = dv' at *
      go_upto_region 15 with fail
      rw [HW7.out]
      go_wp2
      refine bodyPost_ret (v := .tuple #[.agg (DA room dv'), .int .i64 1, .string ⟨#[]⟩]) ?_ rfl HY.out.2
      exact res30_3 f14_res _ _ (w.heap.size + 1) _ _ rfl HY.out.1
  case s6x9fn =>
    intro Kk hK
    go_simp
    refine hK.out _ _ trivial (fun hHeld => ?_)
    clear hK Kk
    refine wpAnyH_ready (rs := [3]) (by kernel_rfl) (by simp) ?_
    refine (AllReadyH.cons (o := ?p3x14fn) ?o3x14fn ?s3x14fn AllReadyH.nil)
    case o3x14fn => (simp only [List.getElem?_toArray, List.getElem?_cons_succ, List.getElem?_cons_zero]; try rfl)
    intro Kk hK
    refine step_append_known rfl (.const (.slice none 0 0)) (.tmp 59) 27 rfl _ _ rfl rfl _ _ (hr4' _) ?_
    refine hK.out _ _ trivial (fun hHeld => ?_)
    clear hK Kk
    simp only [Act.put, List.setIfInBounds_toArray, List.set_cons_zero, List.set_cons_succ]
    refine wpAnyH_ready (rs := [7]) (by kernel_rfl) (by simp) ?_
    refine (AllReadyH.cons (o := ?p7x15fn) ?o7x15fn ?s7x15fn AllReadyH.nil)
    case o7x15fn => (simp only [List.getElem?_toArray, List.getElem?_cons_succ, List.getElem?_cons_zero]; try rfl)
    intro Kk hK
    refine step_append_known rfl (.tmp 60) (.tmp 63) 27 rfl _ _ rfl rfl _ _ (hr5' _) ?_
    refine hK.out _ _ trivial (fun hHeld => ?_)
    clear hK Kk
    simp only [Act.put, List.setIfInBounds_toArray, List.set_cons_zero, List.set_cons_succ]
    refine wpAnyH_ready (rs := [11]) (by kernel_rfl) (by simp) ?_
    refine (AllReadyH.cons (o := ?p11x16fn) ?o11x16fn ?s11x16fn AllReadyH.nil)
    case o11x16fn => (simp only [List.getElem?_toArray, List.getElem?_cons_succ, List.getElem?_cons_zero]; try rfl)
    intro Kk hK
    refine step_append_known rfl (.tmp 64) (.tmp 67) 27 rfl _ _ rfl rfl _ _ (hr6' _) ?_
    refine hK.out _ _ trivial (fun hHeld => ?_)
    clear hK Kk
    simp only [Act.put, List.setIfInBounds_toArray, List.set_cons_zero, List.set_cons_succ]
    refine wpAnyH_take (i := 12) (oi := ?p12x17fn) (v := ?v12x17fn) ?o12x17fn (by kernel_rfl) (by kernel_rfl) (by kernel_rfl) ?q12x17fn ?y12x17fn hHeld ?r12x17fn
    case o12x17fn => (simp only [List.getElem?_toArray, List.getElem?_cons_succ, List.getElem?_cons_zero]; try rfl)
    case q12x17fn => exact fun _ _ _ h => h
    case y12x17fn => (refine Or.inl ⟨rfl, ?_⟩; intro wq hq; obtain q0 := hq; go_simp; try with_reducible rfl)
    simp only [Act.put, List.setIfInBounds_toArray, List.set_cons_zero, List.set_cons_succ]
    refine wpAnyH_done (by kernel_rfl) ?_ _
    have hEB : Below w3.heap.size w3 w6' := by
      have h1 := HWD.out
      have h2 := HOB.out.2
      exact bel_up h1 (h2.mono (Nat.le_refl _)) (Nat.le_refl _)
    have hEO : OwnL cl 62 w6' w3.heap.size (.slice (some ⟨g3', 0, none⟩) (1) c3') NL := HOB.out.1.low HWD.out.size
    obtain ⟨k0, k1, k2, k3, k4, hend⟩ := HEND.out w6' g3' c3' hEB hEO
    clear hEB hEO HEND HOA HOB HWD hr4 hr5 hr6 hr4' hr5' hr6'
    by_cases hfl : room ≤ 0
    · obtain ⟨W7, hW7, y1, y2, HY⟩ := hend (.slice (some ⟨g3', 3, none⟩) 0 (c3' - 1)) (by rw [if_pos hfl])
      have HW7 := Hid_of hW7
      have hfa : decide ((room : Int) < (1 : Int)) = true := decide_eq_true (by omega)
      have hfb : decide (room < 1) = true := decide_eq_true (by omega)
      have hfc : decide ((room : Int) < (0 : Int) + 1) = true := decide_eq_true (by omega)
      have hfd : ¬ c3' = 1 := by omega
      clear hend hW7 hfl
      generalize dvup dv cn (.slice (some ⟨g3', 3, none⟩) 0 (c3' - 1)) = dv' at *
      go_upto_region 15 with fail
      rw [HW7.out]
      go_wp2
      refine bodyPost_ret (v := .tuple #[.agg (DA room dv'), .int .i64 1, .string ⟨#[]⟩]) ?_ rfl HY.out.2
      exact res30_3 f14_res _ _ (w.heap.size + 1) _ _ rfl HY.out.1
    · obtain ⟨W7, hW7, y1, y2, HY⟩ := hend (.slice (some ⟨g3', 0, none⟩) (1) c3') (by rw [if_neg hfl])
      have HW7 := Hid_of hW7
      have hfa : decide ((room : Int) < (1 : Int)) = false := decide_eq_false (by omega)
      have hfb : decide (room < 1) = false := decide_eq_false (by omega)
      have hfc : decide ((room : Int) < (0 : Int) + 1) = false := decide_eq_false (by omega)
      clear hend hW7 hfl
      generalize dvup dv cn (.slice (some ⟨g3', 0, none⟩) (1) c3') = dv' at *
      go_upto_region 15 with fail
      rw [HW7.out]
      go_wp2
      refine bodyPost_ret (v := .tuple #[.agg (DA room dv'), .int .i64 1, .string ⟨#[]⟩]) ?_ rfl HY.out.2
      exact res30_3 f14_res _ _ (w.heap.size + 1) _ _ rfl HY.out.1
theorem dtk_any {w : World} {T : Int → List C} {dv : Nat → Value} (room : Nat) (h : DR w T dv) (ok : Rp.Ok room T) (c k : Int) : Calls Try.prog 14 #[.agg (DA room dv), .int .i64 c, .int .i64 k] w (DTk w room T dv c k) := by
  cases hm : Rp.may c k with
  | false => exact dtk_no room h ok c k hm
  | true =>
    have hc : 0 ≤ c := by
      have : Rp.mayC c = true := by unfold Rp.may at hm; simp only [Bool.and_eq_true] at hm; exact hm.1
      exact (Rp.mayC_yes this).1
    obtain ⟨cn, rfl⟩ := Int.eq_ofNat_of_zero_le hc
    cases hP : Rp.fnd (T cn) k with
    | some x =>
      cases hb : x.busy with
      | true => exact dtk_busy room h ok cn k hm x hP hb
      | false => exact dtk_reply room h ok cn k hm x hP hb
    | none =>
      by_cases hold : room ≤ (T cn).length ∧ Rp.plc (T cn) k = 0
      · exact dtk_old room h ok cn k hm hP hold.1 hold.2
      · by_cases he : T cn = []
        · exact dtk_new room h ok cn k hm hP hold he
        · exact dtk_more room h ok cn k hm hP hold he
end Go.Proofs.Ytjbcchipbdkplaa
