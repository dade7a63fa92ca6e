/-
  The document's Put.
-/
import Derived.Test.YtjbcchipbdkplaaQB
import Derived.Deep.CutRange
namespace Go.Proofs.Ytjbcchipbdkplaa
open Go.RowKit Go.Maps
set_option linter.unusedVariables false
open Rp (C fup)

/-- A call of a row of one's own, set. -/
theorem OwnL.set3 {t : TypeId} {w : World} {base : Nat} {v : Value} {l : List C} (h : OwnL cl t w base v l) (i : Nat) (hi : i < l.length) : ∃ g cap, v = .slice (some ⟨g, 0, none⟩) l.length cap ∧ base ≤ g ∧ g < w.heap.size ∧ (∀ j, w.frozen? ⟨g, j, none⟩ = false) ∧ (∃ v, w.cell? ⟨g, i * 3, none⟩ = some v) ∧ (∃ v, w.cell? ⟨g, i * 3 + 1, none⟩ = some v) ∧ (∃ v, w.cell? ⟨g, i * 3 + 2, none⟩ = some v) ∧
    ∀ x : C, OwnL cl t (((w.setCell ⟨g, i * 3, none⟩ (.int .i64 x.id)).setCell ⟨g, i * 3 + 1, none⟩ (.bool x.busy)).setCell ⟨g, i * 3 + 2, none⟩ (.string (ofL x.reply))) base v (l.set i x) := by
  obtain ⟨g, cap, e0, hbg, hgl, hc0, hfr, hs0⟩ := h.set1 i hi 0 (by decide)
  obtain ⟨g1, cap1, e1, _, _, hc1, _, _⟩ := h.set1 i hi 1 (by decide)
  obtain ⟨g2, cap2, e2, _, _, hc2, _, _⟩ := h.set1 i hi 2 (by decide)
  rw [e0] at e1 e2
  simp only [Value.slice.injEq, Option.some.injEq, Addr.mk.injEq, true_and, and_true] at e1 e2
  obtain ⟨rfl, rfl⟩ := e1
  obtain ⟨rfl, rfl⟩ := e2
  refine ⟨g, cap, e0, hbg, hgl, hfr, ⟨_, hc0⟩, ⟨_, hc1⟩, ⟨_, hc2⟩, fun x => ?_⟩
  have ho1 := hs0 ⟨x.id, l[i].busy, l[i].reply⟩ (.int .i64 x.id) rfl
  have hi1 : i < (l.set i ⟨x.id, l[i].busy, l[i].reply⟩).length := by rw [List.length_set]; exact hi
  obtain ⟨g3, cap3, e3, _, _, _, _, hs1⟩ := OwnL.set1 (l := l.set i ⟨x.id, l[i].busy, l[i].reply⟩) ho1 i hi1 1 (by decide)
  rw [e0] at e3
  simp only [Value.slice.injEq, Option.some.injEq, Addr.mk.injEq, and_true] at e3
  obtain ⟨rfl, _⟩ := e3
  have ho2 := hs1 ⟨x.id, x.busy, l[i].reply⟩ (.bool x.busy) (by rw [List.getElem_set_self]; rfl)
  rw [List.set_set] at ho2
  have hi2 : i < (l.set i ⟨x.id, x.busy, l[i].reply⟩).length := by rw [List.length_set]; exact hi
  obtain ⟨g4, cap4, e4, _, _, _, _, hs2⟩ := OwnL.set1 (l := l.set i ⟨x.id, x.busy, l[i].reply⟩) ho2 i hi2 2 (by decide)
  rw [e0] at e4
  simp only [Value.slice.injEq, Option.some.injEq, Addr.mk.injEq, and_true] at e4
  obtain ⟨rfl, _⟩ := e4
  have ho3 := hs2 x (.string (ofL x.reply)) (by rw [List.getElem_set_self]; rfl)
  rw [List.set_set] at ho3
  exact ho3
/-- What the document's Put leaves. -/
def DPt (w : World) (room : Nat) (T : Int → List C) (dv : Nat → Value) (c k : Int) (s : List UInt8) (e : Ending) (w' : World) : Prop := ∃ dv', e = .returned (.tuple #[.agg (DA room dv'), .bool (Rp.ptb (T c) k s)]) ∧ DR w' (Rp.put T c k s) dv' ∧ Below w.heap.size w w' ∧ New w dv dv'
theorem f12_res : Try.f12.results = #[.cell 8 30, .tmp 9] := rfl
theorem ptb_may {room : Nat} {T : Int → List C} (ok : Rp.Ok room T) {c k : Int} {s : List UInt8} (h : Rp.may c k = false) : Rp.ptb (T c) k s = false := by
  unfold Rp.ptb
  cases hf : Rp.fnd (T c) k with
  | none => simp
  | some x => rw [Rp.fnd_may ok hf] at h; cases h
set_option maxRecDepth 100000 in
set_option maxHeartbeats 1000000 in
theorem dpt_no {w : World} {T : Int → List C} {dv : Nat → Value} (room : Nat) (h : DR w T dv) (ok : Rp.Ok room T) (c k : Int) (s : List UInt8) (hs : s.length ≤ 1000000) (hm : Rp.may c k = false ∨ 4096 < s.length) : Calls Try.prog 12 #[.agg (DA room dv), .int .i64 c, .int .i64 k, .string (ofL s)] w (DPt w room T dv c k s) := by
  obtain ⟨W1, HW1⟩ : ∃ W1, Hid ((w.alloc (.cells (DA room dv) 30)).alloc (.cells (DA 0 nodv) 30) = W1) := ⟨_, Hid_of rfl⟩
  have HB1 : Hid (Below w.heap.size w W1) := by rw [← HW1.out]; exact bel_up (bel1 w _) (bel1 _ _) (Nat.le_refl _)
  have hr1 := heap_alloc2_old w (.cells (DA room dv) 30) (.cells (DA 0 nodv) 30)
  have hr2 := heap_alloc2_new w (.cells (DA room dv) 30) (.cells (DA 0 nodv) 30)
  rw [HW1.out] at hr1 hr2
  have HROW : Hid (∀ W, Below W1.heap.size W1 W → W.heap[w.heap.size]? = some (.cells (DA room dv) 30 (0, 0)) ∧ W.heap[w.heap.size + 1]? = some (.cells (DA 0 nodv) 30 (0, 0)) ∧ Below w.heap.size w W) := fun W hW => ⟨(hW.block _ (Array.getElem?_eq_some_iff.1 hr1).1).trans hr1, (hW.block _ (Array.getElem?_eq_some_iff.1 hr2).1).trans hr2, bel_up HB1.out hW (Nat.le_refl _)⟩
  have HFIN : Hid (∀ W dv', W.heap[w.heap.size + 1]? = some (.cells (DA 0 nodv) 30 (0, 0)) → Sl dv' → Below w.heap.size w W → (st30 ⟨w.heap.size + 1, 0, none⟩ (DA room dv')).run Try.prog W = .ok () (W.setRow (w.heap.size + 1) (DA room dv')) ∧ (W.setRow (w.heap.size + 1) (DA room dv')).heap[w.heap.size + 1]? = some (.cells (DA room dv') 30 (0, 0)) ∧ Below w.heap.size w (W.setRow (w.heap.size + 1) (DA room dv')) ∧ ∀ q, q ≠ w.heap.size + 1 → (W.setRow (w.heap.size + 1) (DA room dv')).heap[q]? = W.heap[q]?) := fun W dv' h1 h2 h3 => ⟨store30_row W _ _ _ _ _ h2 h1, setRow_heap W _ _ _ _ _ h1, below_setRow h3 (by omega) _, fun q hq => setRow_other W _ q _ hq⟩
  have hmy := may_any c k
  have hsz : ((ofL s).size : Int) = (s.length : Int) := by rw [ofL_size]
  have HPB : Hid (Rp.ptb (T c) k s = false) := by
    rcases hm with h' | h'
    · exact ptb_may ok h'
    · unfold Rp.ptb; rw [decide_eq_false (by omega)]; rfl
  have HDR := Hid_of h
  obtain ⟨r1, r2, rB⟩ := HROW.out W1 (Below.refl _ _)
  have hld := load30_row W1 w.heap.size room dv r1
  obtain ⟨f1, f2, f3, f4⟩ := HFIN.out W1 dv r2 HDR.out.sl rB
  have HQ1 := Hid_of f2
  have HQ2 : Hid (DPt w room T dv c k s (.returned (.tuple #[.agg (DA room dv), .bool false])) (W1.setRow (w.heap.size + 1) (DA room dv))) := ⟨dv, by rw [HPB.out], by rw [put_no HPB.out]; exact HDR.out.keep f3, f3, New.refl _ _⟩
  clear h ok hr1 hr2 HROW HFIN HB1 r1 r2 rB f2 f3 f4 HPB HDR
  cases hmm : Rp.may c k with
  | false =>
    rw [hmm] at hmy
    clear hm hmm
    go_enter Try.func12, Try.ntmps12
    go_upto_region 1 with fail
    rw [HW1.out]
    go_wp2_with fail
    refine (hmy _).mono ?_
    rintro e w2 ⟨rfl, rfl⟩
    go_wp2
    refine bodyPost_ret (v := .tuple #[.agg (DA room dv), .bool false]) ?_ rfl HQ2.out
    exact res30_2 f12_res _ _ (w.heap.size + 1) _ _ rfl HQ1.out
  | true =>
    have h4 : 4096 < s.length := by
      rcases hm with h' | h'
      · rw [hmm] at h'; cases h'
      · exact h'
    have d4 : decide ((4096 : Int) < (s.length : Int)) = true := decide_eq_true (by omega)
    rw [hmm] at hmy
    clear hm hmm
    go_enter Try.func12, Try.ntmps12
    go_upto_region 1 with fail
    rw [HW1.out]
    go_wp2_with fail
    refine (hmy _).mono ?_
    rintro e w2 ⟨rfl, rfl⟩
    go_wp2
    refine bodyPost_ret (v := .tuple #[.agg (DA room dv), .bool false]) ?_ rfl HQ2.out
    exact res30_2 f12_res _ _ (w.heap.size + 1) _ _ rfl HQ1.out
set_option maxRecDepth 100000 in
set_option maxHeartbeats 2000000 in
theorem dpt_nf {w : World} {T : Int → List C} {dv : Nat → Value} (room : Nat) (h : DR w T dv) (ok : Rp.Ok room T) (cn : Nat) (k : Int) (s : List UInt8) (hs : s.length ≤ 4096) (hm : Rp.may cn k = true) (hP : Rp.fnd (T cn) k = none) : Calls Try.prog 12 #[.agg (DA room dv), .int .i64 cn, .int .i64 k, .string (ofL s)] w (DPt w room T dv cn k s) := by
  have hcn : cn ≤ 63 := by
    have : Rp.mayC cn = true := by unfold Rp.may at hm; simp only [Bool.and_eq_true] at hm; exact hm.1
    have := Rp.mayC_yes this
    omega
  obtain ⟨W1, HW1⟩ : ∃ W1, Hid ((w.alloc (.cells (DA room dv) 30)).alloc (.cells (DA 0 nodv) 30) = W1) := ⟨_, Hid_of rfl⟩
  have HB1 : Hid (Below w.heap.size w W1) := by rw [← HW1.out]; exact bel_up (bel1 w _) (bel1 _ _) (Nat.le_refl _)
  have hr1 := heap_alloc2_old w (.cells (DA room dv) 30) (.cells (DA 0 nodv) 30)
  have hr2 := heap_alloc2_new w (.cells (DA room dv) 30) (.cells (DA 0 nodv) 30)
  rw [HW1.out] at hr1 hr2
  have HROW : Hid (∀ W, Below W1.heap.size W1 W → W.heap[w.heap.size]? = some (.cells (DA room dv) 30 (0, 0)) ∧ W.heap[w.heap.size + 1]? = some (.cells (DA 0 nodv) 30 (0, 0)) ∧ Below w.heap.size w W) := fun W hW => ⟨(hW.block _ (Array.getElem?_eq_some_iff.1 hr1).1).trans hr1, (hW.block _ (Array.getElem?_eq_some_iff.1 hr2).1).trans hr2, bel_up HB1.out hW (Nat.le_refl _)⟩
  have HFIN : Hid (∀ W dv', W.heap[w.heap.size + 1]? = some (.cells (DA 0 nodv) 30 (0, 0)) → Sl dv' → Below w.heap.size w W → (st30 ⟨w.heap.size + 1, 0, none⟩ (DA room dv')).run Try.prog W = .ok () (W.setRow (w.heap.size + 1) (DA room dv')) ∧ (W.setRow (w.heap.size + 1) (DA room dv')).heap[w.heap.size + 1]? = some (.cells (DA room dv') 30 (0, 0)) ∧ Below w.heap.size w (W.setRow (w.heap.size + 1) (DA room dv')) ∧ ∀ q, q ≠ w.heap.size + 1 → (W.setRow (w.heap.size + 1) (DA room dv')).heap[q]? = W.heap[q]?) := fun W dv' h1 h2 h3 => ⟨store30_row W _ _ _ _ _ h2 h1, setRow_heap W _ _ _ _ _ h1, below_setRow h3 (by omega) _, fun q hq => setRow_other W _ q _ hq⟩
  have hmy := may_any cn k
  rw [hm] at hmy
  have hsz : ((ofL s).size : Int) = (s.length : Int) := by rw [ofL_size]
  have d4 : decide ((4096 : Int) < (s.length : Int)) = false := decide_eq_false (by omega)
  obtain ⟨a, cap, hdv, hx⟩ := h.row cn
  obtain ⟨r1, r2, rB⟩ := HROW.out W1 (Below.refl _ _)
  have hcc : W1.cell? ⟨w.heap.size, 1 + cn, none⟩ = some (.slice a (T cn).length cap) := by rw [cell_of_row W1 _ _ _ _ _ r1, DA_get _ _ _ (by omega), hdv]
  have hl16 := (ok.l cn).le
  have h16 := ok.r16
  have hu := (ok.l cn).up
  have hfd := find_any a cap (T cn) k W1 (by omega) (hx.keep HB1.out).at' hu
  have HDR := Hid_of h
  have HX := Hid_of hx
  have HDV := Hid_of hdv
  have HU := Hid_of hu
  have hple := Rp.plc_le (T cn) k
  have HSR := Hid_of (Rp.plc_sr k hu)
  clear h ok hr1 hr2 HB1 r1 r2 rB hx hdv hu hm
  have HPB : Hid (Rp.ptb (T cn) k s = false) := Hid_of (by unfold Rp.ptb; rw [hP]; simp)
  rw [hP] at hfd
  clear hP
  go_enter Try.func12, Try.ntmps12
  go_upto_region 1 with fail
  rw [HW1.out]
  go_wp2_with fail
  refine (hmy _).mono ?_
  rintro e w2 ⟨rfl, rfl⟩
  go_wp2_with fail
  refine hfd.mono ?_
  rintro e w3 ⟨rfl, hb3⟩
  obtain ⟨r1, r2, rB⟩ := HROW.out w3 hb3
  have HX3 := Hid_of (HX.out.keep rB)
  have hcc3 : w3.cell? ⟨w.heap.size, 1 + cn, none⟩ = some (.slice a (T cn).length cap) := by rw [cell_of_row w3 _ _ _ _ _ r1, DA_get _ _ _ (by omega), HDV.out]
  clear hfd hcc hmy HROW hb3
  have hld := load30_row w3 w.heap.size room dv r1
  obtain ⟨f1, f2, f3, f4⟩ := HFIN.out w3 dv r2 HDR.out.sl rB
  have HQ1 := Hid_of f2
  have HQ2 : Hid (DPt w room T dv cn k s (.returned (.tuple #[.agg (DA room dv), .bool false])) (w3.setRow (w.heap.size + 1) (DA room dv))) := ⟨dv, by rw [HPB.out], by rw [put_no HPB.out]; exact HDR.out.keep f3, f3, New.refl _ _⟩
  clear r1 r2 rB f2 f3 f4 HFIN HDR HX3 HX HSR HPB
  generalize Rp.plc (T cn) k = p at *
  generalize (T cn).length = L at *
  go_wp2
  refine bodyPost_ret (v := .tuple #[.agg (DA room dv), .bool false]) ?_ rfl HQ2.out
  exact res30_2 f12_res _ _ (w.heap.size + 1) _ _ rfl HQ1.out
set_option maxRecDepth 100000 in
set_option maxHeartbeats 2000000 in
theorem dpt_nb {w : World} {T : Int → List C} {dv : Nat → Value} (room : Nat) (h : DR w T dv) (ok : Rp.Ok room T) (cn : Nat) (k : Int) (s : List UInt8) (hs : s.length ≤ 4096) (hm : Rp.may cn k = true) (x : C) (hP : Rp.fnd (T cn) k = some x) (hb : x.busy = false) : Calls Try.prog 12 #[.agg (DA room dv), .int .i64 cn, .int .i64 k, .string (ofL s)] w (DPt w room T dv cn k s) := by
  have hcn : cn ≤ 63 := by
    have : Rp.mayC cn = true := by unfold Rp.may at hm; simp only [Bool.and_eq_true] at hm; exact hm.1
    have := Rp.mayC_yes this
    omega
  obtain ⟨W1, HW1⟩ : ∃ W1, Hid ((w.alloc (.cells (DA room dv) 30)).alloc (.cells (DA 0 nodv) 30) = W1) := ⟨_, Hid_of rfl⟩
  have HB1 : Hid (Below w.heap.size w W1) := by rw [← HW1.out]; exact bel_up (bel1 w _) (bel1 _ _) (Nat.le_refl _)
  have hr1 := heap_alloc2_old w (.cells (DA room dv) 30) (.cells (DA 0 nodv) 30)
  have hr2 := heap_alloc2_new w (.cells (DA room dv) 30) (.cells (DA 0 nodv) 30)
  rw [HW1.out] at hr1 hr2
  have HROW : Hid (∀ W, Below W1.heap.size W1 W → W.heap[w.heap.size]? = some (.cells (DA room dv) 30 (0, 0)) ∧ W.heap[w.heap.size + 1]? = some (.cells (DA 0 nodv) 30 (0, 0)) ∧ Below w.heap.size w W) := fun W hW => ⟨(hW.block _ (Array.getElem?_eq_some_iff.1 hr1).1).trans hr1, (hW.block _ (Array.getElem?_eq_some_iff.1 hr2).1).trans hr2, bel_up HB1.out hW (Nat.le_refl _)⟩
  have HFIN : Hid (∀ W dv', W.heap[w.heap.size + 1]? = some (.cells (DA 0 nodv) 30 (0, 0)) → Sl dv' → Below w.heap.size w W → (st30 ⟨w.heap.size + 1, 0, none⟩ (DA room dv')).run Try.prog W = .ok () (W.setRow (w.heap.size + 1) (DA room dv')) ∧ (W.setRow (w.heap.size + 1) (DA room dv')).heap[w.heap.size + 1]? = some (.cells (DA room dv') 30 (0, 0)) ∧ Below w.heap.size w (W.setRow (w.heap.size + 1) (DA room dv')) ∧ ∀ q, q ≠ w.heap.size + 1 → (W.setRow (w.heap.size + 1) (DA room dv')).heap[q]? = W.heap[q]?) := fun W dv' h1 h2 h3 => ⟨store30_row W _ _ _ _ _ h2 h1, setRow_heap W _ _ _ _ _ h1, below_setRow h3 (by omega) _, fun q hq => setRow_other W _ q _ hq⟩
  have hmy := may_any cn k
  rw [hm] at hmy
  have hsz : ((ofL s).size : Int) = (s.length : Int) := by rw [ofL_size]
  have d4 : decide ((4096 : Int) < (s.length : Int)) = false := decide_eq_false (by omega)
  obtain ⟨a, cap, hdv, hx⟩ := h.row cn
  obtain ⟨r1, r2, rB⟩ := HROW.out W1 (Below.refl _ _)
  have hcc : W1.cell? ⟨w.heap.size, 1 + cn, none⟩ = some (.slice a (T cn).length cap) := by rw [cell_of_row W1 _ _ _ _ _ r1, DA_get _ _ _ (by omega), hdv]
  have hl16 := (ok.l cn).le
  have h16 := ok.r16
  have hu := (ok.l cn).up
  have hfd := find_any a cap (T cn) k W1 (by omega) (hx.keep HB1.out).at' hu
  have HDR := Hid_of h
  have HX := Hid_of hx
  have HDV := Hid_of hdv
  have HU := Hid_of hu
  have hple := Rp.plc_le (T cn) k
  have HSR := Hid_of (Rp.plc_sr k hu)
  clear h ok hr1 hr2 HB1 r1 r2 rB hx hdv hu hm
  have HPB : Hid (Rp.ptb (T cn) k s = false) := Hid_of (by unfold Rp.ptb; rw [hP]; simp [hb])
  have HXF := Hid_of hP
  rw [hP] at hfd HSR
  clear hP
  go_enter Try.func12, Try.ntmps12
  go_upto_region 1 with fail
  rw [HW1.out]
  go_wp2_with fail
  refine (hmy _).mono ?_
  rintro e w2 ⟨rfl, rfl⟩
  go_wp2_with fail
  refine hfd.mono ?_
  rintro e w3 ⟨rfl, hb3⟩
  obtain ⟨r1, r2, rB⟩ := HROW.out w3 hb3
  have HX3 := Hid_of (HX.out.keep rB)
  have hcc3 : w3.cell? ⟨w.heap.size, 1 + cn, none⟩ = some (.slice a (T cn).length cap) := by rw [cell_of_row w3 _ _ _ _ _ r1, DA_get _ _ _ (by omega), HDV.out]
  clear hfd hcc hmy HROW hb3
  obtain ⟨hr, hid⟩ := HSR.out.yes rfl
  obtain ⟨g0, off, rfl, q0, q1, q2⟩ := HX3.out.at'.getC _ hr
  have hxb : (T cn)[Rp.plc (T cn) k].busy = x.busy := by
    have := Rp.fnd_some HU.out (List.getElem_mem hr) hid
    rw [HXF.out] at this
    cases this
    rfl
  rw [hxb, hb] at q1
  have hrl : (Rp.plc (T cn) k : Int) < ((T cn).length : Int) := by omega
  have hld := load30_row w3 w.heap.size room dv r1
  obtain ⟨f1, f2, f3, f4⟩ := HFIN.out w3 dv r2 HDR.out.sl rB
  have HQ1 := Hid_of f2
  have HQ2 : Hid (DPt w room T dv cn k s (.returned (.tuple #[.agg (DA room dv), .bool false])) (w3.setRow (w.heap.size + 1) (DA room dv))) := ⟨dv, by rw [HPB.out], by rw [put_no HPB.out]; exact HDR.out.keep f3, f3, New.refl _ _⟩
  clear r1 r2 rB f2 f3 f4 HFIN HDR HX3 HX HSR HPB hid hxb HXF q0 q2 hb
  generalize Rp.plc (T cn) k = p at *
  generalize (T cn).length = L at *
  go_wp2
  refine bodyPost_ret (v := .tuple #[.agg (DA room dv), .bool false]) ?_ rfl HQ2.out
  exact res30_2 f12_res _ _ (w.heap.size + 1) _ _ rfl HQ1.out
set_option maxRecDepth 100000 in
set_option maxHeartbeats 2000000 in
theorem dpt_yes {w : World} {T : Int → List C} {dv : Nat → Value} (room : Nat) (h : DR w T dv) (ok : Rp.Ok room T) (cn : Nat) (k : Int) (s : List UInt8) (hs : s.length ≤ 4096) (hm : Rp.may cn k = true) (x : C) (hP : Rp.fnd (T cn) k = some x) (hb : x.busy = true) : Calls Try.prog 12 #[.agg (DA room dv), .int .i64 cn, .int .i64 k, .string (ofL s)] w (DPt w room T dv cn k s) := by
  have hcn : cn ≤ 63 := by
    have : Rp.mayC cn = true := by unfold Rp.may at hm; simp only [Bool.and_eq_true] at hm; exact hm.1
    have := Rp.mayC_yes this
    omega
  obtain ⟨W1, HW1⟩ : ∃ W1, Hid ((w.alloc (.cells (DA room dv) 30)).alloc (.cells (DA 0 nodv) 30) = W1) := ⟨_, Hid_of rfl⟩
  have HB1 : Hid (Below w.heap.size w W1) := by rw [← HW1.out]; exact bel_up (bel1 w _) (bel1 _ _) (Nat.le_refl _)
  have hr1 := heap_alloc2_old w (.cells (DA room dv) 30) (.cells (DA 0 nodv) 30)
  have hr2 := heap_alloc2_new w (.cells (DA room dv) 30) (.cells (DA 0 nodv) 30)
  rw [HW1.out] at hr1 hr2
  have HROW : Hid (∀ W, Below W1.heap.size W1 W → W.heap[w.heap.size]? = some (.cells (DA room dv) 30 (0, 0)) ∧ W.heap[w.heap.size + 1]? = some (.cells (DA 0 nodv) 30 (0, 0)) ∧ Below w.heap.size w W) := fun W hW => ⟨(hW.block _ (Array.getElem?_eq_some_iff.1 hr1).1).trans hr1, (hW.block _ (Array.getElem?_eq_some_iff.1 hr2).1).trans hr2, bel_up HB1.out hW (Nat.le_refl _)⟩
  have HFIN : Hid (∀ W dv', W.heap[w.heap.size + 1]? = some (.cells (DA 0 nodv) 30 (0, 0)) → Sl dv' → Below w.heap.size w W → (st30 ⟨w.heap.size + 1, 0, none⟩ (DA room dv')).run Try.prog W = .ok () (W.setRow (w.heap.size + 1) (DA room dv')) ∧ (W.setRow (w.heap.size + 1) (DA room dv')).heap[w.heap.size + 1]? = some (.cells (DA room dv') 30 (0, 0)) ∧ Below w.heap.size w (W.setRow (w.heap.size + 1) (DA room dv')) ∧ ∀ q, q ≠ w.heap.size + 1 → (W.setRow (w.heap.size + 1) (DA room dv')).heap[q]? = W.heap[q]?) := fun W dv' h1 h2 h3 => ⟨store30_row W _ _ _ _ _ h2 h1, setRow_heap W _ _ _ _ _ h1, below_setRow h3 (by omega) _, fun q hq => setRow_other W _ q _ hq⟩
  have hmy := may_any cn k
  rw [hm] at hmy
  have hsz : ((ofL s).size : Int) = (s.length : Int) := by rw [ofL_size]
  have d4 : decide ((4096 : Int) < (s.length : Int)) = false := decide_eq_false (by omega)
  obtain ⟨a, cap, hdv, hx⟩ := h.row cn
  obtain ⟨r1, r2, rB⟩ := HROW.out W1 (Below.refl _ _)
  have hcc : W1.cell? ⟨w.heap.size, 1 + cn, none⟩ = some (.slice a (T cn).length cap) := by rw [cell_of_row W1 _ _ _ _ _ r1, DA_get _ _ _ (by omega), hdv]
  have hl16 := (ok.l cn).le
  have h16 := ok.r16
  have hu := (ok.l cn).up
  have hfd := find_any a cap (T cn) k W1 (by omega) (hx.keep HB1.out).at' hu
  have HDR := Hid_of h
  have HX := Hid_of hx
  have HDV := Hid_of hdv
  have HU := Hid_of hu
  have hple := Rp.plc_le (T cn) k
  have HSR := Hid_of (Rp.plc_sr k hu)
  clear h ok hr1 hr2 HB1 r1 r2 rB hx hdv hu hm
  have HPB : Hid (Rp.ptb (T cn) k s = true) := Hid_of (by unfold Rp.ptb; rw [hP]; simp [hb]; omega)
  have HXF := Hid_of hP
  rw [hP] at hfd HSR
  clear hP
  go_enter Try.func12, Try.ntmps12
  go_upto_region 1 with fail
  rw [HW1.out]
  go_wp2_with fail
  refine (hmy _).mono ?_
  rintro e w2 ⟨rfl, rfl⟩
  go_wp2_with fail
  refine hfd.mono ?_
  rintro e w3 ⟨rfl, hb3⟩
  obtain ⟨r1, r2, rB⟩ := HROW.out w3 hb3
  have HX3 := Hid_of (HX.out.keep rB)
  have hcc3 : w3.cell? ⟨w.heap.size, 1 + cn, none⟩ = some (.slice a (T cn).length cap) := by rw [cell_of_row w3 _ _ _ _ _ r1, DA_get _ _ _ (by omega), HDV.out]
  clear hfd hcc hmy HROW hb3
  obtain ⟨hr, hid⟩ := HSR.out.yes rfl
  obtain ⟨g0, off, rfl, q0, q1, q2⟩ := HX3.out.at'.getC _ hr
  have hxb : (T cn)[Rp.plc (T cn) k].busy = x.busy := by
    have := Rp.fnd_some HU.out (List.getElem_mem hr) hid
    rw [HXF.out] at this
    cases this
    rfl
  rw [hxb, hb] at q1
  have hrl : (Rp.plc (T cn) k : Int) < ((T cn).length : Int) := by omega
  have HPT : Hid (Rp.put T cn k s = fup T cn ((T cn).set (Rp.plc (T cn) k) ⟨k, false, s⟩)) := Hid_of (by unfold Rp.put Rp.ptl; rw [HPB.out]; rfl)
  obtain ⟨a4, c4, w4, hcp, ho4, hb4⟩ := run_copyL tiK w3 0 _ cap (T cn) HX3.out (by omega)
  have hcpy : ∀ ty, (Builtin.append_ #[27, 27] ty #[.slice none 0 0, .slice (some ⟨g0, off, none⟩) (T cn).length cap]).run Try.prog w3 = .ok (.slice a4 (T cn).length c4) w4 := fun ty => (append_ty _ _ _ ty 0).trans hcp
  obtain ⟨g, cap', e4, hbg, hgl, hfr, ⟨x0, y0⟩, ⟨x1, y1⟩, ⟨x2, y2⟩, hset⟩ := ho4.set3 _ hr
  simp only [Value.slice.injEq, true_and] at e4
  obtain ⟨rfl, rfl⟩ := e4
  have fz0 := hfr (Rp.plc (T cn) k * 3)
  have fz1 := hfr (Rp.plc (T cn) k * 3 + 1)
  have fz2 := hfr (Rp.plc (T cn) k * 3 + 2)
  have hcapx := ho4.at
  obtain ⟨_, _, ee, hxx4, _⟩ := hcapx
  simp only [Value.slice.injEq, true_and] at ee
  obtain ⟨rfl, rfl⟩ := ee
  obtain ⟨W5, HW5⟩ : ∃ W5, Hid (((w4.setCell ⟨g, Rp.plc (T cn) k * 3, none⟩ (.int .i64 k)).setCell ⟨g, Rp.plc (T cn) k * 3 + 1, none⟩ (.bool false)).setCell ⟨g, Rp.plc (T cn) k * 3 + 2, none⟩ (.string (ofL s)) = W5) := ⟨_, Hid_of rfl⟩
  have ho5 : OwnL cl 62 W5 w3.heap.size (.slice (some ⟨g, 0, none⟩) (T cn).length c4) ((T cn).set (Rp.plc (T cn) k) ⟨k, false, s⟩) := by rw [← HW5.out]; exact hset ⟨k, false, s⟩
  have hB5 : Below w3.heap.size w3 W5 := by
    rw [← HW5.out]
    exact ((hb4.setCell (p := ⟨g, Rp.plc (T cn) k * 3, none⟩) hbg _).setCell (p := ⟨g, Rp.plc (T cn) k * 3 + 1, none⟩) hbg _).setCell (p := ⟨g, Rp.plc (T cn) k * 3 + 2, none⟩) hbg _
  have s1 := (hB5.block _ (Array.getElem?_eq_some_iff.1 r1).1).trans r1
  have s2 := (hB5.block _ (Array.getElem?_eq_some_iff.1 r2).1).trans r2
  have sB : Below w.heap.size w W5 := bel_up rB hB5 (Nat.le_refl _)
  have u1 : W5.cell? ⟨w.heap.size, 1 + cn, none⟩ = some (.slice (some ⟨g0, off, none⟩) (T cn).length cap) := by rw [cell_of_row W5 _ _ _ _ _ s1, DA_get _ _ _ (by omega), HDV.out]
  have u2 : W5.frozen? ⟨w.heap.size, 1 + cn, none⟩ = false := frozen_of_row W5 _ _ _ _ s1
  obtain ⟨W6, HW6⟩ : ∃ W6, Hid (W5.setCell ⟨w.heap.size, 1 + cn, none⟩ (.slice (some ⟨g, 0, none⟩) (T cn).length c4) = W6) := ⟨_, Hid_of rfl⟩
  have s1' : W6.heap[w.heap.size]? = some (.cells (DA room (dvup dv cn (.slice (some ⟨g, 0, none⟩) (T cn).length c4))) 30 (0, 0)) := by rw [← HW6.out, heap_setCell_same W5 _ _ _ _ _ s1, DA_set _ _ _ _ (by omega)]
  have s2' : W6.heap[w.heap.size + 1]? = some (.cells (DA 0 nodv) 30 (0, 0)) := by rw [← HW6.out, heap_setCell_other W5 ⟨w.heap.size, 1 + cn, none⟩ _ _ (by simp)]; exact s2
  have sB' : Below w.heap.size w W6 := by rw [← HW6.out]; exact sB.setCell (p := ⟨w.heap.size, 1 + cn, none⟩) (Nat.le_refl _) _
  obtain ⟨f1, f2, f3, f4⟩ := HFIN.out W6 (dvup dv cn (.slice (some ⟨g, 0, none⟩) (T cn).length c4)) s2' (HDR.out.sl.up _ _ _ _) sB'
  have hld := load30_row _ _ _ _ s1'
  have HQ1 := Hid_of f2
  have HQ2 : Hid (DPt w room T dv cn k s (.returned (.tuple #[.agg (DA room (dvup dv cn (.slice (some ⟨g, 0, none⟩) (T cn).length c4))), .bool true])) (W6.setRow (w.heap.size + 1) (DA room (dvup dv cn (.slice (some ⟨g, 0, none⟩) (T cn).length c4))))) := by
    refine ⟨_, by rw [HPB.out], ?_, f3, New.up _ (fun q hq => by
      obtain ⟨_, _, e⟩ := hq
      cases e
      have h2 : w.heap.size + 1 < w3.heap.size := (Array.getElem?_eq_some_iff.1 r2).1
      omega)⟩
    rw [HPT.out]
    obtain ⟨aa, cc, e6, hx6, _⟩ := ho5.at
    rw [List.length_set] at e6
    simp only [Value.slice.injEq, true_and] at e6
    obtain ⟨rfl, rfl⟩ := e6
    have := (HDR.out.keep f3).up cn ((T cn).set (Rp.plc (T cn) k) ⟨k, false, s⟩) (some ⟨g, 0, none⟩) c4 (hx6.keepBut (fun q _ hq => by
      obtain ⟨_, _, e⟩ := hq
      cases e
      have h2 : w.heap.size + 1 < w3.heap.size := (Array.getElem?_eq_some_iff.1 r2).1
      rw [f4 g (by omega), ← HW6.out, heap_setCell_other W5 ⟨w.heap.size, 1 + cn, none⟩ g _ (by show g ≠ w.heap.size; omega)])) (fun e => by
        have := congrArg List.length e
        rw [List.length_set, List.length_nil] at this
        omega)
    rw [List.length_set] at this
    exact this
  have hcl : (Rp.plc (T cn) k) < (T cn).length := hr
  have hle4 := hxx4.le
  clear r1 r2 rB f2 f3 f4 HFIN HDR HX3 HX HSR HPB hid hxb HXF q0 q2 hb hset ho4 ho5 hcp hb4 hB5 s1 s2 sB s1' s2' sB' hfr hxx4 HDV HU HPT hr
  generalize dvup dv cn (.slice (some ⟨g, 0, none⟩) (T cn).length c4) = dv' at *
  generalize Rp.plc (T cn) k = p at *
  generalize (T cn).length = L at *
  go_upto_region 8 with (at_builtin; refine wpList_append_known rfl _ _ 27 rfl _ _ rfl rfl _ _ (hcpy _) ?_)
  rw [HW5.out]
  go_upto_region 9 with fail
  rw [HW6.out]
  go_wp2
  refine bodyPost_ret (v := .tuple #[.agg (DA room dv'), .bool true]) ?_ rfl HQ2.out
  exact res30_2 f12_res _ _ (w.heap.size + 1) _ _ rfl HQ1.out
theorem dpt_any {w : World} {T : Int → List C} {dv : Nat → Value} (room : Nat) (h : DR w T dv) (ok : Rp.Ok room T) (c k : Int) (s : List UInt8) (hs : s.length ≤ 1000000) : Calls Try.prog 12 #[.agg (DA room dv), .int .i64 c, .int .i64 k, .string (ofL s)] w (DPt w room T dv c k s) := by
  cases hm : Rp.may c k with
  | false => exact dpt_no room h ok c k s hs (.inl hm)
  | true =>
    by_cases h4 : 4096 < s.length
    · exact dpt_no room h ok c k s hs (.inr h4)
    · have hc : 0 ≤ c := by
        have : Rp.mayC c = true := by unfold Rp.may at hm; simp only [Bool.and_eq_true] at hm; exact hm.1
        exact (Rp.mayC_yes this).1
      obtain ⟨cn, rfl⟩ := Int.eq_ofNat_of_zero_le hc
      cases hP : Rp.fnd (T cn) k with
      | none => exact dpt_nf room h ok cn k s (by omega) hm hP
      | some x =>
        cases hb : x.busy with
        | false => exact dpt_nb room h ok cn k s (by omega) hm x hP hb
        | true => exact dpt_yes room h ok cn k s (by omega) hm x hP hb
end Go.Proofs.Ytjbcchipbdkplaa
