/-
  What a call has come to; one is forgotten; which are open.
-/
import Derived.Test.YtbgbdiiinggjnaaCC
namespace Go.Proofs.Ytbgbdiiinggjnaa
open Go.RowKit
set_option linter.unusedVariables false
open M (E)
open Cl (K W Ms fup)

theorem state_nil (k : Int) (w : World) : Calls Try.prog 20 #[.pointer none, .int .i64 k] w fun e w' => e = .returned (.tuple #[.int .i64 0, .string ⟨#[]⟩]) ∧ w' = w := by
  go_enter Try.func20, Try.ntmps20
  go_wp2
  go_ret2
  exact ⟨rfl, rfl⟩
theorem forget_nil (k : Int) (w : World) : Calls Try.prog 19 #[.pointer none, .int .i64 k] w fun e w' => e = .returned (.bool false) ∧ w' = w := by
  go_enter Try.func19, Try.ntmps19
  go_wp2
  go_ret
  exact ⟨rfl, rfl⟩
theorem open_nil (w : World) : Calls Try.prog 23 #[.pointer none] w fun e w' => e = .returned (.slice none 0 0) ∧ w' = w := by
  go_enter Try.func23, Try.ntmps23
  go_wp2
  go_ret
  exact ⟨rfl, rfl⟩
set_option maxRecDepth 100000 in
set_option maxHeartbeats 1000000 in
theorem state_any {w : World} {base b bt m : Nat} {vt vo : Value} {n : Nat} {me next : Int} {O : List W} {P : List E} {f : Int → Option (Int × ByteArray)} (h : CI w base b bt m vt vo n me next O P f) (hl : O.length ≤ 64) (hu : O.Pairwise (fun a b => a.id < b.id)) (k : Int) (hk : (Lit.int .i64 k).wf = true) (hre : ((f k).getD zo).2.size ≤ 140737488351232) :
    Calls Try.prog 20 #[.pointer (some ⟨b, 0, none⟩), .int .i64 k] w fun e w' => ∃ r bb, SrW O k r bb ∧ e = .returned (.tuple #[.int .i64 (bif bb then 1 else ((f k).getD zo).1), .string (bif bb then ⟨#[]⟩ else ((f k).getD zo).2)]) ∧ Below w.heap.size w w' := by
  have hp := placeC_any h hl hu k
  have HX := Hid_of h
  generalize hpp : (f k).getD zo = pp at *
  obtain ⟨p1, p2⟩ := pp
  simp only at hre ⊢
  have HPP := Hid_of hpp
  clear h hpp
  go_enter Try.func20, Try.ntmps20
  go_wp2_with fail
  refine hp.mono ?_
  rintro e w1 ⟨r, bb, rfl, hs, hb1⟩
  have HS1 := Hid_of hs
  have HB1 := Hid_of hb1
  have hX1 := HX.out.keep hb1
  clear hp hs hb1
  cases bb with
  | true =>
    clear hX1
    go_wp2
    go_ret2
    exact ⟨r, true, HS1.out, rfl, HB1.out⟩
  | false =>
    have hlk := hX1.mi.look k hk
    rw [HPP.out] at hlk
    replace hlk : (Instr.lookup 63 (.map (some m)) (.int .i64 k) false).run Try.prog w1 = .ok (.agg #[.int .i64 p1, .string p2]) w1 := hlk
    obtain ⟨⟨c0, c1, c2, c3, c4⟩, _⟩ := hX1.cells
    obtain ⟨W2, HW2⟩ : ∃ W2, Hid (w1.alloc (.cells #[.int .i64 p1, .string p2] 82) = W2) := ⟨_, rfl⟩
    have hr2 : W2.heap[w1.heap.size]? = some (.cells #[.int .i64 p1, .string p2] 82 (0, 0)) := by rw [← HW2.out]; exact heap_alloc_last w1 _
    have HB2 : Hid (Below w.heap.size w W2) := by
      rw [← HW2.out]
      exact bel_up HB1.out (bel1 w1 _) (Nat.le_refl _)
    have HS : Hid (∀ W, Below W2.heap.size W2 W → W.cell? ⟨w1.heap.size, 0, none⟩ = some (.int .i64 p1) ∧ W.cell? ⟨w1.heap.size, 1, none⟩ = some (.string p2)) := fun W hW => (row2 ((hW.block _ (Array.getElem?_eq_some_iff.1 hr2).1).trans hr2)).1
    have S2 := HS.out W2 (Below.refl _ _)
    have hcl := fun W => sclone_any p2 W hre
    clear hX1 hr2 HX HPP HB1
    go_upto_region 7 with fail
    rw [HW2.out]
    clear c0 c1 c2 c3 c4 hlk
    refine wp_region_held_drew (S := fun wq => wq.cell? ⟨w1.heap.size, 0, none⟩ = some (.int .i64 p1) ∧ wq.cell? ⟨w1.heap.size, 1, none⟩ = some (.string p2)) (by kernel_rfl) S2 (fun hHeld => ?_)
    refine wpAnyH_take (i := 0) (oi := ?p0s) (v := ?v0s) ?o0s (by kernel_rfl) (by kernel_rfl) (by kernel_rfl) ?q0s ?y0s hHeld ?r0s
    case o0s => simp only [List.getElem?_toArray, List.getElem?_cons_zero]; rfl
    case q0s => exact fun _ _ _ h => h
    case y0s => (refine Or.inl ⟨rfl, ?_⟩; intro wq hq; obtain ⟨q0, q1⟩ := hq; go_simp; try with_reducible rfl)
    simp only [Act.put, List.setIfInBounds_toArray, List.set_cons_zero, List.set_cons_succ]
    refine wpAnyH_take (i := 1) (oi := ?p1s) (v := ?v1s) ?o1s (by kernel_rfl) (by kernel_rfl) (by kernel_rfl) ?q1s ?y1s hHeld ?r1s
    case o1s => simp only [List.getElem?_toArray, List.getElem?_cons_succ, List.getElem?_cons_zero]; rfl
    case q1s => exact fun _ _ _ h => h
    case y1s => (refine Or.inl ⟨rfl, ?_⟩; intro wq hq; obtain ⟨q0, q1⟩ := hq; go_simp; try with_reducible rfl)
    simp only [Act.put, List.setIfInBounds_toArray, List.set_cons_zero, List.set_cons_succ]
    refine wpAnyH_take (i := 2) (oi := ?p2s) (v := ?v2s) ?o2s (by kernel_rfl) (by kernel_rfl) (by kernel_rfl) ?q2s ?y2s hHeld ?r2s
    case o2s => simp only [List.getElem?_toArray, List.getElem?_cons_succ, List.getElem?_cons_zero]; rfl
    case q2s => exact fun _ _ _ h => h
    case y2s => (refine Or.inl ⟨rfl, ?_⟩; intro wq hq; obtain ⟨q0, q1⟩ := hq; go_simp; try with_reducible rfl)
    simp only [Act.put, List.setIfInBounds_toArray, List.set_cons_zero, List.set_cons_succ]
    refine wpAnyH_take (i := 3) (oi := ?p3s) (v := ?v3s) ?o3s (by kernel_rfl) (by kernel_rfl) (by kernel_rfl) ?q3s ?y3s hHeld ?r3s
    case o3s => simp only [List.getElem?_toArray, List.getElem?_cons_succ, List.getElem?_cons_zero]; rfl
    case q3s => exact fun _ _ _ h => h
    case y3s => (refine Or.inl ⟨rfl, ?_⟩; intro wq hq; obtain ⟨q0, q1⟩ := hq; go_simp; try with_reducible rfl)
    simp only [Act.put, List.setIfInBounds_toArray, List.set_cons_zero, List.set_cons_succ]
    refine wpAnyH_ready (rs := [4]) (by kernel_rfl) (by simp) ?_
    refine AllReadyH.cons (o := ?p4s) ?o4s ?s4s AllReadyH.nil
    case o4s => simp only [List.getElem?_toArray, List.getElem?_cons_succ, List.getElem?_cons_zero]; rfl
    intro K hK
    go_simp
    refine (hcl _).mono ?_
    rintro e w3 ⟨rfl, hb3⟩
    have hb3' : Below W2.heap.size W2 w3 := Below.trans (Below.drew (Below.refl _ _)) hb3
    have S3 := HS.out w3 hb3'
    have HB3 := Hid_of (bel_up HB2.out hb3' (Nat.le_refl _))
    clear hb3 hb3'
    refine hK.out _ _ S3 (fun hHeld => ?_)
    clear hK K
    refine wpAnyH_take (i := 5) (oi := ?p5s) (v := ?v5s) ?o5s (by kernel_rfl) (by kernel_rfl) (by kernel_rfl) ?q5s ?y5s hHeld ?r5s
    case o5s => simp only [List.getElem?_toArray, List.getElem?_cons_succ, List.getElem?_cons_zero]; rfl
    case q5s => exact fun _ _ _ h => h
    case y5s => (refine Or.inl ⟨rfl, ?_⟩; intro wq hq; obtain ⟨q0, q1⟩ := hq; go_simp; try with_reducible rfl)
    simp only [Act.put, List.setIfInBounds_toArray, List.set_cons_zero, List.set_cons_succ]
    refine wpAnyH_take (i := 6) (oi := ?p6s) (v := ?v6s) ?o6s (by kernel_rfl) (by kernel_rfl) (by kernel_rfl) ?q6s ?y6s hHeld ?r6s
    case o6s => simp only [List.getElem?_toArray, List.getElem?_cons_succ, List.getElem?_cons_zero]; rfl
    case q6s => exact fun _ _ _ h => h
    case y6s => (refine Or.inl ⟨rfl, ?_⟩; intro wq hq; obtain ⟨q0, q1⟩ := hq; go_simp; try with_reducible rfl)
    simp only [Act.put, List.setIfInBounds_toArray, List.set_cons_zero, List.set_cons_succ]
    refine wpAnyH_done (by kernel_rfl) ?_ _
    go_wp2
    go_ret2
    exact ⟨r, false, HS1.out, rfl, HB3.out⟩
set_option maxHeartbeats 1000000 in
theorem forget_any {w : World} {base b bt m : Nat} {vt vo : Value} {n : Nat} {me next : Int} {O : List W} {P : List E} {f : Int → Option (Int × ByteArray)} (h : CI w base b bt m vt vo n me next O P f) (k : Int) (hk : (Lit.int .i64 k).wf = true) :
    Calls Try.prog 19 #[.pointer (some ⟨b, 0, none⟩), .int .i64 k] w (COut w base b bt m vt vo n me next O P (fup f k none) (.bool (f k).isSome)) := by
  have hlk := h.mi.lookOk k hk
  obtain ⟨⟨p1, p2⟩, hpp⟩ : ∃ p, (f k).getD zo = p := ⟨_, rfl⟩
  rw [hpp] at hlk
  obtain ⟨ss, hss⟩ : ∃ ss, (f k).isSome = ss := ⟨_, rfl⟩
  rw [hss] at hlk ⊢
  replace hlk : (Instr.lookup 63 (.map (some m)) (.int .i64 k) true).run Try.prog w = .ok (.tuple #[.agg #[.int .i64 p1, .string p2], .bool ss]) w := hlk
  obtain ⟨⟨c0, c1, c2, c3, c4⟩, _⟩ := h.cells
  obtain ⟨W2, HW2⟩ : ∃ W2, Hid (w.alloc (.cells #[.int .i64 p1, .string p2] 82) = W2) := ⟨_, rfl⟩
  have hb2 : Below w.heap.size w W2 := by
    rw [← HW2.out]
    exact bel1 w _
  have hX2 := h.keep hb2
  obtain ⟨⟨d0, d1, d2, d3, d4⟩, _⟩ := hX2.cells
  obtain ⟨w3, hdel, MI3, MT3⟩ := hX2.mi.del k hk 0
  obtain ⟨hX3, hF3⟩ := hX2.mapped MI3 MT3
  have HQ : Hid (COut w base b bt m vt vo n me next O P (fup f k none) (.bool ss) (.returned (.bool ss)) w3) := ⟨_, _, rfl, hX3, (Fr.ofBelow hb2).trans hF3⟩
  clear h hX2 hX3 hF3 MI3 MT3 hb2 hpp hss
  go_enter Try.func19, Try.ntmps19
  go_upto_region 4 with fail
  rw [HW2.out]
  go_wp2
  go_ret
  exact HQ.out
/-- Rows of ints. -/
def il : Ly Int := ⟨1, fun x => [.int .i64 x], fun _ => rfl, fun x v h => by simp at h; subst h; rfl, by decide⟩
theorem tiI : Ti il 54 3 := ⟨Try.underlying54, Try.t3, .int .i64 0, hi3, rfl, rfl, by decide, rfl⟩
theorem AtL.ints {w : World} {a : Option Addr} {l : List Int} (h : AtL il w a l) : AtI w a l := by
  intro j hj
  obtain ⟨b, off, e, h0⟩ := h j hj
  have := h0 0 (by decide)
  refine ⟨b, off, e, ?_⟩
  rw [show off + j * il.n + 0 = off + j by show off + j * 1 + 0 = off + j; omega] at this
  exact this
/-- Half told. -/
structure OL (w : World) (O : List W) (k : Nat) (u : Value) (wr : World) : Prop where
  o : OwnL il 3 wr w.heap.size u ((O.take k).map (·.id))
  b : Below w.heap.size w wr
def OpOut (w : World) (O : List W) (e : Ending) (w' : World) : Prop := ∃ a cap, e = .returned (.slice a O.length cap) ∧ AtI w' a (O.map (·.id)) ∧ (∀ k, blk a k → w.heap.size ≤ k ∧ k < w'.heap.size) ∧ Below w.heap.size w w'
set_option maxRecDepth 100000 in
set_option maxHeartbeats 1000000 in
theorem open_any {w : World} {base b bt m : Nat} {vt vo : Value} {n : Nat} {me next : Int} {O : List W} {P : List E} {f : Int → Option (Int × ByteArray)} (h : CI w base b bt m vt vo n me next O P f) (hl : O.length ≤ 64) :
    Calls Try.prog 23 #[.pointer (some ⟨b, 0, none⟩)] w (OpOut w O) := by
  obtain ⟨⟨c0, c1, c2, c3, c4⟩, _⟩ := h.cells
  obtain ⟨a, cap, rfl, hx, _⟩ := h.own.at
  clear h
  go_enter Try.func23, Try.ntmps23
  go_wp2
  go_loopw [3, 13] (fun u i wr => ∃ k : Nat, k ≤ O.length ∧ i = .int .i64 k ∧ Hid (OL w O k u wr)) (fun _ i _ => O.length - (intOf i).toNat)
  case atStart => exact ⟨0, by omega, rfl, ⟨OwnL.nil _ _ _, Below.refl _ _⟩⟩
  case round =>
    obtain ⟨k, hk, rfl, HL⟩ := hrel
    by_cases hlt : k < O.length
    · obtain ⟨b0, off, rfl, d0, d1, d2, d3, d4⟩ := (hx.at'.keep HL.out.b).getW k hlt
      obtain ⟨a3, cap3, hv, _⟩ := HL.out.o.at
      have hlen : ((O.take k).map (·.id)).length = k := by simp; omega
      rw [hlen] at hv
      subst hv
      generalize hx0 : O[k].fr = x0 at *
      generalize hx1 : O[k].whom = x1 at *
      generalize hx2 : O[k].id = x2 at *
      generalize hx3 : O[k].sent = x3 at *
      generalize hx4 : O[k].body = x4 at *
      obtain ⟨W1, HW1⟩ : ∃ W1, Hid (wr.alloc (.cells #[.int .i64 x0, .int .i64 x1, .int .i64 x2, .int .i64 x3, .string x4] 74) = W1) := ⟨_, rfl⟩
      have hb1 : Below wr.heap.size wr W1 := by rw [← HW1.out]; exact bel1 wr _
      have hr1 : W1.heap[wr.heap.size]? = some (.cells #[.int .i64 x0, .int .i64 x1, .int .i64 x2, .int .i64 x3, .string x4] 74 (0, 0)) := by rw [← HW1.out]; exact heap_alloc_last wr _
      obtain ⟨⟨e0, e1, e2, e3, e4⟩, _⟩ := rw5 hr1
      have hB1 := bel_up HL.out.b hb1 (Nat.le_refl _)
      have hat : AtL il (W1.alloc (.cells #[.int .i64 x2] 3)) (some ⟨W1.heap.size, 0, none⟩) [x2] := atL_one (t := 3) (heap_alloc_last W1 _)
      obtain ⟨a4, cap4, w4, hrun, ho, hrw⟩ := run_appL_ty tiI (W1.alloc (.cells #[.int .i64 x2] 3)) w.heap.size (.slice a3 k cap3) ((O.take k).map (·.id)) [x2] W1.heap.size 0 1 1 ((HL.out.o.keep hb1).keep (bel1 W1 _)) hat rfl (by have := hB1.size; simp; omega) (by rw [hlen]; simp; omega)
      rw [hlen] at hrun ho hrw
      have HL4 : Hid (OL w O (k + 1) (.slice a4 (k + 1) cap4) w4) := by
        refine ⟨?_, Below.trans (bel_up hB1 (bel1 W1 _) (Nat.le_refl _)) (hrw.below (fun j hj => (HL.out.o.lt hj).1) (by have := hB1.size; simp; omega))⟩
        have : (O.take (k + 1)).map (·.id) = (O.take k).map (·.id) ++ [x2] := by rw [List.take_succ_eq_append_getElem hlt, List.map_append]; simp [hx2]
        rw [this]
        exact ho
      replace hrun : ∀ ty, (Builtin.append_ #[54, 54] ty #[.slice a3 k cap3, .slice (some ⟨W1.heap.size, 0, none⟩) 1 1]).run Try.prog (W1.alloc (.cells #[.int .i64 x2] 3)) = .ok (.slice a4 (k + 1) cap4) w4 := hrun
      clear HL hx hb1 hr1 hB1 hat ho hrw hlen hx0 hx1 hx2 hx3 hx4
      go_upto_region 7 with fail
      rw [HW1.out]
      go_wp2_with (at_builtin; refine wpList_append_known rfl _ _ 54 rfl _ _ rfl rfl _ _ (hrun _) ?_)
      go_roundw
      case rel => exact ⟨k + 1, by omega, by go_num, HL4⟩
      case measure => simp [intOf]; omega
    · have hkn : k = O.length := by omega
      subst hkn
      obtain ⟨a3, cap3, hv, hx3, hbl⟩ := HL.out.o.at
      have hlen : ((O.take O.length).map (·.id)) = O.map (·.id) := by simp
      rw [hlen] at hv hx3
      rw [List.length_map] at hv
      have HQ : Hid (OpOut w O (.returned (.slice a3 O.length cap3)) wr) := ⟨a3, cap3, rfl, hx3.at'.ints, fun j hj => ⟨(hbl j hj).1, (hbl j hj).2.2⟩, HL.out.b⟩
      subst hv
      clear HL hx hx3 hbl hlen
      go_wp2
      go_ret
      exact HQ.out
end Go.Proofs.Ytbgbdiiinggjnaa
