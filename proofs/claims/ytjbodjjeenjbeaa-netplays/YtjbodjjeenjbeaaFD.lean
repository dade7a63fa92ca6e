/-
  A field is laid, and read.
-/
import Derived.Test.YtjbodjjeenjbeaaFC
namespace Go.Proofs.Ytjbodjjeenjbeaa
open Go.RowKit
set_option linter.unusedVariables false

theorem row3 {w : World} {k : Nat} {v0 v1 v2 : Value} {t : TypeId} (h : w.heap[k]? = some (.cells #[v0, v1, v2] t (0, 0))) :
    w.cell? ⟨k, 0, none⟩ = some v0 ∧ w.cell? ⟨k, 1, none⟩ = some v1 ∧ w.cell? ⟨k, 2, none⟩ = some v2 :=
  ⟨by rw [cell_of_row w k 0 _ _ _ h]; rfl, by rw [cell_of_row w k 1 _ _ _ h]; rfl, by rw [cell_of_row w k 2 _ _ _ h]; rfl⟩
set_option maxRecDepth 100000 in
set_option maxHeartbeats 400000 in
theorem layByte_any (p j : Nat) (n : Int) (b : Nat) (a : Option Addr) (cap m : Nat) (st : Nat × List UInt8) (w : World) (hw : WS w b a cap m st) (hc : w.cell? ⟨p, j, none⟩ = some (.int .i64 n)) :
    Calls Try.prog 100 #[fv p j 72 73, .pointer (some ⟨b, 0, none⟩)] w fun x w' => x = .returned (.tuple #[]) ∧ WQ w b a m (M.byteW m st n) w' := by
  obtain ⟨W1, hW1⟩ : ∃ W1, w.alloc (.cells #[.pointer (some ⟨p, j, none⟩), .func (.func 72) #[] #[], .func (.func 73) #[] #[]] 124) = W1 := ⟨_, rfl⟩
  have HB : Hid (Below w.heap.size w W1) := Hid_of (show Below w.heap.size w W1 by rw [← hW1]; exact bel1 w _)
  have hc1 : W1.cell? ⟨p, j, none⟩ = some (.int .i64 n) := by rw [← hW1]; exact cell_up hc _
  obtain ⟨g0, g1, g2⟩ := row3 (w := W1) (k := w.heap.size) (by rw [← hW1]; exact heap_alloc_new w _)
  have cc := wbyte_any b a cap m st n W1.drew ((hw.keep HB.out).drewN 1)
  have HW := Hid_of hW1
  clear hw hc hW1
  unfold fv
  go_enter Try.func100, Try.ntmps100
  go_upto_region 1 with fail
  rw [HW.out]
  go_region_with (go_at_call 72; refine cc.mono ?_; rintro x w2 ⟨rfl, hq⟩)
  all_goals
    go_end0
    exact ⟨rfl, hq.pre (Below.drew HB.out)⟩
set_option maxRecDepth 100000 in
set_option maxHeartbeats 400000 in
theorem layInt_any (p j : Nat) (n : Int) (b : Nat) (a : Option Addr) (cap m : Nat) (st : Nat × List UInt8) (w : World) (hw : WS w b a cap m st) (hc : w.cell? ⟨p, j, none⟩ = some (.int .i64 n)) (hn : -9223372036854775808 ≤ n ∧ n ≤ 9223372036854775807) :
    Calls Try.prog 100 #[fv p j 63 64, .pointer (some ⟨b, 0, none⟩)] w fun x w' => x = .returned (.tuple #[]) ∧ WQ w b a m (M.lay m st (M.enc n)) w' := by
  obtain ⟨W1, hW1⟩ : ∃ W1, w.alloc (.cells #[.pointer (some ⟨p, j, none⟩), .func (.func 63) #[] #[], .func (.func 64) #[] #[]] 124) = W1 := ⟨_, rfl⟩
  have HB : Hid (Below w.heap.size w W1) := Hid_of (show Below w.heap.size w W1 by rw [← hW1]; exact bel1 w _)
  have hc1 : W1.cell? ⟨p, j, none⟩ = some (.int .i64 n) := by rw [← hW1]; exact cell_up hc _
  obtain ⟨g0, g1, g2⟩ := row3 (w := W1) (k := w.heap.size) (by rw [← hW1]; exact heap_alloc_new w _)
  have cc := wint_any b a cap m st n W1.drew ((hw.keep HB.out).drewN 1) hn
  have HW := Hid_of hW1
  clear hw hc hW1
  unfold fv
  go_enter Try.func100, Try.ntmps100
  go_upto_region 1 with fail
  rw [HW.out]
  go_region_with (go_at_call 63; refine cc.mono ?_; rintro x w2 ⟨rfl, hq⟩)
  all_goals
    go_end0
    exact ⟨rfl, hq.pre (Below.drew HB.out)⟩
set_option maxRecDepth 100000 in
set_option maxHeartbeats 400000 in
theorem layText_any (p j : Nat) (s : List UInt8) (b : Nat) (a : Option Addr) (cap m : Nat) (st : Nat × List UInt8) (w : World) (hw : WS w b a cap m st) (hc : w.cell? ⟨p, j, none⟩ = some (.string (ofL s))) (hn : s.length ≤ 1000000) :
    Calls Try.prog 102 #[fv p j 65 66, .pointer (some ⟨b, 0, none⟩)] w fun x w' => x = .returned (.tuple #[]) ∧ WQ w b a m (M.lay m st (M.encT s)) w' := by
  obtain ⟨W1, hW1⟩ : ∃ W1, w.alloc (.cells #[.pointer (some ⟨p, j, none⟩), .func (.func 65) #[] #[], .func (.func 66) #[] #[]] 133) = W1 := ⟨_, rfl⟩
  have HB : Hid (Below w.heap.size w W1) := Hid_of (show Below w.heap.size w W1 by rw [← hW1]; exact bel1 w _)
  have hc1 : W1.cell? ⟨p, j, none⟩ = some (.string (ofL s)) := by rw [← hW1]; exact cell_up hc _
  obtain ⟨g0, g1, g2⟩ := row3 (w := W1) (k := w.heap.size) (by rw [← hW1]; exact heap_alloc_new w _)
  have cc := wtext_any b a cap m st s W1.drew ((hw.keep HB.out).drewN 1) hn
  have HW := Hid_of hW1
  clear hw hc hW1
  unfold fv
  go_enter Try.func102, Try.ntmps102
  go_upto_region 1 with fail
  rw [HW.out]
  go_region_with (go_at_call 65; refine cc.mono ?_; rintro x w2 ⟨rfl, hq⟩)
  all_goals
    go_end0
    exact ⟨rfl, hq.pre (Below.drew HB.out)⟩
/-- What a read changes: the reader's block, the message's, and what is new. -/
structure Duo (p b : Nat) (w w' : World) : Prop where
  os : w'.os = w.os
  tape : w'.tape = w.tape
  output : w'.output = w.output
  size : w.heap.size ≤ w'.heap.size
  block : ∀ k, k < w.heap.size → k ≠ p → k ≠ b → w'.heap[k]? = w.heap[k]?
theorem Duo.trans {p b : Nat} {w w1 w2 : World} (h : Duo p b w w1) (k : Duo p b w1 w2) : Duo p b w w2 :=
  ⟨k.os.trans h.os, k.tape.trans h.tape, k.output.trans h.output, Nat.le_trans h.size k.size, fun i hi h1 h2 => (k.block i (Nat.lt_of_lt_of_le hi h.size) h1 h2).trans (h.block i hi h1 h2)⟩
theorem Duo.refl (p b : Nat) (w : World) : Duo p b w w := ⟨rfl, rfl, rfl, Nat.le_refl _, fun _ _ _ _ => rfl⟩
theorem Duo.below {p b B : Nat} {w0 w w' : World} (h : Duo p b w w') (h0 : Below B w0 w) (hB : B ≤ w0.heap.size) (hp : B ≤ p) (hb : B ≤ b) : Below B w0 w' :=
  ⟨h.os.trans h0.os, h.tape.trans h0.tape, h.output.trans h0.output, Nat.le_trans h0.size h.size, fun k hk => (h.block k (by have := h0.size; omega) (by omega) (by omega)).trans (h0.block k hk)⟩
theorem duo_read {w W1 w2 : World} {p j b : Nat} {cs : Array Value} {v : Value} (hB : Below w.heap.size w W1) (hg : W1.drew.grownBy w2 (some b)) (hp : w.heap[p]? = some (.cells cs 33 (0, 0))) :
    Duo p b w (w2.setCell ⟨p, j, none⟩ v) := by
  have hsz := hB.size
  have hg2 : W1.heap.size ≤ w2.heap.size := hg.size
  refine ⟨hg.os.trans hB.os, hg.tape.trans hB.tape, hg.output.trans hB.output, by simp [World.setCell]; omega, fun k hk h1 h2 => ?_⟩
  rw [heap_setCell_other _ ⟨p, j, none⟩ k _ h1]
  have := hg.block k (show k < W1.drew.heap.size by show k < W1.heap.size; omega) (by simpa using h2)
  exact this.trans (hB.block k hk)
set_option maxRecDepth 100000 in
set_option maxHeartbeats 400000 in
theorem readByte_any (p j b : Nat) (st : Option (List UInt8)) (cs : Array Value) (w : World) (hr : RS w b st) (hl : (lft st).length ≤ 140737488351232) (hp : w.heap[p]? = some (.cells cs 33 (0, 0))) (hj : j < cs.size) (hpb : p ≠ b) :
    Calls Try.prog 101 #[fv p j 72 73, .pointer (some ⟨b, 0, none⟩)] w fun x w' => x = .returned (.tuple #[]) ∧ RS w' b (nx (M.byte (lft st))) ∧ w'.heap[p]? = some (.cells (cs.setIfInBounds j (.int .i64 (vl 0 (M.byte (lft st))))) 33 (0, 0)) ∧ Duo p b w w' := by
  obtain ⟨W1, hW1⟩ : ∃ W1, w.alloc (.cells #[.pointer (some ⟨p, j, none⟩), .func (.func 72) #[] #[], .func (.func 73) #[] #[]] 124) = W1 := ⟨_, rfl⟩
  have hB1 : Below w.heap.size w W1 := by rw [← hW1]; exact bel1 w _
  have hlt := hr.lt
  have hlp : p < w.heap.size := (Array.getElem?_eq_some_iff.1 hp).1
  have hz1 : W1.heap.size = w.heap.size + 1 := by rw [← hW1]; simp
  have HR : Hid (W1.heap[w.heap.size]? = some (.cells #[.pointer (some ⟨p, j, none⟩), .func (.func 72) #[] #[], .func (.func 73) #[] #[]] 124 (0, 0))) := Hid_of (show W1.heap[w.heap.size]? = _ by rw [← hW1]; exact heap_alloc_new w _)
  have HP : Hid (W1.heap[p]? = some (.cells cs 33 (0, 0))) := Hid_of (bel_row hp hB1)
  have cc := byte_rs b st W1.drew (RS.keep (w := w) hr (hB1.block b hlt)) hl
  generalize ho : M.byte (lft st) = o at *
  have HO := Hid_of hp
  have HB := Hid_of hB1
  have HW := Hid_of hW1
  have HZ : Hid (p < w.heap.size ∧ b < w.heap.size ∧ p ≠ b ∧ W1.heap.size = w.heap.size + 1 ∧ j < cs.size) := ⟨hlp, hlt, hpb, hz1, hj⟩
  clear hr hp hB1 hW1 hlp hlt hpb hz1 hj hl ho
  unfold fv
  go_enter Try.func101, Try.ntmps101
  go_upto_region 1 with fail
  rw [HW.out]
  refine wp_region_held_drew (S := fun wq => wq.cell? ⟨w.heap.size, 0, none⟩ = some (.pointer (some ⟨p, j, none⟩)) ∧ wq.cell? ⟨w.heap.size, 2, none⟩ = some (.func (.func 73) #[] #[])) (by kernel_rfl) ⟨(row3 HR.out).1, (row3 HR.out).2.2⟩ (fun hHeld => ?_)
  refine wpAnyH_take (i := 0) (oi := ?p0) (v := ?v0) ?o0 (by kernel_rfl) (by kernel_rfl) (by kernel_rfl) ?q0 ?y0 hHeld ?r0
  case o0 => simp only [List.getElem?_toArray, List.getElem?_cons_zero]; rfl
  case q0 => exact fun _ _ _ h => h
  case y0 => (refine Or.inl ⟨rfl, ?_⟩; intro wq hq; obtain ⟨q0, q2⟩ := hq; go_simp; try with_reducible rfl)
  simp only [Act.put, List.setIfInBounds_toArray, List.set_cons_zero, List.set_cons_succ]
  refine wpAnyH_take (i := 1) (oi := ?p1) (v := ?v1) ?o1 (by kernel_rfl) (by kernel_rfl) (by kernel_rfl) ?q1 ?y1 hHeld ?r1
  case o1 => simp only [List.getElem?_toArray, List.getElem?_cons_succ, List.getElem?_cons_zero]; rfl
  case q1 => exact fun _ _ _ h => h
  case y1 => (refine Or.inl ⟨rfl, ?_⟩; intro wq hq; obtain ⟨q0, q2⟩ := hq; go_simp; try with_reducible rfl)
  simp only [Act.put, List.setIfInBounds_toArray, List.set_cons_zero, List.set_cons_succ]
  refine wpAnyH_take (i := 2) (oi := ?p2) (v := ?v2) ?o2 (by kernel_rfl) (by kernel_rfl) (by kernel_rfl) ?q2 ?y2 hHeld ?r2
  case o2 => simp only [List.getElem?_toArray, List.getElem?_cons_succ, List.getElem?_cons_zero]; rfl
  case q2 => exact fun _ _ _ h => h
  case y2 => (refine Or.inl ⟨rfl, ?_⟩; intro wq hq; obtain ⟨q0, q2⟩ := hq; go_simp; try with_reducible rfl)
  simp only [Act.put, List.setIfInBounds_toArray, List.set_cons_zero, List.set_cons_succ]
  refine wpAnyH_take (i := 3) (oi := ?p3) (v := ?v3) ?o3 (by kernel_rfl) (by kernel_rfl) (by kernel_rfl) ?q3 ?y3 hHeld ?r3
  case o3 => simp only [List.getElem?_toArray, List.getElem?_cons_succ, List.getElem?_cons_zero]; rfl
  case q3 => exact fun _ _ _ h => h
  case y3 => (refine Or.inl ⟨rfl, ?_⟩; intro wq hq; obtain ⟨q0, q2⟩ := hq; go_simp; try with_reducible rfl)
  simp only [Act.put, List.setIfInBounds_toArray, List.set_cons_zero, List.set_cons_succ]
  refine wpAnyH_take (i := 4) (oi := ?p4) (v := ?v4) ?o4 (by kernel_rfl) (by kernel_rfl) (by kernel_rfl) ?q4 ?y4 hHeld ?r4
  case o4 => simp only [List.getElem?_toArray, List.getElem?_cons_succ, List.getElem?_cons_zero]; rfl
  case q4 => exact fun _ _ _ h => h
  case y4 => (refine Or.inl ⟨rfl, ?_⟩; intro wq hq; obtain ⟨q0, q2⟩ := hq; go_simp; try with_reducible rfl)
  simp only [Act.put, List.setIfInBounds_toArray, List.set_cons_zero, List.set_cons_succ]
  refine wpAnyH_ready (rs := [5]) (by kernel_rfl) (by simp) ?_
  refine AllReadyH.cons (o := ?p5) ?o5 ?s5 AllReadyH.nil
  case o5 => simp only [List.getElem?_toArray, List.getElem?_cons_succ, List.getElem?_cons_zero]; rfl
  intro K hK
  go_simp
  refine cc.mono ?_
  rintro x w2 ⟨rfl, hs, hg⟩
  have hR2 : w2.heap[w.heap.size]? = some (.cells #[.pointer (some ⟨p, j, none⟩), .func (.func 72) #[] #[], .func (.func 73) #[] #[]] 124 (0, 0)) := (hg.block _ (show w.heap.size < W1.heap.size by have := HZ.out; omega) (by have := HZ.out; simp; omega)).trans HR.out
  have hP2 : w2.heap[p]? = some (.cells cs 33 (0, 0)) := (hg.block _ (show p < W1.heap.size by have := HZ.out; omega) (by have := HZ.out; simp; omega)).trans HP.out
  have HR2 := Hid_of hR2
  have HP2 := Hid_of hP2
  have HG := Hid_of hg
  have HS := Hid_of hs
  have hcp : w2.cell? ⟨p, j, none⟩ = some (cs[j]'HZ.out.2.2.2.2) := by rw [cell_of_row w2 p j _ _ _ hP2]; exact Array.getElem?_eq_getElem HZ.out.2.2.2.2
  have hfp : w2.frozen? ⟨p, j, none⟩ = false := frozen_of_row w2 p j _ _ hP2
  clear cc hs hg hR2 hP2
  refine hK.out _ _ ⟨(row3 HR2.out).1, (row3 HR2.out).2.2⟩ (fun hHeld => ?_)
  clear hK K
  refine wpAnyH_take (i := 6) (oi := ?p6) (v := ?v6) ?o6 (by kernel_rfl) (by kernel_rfl) (by kernel_rfl) ?q6 ?y6 hHeld ?r6
  case o6 => simp only [List.getElem?_toArray, List.getElem?_cons_succ, List.getElem?_cons_zero]; rfl
  case q6 => exact fun _ _ _ h => h
  case y6 => (refine Or.inl ⟨rfl, ?_⟩; intro wq hq; obtain ⟨q0, q2⟩ := hq; go_simp; try with_reducible rfl)
  simp only [Act.put, List.setIfInBounds_toArray, List.set_cons_zero, List.set_cons_succ]
  refine wpAnyH_ready (rs := [7]) (by kernel_rfl) (by simp) ?_
  refine AllReadyH.cons (o := ?p7) ?o7 ?s7 AllReadyH.nil
  case o7 => simp only [List.getElem?_toArray, List.getElem?_cons_succ, List.getElem?_cons_zero]; rfl
  intro K hK
  go_simp
  have HX : Hid ((w2.setCell ⟨p, j, none⟩ (.int .i64 (vl 0 o))).heap[w.heap.size]? = some (.cells #[.pointer (some ⟨p, j, none⟩), .func (.func 72) #[] #[], .func (.func 73) #[] #[]] 124 (0, 0))) := Hid_of ((heap_setCell_other w2 ⟨p, j, none⟩ w.heap.size _ (by have := HZ.out; show w.heap.size ≠ p; omega)).trans HR2.out)
  refine hK.out _ _ ⟨(row3 HX.out).1, (row3 HX.out).2.2⟩ (fun hHeld => ?_)
  clear hK K
  refine wpAnyH_done (by kernel_rfl) ?_ _
  go_end0
  refine ⟨rfl, HS.out.keep (heap_setCell_other w2 ⟨p, j, none⟩ b _ (by have := HZ.out; show b ≠ p; omega)), ?_, duo_read HB.out HG.out HO.out⟩
  exact heap_setCell_same w2 p j _ _ _ HP2.out
set_option maxRecDepth 100000 in
set_option maxHeartbeats 400000 in
theorem readInt_any (p j b : Nat) (st : Option (List UInt8)) (cs : Array Value) (w : World) (hr : RS w b st) (hl : (lft st).length ≤ 140737488351232) (hp : w.heap[p]? = some (.cells cs 33 (0, 0))) (hj : j < cs.size) (hpb : p ≠ b) :
    Calls Try.prog 101 #[fv p j 63 64, .pointer (some ⟨b, 0, none⟩)] w fun x w' => x = .returned (.tuple #[]) ∧ RS w' b (nx (M.int (lft st))) ∧ w'.heap[p]? = some (.cells (cs.setIfInBounds j (.int .i64 (vl 0 (M.int (lft st))))) 33 (0, 0)) ∧ Duo p b w w' := by
  obtain ⟨W1, hW1⟩ : ∃ W1, w.alloc (.cells #[.pointer (some ⟨p, j, none⟩), .func (.func 63) #[] #[], .func (.func 64) #[] #[]] 124) = W1 := ⟨_, rfl⟩
  have hB1 : Below w.heap.size w W1 := by rw [← hW1]; exact bel1 w _
  have hlt := hr.lt
  have hlp : p < w.heap.size := (Array.getElem?_eq_some_iff.1 hp).1
  have hz1 : W1.heap.size = w.heap.size + 1 := by rw [← hW1]; simp
  have HR : Hid (W1.heap[w.heap.size]? = some (.cells #[.pointer (some ⟨p, j, none⟩), .func (.func 63) #[] #[], .func (.func 64) #[] #[]] 124 (0, 0))) := Hid_of (show W1.heap[w.heap.size]? = _ by rw [← hW1]; exact heap_alloc_new w _)
  have HP : Hid (W1.heap[p]? = some (.cells cs 33 (0, 0))) := Hid_of (bel_row hp hB1)
  have cc := int_rs b st W1.drew (RS.keep (w := w) hr (hB1.block b hlt)) hl
  generalize ho : M.int (lft st) = o at *
  have HO := Hid_of hp
  have HB := Hid_of hB1
  have HW := Hid_of hW1
  have HZ : Hid (p < w.heap.size ∧ b < w.heap.size ∧ p ≠ b ∧ W1.heap.size = w.heap.size + 1 ∧ j < cs.size) := ⟨hlp, hlt, hpb, hz1, hj⟩
  clear hr hp hB1 hW1 hlp hlt hpb hz1 hj hl ho
  unfold fv
  go_enter Try.func101, Try.ntmps101
  go_upto_region 1 with fail
  rw [HW.out]
  refine wp_region_held_drew (S := fun wq => wq.cell? ⟨w.heap.size, 0, none⟩ = some (.pointer (some ⟨p, j, none⟩)) ∧ wq.cell? ⟨w.heap.size, 2, none⟩ = some (.func (.func 64) #[] #[])) (by kernel_rfl) ⟨(row3 HR.out).1, (row3 HR.out).2.2⟩ (fun hHeld => ?_)
  refine wpAnyH_take (i := 0) (oi := ?p0) (v := ?v0) ?o0 (by kernel_rfl) (by kernel_rfl) (by kernel_rfl) ?q0 ?y0 hHeld ?r0
  case o0 => simp only [List.getElem?_toArray, List.getElem?_cons_zero]; rfl
  case q0 => exact fun _ _ _ h => h
  case y0 => (refine Or.inl ⟨rfl, ?_⟩; intro wq hq; obtain ⟨q0, q2⟩ := hq; go_simp; try with_reducible rfl)
  simp only [Act.put, List.setIfInBounds_toArray, List.set_cons_zero, List.set_cons_succ]
  refine wpAnyH_take (i := 1) (oi := ?p1) (v := ?v1) ?o1 (by kernel_rfl) (by kernel_rfl) (by kernel_rfl) ?q1 ?y1 hHeld ?r1
  case o1 => simp only [List.getElem?_toArray, List.getElem?_cons_succ, List.getElem?_cons_zero]; rfl
  case q1 => exact fun _ _ _ h => h
  case y1 => (refine Or.inl ⟨rfl, ?_⟩; intro wq hq; obtain ⟨q0, q2⟩ := hq; go_simp; try with_reducible rfl)
  simp only [Act.put, List.setIfInBounds_toArray, List.set_cons_zero, List.set_cons_succ]
  refine wpAnyH_take (i := 2) (oi := ?p2) (v := ?v2) ?o2 (by kernel_rfl) (by kernel_rfl) (by kernel_rfl) ?q2 ?y2 hHeld ?r2
  case o2 => simp only [List.getElem?_toArray, List.getElem?_cons_succ, List.getElem?_cons_zero]; rfl
  case q2 => exact fun _ _ _ h => h
  case y2 => (refine Or.inl ⟨rfl, ?_⟩; intro wq hq; obtain ⟨q0, q2⟩ := hq; go_simp; try with_reducible rfl)
  simp only [Act.put, List.setIfInBounds_toArray, List.set_cons_zero, List.set_cons_succ]
  refine wpAnyH_take (i := 3) (oi := ?p3) (v := ?v3) ?o3 (by kernel_rfl) (by kernel_rfl) (by kernel_rfl) ?q3 ?y3 hHeld ?r3
  case o3 => simp only [List.getElem?_toArray, List.getElem?_cons_succ, List.getElem?_cons_zero]; rfl
  case q3 => exact fun _ _ _ h => h
  case y3 => (refine Or.inl ⟨rfl, ?_⟩; intro wq hq; obtain ⟨q0, q2⟩ := hq; go_simp; try with_reducible rfl)
  simp only [Act.put, List.setIfInBounds_toArray, List.set_cons_zero, List.set_cons_succ]
  refine wpAnyH_take (i := 4) (oi := ?p4) (v := ?v4) ?o4 (by kernel_rfl) (by kernel_rfl) (by kernel_rfl) ?q4 ?y4 hHeld ?r4
  case o4 => simp only [List.getElem?_toArray, List.getElem?_cons_succ, List.getElem?_cons_zero]; rfl
  case q4 => exact fun _ _ _ h => h
  case y4 => (refine Or.inl ⟨rfl, ?_⟩; intro wq hq; obtain ⟨q0, q2⟩ := hq; go_simp; try with_reducible rfl)
  simp only [Act.put, List.setIfInBounds_toArray, List.set_cons_zero, List.set_cons_succ]
  refine wpAnyH_ready (rs := [5]) (by kernel_rfl) (by simp) ?_
  refine AllReadyH.cons (o := ?p5) ?o5 ?s5 AllReadyH.nil
  case o5 => simp only [List.getElem?_toArray, List.getElem?_cons_succ, List.getElem?_cons_zero]; rfl
  intro K hK
  go_simp
  refine cc.mono ?_
  rintro x w2 ⟨rfl, hs, hg⟩
  have hR2 : w2.heap[w.heap.size]? = some (.cells #[.pointer (some ⟨p, j, none⟩), .func (.func 63) #[] #[], .func (.func 64) #[] #[]] 124 (0, 0)) := (hg.block _ (show w.heap.size < W1.heap.size by have := HZ.out; omega) (by have := HZ.out; simp; omega)).trans HR.out
  have hP2 : w2.heap[p]? = some (.cells cs 33 (0, 0)) := (hg.block _ (show p < W1.heap.size by have := HZ.out; omega) (by have := HZ.out; simp; omega)).trans HP.out
  have HR2 := Hid_of hR2
  have HP2 := Hid_of hP2
  have HG := Hid_of hg
  have HS := Hid_of hs
  have hcp : w2.cell? ⟨p, j, none⟩ = some (cs[j]'HZ.out.2.2.2.2) := by rw [cell_of_row w2 p j _ _ _ hP2]; exact Array.getElem?_eq_getElem HZ.out.2.2.2.2
  have hfp : w2.frozen? ⟨p, j, none⟩ = false := frozen_of_row w2 p j _ _ hP2
  clear cc hs hg hR2 hP2
  refine hK.out _ _ ⟨(row3 HR2.out).1, (row3 HR2.out).2.2⟩ (fun hHeld => ?_)
  clear hK K
  refine wpAnyH_take (i := 6) (oi := ?p6) (v := ?v6) ?o6 (by kernel_rfl) (by kernel_rfl) (by kernel_rfl) ?q6 ?y6 hHeld ?r6
  case o6 => simp only [List.getElem?_toArray, List.getElem?_cons_succ, List.getElem?_cons_zero]; rfl
  case q6 => exact fun _ _ _ h => h
  case y6 => (refine Or.inl ⟨rfl, ?_⟩; intro wq hq; obtain ⟨q0, q2⟩ := hq; go_simp; try with_reducible rfl)
  simp only [Act.put, List.setIfInBounds_toArray, List.set_cons_zero, List.set_cons_succ]
  refine wpAnyH_ready (rs := [7]) (by kernel_rfl) (by simp) ?_
  refine AllReadyH.cons (o := ?p7) ?o7 ?s7 AllReadyH.nil
  case o7 => simp only [List.getElem?_toArray, List.getElem?_cons_succ, List.getElem?_cons_zero]; rfl
  intro K hK
  go_simp
  have HX : Hid ((w2.setCell ⟨p, j, none⟩ (.int .i64 (vl 0 o))).heap[w.heap.size]? = some (.cells #[.pointer (some ⟨p, j, none⟩), .func (.func 63) #[] #[], .func (.func 64) #[] #[]] 124 (0, 0))) := Hid_of ((heap_setCell_other w2 ⟨p, j, none⟩ w.heap.size _ (by have := HZ.out; show w.heap.size ≠ p; omega)).trans HR2.out)
  refine hK.out _ _ ⟨(row3 HX.out).1, (row3 HX.out).2.2⟩ (fun hHeld => ?_)
  clear hK K
  refine wpAnyH_done (by kernel_rfl) ?_ _
  go_end0
  refine ⟨rfl, HS.out.keep (heap_setCell_other w2 ⟨p, j, none⟩ b _ (by have := HZ.out; show b ≠ p; omega)), ?_, duo_read HB.out HG.out HO.out⟩
  exact heap_setCell_same w2 p j _ _ _ HP2.out
set_option maxRecDepth 100000 in
set_option maxHeartbeats 400000 in
theorem readText_any (p j b : Nat) (st : Option (List UInt8)) (cs : Array Value) (w : World) (hr : RS w b st) (hl : (lft st).length ≤ 140737488351232) (hp : w.heap[p]? = some (.cells cs 33 (0, 0))) (hj : j < cs.size) (hpb : p ≠ b) :
    Calls Try.prog 103 #[fv p j 65 66, .pointer (some ⟨b, 0, none⟩)] w fun x w' => x = .returned (.tuple #[]) ∧ RS w' b (nx (M.text (lft st))) ∧ w'.heap[p]? = some (.cells (cs.setIfInBounds j (.string (ofL (vl [] (M.text (lft st)))))) 33 (0, 0)) ∧ Duo p b w w' := by
  obtain ⟨W1, hW1⟩ : ∃ W1, w.alloc (.cells #[.pointer (some ⟨p, j, none⟩), .func (.func 65) #[] #[], .func (.func 66) #[] #[]] 133) = W1 := ⟨_, rfl⟩
  have hB1 : Below w.heap.size w W1 := by rw [← hW1]; exact bel1 w _
  have hlt := hr.lt
  have hlp : p < w.heap.size := (Array.getElem?_eq_some_iff.1 hp).1
  have hz1 : W1.heap.size = w.heap.size + 1 := by rw [← hW1]; simp
  have HR : Hid (W1.heap[w.heap.size]? = some (.cells #[.pointer (some ⟨p, j, none⟩), .func (.func 65) #[] #[], .func (.func 66) #[] #[]] 133 (0, 0))) := Hid_of (show W1.heap[w.heap.size]? = _ by rw [← hW1]; exact heap_alloc_new w _)
  have HP : Hid (W1.heap[p]? = some (.cells cs 33 (0, 0))) := Hid_of (bel_row hp hB1)
  have cc := text_any b st W1.drew (RS.keep (w := w) hr (hB1.block b hlt)) hl
  generalize ho : M.text (lft st) = o at *
  have HO := Hid_of hp
  have HB := Hid_of hB1
  have HW := Hid_of hW1
  have HZ : Hid (p < w.heap.size ∧ b < w.heap.size ∧ p ≠ b ∧ W1.heap.size = w.heap.size + 1 ∧ j < cs.size) := ⟨hlp, hlt, hpb, hz1, hj⟩
  clear hr hp hB1 hW1 hlp hlt hpb hz1 hj hl ho
  unfold fv
  go_enter Try.func103, Try.ntmps103
  go_upto_region 1 with fail
  rw [HW.out]
  refine wp_region_held_drew (S := fun wq => wq.cell? ⟨w.heap.size, 0, none⟩ = some (.pointer (some ⟨p, j, none⟩)) ∧ wq.cell? ⟨w.heap.size, 2, none⟩ = some (.func (.func 66) #[] #[])) (by kernel_rfl) ⟨(row3 HR.out).1, (row3 HR.out).2.2⟩ (fun hHeld => ?_)
  refine wpAnyH_take (i := 0) (oi := ?p0) (v := ?v0) ?o0 (by kernel_rfl) (by kernel_rfl) (by kernel_rfl) ?q0 ?y0 hHeld ?r0
  case o0 => simp only [List.getElem?_toArray, List.getElem?_cons_zero]; rfl
  case q0 => exact fun _ _ _ h => h
  case y0 => (refine Or.inl ⟨rfl, ?_⟩; intro wq hq; obtain ⟨q0, q2⟩ := hq; go_simp; try with_reducible rfl)
  simp only [Act.put, List.setIfInBounds_toArray, List.set_cons_zero, List.set_cons_succ]
  refine wpAnyH_take (i := 1) (oi := ?p1) (v := ?v1) ?o1 (by kernel_rfl) (by kernel_rfl) (by kernel_rfl) ?q1 ?y1 hHeld ?r1
  case o1 => simp only [List.getElem?_toArray, List.getElem?_cons_succ, List.getElem?_cons_zero]; rfl
  case q1 => exact fun _ _ _ h => h
  case y1 => (refine Or.inl ⟨rfl, ?_⟩; intro wq hq; obtain ⟨q0, q2⟩ := hq; go_simp; try with_reducible rfl)
  simp only [Act.put, List.setIfInBounds_toArray, List.set_cons_zero, List.set_cons_succ]
  refine wpAnyH_take (i := 2) (oi := ?p2) (v := ?v2) ?o2 (by kernel_rfl) (by kernel_rfl) (by kernel_rfl) ?q2 ?y2 hHeld ?r2
  case o2 => simp only [List.getElem?_toArray, List.getElem?_cons_succ, List.getElem?_cons_zero]; rfl
  case q2 => exact fun _ _ _ h => h
  case y2 => (refine Or.inl ⟨rfl, ?_⟩; intro wq hq; obtain ⟨q0, q2⟩ := hq; go_simp; try with_reducible rfl)
  simp only [Act.put, List.setIfInBounds_toArray, List.set_cons_zero, List.set_cons_succ]
  refine wpAnyH_take (i := 3) (oi := ?p3) (v := ?v3) ?o3 (by kernel_rfl) (by kernel_rfl) (by kernel_rfl) ?q3 ?y3 hHeld ?r3
  case o3 => simp only [List.getElem?_toArray, List.getElem?_cons_succ, List.getElem?_cons_zero]; rfl
  case q3 => exact fun _ _ _ h => h
  case y3 => (refine Or.inl ⟨rfl, ?_⟩; intro wq hq; obtain ⟨q0, q2⟩ := hq; go_simp; try with_reducible rfl)
  simp only [Act.put, List.setIfInBounds_toArray, List.set_cons_zero, List.set_cons_succ]
  refine wpAnyH_take (i := 4) (oi := ?p4) (v := ?v4) ?o4 (by kernel_rfl) (by kernel_rfl) (by kernel_rfl) ?q4 ?y4 hHeld ?r4
  case o4 => simp only [List.getElem?_toArray, List.getElem?_cons_succ, List.getElem?_cons_zero]; rfl
  case q4 => exact fun _ _ _ h => h
  case y4 => (refine Or.inl ⟨rfl, ?_⟩; intro wq hq; obtain ⟨q0, q2⟩ := hq; go_simp; try with_reducible rfl)
  simp only [Act.put, List.setIfInBounds_toArray, List.set_cons_zero, List.set_cons_succ]
  refine wpAnyH_ready (rs := [5]) (by kernel_rfl) (by simp) ?_
  refine AllReadyH.cons (o := ?p5) ?o5 ?s5 AllReadyH.nil
  case o5 => simp only [List.getElem?_toArray, List.getElem?_cons_succ, List.getElem?_cons_zero]; rfl
  intro K hK
  go_simp
  refine cc.mono ?_
  rintro x w2 ⟨rfl, hs, hg⟩
  have hR2 : w2.heap[w.heap.size]? = some (.cells #[.pointer (some ⟨p, j, none⟩), .func (.func 65) #[] #[], .func (.func 66) #[] #[]] 133 (0, 0)) := (hg.block _ (show w.heap.size < W1.heap.size by have := HZ.out; omega) (by have := HZ.out; simp; omega)).trans HR.out
  have hP2 : w2.heap[p]? = some (.cells cs 33 (0, 0)) := (hg.block _ (show p < W1.heap.size by have := HZ.out; omega) (by have := HZ.out; simp; omega)).trans HP.out
  have HR2 := Hid_of hR2
  have HP2 := Hid_of hP2
  have HG := Hid_of hg
  have HS := Hid_of hs
  have hcp : w2.cell? ⟨p, j, none⟩ = some (cs[j]'HZ.out.2.2.2.2) := by rw [cell_of_row w2 p j _ _ _ hP2]; exact Array.getElem?_eq_getElem HZ.out.2.2.2.2
  have hfp : w2.frozen? ⟨p, j, none⟩ = false := frozen_of_row w2 p j _ _ hP2
  clear cc hs hg hR2 hP2
  refine hK.out _ _ ⟨(row3 HR2.out).1, (row3 HR2.out).2.2⟩ (fun hHeld => ?_)
  clear hK K
  refine wpAnyH_take (i := 6) (oi := ?p6) (v := ?v6) ?o6 (by kernel_rfl) (by kernel_rfl) (by kernel_rfl) ?q6 ?y6 hHeld ?r6
  case o6 => simp only [List.getElem?_toArray, List.getElem?_cons_succ, List.getElem?_cons_zero]; rfl
  case q6 => exact fun _ _ _ h => h
  case y6 => (refine Or.inl ⟨rfl, ?_⟩; intro wq hq; obtain ⟨q0, q2⟩ := hq; go_simp; try with_reducible rfl)
  simp only [Act.put, List.setIfInBounds_toArray, List.set_cons_zero, List.set_cons_succ]
  refine wpAnyH_ready (rs := [7]) (by kernel_rfl) (by simp) ?_
  refine AllReadyH.cons (o := ?p7) ?o7 ?s7 AllReadyH.nil
  case o7 => simp only [List.getElem?_toArray, List.getElem?_cons_succ, List.getElem?_cons_zero]; rfl
  intro K hK
  go_simp
  have HX : Hid ((w2.setCell ⟨p, j, none⟩ (.string (ofL (vl [] o)))).heap[w.heap.size]? = some (.cells #[.pointer (some ⟨p, j, none⟩), .func (.func 65) #[] #[], .func (.func 66) #[] #[]] 133 (0, 0))) := Hid_of ((heap_setCell_other w2 ⟨p, j, none⟩ w.heap.size _ (by have := HZ.out; show w.heap.size ≠ p; omega)).trans HR2.out)
  refine hK.out _ _ ⟨(row3 HX.out).1, (row3 HX.out).2.2⟩ (fun hHeld => ?_)
  clear hK K
  refine wpAnyH_done (by kernel_rfl) ?_ _
  go_end0
  refine ⟨rfl, HS.out.keep (heap_setCell_other w2 ⟨p, j, none⟩ b _ (by have := HZ.out; show b ≠ p; omega)), ?_, duo_read HB.out HG.out HO.out⟩
  exact heap_setCell_same w2 p j _ _ _ HP2.out
end Go.Proofs.Ytjbodjjeenjbeaa
