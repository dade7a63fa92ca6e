/-
  The document's writer: what is laid, whatever its kind, and what Done tells.
-/
import Derived.Test.YtanpplndoemgoaaP
import Derived.Deep.RegionHeld3
namespace Go.Proofs.Ytanpplndoemgoaa
open Go.RowKit
set_option linter.unusedVariables false

theorem row3 {w : World} {k : Nat} {v0 v1 v2 : Value} {t : TypeId} (h : w.heap[k]? = some (.cells #[v0, v1, v2] t (0, 0))) :
    w.cell? ⟨k, 0, none⟩ = some v0 ∧ w.cell? ⟨k, 1, none⟩ = some v1 ∧ w.cell? ⟨k, 2, none⟩ = some v2 ∧ w.frozen? ⟨k, 0, none⟩ = false ∧ w.frozen? ⟨k, 1, none⟩ = false ∧ w.frozen? ⟨k, 2, none⟩ = false :=
  ⟨by rw [cell_of_row w k 0 _ _ _ h]; rfl, by rw [cell_of_row w k 1 _ _ _ h]; rfl, by rw [cell_of_row w k 2 _ _ _ h]; rfl, frozen_of_row w k 0 _ _ h, frozen_of_row w k 1 _ _ h, frozen_of_row w k 2 _ _ h⟩
theorem rowset3 {w : World} {k : Nat} {v0 v1 v2 : Value} {t : TypeId} (h : w.heap[k]? = some (.cells #[v0, v1, v2] t (0, 0))) (a b c : Value) : (((w.setCell ⟨k, 0, none⟩ a).setCell ⟨k, 1, none⟩ b).setCell ⟨k, 2, none⟩ c).heap[k]? = some (.cells #[a, b, c] t (0, 0)) :=
  heap_setCell_same _ k 2 _ _ c (heap_setCell_same _ k 1 _ _ b (heap_setCell_same w k 0 _ _ a h))
theorem rowoth3 (w : World) (k j : Nat) (a b c : Value) (h : j ≠ k) : (((w.setCell ⟨k, 0, none⟩ a).setCell ⟨k, 1, none⟩ b).setCell ⟨k, 2, none⟩ c).heap[j]? = w.heap[j]? := by
  rw [heap_setCell_other _ ⟨k, 2, none⟩ j _ h, heap_setCell_other _ ⟨k, 1, none⟩ j _ h, heap_setCell_other _ ⟨k, 0, none⟩ j _ h]
theorem set3 {w : World} {k y j : Nat} {v a b c : Value} (h : w.cell? ⟨y, j, none⟩ = some v) (hne : y ≠ k) : (((w.setCell ⟨k, 0, none⟩ a).setCell ⟨k, 1, none⟩ b).setCell ⟨k, 2, none⟩ c).cell? ⟨y, j, none⟩ = some v :=
  (World.cell?_of_block (w := w) (a := ⟨y, j, none⟩) (rowoth3 w k y a b c hne)).trans h

/-- The document's writer: its error, its bytes (which stay behind an error). -/
def rl (m : Nat) (p : Nat × List UInt8) (t : List UInt8) : Nat × List UInt8 :=
  if p.1 ≠ 0 then p else if m < p.2.length + t.length then (2, p.2) else (0, p.2 ++ t)
theorem rl_bad (m e : Nat) (s t : List UInt8) (h : e ≠ 0) : rl m (e, s) t = (e, s) := by rw [rl, if_pos h]
theorem rl_over (m : Nat) (s t : List UInt8) (h : m < s.length + t.length) : rl m (0, s) t = (2, s) := by simp [rl, h]
theorem rl_fits (m : Nat) (s t : List UInt8) (h : ¬ m < s.length + t.length) : rl m (0, s) t = (0, s ++ t) := by simp [rl, h]
theorem f34_res : Try.f34.results = #[.cell 4 28] := rfl
theorem f33_res : Try.f33.results = #[.cell 4 28] := rfl
theorem f13_res : Try.f13.results = #[.cell 4 28] := rfl
theorem f11_res : Try.f11.results = #[.cell 2 28] := rfl
theorem Try.size28 : (Try.prog.info? 28).map (·.size) = some 3 := by kernel_rfl
theorem Try.und28 : ∃ fs, Try.prog.underlying 28 = some (.struct fs) := ⟨_, Try.underlying28⟩

set_option maxRecDepth 100000 in
set_option maxHeartbeats 1000000 in
theorem refLay_any (m e : Nat) (s t : List UInt8) (w : World) (hm : m ≤ 65536) (hs : s.length ≤ 65536) (ht : t.length ≤ 100000000) :
    Calls Try.prog 34 #[.agg #[.int .i64 (m : Int), .int .i64 (e : Int), .string (ofL s)], .string (ofL t)] w fun x w' => x = .returned (.agg #[.int .i64 (m : Int), .int .i64 ((rl m (e, s) t).1 : Nat), .string (ofL (rl m (e, s) t).2)]) ∧ Below w.heap.size w w' := by
  have hsz := ofL_size s
  have hszt := ofL_size t
  obtain ⟨fs, hf⟩ := Try.und28
  by_cases he : e = 0
  · subst he
    by_cases ho : m < s.length + t.length
    · rw [rl_over m s t ho]
      have hd : ((m : Int) - (s.length : Int) < (t.length : Int)) := by omega
      go_enter Try.func34, Try.ntmps34
      go_wp2
      refine bodyPost_ret (v := .agg #[.int .i64 (m : Int), .int .i64 2, .string (ofL s)]) ?_ rfl ⟨rfl, ((Below.refl w.heap.size w).alloc (Nat.le_refl _) _).alloc (by simp) _⟩
      exact results_cell_row f34_res _ _ (w.heap.size + 1) 28 _ (0, 0) _ rfl (heap_alloc2_new w _ _) hf rfl Try.size28
    · rw [rl_fits m s t ho]
      have hd : ¬ ((m : Int) - (s.length : Int) < (t.length : Int)) := by omega
      have happ := ofL_app s t
      go_enter Try.func34, Try.ntmps34
      go_wp2
      refine bodyPost_ret (v := .agg #[.int .i64 (m : Int), .int .i64 0, .string (ofL (s ++ t))]) ?_ rfl ⟨rfl, ((Below.refl w.heap.size w).alloc (Nat.le_refl _) _).alloc (by simp) _⟩
      exact results_cell_row f34_res _ _ (w.heap.size + 1) 28 _ (0, 0) _ rfl (heap_alloc2_new w _ _) hf rfl Try.size28
  · rw [rl_bad m e s t he]
    have hd : ((e : Int) != 0) = true := by simpa using he
    go_enter Try.func34, Try.ntmps34
    go_wp2
    refine bodyPost_ret (v := .agg #[.int .i64 (m : Int), .int .i64 (e : Int), .string (ofL s)]) ?_ rfl ⟨rfl, ((Below.refl w.heap.size w).alloc (Nat.le_refl _) _).alloc (by simp) _⟩
    exact results_cell_row f34_res _ _ (w.heap.size + 1) 28 _ (0, 0) _ rfl (heap_alloc2_new w _ _) hf rfl Try.size28

set_option maxRecDepth 100000 in
set_option maxHeartbeats 2000000 in
theorem laid_text (m e : Nat) (s : List UInt8) (n : Int) (text : List UInt8) (ints : List Int) (texts : List (List UInt8)) (ia ta : Option Addr) (icap tcap : Nat) (w : World) (hm : m ≤ 65536) (hs : s.length ≤ 65536)
    (kd : Int) (pt : Parts w kd n text ints texts ia ta) :
    Calls Try.prog 13 #[.agg #[.int .i64 (m : Int), .int .i64 (e : Int), .string (ofL s)], .agg #[.int .i64 2, .int .i64 n, .string (ofL text), .slice ia ints.length icap, .slice ta texts.length tcap]] w fun x w' => x = .returned (.agg #[.int .i64 (m : Int), .int .i64 ((rl m (e, s) (M.encT text)).1 : Nat), .string (ofL (rl m (e, s) (M.encT text)).2)]) ∧ Below w.heap.size w w' := by
  obtain ⟨pn, p1, p2, p3, p4, pB, hI, hT⟩ := pt
  have B3 : Below w.heap.size w (((w.alloc (.cells #[.int .i64 (m : Int), .int .i64 (e : Int), .string (ofL s)] 28)).alloc (.cells #[.int .i64 2, .int .i64 n, .string (ofL text), .slice ia ints.length icap, .slice ta texts.length tcap] 34)).alloc (.cells #[.int .i64 0, .int .i64 0, .string { data := #[] }] 28)).drew := ((((Below.refl w.heap.size w).alloc (Nat.le_refl _) _).alloc (by simp) _).alloc (by simp; omega) _).drew
  have gA : (((w.alloc (.cells #[.int .i64 (m : Int), .int .i64 (e : Int), .string (ofL s)] 28)).alloc (.cells #[.int .i64 2, .int .i64 n, .string (ofL text), .slice ia ints.length icap, .slice ta texts.length tcap] 34)).alloc (.cells #[.int .i64 0, .int .i64 0, .string { data := #[] }] 28)).drew.heap[w.heap.size]? = some (.cells #[.int .i64 (m : Int), .int .i64 (e : Int), .string (ofL s)] 28) := by
    show (((w.alloc (.cells #[.int .i64 (m : Int), .int .i64 (e : Int), .string (ofL s)] 28)).alloc (.cells #[.int .i64 2, .int .i64 n, .string (ofL text), .slice ia ints.length icap, .slice ta texts.length tcap] 34)).alloc (.cells #[.int .i64 0, .int .i64 0, .string { data := #[] }] 28)).heap[w.heap.size]? = _
    rw [Below.heap_alloc _ _ _ (by simp; omega)]; exact heap_alloc2_old w _ _
  have gI : (((w.alloc (.cells #[.int .i64 (m : Int), .int .i64 (e : Int), .string (ofL s)] 28)).alloc (.cells #[.int .i64 2, .int .i64 n, .string (ofL text), .slice ia ints.length icap, .slice ta texts.length tcap] 34)).alloc (.cells #[.int .i64 0, .int .i64 0, .string { data := #[] }] 28)).drew.heap[w.heap.size + 1]? = some (.cells #[.int .i64 2, .int .i64 n, .string (ofL text), .slice ia ints.length icap, .slice ta texts.length tcap] 34) := by
    show (((w.alloc (.cells #[.int .i64 (m : Int), .int .i64 (e : Int), .string (ofL s)] 28)).alloc (.cells #[.int .i64 2, .int .i64 n, .string (ofL text), .slice ia ints.length icap, .slice ta texts.length tcap] 34)).alloc (.cells #[.int .i64 0, .int .i64 0, .string { data := #[] }] 28)).heap[w.heap.size + 1]? = _
    rw [Below.heap_alloc _ _ _ (by simp)]; exact heap_alloc2_new w _ _
  have gC : (((w.alloc (.cells #[.int .i64 (m : Int), .int .i64 (e : Int), .string (ofL s)] 28)).alloc (.cells #[.int .i64 2, .int .i64 n, .string (ofL text), .slice ia ints.length icap, .slice ta texts.length tcap] 34)).alloc (.cells #[.int .i64 0, .int .i64 0, .string { data := #[] }] 28)).drew.heap[w.heap.size + 2]? = some (.cells #[.int .i64 0, .int .i64 0, .string { data := #[] }] 28) := by
    have h := heap_alloc_new ((w.alloc (.cells #[.int .i64 (m : Int), .int .i64 (e : Int), .string (ofL s)] 28)).alloc (.cells #[.int .i64 2, .int .i64 n, .string (ofL text), .slice ia ints.length icap, .slice ta texts.length tcap] 34)) (.cells #[.int .i64 0, .int .i64 0, .string { data := #[] }] 28)
    rw [show ((w.alloc (.cells #[.int .i64 (m : Int), .int .i64 (e : Int), .string (ofL s)] 28)).alloc (.cells #[.int .i64 2, .int .i64 n, .string (ofL text), .slice ia ints.length icap, .slice ta texts.length tcap] 34)).heap.size = w.heap.size + 2 by simp] at h
    exact h
  have HZ3 : Hid ((((w.alloc (.cells #[.int .i64 (m : Int), .int .i64 (e : Int), .string (ofL s)] 28)).alloc (.cells #[.int .i64 2, .int .i64 n, .string (ofL text), .slice ia ints.length icap, .slice ta texts.length tcap] 34)).alloc (.cells #[.int .i64 0, .int .i64 0, .string { data := #[] }] 28)).drew.heap.size = w.heap.size + 3) := by show _ = _; simp
  obtain ⟨cA0, cA1, cA2, _⟩ := row3 gA
  have cI : (((w.alloc (.cells #[.int .i64 (m : Int), .int .i64 (e : Int), .string (ofL s)] 28)).alloc (.cells #[.int .i64 2, .int .i64 n, .string (ofL text), .slice ia ints.length icap, .slice ta texts.length tcap] 34)).alloc (.cells #[.int .i64 0, .int .i64 0, .string { data := #[] }] 28)).drew.cell? ⟨w.heap.size + 1, 2, none⟩ = some (.string (ofL text)) := by rw [cell_of_row _ _ _ _ _ _ gI]; rfl
  have hI3 := hI.keep B3
  have hT3 := hT.keep B3
  have htl : (M.encT text).length ≤ 100000000 := by have := M.enc_ten text.length (by omega); rw [M.encT, List.length_append]; omega
  have HH : Hid ((((w.alloc (.cells #[.int .i64 (m : Int), .int .i64 (e : Int), .string (ofL s)] 28)).alloc (.cells #[.int .i64 2, .int .i64 n, .string (ofL text), .slice ia ints.length icap, .slice ta texts.length tcap] 34)).alloc (.cells #[.int .i64 0, .int .i64 0, .string { data := #[] }] 28)).drew.cell? ⟨w.heap.size, 0, none⟩ = some (.int .i64 (m : Int)) ∧ (((w.alloc (.cells #[.int .i64 (m : Int), .int .i64 (e : Int), .string (ofL s)] 28)).alloc (.cells #[.int .i64 2, .int .i64 n, .string (ofL text), .slice ia ints.length icap, .slice ta texts.length tcap] 34)).alloc (.cells #[.int .i64 0, .int .i64 0, .string { data := #[] }] 28)).drew.cell? ⟨w.heap.size, 1, none⟩ = some (.int .i64 (e : Int)) ∧ (((w.alloc (.cells #[.int .i64 (m : Int), .int .i64 (e : Int), .string (ofL s)] 28)).alloc (.cells #[.int .i64 2, .int .i64 n, .string (ofL text), .slice ia ints.length icap, .slice ta texts.length tcap] 34)).alloc (.cells #[.int .i64 0, .int .i64 0, .string { data := #[] }] 28)).drew.cell? ⟨w.heap.size, 2, none⟩ = some (.string (ofL s)) ∧ (((w.alloc (.cells #[.int .i64 (m : Int), .int .i64 (e : Int), .string (ofL s)] 28)).alloc (.cells #[.int .i64 2, .int .i64 n, .string (ofL text), .slice ia ints.length icap, .slice ta texts.length tcap] 34)).alloc (.cells #[.int .i64 0, .int .i64 0, .string { data := #[] }] 28)).drew.cell? ⟨w.heap.size + 1, 2, none⟩ = some (.string (ofL text))) := ⟨cA0, cA1, cA2, cI⟩
  clear cA0 cA1 cA2 cI hI hT
  go_enter Try.func13, Try.ntmps13
  go_wp2_with fail
  go_region_held3 (fun wq => wq.cell? ⟨w.heap.size, 0, none⟩ = some (.int .i64 (m : Int)) ∧ wq.cell? ⟨w.heap.size, 1, none⟩ = some (.int .i64 (e : Int)) ∧ wq.cell? ⟨w.heap.size, 2, none⟩ = some (.string (ofL s)) ∧ wq.cell? ⟨w.heap.size + 1, 2, none⟩ = some (.string (ofL text))) (first | exact HH.out | exact ⟨by assumption, by assumption, by assumption, by assumption⟩ | exact ⟨set3 (by assumption) (by omega), set3 (by assumption) (by omega), set3 (by assumption) (by omega), set3 (by assumption) (by omega)⟩) (first | (go_at_call 35; refine (refText_any text _ p1).mono ?_; rintro x w1 ⟨rfl, hb1⟩; have gA1 := (hb1.block w.heap.size (by rw [HZ3.out]; omega)).trans gA; have gI1 := (hb1.block (w.heap.size + 1) (by rw [HZ3.out]; omega)).trans gI; have gC1 := (hb1.block (w.heap.size + 2) (by rw [HZ3.out]; omega)).trans gC; have hz1 : w.heap.size + 3 ≤ w1.heap.size := (by have := hb1.size; rw [HZ3.out] at this; exact this); obtain ⟨d0, d1, d2, _⟩ := row3 gA1; have dI : w1.cell? ⟨w.heap.size + 1, 2, none⟩ = some (.string (ofL text)) := (by rw [cell_of_row _ _ _ _ _ _ gI1]; rfl)) | (go_at_call 34; refine (refLay_any m e s (M.encT text) _ hm hs htl).mono ?_; rintro x w2 ⟨rfl, hb2⟩; have gA2 := (hb2.block w.heap.size (by omega)).trans gA1; have gI2 := (hb2.block (w.heap.size + 1) (by omega)).trans gI1; have gC2 := (hb2.block (w.heap.size + 2) (by omega)).trans gC1; obtain ⟨f0, f1, f2, _⟩ := row3 gA2; have fI : w2.cell? ⟨w.heap.size + 1, 2, none⟩ = some (.string (ofL text)) := (by rw [cell_of_row _ _ _ _ _ _ gI2]; rfl); obtain ⟨q0, q1, q2, z0, z1, z2⟩ := row3 gC2))
  all_goals
    go_wp2
    have BF := B3.trans ((hb1.mono B3.size).trans (hb2.mono (Nat.le_trans B3.size hb1.size)))
    refine bodyPost_ret (v := .agg #[.int .i64 (m : Int), .int .i64 ((rl m (e, s) (M.encT text)).1 : Nat), .string (ofL (rl m (e, s) (M.encT text)).2)]) ?_ rfl ⟨rfl, ((BF.setCell (p := ⟨w.heap.size + 2, 0, none⟩) (by show _ ≤ w.heap.size + 2; omega) _).setCell (p := ⟨w.heap.size + 2, 1, none⟩) (by show _ ≤ w.heap.size + 2; omega) _).setCell (p := ⟨w.heap.size + 2, 2, none⟩) (by show _ ≤ w.heap.size + 2; omega) _⟩
    obtain ⟨fs, hf⟩ := Try.und28
    exact results_cell_row f13_res _ _ (w.heap.size + 2) 28 _ (0, 0) _ rfl (rowset3 gC2 _ _ _) hf rfl Try.size28

set_option maxRecDepth 100000 in
set_option maxHeartbeats 2000000 in
theorem laid_ints (m e : Nat) (s : List UInt8) (n : Int) (text : List UInt8) (ints : List Int) (texts : List (List UInt8)) (ia ta : Option Addr) (icap tcap : Nat) (w : World) (hm : m ≤ 65536) (hs : s.length ≤ 65536)
    (kd : Int) (pt : Parts w kd n text ints texts ia ta) :
    Calls Try.prog 13 #[.agg #[.int .i64 (m : Int), .int .i64 (e : Int), .string (ofL s)], .agg #[.int .i64 3, .int .i64 n, .string (ofL text), .slice ia ints.length icap, .slice ta texts.length tcap]] w fun x w' => x = .returned (.agg #[.int .i64 (m : Int), .int .i64 ((rl m (e, s) (M.encIs ints)).1 : Nat), .string (ofL (rl m (e, s) (M.encIs ints)).2)]) ∧ Below w.heap.size w w' := by
  obtain ⟨pn, p1, p2, p3, p4, pB, hI, hT⟩ := pt
  have B3 : Below w.heap.size w (((w.alloc (.cells #[.int .i64 (m : Int), .int .i64 (e : Int), .string (ofL s)] 28)).alloc (.cells #[.int .i64 3, .int .i64 n, .string (ofL text), .slice ia ints.length icap, .slice ta texts.length tcap] 34)).alloc (.cells #[.int .i64 0, .int .i64 0, .string { data := #[] }] 28)).drew := ((((Below.refl w.heap.size w).alloc (Nat.le_refl _) _).alloc (by simp) _).alloc (by simp; omega) _).drew
  have gA : (((w.alloc (.cells #[.int .i64 (m : Int), .int .i64 (e : Int), .string (ofL s)] 28)).alloc (.cells #[.int .i64 3, .int .i64 n, .string (ofL text), .slice ia ints.length icap, .slice ta texts.length tcap] 34)).alloc (.cells #[.int .i64 0, .int .i64 0, .string { data := #[] }] 28)).drew.heap[w.heap.size]? = some (.cells #[.int .i64 (m : Int), .int .i64 (e : Int), .string (ofL s)] 28) := by
    show (((w.alloc (.cells #[.int .i64 (m : Int), .int .i64 (e : Int), .string (ofL s)] 28)).alloc (.cells #[.int .i64 3, .int .i64 n, .string (ofL text), .slice ia ints.length icap, .slice ta texts.length tcap] 34)).alloc (.cells #[.int .i64 0, .int .i64 0, .string { data := #[] }] 28)).heap[w.heap.size]? = _
    rw [Below.heap_alloc _ _ _ (by simp; omega)]; exact heap_alloc2_old w _ _
  have gI : (((w.alloc (.cells #[.int .i64 (m : Int), .int .i64 (e : Int), .string (ofL s)] 28)).alloc (.cells #[.int .i64 3, .int .i64 n, .string (ofL text), .slice ia ints.length icap, .slice ta texts.length tcap] 34)).alloc (.cells #[.int .i64 0, .int .i64 0, .string { data := #[] }] 28)).drew.heap[w.heap.size + 1]? = some (.cells #[.int .i64 3, .int .i64 n, .string (ofL text), .slice ia ints.length icap, .slice ta texts.length tcap] 34) := by
    show (((w.alloc (.cells #[.int .i64 (m : Int), .int .i64 (e : Int), .string (ofL s)] 28)).alloc (.cells #[.int .i64 3, .int .i64 n, .string (ofL text), .slice ia ints.length icap, .slice ta texts.length tcap] 34)).alloc (.cells #[.int .i64 0, .int .i64 0, .string { data := #[] }] 28)).heap[w.heap.size + 1]? = _
    rw [Below.heap_alloc _ _ _ (by simp)]; exact heap_alloc2_new w _ _
  have gC : (((w.alloc (.cells #[.int .i64 (m : Int), .int .i64 (e : Int), .string (ofL s)] 28)).alloc (.cells #[.int .i64 3, .int .i64 n, .string (ofL text), .slice ia ints.length icap, .slice ta texts.length tcap] 34)).alloc (.cells #[.int .i64 0, .int .i64 0, .string { data := #[] }] 28)).drew.heap[w.heap.size + 2]? = some (.cells #[.int .i64 0, .int .i64 0, .string { data := #[] }] 28) := by
    have h := heap_alloc_new ((w.alloc (.cells #[.int .i64 (m : Int), .int .i64 (e : Int), .string (ofL s)] 28)).alloc (.cells #[.int .i64 3, .int .i64 n, .string (ofL text), .slice ia ints.length icap, .slice ta texts.length tcap] 34)) (.cells #[.int .i64 0, .int .i64 0, .string { data := #[] }] 28)
    rw [show ((w.alloc (.cells #[.int .i64 (m : Int), .int .i64 (e : Int), .string (ofL s)] 28)).alloc (.cells #[.int .i64 3, .int .i64 n, .string (ofL text), .slice ia ints.length icap, .slice ta texts.length tcap] 34)).heap.size = w.heap.size + 2 by simp] at h
    exact h
  have HZ3 : Hid ((((w.alloc (.cells #[.int .i64 (m : Int), .int .i64 (e : Int), .string (ofL s)] 28)).alloc (.cells #[.int .i64 3, .int .i64 n, .string (ofL text), .slice ia ints.length icap, .slice ta texts.length tcap] 34)).alloc (.cells #[.int .i64 0, .int .i64 0, .string { data := #[] }] 28)).drew.heap.size = w.heap.size + 3) := by show _ = _; simp
  obtain ⟨cA0, cA1, cA2, _⟩ := row3 gA
  have cI : (((w.alloc (.cells #[.int .i64 (m : Int), .int .i64 (e : Int), .string (ofL s)] 28)).alloc (.cells #[.int .i64 3, .int .i64 n, .string (ofL text), .slice ia ints.length icap, .slice ta texts.length tcap] 34)).alloc (.cells #[.int .i64 0, .int .i64 0, .string { data := #[] }] 28)).drew.cell? ⟨w.heap.size + 1, 3, none⟩ = some (.slice ia ints.length icap) := by rw [cell_of_row _ _ _ _ _ _ gI]; rfl
  have hI3 := hI.keep B3
  have hT3 := hT.keep B3
  have htl : (M.encIs ints).length ≤ 100000000 := by have h1 := M.enc_ten ints.length (by omega); have h2 := flat_le M.enc 10 ints (fun x hx => M.enc_ten x (pB x hx)); rw [M.encIs, List.length_append]; omega
  have HH : Hid ((((w.alloc (.cells #[.int .i64 (m : Int), .int .i64 (e : Int), .string (ofL s)] 28)).alloc (.cells #[.int .i64 3, .int .i64 n, .string (ofL text), .slice ia ints.length icap, .slice ta texts.length tcap] 34)).alloc (.cells #[.int .i64 0, .int .i64 0, .string { data := #[] }] 28)).drew.cell? ⟨w.heap.size, 0, none⟩ = some (.int .i64 (m : Int)) ∧ (((w.alloc (.cells #[.int .i64 (m : Int), .int .i64 (e : Int), .string (ofL s)] 28)).alloc (.cells #[.int .i64 3, .int .i64 n, .string (ofL text), .slice ia ints.length icap, .slice ta texts.length tcap] 34)).alloc (.cells #[.int .i64 0, .int .i64 0, .string { data := #[] }] 28)).drew.cell? ⟨w.heap.size, 1, none⟩ = some (.int .i64 (e : Int)) ∧ (((w.alloc (.cells #[.int .i64 (m : Int), .int .i64 (e : Int), .string (ofL s)] 28)).alloc (.cells #[.int .i64 3, .int .i64 n, .string (ofL text), .slice ia ints.length icap, .slice ta texts.length tcap] 34)).alloc (.cells #[.int .i64 0, .int .i64 0, .string { data := #[] }] 28)).drew.cell? ⟨w.heap.size, 2, none⟩ = some (.string (ofL s)) ∧ (((w.alloc (.cells #[.int .i64 (m : Int), .int .i64 (e : Int), .string (ofL s)] 28)).alloc (.cells #[.int .i64 3, .int .i64 n, .string (ofL text), .slice ia ints.length icap, .slice ta texts.length tcap] 34)).alloc (.cells #[.int .i64 0, .int .i64 0, .string { data := #[] }] 28)).drew.cell? ⟨w.heap.size + 1, 3, none⟩ = some (.slice ia ints.length icap)) := ⟨cA0, cA1, cA2, cI⟩
  clear cA0 cA1 cA2 cI hI hT
  go_enter Try.func13, Try.ntmps13
  go_wp2_with fail
  go_region_held3 (fun wq => wq.cell? ⟨w.heap.size, 0, none⟩ = some (.int .i64 (m : Int)) ∧ wq.cell? ⟨w.heap.size, 1, none⟩ = some (.int .i64 (e : Int)) ∧ wq.cell? ⟨w.heap.size, 2, none⟩ = some (.string (ofL s)) ∧ wq.cell? ⟨w.heap.size + 1, 3, none⟩ = some (.slice ia ints.length icap)) (first | exact HH.out | exact ⟨by assumption, by assumption, by assumption, by assumption⟩ | exact ⟨set3 (by assumption) (by omega), set3 (by assumption) (by omega), set3 (by assumption) (by omega), set3 (by assumption) (by omega)⟩) (first | (go_at_call 36; refine (refInts_any ia icap ints _ hI3 (by omega) pB).mono ?_; rintro x w1 ⟨rfl, hb1⟩; have gA1 := (hb1.block w.heap.size (by rw [HZ3.out]; omega)).trans gA; have gI1 := (hb1.block (w.heap.size + 1) (by rw [HZ3.out]; omega)).trans gI; have gC1 := (hb1.block (w.heap.size + 2) (by rw [HZ3.out]; omega)).trans gC; have hz1 : w.heap.size + 3 ≤ w1.heap.size := (by have := hb1.size; rw [HZ3.out] at this; exact this); obtain ⟨d0, d1, d2, _⟩ := row3 gA1; have dI : w1.cell? ⟨w.heap.size + 1, 3, none⟩ = some (.slice ia ints.length icap) := (by rw [cell_of_row _ _ _ _ _ _ gI1]; rfl)) | (go_at_call 34; refine (refLay_any m e s (M.encIs ints) _ hm hs htl).mono ?_; rintro x w2 ⟨rfl, hb2⟩; have gA2 := (hb2.block w.heap.size (by omega)).trans gA1; have gI2 := (hb2.block (w.heap.size + 1) (by omega)).trans gI1; have gC2 := (hb2.block (w.heap.size + 2) (by omega)).trans gC1; obtain ⟨f0, f1, f2, _⟩ := row3 gA2; have fI : w2.cell? ⟨w.heap.size + 1, 3, none⟩ = some (.slice ia ints.length icap) := (by rw [cell_of_row _ _ _ _ _ _ gI2]; rfl); obtain ⟨q0, q1, q2, z0, z1, z2⟩ := row3 gC2))
  all_goals
    go_wp2
    have BF := B3.trans ((hb1.mono B3.size).trans (hb2.mono (Nat.le_trans B3.size hb1.size)))
    refine bodyPost_ret (v := .agg #[.int .i64 (m : Int), .int .i64 ((rl m (e, s) (M.encIs ints)).1 : Nat), .string (ofL (rl m (e, s) (M.encIs ints)).2)]) ?_ rfl ⟨rfl, ((BF.setCell (p := ⟨w.heap.size + 2, 0, none⟩) (by show _ ≤ w.heap.size + 2; omega) _).setCell (p := ⟨w.heap.size + 2, 1, none⟩) (by show _ ≤ w.heap.size + 2; omega) _).setCell (p := ⟨w.heap.size + 2, 2, none⟩) (by show _ ≤ w.heap.size + 2; omega) _⟩
    obtain ⟨fs, hf⟩ := Try.und28
    exact results_cell_row f13_res _ _ (w.heap.size + 2) 28 _ (0, 0) _ rfl (rowset3 gC2 _ _ _) hf rfl Try.size28

set_option maxRecDepth 100000 in
set_option maxHeartbeats 2000000 in
theorem laid_texts (m e : Nat) (s : List UInt8) (n : Int) (text : List UInt8) (ints : List Int) (texts : List (List UInt8)) (ia ta : Option Addr) (icap tcap : Nat) (w : World) (hm : m ≤ 65536) (hs : s.length ≤ 65536)
    (kd : Int) (pt : Parts w kd n text ints texts ia ta) :
    Calls Try.prog 13 #[.agg #[.int .i64 (m : Int), .int .i64 (e : Int), .string (ofL s)], .agg #[.int .i64 4, .int .i64 n, .string (ofL text), .slice ia ints.length icap, .slice ta texts.length tcap]] w fun x w' => x = .returned (.agg #[.int .i64 (m : Int), .int .i64 ((rl m (e, s) (M.encTs texts)).1 : Nat), .string (ofL (rl m (e, s) (M.encTs texts)).2)]) ∧ Below w.heap.size w w' := by
  obtain ⟨pn, p1, p2, p3, p4, pB, hI, hT⟩ := pt
  have B3 : Below w.heap.size w (((w.alloc (.cells #[.int .i64 (m : Int), .int .i64 (e : Int), .string (ofL s)] 28)).alloc (.cells #[.int .i64 4, .int .i64 n, .string (ofL text), .slice ia ints.length icap, .slice ta texts.length tcap] 34)).alloc (.cells #[.int .i64 0, .int .i64 0, .string { data := #[] }] 28)).drew := ((((Below.refl w.heap.size w).alloc (Nat.le_refl _) _).alloc (by simp) _).alloc (by simp; omega) _).drew
  have gA : (((w.alloc (.cells #[.int .i64 (m : Int), .int .i64 (e : Int), .string (ofL s)] 28)).alloc (.cells #[.int .i64 4, .int .i64 n, .string (ofL text), .slice ia ints.length icap, .slice ta texts.length tcap] 34)).alloc (.cells #[.int .i64 0, .int .i64 0, .string { data := #[] }] 28)).drew.heap[w.heap.size]? = some (.cells #[.int .i64 (m : Int), .int .i64 (e : Int), .string (ofL s)] 28) := by
    show (((w.alloc (.cells #[.int .i64 (m : Int), .int .i64 (e : Int), .string (ofL s)] 28)).alloc (.cells #[.int .i64 4, .int .i64 n, .string (ofL text), .slice ia ints.length icap, .slice ta texts.length tcap] 34)).alloc (.cells #[.int .i64 0, .int .i64 0, .string { data := #[] }] 28)).heap[w.heap.size]? = _
    rw [Below.heap_alloc _ _ _ (by simp; omega)]; exact heap_alloc2_old w _ _
  have gI : (((w.alloc (.cells #[.int .i64 (m : Int), .int .i64 (e : Int), .string (ofL s)] 28)).alloc (.cells #[.int .i64 4, .int .i64 n, .string (ofL text), .slice ia ints.length icap, .slice ta texts.length tcap] 34)).alloc (.cells #[.int .i64 0, .int .i64 0, .string { data := #[] }] 28)).drew.heap[w.heap.size + 1]? = some (.cells #[.int .i64 4, .int .i64 n, .string (ofL text), .slice ia ints.length icap, .slice ta texts.length tcap] 34) := by
    show (((w.alloc (.cells #[.int .i64 (m : Int), .int .i64 (e : Int), .string (ofL s)] 28)).alloc (.cells #[.int .i64 4, .int .i64 n, .string (ofL text), .slice ia ints.length icap, .slice ta texts.length tcap] 34)).alloc (.cells #[.int .i64 0, .int .i64 0, .string { data := #[] }] 28)).heap[w.heap.size + 1]? = _
    rw [Below.heap_alloc _ _ _ (by simp)]; exact heap_alloc2_new w _ _
  have gC : (((w.alloc (.cells #[.int .i64 (m : Int), .int .i64 (e : Int), .string (ofL s)] 28)).alloc (.cells #[.int .i64 4, .int .i64 n, .string (ofL text), .slice ia ints.length icap, .slice ta texts.length tcap] 34)).alloc (.cells #[.int .i64 0, .int .i64 0, .string { data := #[] }] 28)).drew.heap[w.heap.size + 2]? = some (.cells #[.int .i64 0, .int .i64 0, .string { data := #[] }] 28) := by
    have h := heap_alloc_new ((w.alloc (.cells #[.int .i64 (m : Int), .int .i64 (e : Int), .string (ofL s)] 28)).alloc (.cells #[.int .i64 4, .int .i64 n, .string (ofL text), .slice ia ints.length icap, .slice ta texts.length tcap] 34)) (.cells #[.int .i64 0, .int .i64 0, .string { data := #[] }] 28)
    rw [show ((w.alloc (.cells #[.int .i64 (m : Int), .int .i64 (e : Int), .string (ofL s)] 28)).alloc (.cells #[.int .i64 4, .int .i64 n, .string (ofL text), .slice ia ints.length icap, .slice ta texts.length tcap] 34)).heap.size = w.heap.size + 2 by simp] at h
    exact h
  have HZ3 : Hid ((((w.alloc (.cells #[.int .i64 (m : Int), .int .i64 (e : Int), .string (ofL s)] 28)).alloc (.cells #[.int .i64 4, .int .i64 n, .string (ofL text), .slice ia ints.length icap, .slice ta texts.length tcap] 34)).alloc (.cells #[.int .i64 0, .int .i64 0, .string { data := #[] }] 28)).drew.heap.size = w.heap.size + 3) := by show _ = _; simp
  obtain ⟨cA0, cA1, cA2, _⟩ := row3 gA
  have cI : (((w.alloc (.cells #[.int .i64 (m : Int), .int .i64 (e : Int), .string (ofL s)] 28)).alloc (.cells #[.int .i64 4, .int .i64 n, .string (ofL text), .slice ia ints.length icap, .slice ta texts.length tcap] 34)).alloc (.cells #[.int .i64 0, .int .i64 0, .string { data := #[] }] 28)).drew.cell? ⟨w.heap.size + 1, 4, none⟩ = some (.slice ta texts.length tcap) := by rw [cell_of_row _ _ _ _ _ _ gI]; rfl
  have hI3 := hI.keep B3
  have hT3 := hT.keep B3
  have htl : (M.encTs texts).length ≤ 100000000 := by have h1 := M.enc_ten texts.length (by omega); have h2 := flat_le M.encT 5010 texts (fun x hx => by have h5 := p4 x hx; have h6 := M.enc_ten x.length (by omega); rw [M.encT, List.length_append]; omega); rw [M.encTs, List.length_append]; omega
  have HH : Hid ((((w.alloc (.cells #[.int .i64 (m : Int), .int .i64 (e : Int), .string (ofL s)] 28)).alloc (.cells #[.int .i64 4, .int .i64 n, .string (ofL text), .slice ia ints.length icap, .slice ta texts.length tcap] 34)).alloc (.cells #[.int .i64 0, .int .i64 0, .string { data := #[] }] 28)).drew.cell? ⟨w.heap.size, 0, none⟩ = some (.int .i64 (m : Int)) ∧ (((w.alloc (.cells #[.int .i64 (m : Int), .int .i64 (e : Int), .string (ofL s)] 28)).alloc (.cells #[.int .i64 4, .int .i64 n, .string (ofL text), .slice ia ints.length icap, .slice ta texts.length tcap] 34)).alloc (.cells #[.int .i64 0, .int .i64 0, .string { data := #[] }] 28)).drew.cell? ⟨w.heap.size, 1, none⟩ = some (.int .i64 (e : Int)) ∧ (((w.alloc (.cells #[.int .i64 (m : Int), .int .i64 (e : Int), .string (ofL s)] 28)).alloc (.cells #[.int .i64 4, .int .i64 n, .string (ofL text), .slice ia ints.length icap, .slice ta texts.length tcap] 34)).alloc (.cells #[.int .i64 0, .int .i64 0, .string { data := #[] }] 28)).drew.cell? ⟨w.heap.size, 2, none⟩ = some (.string (ofL s)) ∧ (((w.alloc (.cells #[.int .i64 (m : Int), .int .i64 (e : Int), .string (ofL s)] 28)).alloc (.cells #[.int .i64 4, .int .i64 n, .string (ofL text), .slice ia ints.length icap, .slice ta texts.length tcap] 34)).alloc (.cells #[.int .i64 0, .int .i64 0, .string { data := #[] }] 28)).drew.cell? ⟨w.heap.size + 1, 4, none⟩ = some (.slice ta texts.length tcap)) := ⟨cA0, cA1, cA2, cI⟩
  clear cA0 cA1 cA2 cI hI hT
  go_enter Try.func13, Try.ntmps13
  go_wp2_with fail
  go_region_held3 (fun wq => wq.cell? ⟨w.heap.size, 0, none⟩ = some (.int .i64 (m : Int)) ∧ wq.cell? ⟨w.heap.size, 1, none⟩ = some (.int .i64 (e : Int)) ∧ wq.cell? ⟨w.heap.size, 2, none⟩ = some (.string (ofL s)) ∧ wq.cell? ⟨w.heap.size + 1, 4, none⟩ = some (.slice ta texts.length tcap)) (first | exact HH.out | exact ⟨by assumption, by assumption, by assumption, by assumption⟩ | exact ⟨set3 (by assumption) (by omega), set3 (by assumption) (by omega), set3 (by assumption) (by omega), set3 (by assumption) (by omega)⟩) (first | (go_at_call 37; refine (refTexts_any ta tcap texts _ hT3 (by omega) p4).mono ?_; rintro x w1 ⟨rfl, hb1⟩; have gA1 := (hb1.block w.heap.size (by rw [HZ3.out]; omega)).trans gA; have gI1 := (hb1.block (w.heap.size + 1) (by rw [HZ3.out]; omega)).trans gI; have gC1 := (hb1.block (w.heap.size + 2) (by rw [HZ3.out]; omega)).trans gC; have hz1 : w.heap.size + 3 ≤ w1.heap.size := (by have := hb1.size; rw [HZ3.out] at this; exact this); obtain ⟨d0, d1, d2, _⟩ := row3 gA1; have dI : w1.cell? ⟨w.heap.size + 1, 4, none⟩ = some (.slice ta texts.length tcap) := (by rw [cell_of_row _ _ _ _ _ _ gI1]; rfl)) | (go_at_call 34; refine (refLay_any m e s (M.encTs texts) _ hm hs htl).mono ?_; rintro x w2 ⟨rfl, hb2⟩; have gA2 := (hb2.block w.heap.size (by omega)).trans gA1; have gI2 := (hb2.block (w.heap.size + 1) (by omega)).trans gI1; have gC2 := (hb2.block (w.heap.size + 2) (by omega)).trans gC1; obtain ⟨f0, f1, f2, _⟩ := row3 gA2; have fI : w2.cell? ⟨w.heap.size + 1, 4, none⟩ = some (.slice ta texts.length tcap) := (by rw [cell_of_row _ _ _ _ _ _ gI2]; rfl); obtain ⟨q0, q1, q2, z0, z1, z2⟩ := row3 gC2))
  all_goals
    go_wp2
    have BF := B3.trans ((hb1.mono B3.size).trans (hb2.mono (Nat.le_trans B3.size hb1.size)))
    refine bodyPost_ret (v := .agg #[.int .i64 (m : Int), .int .i64 ((rl m (e, s) (M.encTs texts)).1 : Nat), .string (ofL (rl m (e, s) (M.encTs texts)).2)]) ?_ rfl ⟨rfl, ((BF.setCell (p := ⟨w.heap.size + 2, 0, none⟩) (by show _ ≤ w.heap.size + 2; omega) _).setCell (p := ⟨w.heap.size + 2, 1, none⟩) (by show _ ≤ w.heap.size + 2; omega) _).setCell (p := ⟨w.heap.size + 2, 2, none⟩) (by show _ ≤ w.heap.size + 2; omega) _⟩
    obtain ⟨fs, hf⟩ := Try.und28
    exact results_cell_row f13_res _ _ (w.heap.size + 2) 28 _ (0, 0) _ rfl (rowset3 gC2 _ _ _) hf rfl Try.size28

set_option maxRecDepth 100000 in
set_option maxHeartbeats 2000000 in
theorem laid_int (m e : Nat) (s : List UInt8) (kind : Int) (hk1 : kind ≠ 1) (hk2 : kind ≠ 2) (hk3 : kind ≠ 3) (hk4 : kind ≠ 4) (n : Int) (text : List UInt8) (ints : List Int) (texts : List (List UInt8)) (ia ta : Option Addr) (icap tcap : Nat) (w : World) (hm : m ≤ 65536) (hs : s.length ≤ 65536)
    (kd : Int) (pt : Parts w kd n text ints texts ia ta) :
    Calls Try.prog 13 #[.agg #[.int .i64 (m : Int), .int .i64 (e : Int), .string (ofL s)], .agg #[.int .i64 kind, .int .i64 n, .string (ofL text), .slice ia ints.length icap, .slice ta texts.length tcap]] w fun x w' => x = .returned (.agg #[.int .i64 (m : Int), .int .i64 ((rl m (e, s) (M.enc n)).1 : Nat), .string (ofL (rl m (e, s) (M.enc n)).2)]) ∧ Below w.heap.size w w' := by
  obtain ⟨pn, p1, p2, p3, p4, pB, hI, hT⟩ := pt
  have e1 : (kind == 1) = false := by simpa using hk1
  have e2 : (kind == 2) = false := by simpa using hk2
  have e3 : (kind == 3) = false := by simpa using hk3
  have e4 : (kind == 4) = false := by simpa using hk4
  have B3 : Below w.heap.size w (((w.alloc (.cells #[.int .i64 (m : Int), .int .i64 (e : Int), .string (ofL s)] 28)).alloc (.cells #[.int .i64 kind, .int .i64 n, .string (ofL text), .slice ia ints.length icap, .slice ta texts.length tcap] 34)).alloc (.cells #[.int .i64 0, .int .i64 0, .string { data := #[] }] 28)).drew := ((((Below.refl w.heap.size w).alloc (Nat.le_refl _) _).alloc (by simp) _).alloc (by simp; omega) _).drew
  have gA : (((w.alloc (.cells #[.int .i64 (m : Int), .int .i64 (e : Int), .string (ofL s)] 28)).alloc (.cells #[.int .i64 kind, .int .i64 n, .string (ofL text), .slice ia ints.length icap, .slice ta texts.length tcap] 34)).alloc (.cells #[.int .i64 0, .int .i64 0, .string { data := #[] }] 28)).drew.heap[w.heap.size]? = some (.cells #[.int .i64 (m : Int), .int .i64 (e : Int), .string (ofL s)] 28) := by
    show (((w.alloc (.cells #[.int .i64 (m : Int), .int .i64 (e : Int), .string (ofL s)] 28)).alloc (.cells #[.int .i64 kind, .int .i64 n, .string (ofL text), .slice ia ints.length icap, .slice ta texts.length tcap] 34)).alloc (.cells #[.int .i64 0, .int .i64 0, .string { data := #[] }] 28)).heap[w.heap.size]? = _
    rw [Below.heap_alloc _ _ _ (by simp; omega)]; exact heap_alloc2_old w _ _
  have gI : (((w.alloc (.cells #[.int .i64 (m : Int), .int .i64 (e : Int), .string (ofL s)] 28)).alloc (.cells #[.int .i64 kind, .int .i64 n, .string (ofL text), .slice ia ints.length icap, .slice ta texts.length tcap] 34)).alloc (.cells #[.int .i64 0, .int .i64 0, .string { data := #[] }] 28)).drew.heap[w.heap.size + 1]? = some (.cells #[.int .i64 kind, .int .i64 n, .string (ofL text), .slice ia ints.length icap, .slice ta texts.length tcap] 34) := by
    show (((w.alloc (.cells #[.int .i64 (m : Int), .int .i64 (e : Int), .string (ofL s)] 28)).alloc (.cells #[.int .i64 kind, .int .i64 n, .string (ofL text), .slice ia ints.length icap, .slice ta texts.length tcap] 34)).alloc (.cells #[.int .i64 0, .int .i64 0, .string { data := #[] }] 28)).heap[w.heap.size + 1]? = _
    rw [Below.heap_alloc _ _ _ (by simp)]; exact heap_alloc2_new w _ _
  have gC : (((w.alloc (.cells #[.int .i64 (m : Int), .int .i64 (e : Int), .string (ofL s)] 28)).alloc (.cells #[.int .i64 kind, .int .i64 n, .string (ofL text), .slice ia ints.length icap, .slice ta texts.length tcap] 34)).alloc (.cells #[.int .i64 0, .int .i64 0, .string { data := #[] }] 28)).drew.heap[w.heap.size + 2]? = some (.cells #[.int .i64 0, .int .i64 0, .string { data := #[] }] 28) := by
    have h := heap_alloc_new ((w.alloc (.cells #[.int .i64 (m : Int), .int .i64 (e : Int), .string (ofL s)] 28)).alloc (.cells #[.int .i64 kind, .int .i64 n, .string (ofL text), .slice ia ints.length icap, .slice ta texts.length tcap] 34)) (.cells #[.int .i64 0, .int .i64 0, .string { data := #[] }] 28)
    rw [show ((w.alloc (.cells #[.int .i64 (m : Int), .int .i64 (e : Int), .string (ofL s)] 28)).alloc (.cells #[.int .i64 kind, .int .i64 n, .string (ofL text), .slice ia ints.length icap, .slice ta texts.length tcap] 34)).heap.size = w.heap.size + 2 by simp] at h
    exact h
  have HZ3 : Hid ((((w.alloc (.cells #[.int .i64 (m : Int), .int .i64 (e : Int), .string (ofL s)] 28)).alloc (.cells #[.int .i64 kind, .int .i64 n, .string (ofL text), .slice ia ints.length icap, .slice ta texts.length tcap] 34)).alloc (.cells #[.int .i64 0, .int .i64 0, .string { data := #[] }] 28)).drew.heap.size = w.heap.size + 3) := by show _ = _; simp
  obtain ⟨cA0, cA1, cA2, _⟩ := row3 gA
  have cI : (((w.alloc (.cells #[.int .i64 (m : Int), .int .i64 (e : Int), .string (ofL s)] 28)).alloc (.cells #[.int .i64 kind, .int .i64 n, .string (ofL text), .slice ia ints.length icap, .slice ta texts.length tcap] 34)).alloc (.cells #[.int .i64 0, .int .i64 0, .string { data := #[] }] 28)).drew.cell? ⟨w.heap.size + 1, 1, none⟩ = some (.int .i64 n) := by rw [cell_of_row _ _ _ _ _ _ gI]; rfl
  have hI3 := hI.keep B3
  have hT3 := hT.keep B3
  have htl : (M.enc n).length ≤ 100000000 := by have := M.enc_ten n pn; omega
  have HH : Hid ((((w.alloc (.cells #[.int .i64 (m : Int), .int .i64 (e : Int), .string (ofL s)] 28)).alloc (.cells #[.int .i64 kind, .int .i64 n, .string (ofL text), .slice ia ints.length icap, .slice ta texts.length tcap] 34)).alloc (.cells #[.int .i64 0, .int .i64 0, .string { data := #[] }] 28)).drew.cell? ⟨w.heap.size, 0, none⟩ = some (.int .i64 (m : Int)) ∧ (((w.alloc (.cells #[.int .i64 (m : Int), .int .i64 (e : Int), .string (ofL s)] 28)).alloc (.cells #[.int .i64 kind, .int .i64 n, .string (ofL text), .slice ia ints.length icap, .slice ta texts.length tcap] 34)).alloc (.cells #[.int .i64 0, .int .i64 0, .string { data := #[] }] 28)).drew.cell? ⟨w.heap.size, 1, none⟩ = some (.int .i64 (e : Int)) ∧ (((w.alloc (.cells #[.int .i64 (m : Int), .int .i64 (e : Int), .string (ofL s)] 28)).alloc (.cells #[.int .i64 kind, .int .i64 n, .string (ofL text), .slice ia ints.length icap, .slice ta texts.length tcap] 34)).alloc (.cells #[.int .i64 0, .int .i64 0, .string { data := #[] }] 28)).drew.cell? ⟨w.heap.size, 2, none⟩ = some (.string (ofL s)) ∧ (((w.alloc (.cells #[.int .i64 (m : Int), .int .i64 (e : Int), .string (ofL s)] 28)).alloc (.cells #[.int .i64 kind, .int .i64 n, .string (ofL text), .slice ia ints.length icap, .slice ta texts.length tcap] 34)).alloc (.cells #[.int .i64 0, .int .i64 0, .string { data := #[] }] 28)).drew.cell? ⟨w.heap.size + 1, 1, none⟩ = some (.int .i64 n)) := ⟨cA0, cA1, cA2, cI⟩
  clear cA0 cA1 cA2 cI hI hT
  go_enter Try.func13, Try.ntmps13
  go_wp2_with fail
  go_region_held3 (fun wq => wq.cell? ⟨w.heap.size, 0, none⟩ = some (.int .i64 (m : Int)) ∧ wq.cell? ⟨w.heap.size, 1, none⟩ = some (.int .i64 (e : Int)) ∧ wq.cell? ⟨w.heap.size, 2, none⟩ = some (.string (ofL s)) ∧ wq.cell? ⟨w.heap.size + 1, 1, none⟩ = some (.int .i64 n)) (first | exact HH.out | exact ⟨by assumption, by assumption, by assumption, by assumption⟩ | exact ⟨set3 (by assumption) (by omega), set3 (by assumption) (by omega), set3 (by assumption) (by omega), set3 (by assumption) (by omega)⟩) (first | (go_at_call 38; refine (refInt_any n _ pn).mono ?_; rintro x w1 ⟨rfl, hb1⟩; have gA1 := (hb1.block w.heap.size (by rw [HZ3.out]; omega)).trans gA; have gI1 := (hb1.block (w.heap.size + 1) (by rw [HZ3.out]; omega)).trans gI; have gC1 := (hb1.block (w.heap.size + 2) (by rw [HZ3.out]; omega)).trans gC; have hz1 : w.heap.size + 3 ≤ w1.heap.size := (by have := hb1.size; rw [HZ3.out] at this; exact this); obtain ⟨d0, d1, d2, _⟩ := row3 gA1; have dI : w1.cell? ⟨w.heap.size + 1, 1, none⟩ = some (.int .i64 n) := (by rw [cell_of_row _ _ _ _ _ _ gI1]; rfl)) | (go_at_call 34; refine (refLay_any m e s (M.enc n) _ hm hs htl).mono ?_; rintro x w2 ⟨rfl, hb2⟩; have gA2 := (hb2.block w.heap.size (by omega)).trans gA1; have gI2 := (hb2.block (w.heap.size + 1) (by omega)).trans gI1; have gC2 := (hb2.block (w.heap.size + 2) (by omega)).trans gC1; obtain ⟨f0, f1, f2, _⟩ := row3 gA2; have fI : w2.cell? ⟨w.heap.size + 1, 1, none⟩ = some (.int .i64 n) := (by rw [cell_of_row _ _ _ _ _ _ gI2]; rfl); obtain ⟨q0, q1, q2, z0, z1, z2⟩ := row3 gC2))
  all_goals
    go_wp2
    have BF := B3.trans ((hb1.mono B3.size).trans (hb2.mono (Nat.le_trans B3.size hb1.size)))
    refine bodyPost_ret (v := .agg #[.int .i64 (m : Int), .int .i64 ((rl m (e, s) (M.enc n)).1 : Nat), .string (ofL (rl m (e, s) (M.enc n)).2)]) ?_ rfl ⟨rfl, ((BF.setCell (p := ⟨w.heap.size + 2, 0, none⟩) (by show _ ≤ w.heap.size + 2; omega) _).setCell (p := ⟨w.heap.size + 2, 1, none⟩) (by show _ ≤ w.heap.size + 2; omega) _).setCell (p := ⟨w.heap.size + 2, 2, none⟩) (by show _ ≤ w.heap.size + 2; omega) _⟩
    obtain ⟨fs, hf⟩ := Try.und28
    exact results_cell_row f13_res _ _ (w.heap.size + 2) 28 _ (0, 0) _ rfl (rowset3 gC2 _ _ _) hf rfl Try.size28

end Go.Proofs.Ytanpplndoemgoaa
