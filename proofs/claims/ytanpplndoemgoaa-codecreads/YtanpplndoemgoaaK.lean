/-
  The program's reader and the document's take an item alike, whatever its kind.
-/
import Derived.Test.YtanpplndoemgoaaJ
import Derived.Deep.RegionHeld3
namespace Go.Proofs.Ytanpplndoemgoaa
open Go.RowKit
set_option linter.unusedVariables false

/-- What is left behind an item of a kind. -/
def rdk (kind : Int) (l : List UInt8) : Option (List UInt8) :=
  if kind = 1 then nx (M.byte l) else if kind = 2 then nx (M.text l) else if kind = 3 then nx (M.ints l) else if kind = 4 then nx (M.texts l) else nx (M.int l)

theorem fin_grown {w wY w2 : World} {b B1 : Nat} {a c : Value} (hb : Below w.heap.size w wY) (hg : wY.grownBy w2 (some b)) (hB : w.heap.size ≤ B1) : w.grownBy ((w2.setCell ⟨B1, 0, none⟩ a).setCell ⟨B1, 1, none⟩ c) (some b) := by
  have h1 := hb.size
  have h2 := hg.size
  refine ⟨hg.os.trans hb.os, hg.tape.trans hb.tape, hg.output.trans hb.output, by simp; omega, fun k hk hr => ?_⟩
  rw [rowoth w2 B1 k a c (by omega), hg.block k (by omega) hr, hb.block k hk]
theorem fin_rs {w2 : World} {b B1 : Nat} {a c : Value} {st st' : Option (List UInt8)} (h : RS w2 b st) (hs : st = st') (hB : b ≠ B1) : RS ((w2.setCell ⟨B1, 0, none⟩ a).setCell ⟨B1, 1, none⟩ c) b st' :=
  hs ▸ h.keep (rowoth w2 B1 b a c hB)
theorem held_set {w2 : World} {B1 Y j : Nat} {v a c : Value} (h : w2.cell? ⟨Y, j, none⟩ = some v) (hne : Y ≠ B1) : ((w2.setCell ⟨B1, 0, none⟩ a).setCell ⟨B1, 1, none⟩ c).cell? ⟨Y, j, none⟩ = some v :=
  (World.cell?_of_block (w := w2) (a := ⟨Y, j, none⟩) (rowoth w2 B1 Y a c hne)).trans h

set_option maxRecDepth 100000 in
set_option maxHeartbeats 4000000 in
theorem same_byte (b : Nat) (st : Option (List UInt8)) (w : World) (hr : RS w b st) (hl : (lft st).length ≤ 1000000) :
    Calls Try.prog 17 #[.pointer (some ⟨b, 0, none⟩), RV st, .int .i64 1] w fun x w' => x = .returned (.tuple #[RV (nx (M.byte (lft st))), .bool true]) ∧ RS w' b (nx (M.byte (lft st))) ∧ w.grownBy w' (some b) := by
  have hbw := hr.lt
  go_enter Try.func17, Try.ntmps17
  simp only [RV]
  go_wp2_with fail
  refine (takeByte_any (lft st) _ _ (by omega)).mono ?_
  rintro x w1 ⟨rfl, hb1⟩
  obtain ⟨g0, g1, hlt, B1⟩ := two_rows hb1
  have hr1 := hr.below B1
  simp only [RV]
  generalize hn : nx (M.byte (lft st)) = st' at *
  have BY : Below w.heap.size w (w1.alloc (.cells #[.string (ofL (lft st')), .bool st'.isNone] 45)).drew := (B1.alloc B1.size _).drew
  have gY : (w1.alloc (.cells #[.string (ofL (lft st')), .bool st'.isNone] 45)).drew.heap[w1.heap.size]? = some (.cells #[.string (ofL (lft st')), .bool st'.isNone] 45 (0, 0)) := heap_alloc_new w1 _
  have gB : (w1.alloc (.cells #[.string (ofL (lft st')), .bool st'.isNone] 45)).drew.heap[w.heap.size + 1]? = some (.cells #[.string { data := #[] }, .bool false] 45 (0, 0)) := (Below.heap_alloc w1 (.cells #[.string (ofL (lft st')), .bool st'.isNone] 45) (w.heap.size + 1) hlt).trans g1
  have hrY : RS (w1.alloc (.cells #[.string (ofL (lft st')), .bool st'.isNone] 45)).drew b st := hr1.below ((Below.refl _ w1).alloc (Nat.le_refl _) (.cells #[.string (ofL (lft st')), .bool st'.isNone] 45)).drew
  have HZY : Hid ((w1.alloc (.cells #[.string (ofL (lft st')), .bool st'.isNone] 45)).drew.heap.size = w1.heap.size + 1) := by show _ = _; simp
  clear hb1 g0 g1
  go_wp2_with fail
  go_region_held3 (fun wq => wq.cell? ⟨w1.heap.size, 0, none⟩ = some (.string (ofL (lft st'))) ∧ wq.cell? ⟨w1.heap.size, 1, none⟩ = some (.bool st'.isNone)) (first | exact ⟨by assumption, by assumption⟩ | exact ⟨held_set (by assumption) (by omega), held_set (by assumption) (by omega)⟩ | exact ⟨(row2 gY).1, (row2 gY).2.1⟩) (((go_at_call 21; refine (byte_rs b st _ hrY (by omega)).mono ?_; rintro x w2 ⟨rfl, hrF, hgF⟩; have kY := (hgF.block w1.heap.size (by rw [HZY.out]; omega) (by have := hr1.lt; simp; omega)).trans gY; have kB := (hgF.block (w.heap.size + 1) (by rw [HZY.out]; omega) (by simp; omega)).trans gB; obtain ⟨c10, c11, f10, f11⟩ := row2 kB; obtain ⟨cY0, cY1, fY0, fY1⟩ := row2 kY)))
  all_goals
    go_wp2
    subst hn
    refine bodyPost_ret (v := .tuple #[.agg #[.string (ofL (lft (nx (M.byte (lft st))))), .bool (nx (M.byte (lft st))).isNone], .bool true]) ?_ rfl ⟨rfl, fin_rs hrF rfl (by omega), fin_grown BY hgF (by omega)⟩
    rw [results_cell_tmp rfl]
    go_simp

set_option maxRecDepth 100000 in
set_option maxHeartbeats 4000000 in
theorem same_text (b : Nat) (st : Option (List UInt8)) (w : World) (hr : RS w b st) (hl : (lft st).length ≤ 1000000) :
    Calls Try.prog 17 #[.pointer (some ⟨b, 0, none⟩), RV st, .int .i64 2] w fun x w' => x = .returned (.tuple #[RV (nx (M.text (lft st))), .bool true]) ∧ RS w' b (nx (M.text (lft st))) ∧ w.grownBy w' (some b) := by
  have hbw := hr.lt
  go_enter Try.func17, Try.ntmps17
  simp only [RV]
  go_wp2_with fail
  refine (takeText_any (lft st) _ _ (by omega)).mono ?_
  rintro x w1 ⟨rfl, hb1⟩
  obtain ⟨g0, g1, hlt, B1⟩ := two_rows hb1
  have hr1 := hr.below B1
  simp only [RV]
  generalize hn : nx (M.text (lft st)) = st' at *
  have BY : Below w.heap.size w (w1.alloc (.cells #[.string (ofL (lft st')), .bool st'.isNone] 45)).drew := (B1.alloc B1.size _).drew
  have gY : (w1.alloc (.cells #[.string (ofL (lft st')), .bool st'.isNone] 45)).drew.heap[w1.heap.size]? = some (.cells #[.string (ofL (lft st')), .bool st'.isNone] 45 (0, 0)) := heap_alloc_new w1 _
  have gB : (w1.alloc (.cells #[.string (ofL (lft st')), .bool st'.isNone] 45)).drew.heap[w.heap.size + 1]? = some (.cells #[.string { data := #[] }, .bool false] 45 (0, 0)) := (Below.heap_alloc w1 (.cells #[.string (ofL (lft st')), .bool st'.isNone] 45) (w.heap.size + 1) hlt).trans g1
  have hrY : RS (w1.alloc (.cells #[.string (ofL (lft st')), .bool st'.isNone] 45)).drew b st := hr1.below ((Below.refl _ w1).alloc (Nat.le_refl _) (.cells #[.string (ofL (lft st')), .bool st'.isNone] 45)).drew
  have HZY : Hid ((w1.alloc (.cells #[.string (ofL (lft st')), .bool st'.isNone] 45)).drew.heap.size = w1.heap.size + 1) := by show _ = _; simp
  clear hb1 g0 g1
  go_wp2_with fail
  go_region_held3 (fun wq => wq.cell? ⟨w1.heap.size, 0, none⟩ = some (.string (ofL (lft st'))) ∧ wq.cell? ⟨w1.heap.size, 1, none⟩ = some (.bool st'.isNone)) (first | exact ⟨by assumption, by assumption⟩ | exact ⟨held_set (by assumption) (by omega), held_set (by assumption) (by omega)⟩ | exact ⟨(row2 gY).1, (row2 gY).2.1⟩) (((go_at_call 22; refine (text_any b st _ hrY (by omega)).mono ?_; rintro x w2 ⟨rfl, hrF, hgF⟩; have kY := (hgF.block w1.heap.size (by rw [HZY.out]; omega) (by have := hr1.lt; simp; omega)).trans gY; have kB := (hgF.block (w.heap.size + 1) (by rw [HZY.out]; omega) (by simp; omega)).trans gB; obtain ⟨c10, c11, f10, f11⟩ := row2 kB; obtain ⟨cY0, cY1, fY0, fY1⟩ := row2 kY)))
  all_goals
    go_wp2
    subst hn
    refine bodyPost_ret (v := .tuple #[.agg #[.string (ofL (lft (nx (M.text (lft st))))), .bool (nx (M.text (lft st))).isNone], .bool true]) ?_ rfl ⟨rfl, fin_rs hrF rfl (by omega), fin_grown BY hgF (by omega)⟩
    rw [results_cell_tmp rfl]
    go_simp

set_option maxRecDepth 100000 in
set_option maxHeartbeats 4000000 in
theorem same_ints (b : Nat) (st : Option (List UInt8)) (w : World) (hr : RS w b st) (hl : (lft st).length ≤ 1000000) :
    Calls Try.prog 17 #[.pointer (some ⟨b, 0, none⟩), RV st, .int .i64 3] w fun x w' => x = .returned (.tuple #[RV (nx (M.ints (lft st))), .bool true]) ∧ RS w' b (nx (M.ints (lft st))) ∧ w.grownBy w' (some b) := by
  have hbw := hr.lt
  go_enter Try.func17, Try.ntmps17
  simp only [RV]
  go_wp2_with fail
  refine (takeInts_any (lft st) _ _ (by omega)).mono ?_
  rintro x w1 hO
  obtain ⟨v1, rfl, hown1, hb1⟩ := hO
  obtain ⟨g0, g1, hlt, B1⟩ := two_rows hb1
  have hr1 := hr.below B1
  simp only [RV]
  generalize hn : nx (M.ints (lft st)) = st' at *
  have BY : Below w.heap.size w (w1.alloc (.cells #[.string (ofL (lft st')), .bool st'.isNone] 45)).drew := (B1.alloc B1.size _).drew
  have gY : (w1.alloc (.cells #[.string (ofL (lft st')), .bool st'.isNone] 45)).drew.heap[w1.heap.size]? = some (.cells #[.string (ofL (lft st')), .bool st'.isNone] 45 (0, 0)) := heap_alloc_new w1 _
  have gB : (w1.alloc (.cells #[.string (ofL (lft st')), .bool st'.isNone] 45)).drew.heap[w.heap.size + 1]? = some (.cells #[.string { data := #[] }, .bool false] 45 (0, 0)) := (Below.heap_alloc w1 (.cells #[.string (ofL (lft st')), .bool st'.isNone] 45) (w.heap.size + 1) hlt).trans g1
  have hrY : RS (w1.alloc (.cells #[.string (ofL (lft st')), .bool st'.isNone] 45)).drew b st := hr1.below ((Below.refl _ w1).alloc (Nat.le_refl _) (.cells #[.string (ofL (lft st')), .bool st'.isNone] 45)).drew
  have HZY : Hid ((w1.alloc (.cells #[.string (ofL (lft st')), .bool st'.isNone] 45)).drew.heap.size = w1.heap.size + 1) := by show _ = _; simp
  obtain ⟨a1, cap1, rfl, hat1, hbl1⟩ := owns_at hown1
  have hatY : At (w1.alloc (.cells #[.string (ofL (lft st')), .bool st'.isNone] 45)).drew a1 (Value.int .i64) (vl [] (M.ints (lft st))) := hat1.keep ((Below.refl _ w1).alloc (Nat.le_refl _) (.cells #[.string (ofL (lft st')), .bool st'.isNone] 45)).drew
  have hne1 : ∀ k, blk a1 k → k ≠ b := fun k hk => by have := hbl1 k hk; simp at this; omega
  have hvl : (vl [] (M.ints (lft st))).length ≤ 1000000 := by
    cases ho : M.ints (lft st) with
    | none => simp [vl]
    | some p => have := (M.ints_all (lft st) p.1 p.2 ho).2.1; simp only [vl]; omega
  clear hb1 g0 g1
  go_wp2_with fail
  go_region_held3 (fun wq => wq.cell? ⟨w1.heap.size, 0, none⟩ = some (.string (ofL (lft st'))) ∧ wq.cell? ⟨w1.heap.size, 1, none⟩ = some (.bool st'.isNone)) (first | exact ⟨by assumption, by assumption⟩ | exact ⟨held_set (by assumption) (by omega), held_set (by assumption) (by omega)⟩ | exact ⟨(row2 gY).1, (row2 gY).2.1⟩) ((first | (go_at_call 24; refine (ints_any b st _ hrY (by omega)).mono ?_; rintro x w2 hO; obtain ⟨v2, rfl, hown2, hr2, hg2⟩ := hO; obtain ⟨a2, cap2, rfl, hat2, hbl2⟩ := owns_at hown2; have hat1 := hatY.grown hg2 hne1; have kY := (hg2.block w1.heap.size (by rw [HZY.out]; omega) (by have := hr1.lt; simp; omega)).trans gY; have kB := (hg2.block (w.heap.size + 1) (by rw [HZY.out]; omega) (by simp; omega)).trans gB; obtain ⟨cY0, cY1, fY0, fY1⟩ := row2 kY) | (go_at_call 23; refine (sameInts_any a2 cap2 a1 cap1 _ w2 (by omega) hat2 hat1).mono ?_; rintro x w3 ⟨rfl, hb3⟩; have hrF := hr2.below hb3; have hgF := grown_trans hg2 (grown_below hb3); have kB3 := (hb3.block (w.heap.size + 1) (by have := hg2.size; rw [HZY.out] at this; omega)).trans kB; have kY3 := (hb3.block w1.heap.size (by have := hg2.size; rw [HZY.out] at this; omega)).trans kY; obtain ⟨c10, c11, f10, f11⟩ := row2 kB3; obtain ⟨cY0', cY1', fY0', fY1'⟩ := row2 kY3)))
  all_goals
    go_wp2
    subst hn
    refine bodyPost_ret (v := .tuple #[.agg #[.string (ofL (lft (nx (M.ints (lft st))))), .bool (nx (M.ints (lft st))).isNone], .bool true]) ?_ rfl ⟨rfl, fin_rs hrF rfl (by omega), fin_grown BY hgF (by omega)⟩
    rw [results_cell_tmp rfl]
    go_simp

set_option maxRecDepth 100000 in
set_option maxHeartbeats 4000000 in
theorem same_texts (b : Nat) (st : Option (List UInt8)) (w : World) (hr : RS w b st) (hl : (lft st).length ≤ 1000000) :
    Calls Try.prog 17 #[.pointer (some ⟨b, 0, none⟩), RV st, .int .i64 4] w fun x w' => x = .returned (.tuple #[RV (nx (M.texts (lft st))), .bool true]) ∧ RS w' b (nx (M.texts (lft st))) ∧ w.grownBy w' (some b) := by
  have hbw := hr.lt
  go_enter Try.func17, Try.ntmps17
  simp only [RV]
  go_wp2_with fail
  refine (takeTexts_any (lft st) _ _ (by omega)).mono ?_
  rintro x w1 hO
  obtain ⟨v1, rfl, hown1, hb1⟩ := hO
  obtain ⟨g0, g1, hlt, B1⟩ := two_rows hb1
  have hr1 := hr.below B1
  simp only [RV]
  generalize hn : nx (M.texts (lft st)) = st' at *
  have BY : Below w.heap.size w (w1.alloc (.cells #[.string (ofL (lft st')), .bool st'.isNone] 45)).drew := (B1.alloc B1.size _).drew
  have gY : (w1.alloc (.cells #[.string (ofL (lft st')), .bool st'.isNone] 45)).drew.heap[w1.heap.size]? = some (.cells #[.string (ofL (lft st')), .bool st'.isNone] 45 (0, 0)) := heap_alloc_new w1 _
  have gB : (w1.alloc (.cells #[.string (ofL (lft st')), .bool st'.isNone] 45)).drew.heap[w.heap.size + 1]? = some (.cells #[.string { data := #[] }, .bool false] 45 (0, 0)) := (Below.heap_alloc w1 (.cells #[.string (ofL (lft st')), .bool st'.isNone] 45) (w.heap.size + 1) hlt).trans g1
  have hrY : RS (w1.alloc (.cells #[.string (ofL (lft st')), .bool st'.isNone] 45)).drew b st := hr1.below ((Below.refl _ w1).alloc (Nat.le_refl _) (.cells #[.string (ofL (lft st')), .bool st'.isNone] 45)).drew
  have HZY : Hid ((w1.alloc (.cells #[.string (ofL (lft st')), .bool st'.isNone] 45)).drew.heap.size = w1.heap.size + 1) := by show _ = _; simp
  obtain ⟨a1, cap1, rfl, hat1, hbl1⟩ := owns_at hown1
  have hatY : At (w1.alloc (.cells #[.string (ofL (lft st')), .bool st'.isNone] 45)).drew a1 (fun s => Value.string (ofL s)) (vl [] (M.texts (lft st))) := hat1.keep ((Below.refl _ w1).alloc (Nat.le_refl _) (.cells #[.string (ofL (lft st')), .bool st'.isNone] 45)).drew
  have hne1 : ∀ k, blk a1 k → k ≠ b := fun k hk => by have := hbl1 k hk; simp at this; omega
  have hvl : (vl [] (M.texts (lft st))).length ≤ 1000000 := by
    cases ho : M.texts (lft st) with
    | none => simp [vl]
    | some p => have := (M.texts_all (lft st) p.1 p.2 ho).1; simp only [vl]; omega
  clear hb1 g0 g1
  go_wp2_with fail
  go_region_held3 (fun wq => wq.cell? ⟨w1.heap.size, 0, none⟩ = some (.string (ofL (lft st'))) ∧ wq.cell? ⟨w1.heap.size, 1, none⟩ = some (.bool st'.isNone)) (first | exact ⟨by assumption, by assumption⟩ | exact ⟨held_set (by assumption) (by omega), held_set (by assumption) (by omega)⟩ | exact ⟨(row2 gY).1, (row2 gY).2.1⟩) ((first | (go_at_call 26; refine (texts_any b st _ hrY (by omega)).mono ?_; rintro x w2 hO; obtain ⟨v2, rfl, hown2, hr2, hg2⟩ := hO; obtain ⟨a2, cap2, rfl, hat2, hbl2⟩ := owns_at hown2; have hat1 := hatY.grown hg2 hne1; have kY := (hg2.block w1.heap.size (by rw [HZY.out]; omega) (by have := hr1.lt; simp; omega)).trans gY; have kB := (hg2.block (w.heap.size + 1) (by rw [HZY.out]; omega) (by simp; omega)).trans gB; obtain ⟨cY0, cY1, fY0, fY1⟩ := row2 kY) | (go_at_call 25; refine (sameTexts_any a2 cap2 a1 cap1 _ w2 (by omega) hat2 hat1).mono ?_; rintro x w3 ⟨rfl, hb3⟩; have hrF := hr2.below hb3; have hgF := grown_trans hg2 (grown_below hb3); have kB3 := (hb3.block (w.heap.size + 1) (by have := hg2.size; rw [HZY.out] at this; omega)).trans kB; have kY3 := (hb3.block w1.heap.size (by have := hg2.size; rw [HZY.out] at this; omega)).trans kY; obtain ⟨c10, c11, f10, f11⟩ := row2 kB3; obtain ⟨cY0', cY1', fY0', fY1'⟩ := row2 kY3)))
  all_goals
    go_wp2
    subst hn
    refine bodyPost_ret (v := .tuple #[.agg #[.string (ofL (lft (nx (M.texts (lft st))))), .bool (nx (M.texts (lft st))).isNone], .bool true]) ?_ rfl ⟨rfl, fin_rs hrF rfl (by omega), fin_grown BY hgF (by omega)⟩
    rw [results_cell_tmp rfl]
    go_simp

set_option maxRecDepth 100000 in
set_option maxHeartbeats 4000000 in
theorem same_int (b : Nat) (st : Option (List UInt8)) (kind : Int) (hk1 : kind ≠ 1) (hk2 : kind ≠ 2) (hk3 : kind ≠ 3) (hk4 : kind ≠ 4) (w : World) (hr : RS w b st) (hl : (lft st).length ≤ 1000000) :
    Calls Try.prog 17 #[.pointer (some ⟨b, 0, none⟩), RV st, .int .i64 kind] w fun x w' => x = .returned (.tuple #[RV (nx (M.int (lft st))), .bool true]) ∧ RS w' b (nx (M.int (lft st))) ∧ w.grownBy w' (some b) := by
  have hbw := hr.lt
  have e1 : (kind == 1) = false := by simpa using hk1
  have e2 : (kind == 2) = false := by simpa using hk2
  have e3 : (kind == 3) = false := by simpa using hk3
  have e4 : (kind == 4) = false := by simpa using hk4
  go_enter Try.func17, Try.ntmps17
  simp only [RV]
  go_wp2_with fail
  refine (takeInt_any (lft st) _ _ (by omega)).mono ?_
  rintro x w1 ⟨rfl, hb1⟩
  obtain ⟨g0, g1, hlt, B1⟩ := two_rows hb1
  have hr1 := hr.below B1
  simp only [RV]
  generalize hn : nx (M.int (lft st)) = st' at *
  have BY : Below w.heap.size w (w1.alloc (.cells #[.string (ofL (lft st')), .bool st'.isNone] 45)).drew := (B1.alloc B1.size _).drew
  have gY : (w1.alloc (.cells #[.string (ofL (lft st')), .bool st'.isNone] 45)).drew.heap[w1.heap.size]? = some (.cells #[.string (ofL (lft st')), .bool st'.isNone] 45 (0, 0)) := heap_alloc_new w1 _
  have gB : (w1.alloc (.cells #[.string (ofL (lft st')), .bool st'.isNone] 45)).drew.heap[w.heap.size + 1]? = some (.cells #[.string { data := #[] }, .bool false] 45 (0, 0)) := (Below.heap_alloc w1 (.cells #[.string (ofL (lft st')), .bool st'.isNone] 45) (w.heap.size + 1) hlt).trans g1
  have hrY : RS (w1.alloc (.cells #[.string (ofL (lft st')), .bool st'.isNone] 45)).drew b st := hr1.below ((Below.refl _ w1).alloc (Nat.le_refl _) (.cells #[.string (ofL (lft st')), .bool st'.isNone] 45)).drew
  have HZY : Hid ((w1.alloc (.cells #[.string (ofL (lft st')), .bool st'.isNone] 45)).drew.heap.size = w1.heap.size + 1) := by show _ = _; simp
  clear hb1 g0 g1
  go_wp2_with fail
  go_region_held3 (fun wq => wq.cell? ⟨w1.heap.size, 0, none⟩ = some (.string (ofL (lft st'))) ∧ wq.cell? ⟨w1.heap.size, 1, none⟩ = some (.bool st'.isNone)) (first | exact ⟨by assumption, by assumption⟩ | exact ⟨held_set (by assumption) (by omega), held_set (by assumption) (by omega)⟩ | exact ⟨(row2 gY).1, (row2 gY).2.1⟩) (((go_at_call 27; refine (int_rs b st _ hrY (by omega)).mono ?_; rintro x w2 ⟨rfl, hrF, hgF⟩; have kY := (hgF.block w1.heap.size (by rw [HZY.out]; omega) (by have := hr1.lt; simp; omega)).trans gY; have kB := (hgF.block (w.heap.size + 1) (by rw [HZY.out]; omega) (by simp; omega)).trans gB; obtain ⟨c10, c11, f10, f11⟩ := row2 kB; obtain ⟨cY0, cY1, fY0, fY1⟩ := row2 kY)))
  all_goals
    go_wp2
    subst hn
    refine bodyPost_ret (v := .tuple #[.agg #[.string (ofL (lft (nx (M.int (lft st))))), .bool (nx (M.int (lft st))).isNone], .bool true]) ?_ rfl ⟨rfl, fin_rs hrF rfl (by omega), fin_grown BY hgF (by omega)⟩
    rw [results_cell_tmp rfl]
    go_simp

theorem same_any (b : Nat) (st : Option (List UInt8)) (kind : Int) (w : World) (hr : RS w b st) (hl : (lft st).length ≤ 1000000) :
    Calls Try.prog 17 #[.pointer (some ⟨b, 0, none⟩), RV st, .int .i64 kind] w fun x w' => x = .returned (.tuple #[RV (rdk kind (lft st)), .bool true]) ∧ RS w' b (rdk kind (lft st)) ∧ w.grownBy w' (some b) := by
  by_cases h1 : kind = 1
  · subst h1; exact same_byte b st w hr hl
  · by_cases h2 : kind = 2
    · subst h2; exact same_text b st w hr hl
    · by_cases h3 : kind = 3
      · subst h3; exact same_ints b st w hr hl
      · by_cases h4 : kind = 4
        · subst h4; exact same_texts b st w hr hl
        · have e : rdk kind (lft st) = nx (M.int (lft st)) := by simp [rdk, h1, h2, h3, h4]
          rw [e]
          exact same_int b st kind h1 h2 h3 h4 w hr hl
theorem rdk_left (kind : Int) (l : List UInt8) : (lft (rdk kind l)).length ≤ l.length := by
  unfold rdk
  repeat' split
  · exact byte_left l
  · exact text_left l
  · exact ints_left l
  · exact texts_left l
  · exact int_left l

end Go.Proofs.Ytanpplndoemgoaa
