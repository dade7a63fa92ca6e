/-
  The document's reader: texts, rows of ints and of texts, the end: each returns what the plain functions of the text M say, and writes nothing that was there.
-/
import Derived.Test.YtjbcchipbdkplaaI
namespace Go.Proofs.Ytjbcchipbdkplaa
open Go.RowKit
set_option linter.unusedVariables false

theorem row2 {w : World} {k : Nat} {v0 v1 : Value} {t : TypeId} (h : w.heap[k]? = some (.cells #[v0, v1] t (0, 0))) :
    w.cell? ⟨k, 0, none⟩ = some v0 ∧ w.cell? ⟨k, 1, none⟩ = some v1 ∧ w.frozen? ⟨k, 0, none⟩ = false ∧ w.frozen? ⟨k, 1, none⟩ = false :=
  ⟨by rw [cell_of_row w k 0 _ _ _ h]; rfl, by rw [cell_of_row w k 1 _ _ _ h]; rfl, frozen_of_row w k 0 _ _ h, frozen_of_row w k 1 _ _ h⟩
/-- Two blocks laid at a call's start, behind what has left what was there. -/
theorem two_rows {w w1 : World} {A B : Obj} (hb : Below ((w.alloc A).alloc B).heap.size ((w.alloc A).alloc B) w1) : w1.heap[w.heap.size]? = some A ∧ w1.heap[w.heap.size + 1]? = some B ∧ w.heap.size + 1 < w1.heap.size ∧ Below w.heap.size w w1 := by
  have hz := hb.size
  simp at hz
  refine ⟨?_, ?_, by omega, ?_⟩
  · rw [hb.block _ (by simp; omega)]; exact heap_alloc2_old w A B
  · rw [hb.block _ (by simp)]; exact heap_alloc2_new w A B
  · exact (((Below.refl w.heap.size w).alloc (Nat.le_refl _) A).alloc (by simp) B).trans (hb.mono (by simp; omega))

theorem cell_up {w : World} {a : Addr} {v : Value} (h : w.cell? a = some v) (o : Obj) : (w.alloc o).cell? a = some v :=
  (World.cell?_of_block (w := w) (Below.heap_alloc w o a.block (World.block_lt_of_cell? w a h))).trans h
theorem frozen_up {w : World} {a : Addr} {b : Bool} (h : w.frozen? a = b) (hl : a.block < w.heap.size) (o : Obj) : (w.alloc o).frozen? a = b :=
  (World.frozen?_of_block (w := w) (Below.heap_alloc w o a.block hl)).trans h

set_option maxRecDepth 100000 in
set_option maxHeartbeats 2000000 in
theorem takeText_any (l : List UInt8) (q : Bool) (w : World) (hl : l.length ≤ 140737488351232) :
    Calls Try.prog 64 #[.agg #[.string (ofL l), .bool q]] w fun x w' => x = .returned (.tuple #[RV (nx (M.text l)), .string (ofL (vl [] (M.text l)))]) ∧ Below w.heap.size w w' := by
  have HT : Hid (M.text l = match M.count l with | none => none | some (n, r) => some (r.take n, r.drop n)) := rfl
  have HCN : Hid (M.int l = none → M.count l = none) := M.count_none l
  cases hi : M.int l with
  | none =>
    rw [HCN.out hi] at HT
    go_enter Try.func64, Try.ntmps64
    go_wp2_with fail
    refine (takeInt_any l q _ hl).mono ?_
    rintro x w1 ⟨rfl, hb1⟩
    rw [hi]
    simp only [RV, vl, nx, Option.map_none, lft, Option.getD_none, Option.isNone_none]
    obtain ⟨g0, g1, hlt, B1⟩ := two_rows hb1
    obtain ⟨c00, c01, f00, f01⟩ := row2 g0
    obtain ⟨c10, c11, f10, f11⟩ := row2 g1
    clear hb1 g0 g1
    have u00 := fun o => cell_up c00 o
    have u01 := fun o => cell_up c01 o
    have u10 := fun o1 o2 o3 => cell_up (cell_up (cell_up c10 o1) o2) o3
    have u11 := fun o1 o2 o3 => cell_up (cell_up (cell_up c11 o1) o2) o3
    have v10 := fun o1 o2 o3 => frozen_up (frozen_up (frozen_up f10 hlt o1) (by simp; omega) o2) (by simp; omega) o3
    have v11 := fun o1 o2 o3 => frozen_up (frozen_up (frozen_up f11 hlt o1) (by simp; omega) o2) (by simp; omega) o3
    go_wp2_with fail
    refine (bad_any _ _ _).mono ?_
    rintro x w2 ⟨rfl, rfl⟩
    go_wp2
    refine bodyPost_ret (v := .tuple #[RV none, .string (ofL [])]) ?_ rfl ⟨by rw [HT.out]; rfl, ?_⟩
    · rw [results_cell_tmp rfl]
      go_simp
      exact ⟨rfl, rfl⟩
    · (repeat' (first | exact B1 | refine Below.drew ?_ | refine Below.setCell ?_ (by first | omega | (simp; omega) | simp) _ | refine Below.alloc ?_ (by first | omega | (simp; omega) | simp) _))
  | some p =>
    obtain ⟨n, r⟩ := p
    have hbd := M.int_bd _ _ _ hi
    have hrl := M.int_len _ _ _ hi
    have hsz := ofL_size r
    by_cases h1 : n < 0
    · rw [M.count_low _ _ _ hi (.inl h1)] at HT
      have d1 : decide (n < 0) = true := by simpa using h1
      go_enter Try.func64, Try.ntmps64
      go_wp2_with fail
      refine (takeInt_any l q _ hl).mono ?_
      rintro x w1 ⟨rfl, hb1⟩
      rw [hi]
      simp only [RV, vl, nx, Option.map_some, lft, Option.getD_some, Option.isNone_some]
      obtain ⟨g0, g1, hlt, B1⟩ := two_rows hb1
      obtain ⟨c00, c01, f00, f01⟩ := row2 g0
      obtain ⟨c10, c11, f10, f11⟩ := row2 g1
      clear hb1 g0 g1
      have u00 := fun o => cell_up c00 o
      have u01 := fun o => cell_up c01 o
      have u10 := fun o1 o2 o3 => cell_up (cell_up (cell_up c10 o1) o2) o3
      have u11 := fun o1 o2 o3 => cell_up (cell_up (cell_up c11 o1) o2) o3
      have v10 := fun o1 o2 o3 => frozen_up (frozen_up (frozen_up f10 hlt o1) (by simp; omega) o2) (by simp; omega) o3
      have v11 := fun o1 o2 o3 => frozen_up (frozen_up (frozen_up f11 hlt o1) (by simp; omega) o2) (by simp; omega) o3
      go_wp2_with fail
      refine (bad_any _ _ _).mono ?_
      rintro x w2 ⟨rfl, rfl⟩
      go_wp2
      refine bodyPost_ret (v := .tuple #[RV none, .string (ofL [])]) ?_ rfl ⟨by rw [HT.out]; rfl, ?_⟩
      · rw [results_cell_tmp rfl]
        go_simp
        exact ⟨rfl, rfl⟩
      · (repeat' (first | exact B1 | refine Below.drew ?_ | refine Below.setCell ?_ (by first | omega | (simp; omega) | simp) _ | refine Below.alloc ?_ (by first | omega | (simp; omega) | simp) _))
    · obtain ⟨m, rfl⟩ := Int.eq_ofNat_of_zero_le (show 0 ≤ n by omega)
      have d1 : decide ((m : Int) < 0) = false := by simp
      by_cases h2 : r.length < m
      · rw [M.count_low _ _ _ hi (.inr (by omega))] at HT
        go_enter Try.func64, Try.ntmps64
        go_wp2_with fail
        refine (takeInt_any l q _ hl).mono ?_
        rintro x w1 ⟨rfl, hb1⟩
        rw [hi]
        simp only [RV, vl, nx, Option.map_some, lft, Option.getD_some, Option.isNone_some]
        obtain ⟨g0, g1, hlt, B1⟩ := two_rows hb1
        obtain ⟨c00, c01, f00, f01⟩ := row2 g0
        obtain ⟨c10, c11, f10, f11⟩ := row2 g1
        clear hb1 g0 g1
        have u00 := fun o => cell_up c00 o
        have u01 := fun o => cell_up c01 o
        have u10 := fun o1 o2 o3 => cell_up (cell_up (cell_up c10 o1) o2) o3
        have u11 := fun o1 o2 o3 => cell_up (cell_up (cell_up c11 o1) o2) o3
        have v10 := fun o1 o2 o3 => frozen_up (frozen_up (frozen_up f10 hlt o1) (by simp; omega) o2) (by simp; omega) o3
        have v11 := fun o1 o2 o3 => frozen_up (frozen_up (frozen_up f11 hlt o1) (by simp; omega) o2) (by simp; omega) o3
        go_wp2_with fail
        refine (bad_any _ _ _).mono ?_
        rintro x w2 ⟨rfl, rfl⟩
        go_wp2
        refine bodyPost_ret (v := .tuple #[RV none, .string (ofL [])]) ?_ rfl ⟨by rw [HT.out]; rfl, ?_⟩
        · rw [results_cell_tmp rfl]
          go_simp
          exact ⟨rfl, rfl⟩
        · (repeat' (first | exact B1 | refine Below.drew ?_ | refine Below.setCell ?_ (by first | omega | (simp; omega) | simp) _ | refine Below.alloc ?_ (by first | omega | (simp; omega) | simp) _))
      · rw [M.count_fits _ _ _ hi (by omega)] at HT
        have hm : m ≤ r.length := by omega
        have HX : Hid ((ofL r).extract m r.length = ofL (r.drop m)) := ofL_drop r m _ (Nat.le_refl _)
        have HY : Hid ((ofL r).extract 0 m = ofL (r.take m)) := ofL_take r m
        go_enter Try.func64, Try.ntmps64
        go_wp2_with fail
        refine (takeInt_any l q _ hl).mono ?_
        rintro x w1 ⟨rfl, hb1⟩
        rw [hi]
        simp only [RV, vl, nx, Option.map_some, lft, Option.getD_some, Option.isNone_some]
        obtain ⟨g0, g1, hlt, B1⟩ := two_rows hb1
        obtain ⟨c00, c01, f00, f01⟩ := row2 g0
        obtain ⟨c10, c11, f10, f11⟩ := row2 g1
        clear hb1 g0 g1
        have u10 := fun o => cell_up c10 o
        have u11 := fun o => cell_up c11 o
        have v10 := fun o => frozen_up f10 hlt o
        have v11 := fun o => frozen_up f11 hlt o
        go_wp2_with fail
        go_region
        all_goals go_wp2
        all_goals refine bodyPost_ret (v := .tuple #[RV (some (r.drop m)), .string (ofL (r.take m))]) ?_ rfl ⟨by rw [HT.out]; rfl, ?_⟩
        all_goals first
          | (rw [results_cell_tmp rfl]; go_simp; rw [HX.out, HY.out]; exact ⟨rfl, rfl⟩)
          | (repeat' (first | exact B1 | refine Below.drew ?_ | refine Below.setCell ?_ (by first | omega | (simp; omega) | simp) _ | refine Below.alloc ?_ (by first | omega | (simp; omega) | simp) _))

theorem rowset {w : World} {k : Nat} {v0 v1 : Value} {t : TypeId} (h : w.heap[k]? = some (.cells #[v0, v1] t (0, 0))) (a b : Value) : ((w.setCell ⟨k, 0, none⟩ a).setCell ⟨k, 1, none⟩ b).heap[k]? = some (.cells #[a, b] t (0, 0)) :=
  heap_setCell_same _ k 1 _ _ b (heap_setCell_same w k 0 _ _ a h)
theorem rowoth (w : World) (k j : Nat) (a b : Value) (h : j ≠ k) : ((w.setCell ⟨k, 0, none⟩ a).setCell ⟨k, 1, none⟩ b).heap[j]? = w.heap[j]? := by
  rw [heap_setCell_other _ ⟨k, 1, none⟩ j _ h, heap_setCell_other _ ⟨k, 0, none⟩ j _ h]
theorem owns_below {w w' : World} {base n : Nat} {e : TypeId} {size : Nat} {v : Value} {xs : List Value} (h : w.ownsRow base e size v n xs) (hb : Below w.heap.size w w') : w'.ownsRow base e size v n xs :=
  h.kept (row := none) ⟨hb.os, hb.tape, hb.output, hb.size, fun k hk _ => hb.block k hk⟩ (by cases v.ownBlock <;> simp)

theorem owns_base {w : World} {b b' n : Nat} {e : TypeId} {size : Nat} {v : Value} {xs : List Value} (h : w.ownsRow b e size v n xs) (hb : b' ≤ b) : w.ownsRow b' e size v n xs := by
  refine ⟨h.1, ?_⟩
  rcases h.2 with h2 | ⟨g, cap, cur, hv, hg, r⟩
  · exact .inl h2
  · exact .inr ⟨g, cap, cur, hv, by omega, r⟩

set_option maxHeartbeats 400000 in
theorem end_any (st : Option (List UInt8)) (w : World) :
    Calls Try.prog 44 #[RV st] w fun x w' => x = .returned (.int .i64 (rdone st)) ∧ Below w.heap.size w w' := by
  match st with
  | none =>
    go_enter Try.func44, Try.ntmps44
    simp only [RV, lft, Option.getD_none, Option.isNone_none]
    go_wp2
    go_ret
    exact ⟨rfl, (Below.refl _ _).alloc (Nat.le_refl _) _⟩
  | some [] =>
    have h0 : (ofL []).toList.isEmpty = true := by rw [ByteArray.toList_eq]; rfl
    go_enter Try.func44, Try.ntmps44
    simp only [RV, lft, Option.getD_some, Option.isNone_some]
    go_wp2
    go_ret
    exact ⟨rfl, (Below.refl _ _).alloc (Nat.le_refl _) _⟩
  | some (c :: r) =>
    have h0 := text_nil (c :: r) (by simp)
    go_enter Try.func44, Try.ntmps44
    simp only [RV, lft, Option.getD_some, Option.isNone_some]
    go_wp2
    go_ret
    exact ⟨rfl, (Below.refl _ _).alloc (Nat.le_refl _) _⟩

end Go.Proofs.Ytjbcchipbdkplaa
