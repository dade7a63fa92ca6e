/-
  The document's reader: texts, rows of ints and of texts, the end: each returns what the plain functions of the text M say, and writes nothing that was there.
-/
import Derived.Test.YtgcfpihfoekllaaI
namespace Go.Proofs.Ytgcfpihfoekllaa
open Go.RowKit
set_option linter.unusedVariables false

theorem row2 {w : World} {k : Nat} {v0 v1 : Value} {t : TypeId} (h : w.heap[k]? = some (.cells #[v0, v1] t (0, 0))) :
    w.cell? ⟨k, 0, none⟩ = some v0 ∧ w.cell? ⟨k, 1, none⟩ = some v1 ∧ w.frozen? ⟨k, 0, none⟩ = false ∧ w.frozen? ⟨k, 1, none⟩ = false :=
  ⟨by rw [cell_of_row w k 0 _ _ _ h]; rfl, by rw [cell_of_row w k 1 _ _ _ h]; rfl, frozen_of_row w k 0 _ _ h, frozen_of_row w k 1 _ _ h⟩
/-- Two blocks laid at a call's start, behind what has left what was there. -/
theorem two_rows {w w1 : World} {A B : Obj} (hb : Below ((w.alloc A).alloc B).heap.size ((w.alloc A).alloc B) w1) : w1.heap[w.heap.size]? = some A ∧ w1.heap[w.heap.size + 1]? = some B ∧ w.heap.size + 1 < w1.heap.size ∧ Below w.heap.size w w1 := by
  have hz := hb.size
  simp at hz
  refine ⟨?_, ?_, by omega, ?_⟩
  · rw [hb.block _ (by simp; omega)]; exact heap_alloc2_old w A B
  · rw [hb.block _ (by simp)]; exact heap_alloc2_new w A B
  · exact (((Below.refl w.heap.size w).alloc (Nat.le_refl _) A).alloc (by simp) B).trans (hb.mono (by simp; omega))

theorem cell_up {w : World} {a : Addr} {v : Value} (h : w.cell? a = some v) (o : Obj) : (w.alloc o).cell? a = some v :=
  (World.cell?_of_block (w := w) (Below.heap_alloc w o a.block (World.block_lt_of_cell? w a h))).trans h
theorem frozen_up {w : World} {a : Addr} {b : Bool} (h : w.frozen? a = b) (hl : a.block < w.heap.size) (o : Obj) : (w.alloc o).frozen? a = b :=
  (World.frozen?_of_block (w := w) (Below.heap_alloc w o a.block hl)).trans h

theorem rowset {w : World} {k : Nat} {v0 v1 : Value} {t : TypeId} (h : w.heap[k]? = some (.cells #[v0, v1] t (0, 0))) (a b : Value) : ((w.setCell ⟨k, 0, none⟩ a).setCell ⟨k, 1, none⟩ b).heap[k]? = some (.cells #[a, b] t (0, 0)) :=
  heap_setCell_same _ k 1 _ _ b (heap_setCell_same w k 0 _ _ a h)
theorem rowoth (w : World) (k j : Nat) (a b : Value) (h : j ≠ k) : ((w.setCell ⟨k, 0, none⟩ a).setCell ⟨k, 1, none⟩ b).heap[j]? = w.heap[j]? := by
  rw [heap_setCell_other _ ⟨k, 1, none⟩ j _ h, heap_setCell_other _ ⟨k, 0, none⟩ j _ h]
theorem owns_below {w w' : World} {base n : Nat} {e : TypeId} {size : Nat} {v : Value} {xs : List Value} (h : w.ownsRow base e size v n xs) (hb : Below w.heap.size w w') : w'.ownsRow base e size v n xs :=
  h.kept (row := none) ⟨hb.os, hb.tape, hb.output, hb.size, fun k hk _ => hb.block k hk⟩ (by cases v.ownBlock <;> simp)

theorem owns_base {w : World} {b b' n : Nat} {e : TypeId} {size : Nat} {v : Value} {xs : List Value} (h : w.ownsRow b e size v n xs) (hb : b' ≤ b) : w.ownsRow b' e size v n xs := by
  refine ⟨h.1, ?_⟩
  rcases h.2 with h2 | ⟨g, cap, cur, hv, hg, r⟩
  · exact .inl h2
  · exact .inr ⟨g, cap, cur, hv, by omega, r⟩

/-- What the document's reader leaves for a row. -/
def TookInts (w : World) (o : Option (List Int × List UInt8)) (x : Ending) (w' : World) : Prop :=
  ∃ v, x = .returned (.tuple #[RV (nx o), v]) ∧ w'.ownsRow w.heap.size 3 1 v (vl [] o).length ((vl [] o).map (Value.int .i64)) ∧ Below w.heap.size w w'

set_option maxRecDepth 100000 in
set_option maxHeartbeats 4000000 in
theorem takeInts_any (l : List UInt8) (q : Bool) (w : World) (hl : l.length ≤ 1000000) :
    Calls Try.prog 56 #[.agg #[.string (ofL l), .bool q]] w (TookInts w (M.ints l)) := by
  have HT : Hid (M.ints l = match M.count l with | none => none | some (n, r) => M.many M.int n r) := rfl
  have HCN : Hid (M.int l = none → M.count l = none) := M.count_none l
  obtain ⟨i0, hti, hz0, hz1, hz2⟩ := info_parts Try.info3
  cases hi : M.int l with
  | none =>
    rw [HCN.out hi] at HT
    go_enter Try.func56, Try.ntmps56
    go_wp2_with fail
    refine (takeInt_any l q _ (by omega)).mono ?_
    rintro x w1 ⟨rfl, hb1⟩
    rw [hi]
    simp only [RV, vl, nx, Option.map_none, lft, Option.getD_none, Option.isNone_none]
    obtain ⟨g0, g1, hlt, B1⟩ := two_rows hb1
    obtain ⟨c00, c01, f00, f01⟩ := row2 g0
    obtain ⟨c10, c11, f10, f11⟩ := row2 g1
    clear hb1 g0
    have u00 := fun o => cell_up c00 o
    have u01 := fun o => cell_up c01 o
    have u10 := fun o1 o2 o3 => cell_up (cell_up (cell_up c10 o1) o2) o3
    have u11 := fun o1 o2 o3 => cell_up (cell_up (cell_up c11 o1) o2) o3
    have v10 := fun o1 o2 o3 => frozen_up (frozen_up (frozen_up f10 hlt o1) (by simp; omega) o2) (by simp; omega) o3
    have v11 := fun o1 o2 o3 => frozen_up (frozen_up (frozen_up f11 hlt o1) (by simp; omega) o2) (by simp; omega) o3
    go_wp2_with fail
    refine (bad_any _ _ _).mono ?_
    rintro x w2 ⟨rfl, rfl⟩
    go_wp2
    refine bodyPost_ret (v := .tuple #[RV none, .slice none 0 0]) ?_ rfl ?_
    · rw [results_cell_tmp rfl]
      go_simp
      rfl
    · rw [HT.out]
      exact ⟨_, rfl, World.ownsRow_nil _ _ _ _, by (repeat' (first | exact B1 | refine Below.drew ?_ | refine Below.setCell ?_ (by first | omega | (simp; omega) | simp) _ | refine Below.alloc ?_ (by first | omega | (simp; omega) | simp) _))⟩
  | some p =>
    obtain ⟨n, r⟩ := p
    have hbd := M.int_bd _ _ _ hi
    have hrl := M.int_len _ _ _ hi
    have hsz := ofL_size r
    by_cases h1 : n < 0
    · rw [M.count_low _ _ _ hi (.inl h1)] at HT
      have d1 : decide (n < 0) = true := by simpa using h1
      go_enter Try.func56, Try.ntmps56
      go_wp2_with fail
      refine (takeInt_any l q _ (by omega)).mono ?_
      rintro x w1 ⟨rfl, hb1⟩
      rw [hi]
      simp only [RV, vl, nx, Option.map_some, lft, Option.getD_some, Option.isNone_some]
      obtain ⟨g0, g1, hlt, B1⟩ := two_rows hb1
      obtain ⟨c00, c01, f00, f01⟩ := row2 g0
      obtain ⟨c10, c11, f10, f11⟩ := row2 g1
      clear hb1 g0
      have u00 := fun o => cell_up c00 o
      have u01 := fun o => cell_up c01 o
      have u10 := fun o1 o2 o3 => cell_up (cell_up (cell_up c10 o1) o2) o3
      have u11 := fun o1 o2 o3 => cell_up (cell_up (cell_up c11 o1) o2) o3
      have v10 := fun o1 o2 o3 => frozen_up (frozen_up (frozen_up f10 hlt o1) (by simp; omega) o2) (by simp; omega) o3
      have v11 := fun o1 o2 o3 => frozen_up (frozen_up (frozen_up f11 hlt o1) (by simp; omega) o2) (by simp; omega) o3
      go_wp2_with fail
      refine (bad_any _ _ _).mono ?_
      rintro x w2 ⟨rfl, rfl⟩
      go_wp2
      refine bodyPost_ret (v := .tuple #[RV none, .slice none 0 0]) ?_ rfl ?_
      · rw [results_cell_tmp rfl]
        go_simp
        rfl
      · rw [HT.out]
        exact ⟨_, rfl, World.ownsRow_nil _ _ _ _, by (repeat' (first | exact B1 | refine Below.drew ?_ | refine Below.setCell ?_ (by first | omega | (simp; omega) | simp) _ | refine Below.alloc ?_ (by first | omega | (simp; omega) | simp) _))⟩
    · obtain ⟨m, rfl⟩ := Int.eq_ofNat_of_zero_le (show 0 ≤ n by omega)
      have d1 : decide ((m : Int) < 0) = false := by simp
      by_cases h2 : r.length < m
      · rw [M.count_low _ _ _ hi (.inr (by omega))] at HT
        go_enter Try.func56, Try.ntmps56
        go_wp2_with fail
        refine (takeInt_any l q _ (by omega)).mono ?_
        rintro x w1 ⟨rfl, hb1⟩
        rw [hi]
        simp only [RV, vl, nx, Option.map_some, lft, Option.getD_some, Option.isNone_some]
        obtain ⟨g0, g1, hlt, B1⟩ := two_rows hb1
        obtain ⟨c00, c01, f00, f01⟩ := row2 g0
        obtain ⟨c10, c11, f10, f11⟩ := row2 g1
        clear hb1 g0
        have u00 := fun o => cell_up c00 o
        have u01 := fun o => cell_up c01 o
        have u10 := fun o1 o2 o3 => cell_up (cell_up (cell_up c10 o1) o2) o3
        have u11 := fun o1 o2 o3 => cell_up (cell_up (cell_up c11 o1) o2) o3
        have v10 := fun o1 o2 o3 => frozen_up (frozen_up (frozen_up f10 hlt o1) (by simp; omega) o2) (by simp; omega) o3
        have v11 := fun o1 o2 o3 => frozen_up (frozen_up (frozen_up f11 hlt o1) (by simp; omega) o2) (by simp; omega) o3
        go_wp2_with fail
        refine (bad_any _ _ _).mono ?_
        rintro x w2 ⟨rfl, rfl⟩
        go_wp2
        refine bodyPost_ret (v := .tuple #[RV none, .slice none 0 0]) ?_ rfl ?_
        · rw [results_cell_tmp rfl]
          go_simp
          rfl
        · rw [HT.out]
          exact ⟨_, rfl, World.ownsRow_nil _ _ _ _, by (repeat' (first | exact B1 | refine Below.drew ?_ | refine Below.setCell ?_ (by first | omega | (simp; omega) | simp) _ | refine Below.alloc ?_ (by first | omega | (simp; omega) | simp) _))⟩
      · rw [M.count_fits _ _ _ hi (by omega)] at HT
        have hm : m ≤ r.length := by omega
        have hr0 : r.length ≤ 1000000 := by omega
        go_enter Try.func56, Try.ntmps56
        go_wp2_with fail
        refine (takeInt_any l q _ (by omega)).mono ?_
        rintro x w1 ⟨rfl, hb1⟩
        rw [hi]
        simp only [RV, vl, nx, Option.map_some, lft, Option.getD_some, Option.isNone_some]
        obtain ⟨g0, g1, hlt, B1⟩ := two_rows hb1
        obtain ⟨c00, c01, f00, f01⟩ := row2 g0
        obtain ⟨c10, c11, f10, f11⟩ := row2 g1
        clear hb1 g0
        clear c00 c01 f00 f01 c10 c11 f10 f11 hsz
        have gX := heap_alloc_new w1 (.cells #[.string (ofL r), .bool false] 97)
        have gB := (Below.heap_alloc w1 (.cells #[.string (ofL r), .bool false] 97) (w.heap.size + 1) (by omega)).trans g1
        have BX := B1.alloc (by omega) (.cells #[.string (ofL r), .bool false] 97)
        obtain ⟨wX, hwX⟩ : ∃ wX, wX = w1.alloc (.cells #[.string (ofL r), .bool false] 97) := ⟨_, rfl⟩
        rw [← hwX] at gX gB BX
        have HWX : Hid (w1.alloc (.cells #[.string (ofL r), .bool false] 97) = wX) := hwX.symm
        have hXlt : w1.heap.size < wX.heap.size := by rw [hwX]; simp
        obtain ⟨X, hX⟩ : ∃ X, w1.heap.size = X := ⟨_, rfl⟩
        have hsz := ofL_size r
        rw [hX] at gX hXlt hlt
        clear hwX g1
        go_wp2
        rw [HWX.out]
        go_loopw [6, 7] (fun v i wr => ∃ (k : Nat) (xs : List Int) (rr : List UInt8), k ≤ m ∧ i = .int .i64 k ∧ wr.heap[X]? = some (.cells #[.string (ofL rr), .bool false] 97 (0, 0)) ∧ wr.heap[w.heap.size + 1]? = some (.cells #[.string { data := #[] }, .bool false] 97 (0, 0)) ∧ wr.ownsRow (X + 1) 3 1 v k (xs.map (Value.int .i64)) ∧ Below w.heap.size w wr ∧ X < wr.heap.size ∧ rr.length ≤ 1000000 ∧ Hid (M.many M.int k r = some (xs, rr))) (fun _ i _ => m - (intOf i).toNat)
        case atStart => exact ⟨0, [], r, Nat.zero_le _, rfl, gX, gB, World.ownsRow_nil _ _ _ _, BX, hXlt, hr0, rfl⟩
        case round =>
          obtain ⟨k, xs, rr, hk, rfl, kX, kB, hown, hbel, hXr, hrr, HM⟩ := hrel
          clear gX gB BX hXlt HWX
          obtain ⟨c00, c01, f00, f01⟩ := row2 kX
          have hle := hbel.size
          by_cases hlt2 : k < m
          · go_wp2_with fail
            refine (takeInt_any rr false _ (by omega)).mono ?_
            rintro x w2 ⟨rfl, hb2⟩
            have kX2 := (hb2.block X hXr).trans kX
            have kB2 := (hb2.block (w.heap.size + 1) (by omega)).trans kB
            have hown2 := owns_below hown hb2
            have B2 := hbel.trans (hb2.mono hle)
            have hXr2 : X < w2.heap.size := Nat.lt_of_lt_of_le hXr hb2.size
            have hle2 := B2.size
            clear kX kB hown hb2 c00 c01 f00 f01 hXr hle
            cases hq : M.int rr with
            | none =>
              have HN : Hid (M.ints l = none) := by
                show _ = _
                rw [HT.out]
                have := M.many_stop M.int k r xs rr HM.out hq (m - (k + 1))
                rwa [show k + 1 + (m - (k + 1)) = m by omega] at this
              simp only [RV, vl, nx, Option.map_none, lft, Option.getD_none, Option.isNone_none]
              obtain ⟨c10, c11, f10, f11⟩ := row2 kB2
              have u10 := fun o => cell_up c10 o
              have u11 := fun o => cell_up c11 o
              have v10 := fun o => frozen_up f10 (show w.heap.size + 1 < w2.heap.size by omega) o
              have v11 := fun o => frozen_up f11 (show w.heap.size + 1 < w2.heap.size by omega) o
              clear hq hown2
              go_wp2
              refine bodyPost_ret (v := .tuple #[RV none, .slice none 0 0]) ?_ rfl ?_
              · rw [results_cell_tmp rfl]
                go_simp
                rfl
              · rw [HN.out]
                exact ⟨_, rfl, World.ownsRow_nil _ _ _ _, by (repeat' (first | exact B2 | refine Below.drew ?_ | refine Below.setCell ?_ (by first | omega | (simp; omega) | simp) _ | refine Below.alloc ?_ (by first | omega | (simp; omega) | simp) _))⟩
            | some p2 =>
              obtain ⟨x0, r2⟩ := p2
              have HM2 : Hid (M.many M.int (k + 1) r = some (xs ++ [x0], r2)) := M.many_step M.int k r xs rr x0 r2 HM.out hq
              have hrl2 : r2.length ≤ 1000000 := by have := M.int_len rr x0 r2 hq; omega
              simp only [RV, vl, nx, Option.map_some, lft, Option.getD_some, Option.isNone_some]
              obtain ⟨c10, c11, f10, f11⟩ := row2 kX2
              have u10 := fun o => cell_up c10 o
              have u11 := fun o => cell_up c11 o
              have v10 := fun o => frozen_up f10 hXr2 o
              have v11 := fun o => frozen_up f11 hXr2 o
              have hown3 := (ownsRow_setCell_below (ownsRow_setCell_below hown2 (a := ⟨X, 0, none⟩) (Nat.lt_succ_self X) (.string (ofL r2))) (a := ⟨X, 1, none⟩) (Nat.lt_succ_self X) (.bool false)).alloc (.cells #[.string (ofL r2), .bool false] 97)
              have kX3 := rowset kX2 (.string (ofL r2)) (.bool false)
              have kB3 := (rowoth w2 X (w.heap.size + 1) (.string (ofL r2)) (.bool false) (by omega)).trans kB2
              have B3 : Below w.heap.size w ((w2.setCell ⟨X, 0, none⟩ (.string (ofL r2))).setCell ⟨X, 1, none⟩ (.bool false)) := (B2.setCell (p := ⟨X, 0, none⟩) (by show _ ≤ X; omega) _).setCell (p := ⟨X, 1, none⟩) (by show _ ≤ X; omega) _
              have HZ : Hid (((w2.setCell ⟨X, 0, none⟩ (.string (ofL r2))).setCell ⟨X, 1, none⟩ (.bool false)).heap.size = w2.heap.size) := by show _ = _; simp
              have hcn := cell_one_new (((w2.setCell ⟨X, 0, none⟩ (.string (ofL r2))).setCell ⟨X, 1, none⟩ (.bool false)).alloc (.cells #[.string (ofL r2), .bool false] 97)) ((Value.int .i64) x0) 3
              have HZ2 : Hid ((((w2.setCell ⟨X, 0, none⟩ (.string (ofL r2))).setCell ⟨X, 1, none⟩ (.bool false)).alloc (.cells #[.string (ofL r2), .bool false] 97)).heap.size = w2.heap.size + 1) := by show _ = _; simp
              rw [HZ2.out] at hcn
              have HCN2 : Hid (∀ j u, [(Value.int .i64) x0][j]? = some u → ((((w2.setCell ⟨X, 0, none⟩ (.string (ofL r2))).setCell ⟨X, 1, none⟩ (.bool false)).alloc (.cells #[.string (ofL r2), .bool false] 97)).alloc (.cells #[(Value.int .i64) x0] 3)).cell? ((⟨w2.heap.size + 1, 0, none⟩ : Addr).add j) = some u) := hcn
              clear hq hown2 kX2 kB2 hcn
              go_wp2_with (at_builtin; refine wpList_append_own _ rfl _ _ 30 rfl (X + 1) 3 i0 (.int .i64 0) 1 8 Try.underlying30 hti hz0 hz1 hz2 rfl (by decide) _ _ _ rfl (hown3.alloc _) ⟨w2.heap.size + 1, 0, none⟩ 1 1 [(Value.int .i64) x0] rfl rfl HCN2.out (by simp; rfl) (by unfold maxLen; omega) (by omega) (by simp; omega) ?_; intro v' w4 hown4 hgrow hnil)
              have hne : ∀ k, k ≤ X → some k ≠ u6.ownBlock := fun k hk e => by have := (hown3.lt k e.symm).1; omega
              have kk : ∀ k, k ≤ X → w4.heap[k]? = ((w2.setCell ⟨X, 0, none⟩ (.string (ofL r2))).setCell ⟨X, 1, none⟩ (.bool false)).heap[k]? := fun k hk => by
                rw [hgrow.block k (by simp; omega) (fun e => hne k hk e), Below.heap_alloc _ _ _ (by simp; omega), Below.heap_alloc _ _ _ (by simp; omega)]
              have kX4 := (kk X (Nat.le_refl _)).trans kX3
              have kB4 := (kk (w.heap.size + 1) (by omega)).trans kB3
              have hsz4 := hgrow.size
              have B4 : Below w.heap.size w w4 := ⟨hgrow.os.trans B3.os, hgrow.tape.trans B3.tape, hgrow.output.trans B3.output, by simp at hsz4; omega, fun k hk => (kk k (by omega)).trans (B3.block k hk)⟩
              have hX4 : X < w4.heap.size := by simp at hsz4; omega
              clear hgrow hown3 kX3 kB3 B3 hne kk hsz4
              go_wp2
              go_roundw
              case rel => exact ⟨k + 1, xs ++ [x0], r2, by omega, by go_num, kX4, kB4, by rw [List.map_append]; exact hown4, B4, hX4, hrl2, HM2⟩
              case measure => simp [intOf]; omega
          · have hkm : k = m := by omega
            subst hkm
            have HN : Hid (M.ints l = some (xs, rr)) := by
              show _ = _
              rw [HT.out]
              exact HM.out
            have hxl : xs.length = k := M.many_len M.int k r xs rr HM.out
            obtain ⟨c10, c11, f10, f11⟩ := row2 kB
            have hown' := ownsRow_setCell_below (ownsRow_setCell_below hown (a := ⟨w.heap.size + 1, 0, none⟩) (by show w.heap.size + 1 < X + 1; omega) (.string (ofL rr))) (a := ⟨w.heap.size + 1, 1, none⟩) (by show w.heap.size + 1 < X + 1; omega) (.bool false)
            have B' : Below w.heap.size w ((wr.setCell ⟨w.heap.size + 1, 0, none⟩ (.string (ofL rr))).setCell ⟨w.heap.size + 1, 1, none⟩ (.bool false)) := (hbel.setCell (p := ⟨w.heap.size + 1, 0, none⟩) (by show _ ≤ w.heap.size + 1; omega) _).setCell (p := ⟨w.heap.size + 1, 1, none⟩) (by show _ ≤ w.heap.size + 1; omega) _
            subst hxl
            go_wp2
            refine bodyPost_ret (v := .tuple #[RV (some rr), u6]) ?_ rfl ?_
            · rw [results_cell_tmp rfl]
              go_simp
              rfl
            · rw [HN.out]
              exact ⟨_, rfl, owns_base hown' (by omega), B'⟩

/-- What the document's reader leaves for a row. -/
def TookTexts (w : World) (o : Option (List (List UInt8) × List UInt8)) (x : Ending) (w' : World) : Prop :=
  ∃ v, x = .returned (.tuple #[RV (nx o), v]) ∧ w'.ownsRow w.heap.size 9 1 v (vl [] o).length ((vl [] o).map (fun s => Value.string (ofL s))) ∧ Below w.heap.size w w'

set_option maxHeartbeats 400000 in
theorem end_any (st : Option (List UInt8)) (w : World) :
    Calls Try.prog 58 #[RV st] w fun x w' => x = .returned (.int .i64 (rdone st)) ∧ Below w.heap.size w w' := by
  match st with
  | none =>
    go_enter Try.func58, Try.ntmps58
    simp only [RV, lft, Option.getD_none, Option.isNone_none]
    go_wp2
    go_ret
    exact ⟨rfl, (Below.refl _ _).alloc (Nat.le_refl _) _⟩
  | some [] =>
    have h0 : (ofL []).toList.isEmpty = true := by rw [ByteArray.toList_eq]; rfl
    go_enter Try.func58, Try.ntmps58
    simp only [RV, lft, Option.getD_some, Option.isNone_some]
    go_wp2
    go_ret
    exact ⟨rfl, (Below.refl _ _).alloc (Nat.le_refl _) _⟩
  | some (c :: r) =>
    have h0 := text_nil (c :: r) (by simp)
    go_enter Try.func58, Try.ntmps58
    simp only [RV, lft, Option.getD_some, Option.isNone_some]
    go_wp2
    go_ret
    exact ⟨rfl, (Below.refl _ _).alloc (Nat.le_refl _) _⟩

end Go.Proofs.Ytgcfpihfoekllaa
