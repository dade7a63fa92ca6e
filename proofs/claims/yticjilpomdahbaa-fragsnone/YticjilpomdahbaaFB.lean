/-
  Slots in memory: their cells, a store at a block; places and slots compared; the slot of a place, the lowest one that is free.
-/
import Derived.Test.YticjilpomdahbaaFO
import Derived.Laws.StructEq
namespace Go.Proofs.Yticjilpomdahbaa
open Go.RowKit
open M (ofL ofL_size ofL_of)
set_option linter.unusedVariables false

theorem eq24 (x y a b : Int) (w : World) : (binOp .eql 23 (.agg #[.int .i64 x, .int .i64 y]) (.agg #[.int .i64 a, .int .i64 b])).run Try.prog w = .ok (.bool (decide (x = a) && decide (y = b))) w := by
  have u3 := Try.underlying3
  have a3 := Try.isAgg3
  have z3 := Try.sizeOf3
  have hS : Try.prog.underlying 23 = some (.struct (Try.prog.fieldsOf 23)) := by kernel_rfl
  have hp : Try.prog.stoodInHeld 23 = false := by kernel_rfl
  rw [run_eql_struct, show (10000 : Nat) = 9999 + 1 from rfl, run_equalIn_agg w 9999 23 _ _ hS hp]
  simp only [Program.fieldsOf, Try.underlying23]
  go_simp
  by_cases h1 : x = a <;> by_cases h2 : y = b <;> simp [h1, h2]
theorem eq60_no (x y z a b c : Int) (w : World) : (binOp .eql 50 (.agg #[.bool false, .int .i64 x, .int .i64 y, .int .i64 z]) (.agg #[.bool true, .int .i64 a, .int .i64 b, .int .i64 c])).run Try.prog w = .ok (.bool false) w := by
  have u3 := Try.underlying3
  have u4 := Try.underlying4
  have a3 := Try.isAgg3
  have a4 := Try.isAgg4
  have z3 := Try.sizeOf3
  have z4 := Try.sizeOf4
  have hS : Try.prog.underlying 50 = some (.struct (Try.prog.fieldsOf 50)) := by kernel_rfl
  have hp : Try.prog.stoodInHeld 50 = false := by kernel_rfl
  rw [run_eql_struct, show (10000 : Nat) = 9999 + 1 from rfl, run_equalIn_agg w 9999 50 _ _ hS hp]
  simp only [Program.fieldsOf, Try.underlying50]
  go_simp
theorem eq60_yes (w : World) : (binOp .eql 50 (.agg #[.bool false, .int .i64 0, .int .i64 0, .int .i64 0]) (.agg #[.bool false, .int .i64 0, .int .i64 0, .int .i64 0])).run Try.prog w = .ok (.bool true) w := by
  have u3 := Try.underlying3
  have u4 := Try.underlying4
  have a3 := Try.isAgg3
  have a4 := Try.isAgg4
  have z3 := Try.sizeOf3
  have z4 := Try.sizeOf4
  have hS : Try.prog.underlying 50 = some (.struct (Try.prog.fieldsOf 50)) := by kernel_rfl
  have hp : Try.prog.stoodInHeld 50 = false := by kernel_rfl
  rw [run_eql_struct, show (10000 : Nat) = 9999 + 1 from rfl, run_equalIn_agg w 9999 50 _ _ hS hp]
  simp only [Program.fieldsOf, Try.underlying50]
  go_simp
/-- The cells of slots. -/
def LC : List Fr.Sl → List Value
  | [] => []
  | x :: r => (SV x).toList ++ LC r
theorem SV_size (x : Fr.Sl) : (SV x).toList.length = 4 := by
  cases x with
  | none => rfl
  | some y => rfl
theorem LC_len (L : List Fr.Sl) : (LC L).length = L.length * 4 := by
  induction L with
  | nil => rfl
  | cons x r ih => rw [LC, List.length_append, ih, SV_size, List.length_cons]; omega
theorem LC_get (L : List Fr.Sl) (i k : Nat) (x : Fr.Sl) (h : L[i]? = some x) (hk : k < 4) : (LC L)[i * 4 + k]? = (SV x)[k]? := by
  induction L generalizing i with
  | nil => simp at h
  | cons y r ih =>
    cases i with
    | zero =>
      simp only [List.getElem?_cons_zero, Option.some.injEq] at h
      subst h
      rw [LC, Nat.zero_mul, Nat.zero_add, List.getElem?_append_left (by rw [SV_size]; exact hk)]
      simp
    | succ i =>
      rw [LC, List.getElem?_append_right (by rw [SV_size]; omega), SV_size, show (i + 1) * 4 + k - 4 = i * 4 + k by omega]
      exact ih i (by simpa using h)
theorem LC_set (L : List Fr.Sl) (i : Nat) (h : i < L.length) (v0 v1 v2 v3 : Value) (x : Fr.Sl) (hx : SV x = #[v0, v1, v2, v3]) : ((((LC L).set (i * 4) v0).set (i * 4 + 1) v1).set (i * 4 + 2) v2).set (i * 4 + 3) v3 = LC (L.set i x) := by
  induction L generalizing i with
  | nil => simp at h
  | cons y r ih =>
    cases i with
    | zero =>
      rw [List.set_cons_zero, LC, LC, hx]
      cases y with
      | none => rfl
      | some z => rfl
    | succ i =>
      have e : ∀ (j : Nat) (l : List Value) (v : Value), 4 ≤ j → ((SV y).toList ++ l).set j v = (SV y).toList ++ l.set (j - 4) v := fun j l v hj => by
        rw [List.set_append_right _ _ (by rw [SV_size]; exact hj), SV_size]
      rw [List.set_cons_succ, LC, LC, e _ _ _ (by omega), e _ _ _ (by omega), e _ _ _ (by omega), e _ _ _ (by omega)]
      rw [show (i + 1) * 4 - 4 = i * 4 by omega, show (i + 1) * 4 + 1 - 4 = i * 4 + 1 by omega, show (i + 1) * 4 + 2 - 4 = i * 4 + 2 by omega, show (i + 1) * 4 + 3 - 4 = i * 4 + 3 by omega]
      rw [ih i (by simpa using h)]
/-- The slots' row. -/
def LR (w : World) (g : Nat) (L : List Fr.Sl) : Prop := w.heap[g]? = some (.cells (LC L).toArray 50 (0, 0))
theorem LR.lt {w : World} {g : Nat} {L : List Fr.Sl} (h : LR w g L) : g < w.heap.size := (Array.getElem?_eq_some_iff.1 h).1
theorem LR.keep {w w' : World} {g : Nat} {L : List Fr.Sl} (h : LR w g L) (hb : Below w.heap.size w w') : LR w' g L := (hb.block g h.lt).trans h
theorem LR.none {w : World} {g : Nat} {L : List Fr.Sl} (h : LR w g L) {i : Nat} (hi : L[i]? = some Option.none) :
    w.cell? ⟨g, i * 4, Option.none⟩ = some (.bool false) ∧ w.cell? ⟨g, i * 4 + 1, Option.none⟩ = some (.int .i64 0) ∧ w.cell? ⟨g, i * 4 + 2, Option.none⟩ = some (.int .i64 0) ∧ w.cell? ⟨g, i * 4 + 3, Option.none⟩ = some (.int .i64 0) := by
  have h0 := LC_get L i 0 _ hi (by omega)
  have h1 := LC_get L i 1 _ hi (by omega)
  have h2 := LC_get L i 2 _ hi (by omega)
  have h3 := LC_get L i 3 _ hi (by omega)
  rw [cell_of_row w g _ _ _ _ h, cell_of_row w g _ _ _ _ h, cell_of_row w g _ _ _ _ h, cell_of_row w g _ _ _ _ h]
  simp only [List.getElem?_toArray]
  exact ⟨h0, h1, h2, h3⟩
theorem LR.some {w : World} {g : Nat} {L : List Fr.Sl} (h : LR w g L) {i a b : Nat} {s : ByteArray} (hi : L[i]? = some (Option.some ((a, b), s))) :
    w.cell? ⟨g, i * 4, Option.none⟩ = Option.some (.bool true) ∧ w.cell? ⟨g, i * 4 + 1, Option.none⟩ = Option.some (.int .i64 a) ∧ w.cell? ⟨g, i * 4 + 2, Option.none⟩ = Option.some (.int .i64 b) ∧ w.cell? ⟨g, i * 4 + 3, Option.none⟩ = Option.some (.int .i64 s.size) := by
  have h0 := LC_get L i 0 _ hi (by omega)
  have h1 := LC_get L i 1 _ hi (by omega)
  have h2 := LC_get L i 2 _ hi (by omega)
  have h3 := LC_get L i 3 _ hi (by omega)
  rw [cell_of_row w g _ _ _ _ h, cell_of_row w g _ _ _ _ h, cell_of_row w g _ _ _ _ h, cell_of_row w g _ _ _ _ h]
  simp only [List.getElem?_toArray]
  exact ⟨h0, h1, h2, h3⟩
theorem LR.free {w : World} {g : Nat} {L : List Fr.Sl} (h : LR w g L) (j : Nat) : w.frozen? ⟨g, j, Option.none⟩ = false := frozen_of_row w g j _ _ h
theorem LR.set {w : World} {g : Nat} {L : List Fr.Sl} (h : LR w g L) (i : Nat) (hi : i < L.length) (v0 v1 v2 v3 : Value) (x : Fr.Sl) (hx : SV x = #[v0, v1, v2, v3]) :
    LR ((((w.setCell ⟨g, i * 4, Option.none⟩ v0).setCell ⟨g, i * 4 + 1, Option.none⟩ v1).setCell ⟨g, i * 4 + 2, Option.none⟩ v2).setCell ⟨g, i * 4 + 3, Option.none⟩ v3) g (L.set i x) := by
  unfold LR
  rw [heap_setCell_same _ g _ _ _ _ (heap_setCell_same _ g _ _ _ _ (heap_setCell_same _ g _ _ _ _ (heap_setCell_same w g _ _ _ _ h))), ← LC_set L i hi v0 v1 v2 v3 x hx]
  simp
/-- A closure's box. -/
def PB (w : World) (B : Nat) (p q : Int) : Prop := w.heap[B]? = some (.cells #[.int .i64 p, .int .i64 q] 23 (0, 0))
set_option maxRecDepth 100000 in
set_option maxHeartbeats 400000 in
theorem pred_any (p q : Int) (x : Fr.Sl) (B : Nat) (w : World) (hB : PB w B p q) :
    Calls Try.prog 54 #[.agg (SV x), .pointer (some ⟨B, 0, none⟩)] w fun e w' => e = .returned (.bool (Fr.isAt p q x)) ∧ Below w.heap.size w w' := by
  have hlt : B < w.heap.size := (Array.getElem?_eq_some_iff.1 hB).1
  have e1 := fun a b : Nat => eq24 a b p q
  cases x with
  | none =>
    have hh : SV none = #[.bool false, .int .i64 0, .int .i64 0, .int .i64 0] := rfl
    rw [hh]
    clear hB e1
    go_enter Try.func54, Try.ntmps54
    go_wp2
    go_ret
    exact ⟨rfl, bel1 w _⟩
  | some y =>
    obtain ⟨⟨a, b⟩, s⟩ := y
    have hh : SV (some ((a, b), s)) = #[.bool true, .int .i64 a, .int .i64 b, .int .i64 s.size] := rfl
    rw [hh]
    have hr : (w.alloc (.cells #[.bool true, .int .i64 a, .int .i64 b, .int .i64 s.size] 50)).heap[B]? = some (.cells #[.int .i64 p, .int .i64 q] 23 (0, 0)) := (Below.heap_alloc _ _ _ hlt).trans hB
    obtain ⟨⟨k0, k1⟩, _⟩ := row2 hr
    have e2 : ∀ W, (binOp .eql 23 (.agg #[.int .i64 a, .int .i64 b]) (.agg #[.int .i64 p, .int .i64 q])).run Try.prog W = .ok (.bool (Fr.isAt p q (some ((a, b), s)))) W := fun W => eq24 a b p q W
    generalize Fr.isAt p q (some ((a, b), s)) = r at *
    clear hB e1 hr
    go_enter Try.func54, Try.ntmps54
    go_wp2
    go_ret
    exact ⟨rfl, bel1 w _⟩
end Go.Proofs.Yticjilpomdahbaa
