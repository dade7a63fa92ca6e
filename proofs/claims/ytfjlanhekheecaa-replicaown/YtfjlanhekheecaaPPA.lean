/-
  A proposer in memory; its small methods.
-/
import Derived.Test.YtfjlanhekheecaaPMP
import Derived.Test.YtfjlanhekheecaaPG
namespace Go.Proofs.Ytfjlanhekheecaa.Np
open Go.RowKit Go.Maps
set_option linter.unusedVariables false
open Go.Proofs.Ytfjlanhekheecaa.M (E V)
open Go.Proofs.Ytfjlanhekheecaa.Np.M (fup)

theorem row16 {w : World} {k : Nat} {v0 v1 v2 v3 v4 v5 v6 v7 v8 v9 v10 v11 v12 v13 v14 v15 : Value} {t : TypeId} (h : w.heap[k]? = some (.cells #[v0, v1, v2, v3, v4, v5, v6, v7, v8, v9, v10, v11, v12, v13, v14, v15] t (0, 0))) :
    (w.cell? ⟨k, 0, none⟩ = some v0 ∧ w.cell? ⟨k, 1, none⟩ = some v1 ∧ w.cell? ⟨k, 2, none⟩ = some v2 ∧ w.cell? ⟨k, 3, none⟩ = some v3 ∧ w.cell? ⟨k, 4, none⟩ = some v4 ∧ w.cell? ⟨k, 5, none⟩ = some v5 ∧ w.cell? ⟨k, 6, none⟩ = some v6 ∧ w.cell? ⟨k, 7, none⟩ = some v7 ∧ w.cell? ⟨k, 8, none⟩ = some v8 ∧ w.cell? ⟨k, 9, none⟩ = some v9 ∧ w.cell? ⟨k, 10, none⟩ = some v10 ∧ w.cell? ⟨k, 11, none⟩ = some v11 ∧ w.cell? ⟨k, 12, none⟩ = some v12 ∧ w.cell? ⟨k, 13, none⟩ = some v13 ∧ w.cell? ⟨k, 14, none⟩ = some v14 ∧ w.cell? ⟨k, 15, none⟩ = some v15) ∧ ∀ j, w.frozen? ⟨k, j, none⟩ = false :=
  ⟨⟨by rw [cell_of_row w k 0 _ _ _ h]; rfl, by rw [cell_of_row w k 1 _ _ _ h]; rfl, by rw [cell_of_row w k 2 _ _ _ h]; rfl, by rw [cell_of_row w k 3 _ _ _ h]; rfl, by rw [cell_of_row w k 4 _ _ _ h]; rfl, by rw [cell_of_row w k 5 _ _ _ h]; rfl, by rw [cell_of_row w k 6 _ _ _ h]; rfl, by rw [cell_of_row w k 7 _ _ _ h]; rfl, by rw [cell_of_row w k 8 _ _ _ h]; rfl, by rw [cell_of_row w k 9 _ _ _ h]; rfl, by rw [cell_of_row w k 10 _ _ _ h]; rfl, by rw [cell_of_row w k 11 _ _ _ h]; rfl, by rw [cell_of_row w k 12 _ _ _ h]; rfl, by rw [cell_of_row w k 13 _ _ _ h]; rfl, by rw [cell_of_row w k 14 _ _ _ h]; rfl, by rw [cell_of_row w k 15 _ _ _ h]; rfl⟩, fun j => frozen_of_row w k j _ _ h⟩
/-- The cells of a proposer. -/
abbrev prow (s : M.S) (mv : Option Nat) : Array Value := #[.int .i64 s.n, .int .i64 s.me, .int .i64 s.st, .int .i64 s.b.i, .int .i64 s.b.t, .int .i64 s.ask, .bool (s.who 0), .bool (s.who 1), .bool (s.who 2), .bool (s.who 3), .bool (s.who 4), .bool (s.who 5), .bool (s.who 6), .map mv, .int .i64 s.fin, .int .i64 s.nx]
/-- What is a proposer's own: its block, and its map's. -/
def fpp (b : Nat) (mv : Option Nat) (k : Nat) : Prop := k = b ∨ mv = some k
/-- The map of the votes, or none. -/
structure ML (w : World) (base : Nat) (mv : Option Nat) (s : M.S) : Prop where
  no : mv = none → ∀ k, s.f k = none
  yes : ∀ m, mv = some m → MI w m s.c s.f ∧ base ≤ m
/-- A proposer at block b. -/
structure PI (w : World) (base b : Nat) (mv : Option Nat) (s : M.S) : Prop where
  row : w.heap[b]? = some (.cells (prow s mv) 81 (0, 0))
  map : ML w base mv s
  lo : base ≤ b
section
variable {w w' : World} {base b : Nat} {mv : Option Nat} {s s' : M.S}
theorem ML.keepBut (h : ML w base mv s) (hb : ∀ m, mv = some m → w'.heap[m]? = w.heap[m]?) : ML w' base mv s :=
  ⟨h.no, fun m hm => ⟨(h.yes m hm).1.keep (hb m hm), (h.yes m hm).2⟩⟩
theorem ML.of (h : ML w base mv s) (hf : s'.f = s.f) (hc : s'.c = s.c) : ML w base mv s' := ⟨fun e k => by rw [hf]; exact h.no e k, fun m hm => by rw [hf, hc]; exact h.yes m hm⟩
theorem PI.keepBut (h : PI w base b mv s) (hb : ∀ k, k < w.heap.size → fpp b mv k → w'.heap[k]? = w.heap[k]?) : PI w' base b mv s :=
  ⟨(hb b (Array.getElem?_eq_some_iff.1 h.row).1 (.inl rfl)).trans h.row, h.map.keepBut (fun m hm => hb m (h.map.yes m hm).1.lt (.inr hm)), h.lo⟩
theorem PI.keep (h : PI w base b mv s) (hb : Below w.heap.size w w') : PI w' base b mv s := h.keepBut fun k hk _ => hb.block k hk
theorem PI.lt (h : PI w base b mv s) : b < w.heap.size := (Array.getElem?_eq_some_iff.1 h.row).1
theorem PI.mine (h : PI w base b mv s) : ∀ k, fpp b mv k → base ≤ k ∧ k < w.heap.size := by
  rintro k (rfl | hk)
  · exact ⟨h.lo, h.lt⟩
  · exact ⟨(h.map.yes k hk).2, (h.map.yes k hk).1.lt⟩
theorem PI.ne (h : PI w base b mv s) {m : Nat} (hm : mv = some m) : m ≠ b := fun e => (h.map.yes m hm).1.ne h.row e.symm
/-- One cell of its block is set. -/
theorem PI.cell (h : PI w base b mv s) (j : Nat) (v : Value) (hr : (prow s mv).setIfInBounds j v = prow s' mv) (hf : s'.f = s.f) (hc : s'.c = s.c) : PI (w.setCell ⟨b, j, none⟩ v) base b mv s' :=
  ⟨by rw [heap_setCell_same w b j _ _ _ h.row, hr], (h.map.keepBut (w' := w.setCell ⟨b, j, none⟩ v) (fun m hm => heap_setCell_other w ⟨b, j, none⟩ m _ (h.ne hm))).of hf hc, h.lo⟩
/-- Its map is another one. -/
theorem PI.remap (h : PI w base b mv s) {mv' : Option Nat} (hr : (prow s mv).setIfInBounds 13 (.map mv') = prow s' mv') (hm : ML (w.setCell ⟨b, 13, none⟩ (.map mv')) base mv' s') : PI (w.setCell ⟨b, 13, none⟩ (.map mv')) base b mv' s' :=
  ⟨by rw [heap_setCell_same w b 13 _ _ _ h.row, hr], hm, h.lo⟩
/-- What is looked up. -/
theorem ML.look (h : ML w base mv s) (k : Int) (hk : (Lit.int .i64 k).wf = true) : (Instr.lookup 79 (.map mv) (.int .i64 k) false).run Try.prog w = .ok (vV ((s.f k).getD zo)) w := by
  cases hm : mv with
  | none =>
    rw [h.no hm k]
    exact Maps.look_nil (w := w) false law3 Try.underlying79 (zero42 w) (keyOf_int_mk Try.underlying3 hk)
  | some m => exact (h.yes m hm).1.look k hk
theorem ML.lookOk (h : ML w base mv s) (k : Int) (hk : (Lit.int .i64 k).wf = true) : (Instr.lookup 79 (.map mv) (.int .i64 k) true).run Try.prog w = .ok (.tuple #[vV ((s.f k).getD zo), .bool (s.f k).isSome]) w := by
  cases hm : mv with
  | none =>
    rw [h.no hm k]
    exact Maps.look_nil (w := w) true law3 Try.underlying79 (zero42 w) (keyOf_int_mk Try.underlying3 hk)
  | some m => exact (h.yes m hm).1.lookOk k hk
end
theorem fr_cell {w : World} {b : Nat} {mv : Option Nat} (j : Nat) (v : Value) : Fr w (fpp b mv) (w.setCell ⟨b, j, none⟩ v) (fpp b mv) :=
  ⟨rfl, rfl, rfl, by simp, fun k _ hk => heap_setCell_other w ⟨b, j, none⟩ k _ (fun e => hk (.inl e)), fun k h => .inl h⟩
theorem wf_small {k : Int} (h0 : 0 ≤ k) (h1 : k < 1024) : (Lit.int .i64 k).wf = true := by
  have e1 : IntKind.i64.min = -9223372036854775808 := rfl
  have e2 : IntKind.i64.max = 9223372036854775807 := rfl
  simp only [Lit.wf, e1, e2, Bool.and_eq_true, decide_eq_true_eq]
  omega
theorem alloc16 (w : World) (v0 v1 v2 v3 v4 v5 v6 v7 v8 v9 v10 v11 v12 v13 v14 v15 : Value) (t : TypeId) : (w.alloc (.cells #[v0, v1, v2, v3, v4, v5, v6, v7, v8, v9, v10, v11, v12, v13, v14, v15] t)).heap[w.heap.size]? = some (.cells #[v0, v1, v2, v3, v4, v5, v6, v7, v8, v9, v10, v11, v12, v13, v14, v15] t (0, 0)) := heap_alloc_last w _
/-- What New leaves. -/
def NewOut (w : World) (n me : Int) (e : Ending) (w' : World) : Prop :=
  (M.nde n me = false ∧ e = .returned (.pointer none) ∧ w' = w) ∨ (M.nde n me = true ∧ ∃ b, e = .returned (.pointer (some ⟨b, 0, none⟩)) ∧ PI w' w.heap.size b none (M.S0 n me) ∧ Below w.heap.size w w' ∧ w.heap.size ≤ b)
theorem new_any (n me : Int) (w : World) : Calls Try.prog 25 #[.int .i64 n, .int .i64 me] w (NewOut w n me) := by
  have HB := Hid_of (fun o => bel1 w o)
  have HR := Hid_of (alloc16 w)
  by_cases h0 : n < 1
  · have HN : Hid (M.nde n me = false) := Hid_of (by unfold M.nde; simp; omega)
    have d0 : decide (n < 1) = true := decide_eq_true h0
    clear h0
    go_enter Try.func25, Try.ntmps25
    go_wp2
    go_ret
    exact .inl ⟨HN.out, rfl, rfl⟩
  · have d0 : decide (n < 1) = false := decide_eq_false h0
    by_cases h1 : 7 < n
    · have HN : Hid (M.nde n me = false) := Hid_of (by unfold M.nde; simp; omega)
      have d1 : decide (7 < n) = true := decide_eq_true h1
      clear h0 h1
      go_enter Try.func25, Try.ntmps25
      go_wp2
      go_ret
      exact .inl ⟨HN.out, rfl, rfl⟩
    · have d1 : decide (7 < n) = false := decide_eq_false h1
      by_cases h2 : me < 0
      · have HN : Hid (M.nde n me = false) := Hid_of (by unfold M.nde; simp; omega)
        have d2 : decide (me < 0) = true := decide_eq_true h2
        clear h0 h1 h2
        go_enter Try.func25, Try.ntmps25
        go_wp2
        go_ret
        exact .inl ⟨HN.out, rfl, rfl⟩
      · have d2 : decide (me < 0) = false := decide_eq_false h2
        by_cases h3 : n ≤ me
        · have HN : Hid (M.nde n me = false) := Hid_of (by unfold M.nde; simp; omega)
          have d3 : decide (n ≤ me) = true := decide_eq_true h3
          clear h0 h1 h2 h3
          go_enter Try.func25, Try.ntmps25
          go_wp2
          go_ret
          exact .inl ⟨HN.out, rfl, rfl⟩
        · have HN : Hid (M.nde n me = true) := Hid_of (by unfold M.nde; simp; omega)
          have d3 : decide (n ≤ me) = false := decide_eq_false h3
          clear h0 h1 h2 h3
          go_enter Try.func25, Try.ntmps25
          go_wp2
          go_ret
          exact .inr ⟨HN.out, w.heap.size, rfl, ⟨HR.out _ _ _ _ _ _ _ _ _ _ _ _ _ _ _ _ _, ⟨fun _ _ => rfl, fun m hm => by cases hm⟩, Nat.le_refl _⟩, HB.out _, Nat.le_refl _⟩
theorem isSlot_any (k : Int) (w : World) : Calls Try.prog 44 #[.int .i64 k] w fun e w' => e = .returned (.bool (M.slot k)) ∧ w' = w := by
  by_cases h0 : 0 ≤ k
  · have HN : Hid (M.slot k = decide (k < 1024)) := Hid_of (by unfold M.slot; rw [decide_eq_true h0, Bool.true_and])
    have d0 : decide (0 ≤ k) = true := decide_eq_true h0
    rw [HN.out]
    clear HN
    go_enter Try.func44, Try.ntmps44
    go_wp2
    go_ret
    exact ⟨rfl, rfl⟩
  · have HN : Hid (M.slot k = false) := Hid_of (by unfold M.slot; rw [decide_eq_false h0, Bool.false_and])
    have d0 : decide (0 ≤ k) = false := decide_eq_false h0
    rw [HN.out]
    clear HN
    go_enter Try.func44, Try.ntmps44
    go_wp2
    go_ret
    exact ⟨rfl, rfl⟩
section
variable {w : World} {base b : Nat} {mv : Option Nat} {s : M.S}
theorem leads_any (h : PI w base b mv s) : Calls Try.prog 42 #[.pointer (some ⟨b, 0, none⟩)] w fun e w' => e = .returned (.bool (decide (2 ≤ s.st))) ∧ w' = w := by
  obtain ⟨⟨c0, c1, c2, c3, c4, c5, c6, c7, c8, c9, c10, c11, c12, c13, c14, c15⟩, _⟩ := row16 h.row
  clear h
  go_enter Try.func42, Try.ntmps42
  go_wp2
  go_ret
  exact ⟨rfl, rfl⟩
theorem mayPropose_any (h : PI w base b mv s) (v : ByteArray) : Calls Try.prog 50 #[.pointer (some ⟨b, 0, none⟩), .string v] w fun e w' => e = .returned (.int .i64 (M.ppc s v)) ∧ w' = w := by
  have hL := leads_any h
  obtain ⟨⟨c0, c1, c2, c3, c4, c5, c6, c7, c8, c9, c10, c11, c12, c13, c14, c15⟩, _⟩ := row16 h.row
  clear h
  by_cases h0 : 4096 < v.size
  · have HN : Hid (M.ppc s v = 2) := Hid_of (by unfold M.ppc; rw [if_pos h0])
    have d0 : decide ((4096 : Int) < (v.size : Int)) = true := decide_eq_true (by omega)
    rw [HN.out]
    clear HN h0
    go_enter Try.func50, Try.ntmps50
    go_wp2
    go_ret
    exact ⟨rfl, rfl⟩
  · have d0 : decide ((4096 : Int) < (v.size : Int)) = false := decide_eq_false (by omega)
    by_cases h1 : 1024 ≤ s.nx
    · have HN : Hid (M.ppc s v = 5) := Hid_of (by unfold M.ppc; rw [if_neg h0, if_pos h1])
      have d1 : decide (1024 ≤ s.nx) = true := decide_eq_true h1
      rw [HN.out]
      clear HN h0 h1
      go_enter Try.func50, Try.ntmps50
      go_wp2
      go_ret
      exact ⟨rfl, rfl⟩
    · have d1 : decide (1024 ≤ s.nx) = false := decide_eq_false h1
      by_cases h2 : s.st < 2
      · have HN : Hid (M.ppc s v = 16) := Hid_of (by unfold M.ppc; rw [if_neg h0, if_neg h1, if_pos h2])
        have d2 : decide (2 ≤ s.st) = false := decide_eq_false (by omega)
        rw [HN.out]
        rw [d2] at hL
        clear HN h0 h1 h2 d2
        go_enter Try.func50, Try.ntmps50
        go_wp2_with fail
        refine hL.mono ?_
        rintro e w1 ⟨rfl, rfl⟩
        go_wp2
        go_ret
        exact ⟨rfl, rfl⟩
      · have HN : Hid (M.ppc s v = 0) := Hid_of (by unfold M.ppc; rw [if_neg h0, if_neg h1, if_neg h2])
        have d2 : decide (2 ≤ s.st) = true := decide_eq_true (by omega)
        rw [HN.out]
        rw [d2] at hL
        clear HN h0 h1 h2 d2
        go_enter Try.func50, Try.ntmps50
        go_wp2_with fail
        refine hL.mono ?_
        rintro e w1 ⟨rfl, rfl⟩
        go_wp2
        go_ret
        exact ⟨rfl, rfl⟩
theorem index78 (g : Nat → Bool) (k : Nat) (hk : k < 7) (w : World) : (Instr.index 78 (.agg #[.bool (g 0), .bool (g 1), .bool (g 2), .bool (g 3), .bool (g 4), .bool (g 5), .bool (g 6)]) (.int .i64 k)).run Try.prog w = .ok (.bool (g k)) w := by
  obtain rfl | rfl | rfl | rfl | rfl | rfl | rfl : k = 0 ∨ k = 1 ∨ k = 2 ∨ k = 3 ∨ k = 4 ∨ k = 5 ∨ k = 6 := by omega
  all_goals kernel_rfl
theorem promises_any (h : PI w base b mv s) : Calls Try.prog 76 #[.pointer (some ⟨b, 0, none⟩)] w fun e w' => e = .returned (.int .i64 (M.wcnt s.who 7 : Nat)) ∧ w' = w := by
  obtain ⟨⟨c0, c1, c2, c3, c4, c5, c6, c7, c8, c9, c10, c11, c12, c13, c14, c15⟩, _⟩ := row16 h.row
  clear h
  go_enter Try.func76, Try.ntmps76
  go_wp2
  go_loopw [3, 10] (fun t i wr => ∃ k : Nat, k ≤ 7 ∧ i = .int .i64 k ∧ t = .int .i64 (M.wcnt s.who k : Nat) ∧ wr = w) (fun t i _ => 7 - (intOf i).toNat)
  case atStart => exact ⟨0, by omega, rfl, rfl, rfl⟩
  case round =>
    obtain ⟨k, hk, rfl, rfl, rfl⟩ := hrel
    have hle : ∀ g m, M.wcnt g m ≤ m := by
      intro g m
      induction m with
      | zero => exact Nat.le_refl _
      | succ m ih => rw [M.wcnt]; split <;> omega
    have hl := hle s.who k
    clear hle
    by_cases hlt : k < 7
    · have HE : Hid (M.wcnt s.who (k + 1) = M.wcnt s.who k + (if s.who k then 1 else 0)) := Hid_of rfl
      generalize M.wcnt s.who k = q0 at *
      have hg := fun w => index78 s.who k hlt w
      have hk7 : (k : Int) < 7 := by omega
      cases hw : s.who k with
      | false =>
        rw [hw] at HE hg
        simp only [Bool.false_eq_true, if_false, Nat.add_zero] at HE
        go_wp2
        go_roundw
        case rel => exact ⟨k + 1, by omega, by go_num, by rw [HE.out], trivial⟩
        case measure => simp [intOf]; omega
      | true =>
        rw [hw] at HE hg
        simp only [if_true] at HE
        go_wp2
        go_roundw
        case rel => exact ⟨k + 1, by omega, by go_num, by rw [HE.out]; go_num, trivial⟩
        case measure => simp [intOf]; omega
    · obtain rfl : k = 7 := by omega
      go_wp2
      go_ret
      exact ⟨rfl, rfl⟩
end
end Go.Proofs.Ytfjlanhekheecaa.Np
