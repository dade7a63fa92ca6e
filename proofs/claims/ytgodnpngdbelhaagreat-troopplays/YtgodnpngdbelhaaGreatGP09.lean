import Derived.Test.YtgodnpngdbelhaaGreatGP08
set_option maxRecDepth 100000
set_option maxHeartbeats 8000000
set_option linter.unusedVariables false
set_option linter.unusedSimpArgs false
open Go.Proofs.Tryz
namespace Go.Proofs.YtgodnpngdbelhaaGreat.Np
open Go.RowKit Go.Maps
open Go.Proofs.YtgodnpngdbelhaaGreat.M (E V)
open Go.Proofs.YtgodnpngdbelhaaGreat.Np.M (fup)
theorem row16 {w : World} {k : Nat} {v0 v1 v2 v3 v4 v5 v6 v7 v8 v9 v10 v11 v12 v13 v14 v15 : Value} {t : TypeId} (h : w.heap[k]? = some (.cells #[v0, v1, v2, v3, v4, v5, v6, v7, v8, v9, v10, v11, v12, v13, v14, v15] t (0, 0))) :
  (w.cell? ⟨k, 0, none⟩ = some v0 ∧ w.cell? ⟨k, 1, none⟩ = some v1 ∧ w.cell? ⟨k, 2, none⟩ = some v2 ∧ w.cell? ⟨k, 3, none⟩ = some v3 ∧ w.cell? ⟨k, 4, none⟩ = some v4 ∧ w.cell? ⟨k, 5, none⟩ = some v5 ∧ w.cell? ⟨k, 6, none⟩ = some v6 ∧ w.cell? ⟨k, 7, none⟩ = some v7 ∧ w.cell? ⟨k, 8, none⟩ = some v8 ∧ w.cell? ⟨k, 9, none⟩ = some v9 ∧ w.cell? ⟨k, 10, none⟩ = some v10 ∧ w.cell? ⟨k, 11, none⟩ = some v11 ∧ w.cell? ⟨k, 12, none⟩ = some v12 ∧ w.cell? ⟨k, 13, none⟩ = some v13 ∧ w.cell? ⟨k, 14, none⟩ = some v14 ∧ w.cell? ⟨k, 15, none⟩ = some v15) ∧ ∀ j, w.frozen? ⟨k, j, none⟩ = false :=
 ⟨⟨by rw [cell_of_row w k 0 _ _ _ h]; rfl, by rw [cell_of_row w k 1 _ _ _ h]; rfl, by rw [cell_of_row w k 2 _ _ _ h]; rfl, by rw [cell_of_row w k 3 _ _ _ h]; rfl, by rw [cell_of_row w k 4 _ _ _ h]; rfl, by rw [cell_of_row w k 5 _ _ _ h]; rfl, by rw [cell_of_row w k 6 _ _ _ h]; rfl, by rw [cell_of_row w k 7 _ _ _ h]; rfl, by rw [cell_of_row w k 8 _ _ _ h]; rfl, by rw [cell_of_row w k 9 _ _ _ h]; rfl, by rw [cell_of_row w k 10 _ _ _ h]; rfl, by rw [cell_of_row w k 11 _ _ _ h]; rfl, by rw [cell_of_row w k 12 _ _ _ h]; rfl, by rw [cell_of_row w k 13 _ _ _ h]; rfl, by rw [cell_of_row w k 14 _ _ _ h]; rfl, by rw [cell_of_row w k 15 _ _ _ h]; rfl⟩, fun j => frozen_of_row w k j _ _ h⟩
abbrev prow (s : M.S) (mv : Option Nat) : Array Value := #[.int .i64 s.n, .int .i64 s.me, .int .i64 s.st, .int .i64 s.b.i, .int .i64 s.b.t, .int .i64 s.ask, .bool (s.who 0), .bool (s.who 1), .bool (s.who 2), .bool (s.who 3), .bool (s.who 4), .bool (s.who 5), .bool (s.who 6), .map mv, .int .i64 s.fin, .int .i64 s.nx]
def fpp (b : Nat) (mv : Option Nat) (k : Nat) : Prop := k = b ∨ mv = some k
structure ML (w : World) (base : Nat) (mv : Option Nat) (s : M.S) : Prop where
 no : mv = none → ∀ k, s.f k = none
 yes : ∀ m, mv = some m → MI w m s.c s.f ∧ base ≤ m
structure PI (w : World) (base b : Nat) (mv : Option Nat) (s : M.S) : Prop where
 row : w.heap[b]? = some (.cells (prow s mv) 137 (0, 0))
 map : ML w base mv s
 lo : base ≤ b
section
variable {w w' : World} {base b : Nat} {mv : Option Nat} {s s' : M.S}
theorem ML.keepBut (h : ML w base mv s) (hb : ∀ m, mv = some m → w'.heap[m]? = w.heap[m]?) : ML w' base mv s :=
 ⟨h.no, fun m hm => ⟨(h.yes m hm).1.keep (hb m hm), (h.yes m hm).2⟩⟩
theorem ML.of (h : ML w base mv s) (hf : s'.f = s.f) (hc : s'.c = s.c) : ML w base mv s' := ⟨fun e k => by rw [hf]; exact h.no e k, fun m hm => by rw [hf, hc]; exact h.yes m hm⟩
theorem PI.keepBut (h : PI w base b mv s) (hb : ∀ k, k < w.heap.size → fpp b mv k → w'.heap[k]? = w.heap[k]?) : PI w' base b mv s :=
 ⟨(hb b (Array.getElem?_eq_some_iff.1 h.row).1 (.inl rfl)).trans h.row, h.map.keepBut (fun m hm => hb m (h.map.yes m hm).1.lt (.inr hm)), h.lo⟩
theorem PI.keep (h : PI w base b mv s) (hb : Bl w w') : PI w' base b mv s := h.keepBut fun k hk _ => hb.block k hk
theorem PI.lt (h : PI w base b mv s) : b < w.heap.size := (Array.getElem?_eq_some_iff.1 h.row).1
theorem PI.mine (h : PI w base b mv s) : ∀ k, fpp b mv k → base ≤ k ∧ k < w.heap.size := by
 rintro k (rfl | hk)
 ·exact ⟨h.lo, h.lt⟩
 ·exact ⟨(h.map.yes k hk).2, (h.map.yes k hk).1.lt⟩
theorem PI.ne (h : PI w base b mv s) {m : Nat} (hm : mv = some m) : m ≠ b := fun e => (h.map.yes m hm).1.ne h.row e.symm
theorem PI.cell (h : PI w base b mv s) (j : Nat) (v : Value) (hr : (prow s mv).setIfInBounds j v = prow s' mv) (hf : s'.f = s.f) (hc : s'.c = s.c) : PI (w.setCell ⟨b, j, none⟩ v) base b mv s' :=
 ⟨by rw [heap_setCell_same w b j _ _ _ h.row, hr], (h.map.keepBut (w' := w.setCell ⟨b, j, none⟩ v) (fun m hm => heap_setCell_other w ⟨b, j, none⟩ m _ (h.ne hm))).of hf hc, h.lo⟩
theorem PI.remap (h : PI w base b mv s) {mv' : Option Nat} (hr : (prow s mv).setIfInBounds 13 (.map mv') = prow s' mv') (hm : ML (w.setCell ⟨b, 13, none⟩ (.map mv')) base mv' s') : PI (w.setCell ⟨b, 13, none⟩ (.map mv')) base b mv' s' :=
 ⟨by rw [heap_setCell_same w b 13 _ _ _ h.row, hr], hm, h.lo⟩
theorem ML.look (h : ML w base mv s) (k : Int) (hk : (Lit.int .i64 k).wf = true) : (Instr.lookup 135 (.map mv) (.int .i64 k) false).run prog w = .ok (vV ((s.f k).getD zo)) w := by
 cases hm : mv with
 | none =>
  rw [h.no hm k]; exact Maps.look_nil (w := w) false law3 underlying135 (zero126 w) (keyOf_int_mk underlying3 hk)
 | some m => exact (h.yes m hm).1.look k hk
theorem ML.lookOk (h : ML w base mv s) (k : Int) (hk : (Lit.int .i64 k).wf = true) : (Instr.lookup 135 (.map mv) (.int .i64 k) true).run prog w = .ok (.tuple #[vV ((s.f k).getD zo), .bool (s.f k).isSome]) w := by
 cases hm : mv with
 | none =>
  rw [h.no hm k]; exact Maps.look_nil (w := w) true law3 underlying135 (zero126 w) (keyOf_int_mk underlying3 hk)
 | some m => exact (h.yes m hm).1.lookOk k hk
end
theorem fr_cell {w : World} {b : Nat} {mv : Option Nat} (j : Nat) (v : Value) : Fr w (fpp b mv) (w.setCell ⟨b, j, none⟩ v) (fpp b mv) :=
 ⟨rfl, rfl, rfl, by simp, fun k _ hk => heap_setCell_other w ⟨b, j, none⟩ k _ (fun e => hk (.inl e)), fun k h => .inl h⟩
theorem wf_small {k : Int} (h0 : 0 ≤ k) (h1 : k < 1024) : (Lit.int .i64 k).wf = true := by
 have e1 : IntKind.i64.min = -9223372036854775808 := rfl; have e2 : IntKind.i64.max = 9223372036854775807 := rfl; simp only [Lit.wf, e1, e2, Bool.and_eq_true, decide_eq_true_eq]; omega
theorem alloc16 (w : World) (v0 v1 v2 v3 v4 v5 v6 v7 v8 v9 v10 v11 v12 v13 v14 v15 : Value) (t : TypeId) : (w.alloc (.cells #[v0, v1, v2, v3, v4, v5, v6, v7, v8, v9, v10, v11, v12, v13, v14, v15] t)).heap[w.heap.size]? = some (.cells #[v0, v1, v2, v3, v4, v5, v6, v7, v8, v9, v10, v11, v12, v13, v14, v15] t (0, 0)) := heap_alloc_last w _
def NewOut (w : World) (n me : Int) (e : Ending) (w' : World) : Prop :=
 (M.nde n me = false ∧ e = .returned (.pointer none) ∧ w' = w) ∨ (M.nde n me = true ∧ ∃ b, e = .returned (.pointer (some ⟨b, 0, none⟩)) ∧ PI w' w.heap.size b none (M.S0 n me) ∧ Bl w w' ∧ w.heap.size ≤ b)
theorem new_any (n me : Int) (w : World) : Calls prog 47 #[.int .i64 n, .int .i64 me] w (NewOut w n me) := by
 have HB := Hf (fun o => bel1 w o); have HR := Hf (alloc16 w); by_cases h0 : n < 1
 ·have HN : Hid (M.nde n me = false) := Hf (by unfold M.nde; simp; omega); have d0 : decide (n < 1) = true := decide_eq_true h0; clear h0; go_enter func47, ntmps47; go_wp2; go_ret; exact .inl ⟨HN.out, rfl, rfl⟩
 ·have d0 : decide (n < 1) = false := decide_eq_false h0; by_cases h1 : 7 < n
  ·have HN : Hid (M.nde n me = false) := Hf (by unfold M.nde; simp; omega); have d1 : decide (7 < n) = true := decide_eq_true h1; clear h0 h1; go_enter func47, ntmps47; go_wp2; go_ret; exact .inl ⟨HN.out, rfl, rfl⟩
  ·have d1 : decide (7 < n) = false := decide_eq_false h1; by_cases h2 : me < 0
   ·have HN : Hid (M.nde n me = false) := Hf (by unfold M.nde; simp; omega); have d2 : decide (me < 0) = true := decide_eq_true h2; clear h0 h1 h2; go_enter func47, ntmps47; go_wp2; go_ret; exact .inl ⟨HN.out, rfl, rfl⟩
   ·have d2 : decide (me < 0) = false := decide_eq_false h2; by_cases h3 : n ≤ me
    ·have HN : Hid (M.nde n me = false) := Hf (by unfold M.nde; simp; omega); have d3 : decide (n ≤ me) = true := decide_eq_true h3; clear h0 h1 h2 h3; go_enter func47, ntmps47; go_wp2; go_ret; exact .inl ⟨HN.out, rfl, rfl⟩
    ·have HN : Hid (M.nde n me = true) := Hf (by unfold M.nde; simp; omega); have d3 : decide (n ≤ me) = false := decide_eq_false h3; clear h0 h1 h2 h3; go_enter func47, ntmps47; go_wp2; go_ret; exact .inr ⟨HN.out, w.heap.size, rfl, ⟨HR.out _ _ _ _ _ _ _ _ _ _ _ _ _ _ _ _ _, ⟨fun _ _ => rfl, fun m hm => by cases hm⟩, Nat.le_refl _⟩, HB.out _, Nat.le_refl _⟩
theorem isSlot_any (k : Int) (w : World) : Calls prog 95 #[.int .i64 k] w fun e w' => e = .returned (.bool (M.slot k)) ∧ w' = w := by
 by_cases h0 : 0 ≤ k
 ·have HN : Hid (M.slot k = decide (k < 1024)) := Hf (by unfold M.slot; rw [decide_eq_true h0, Bool.true_and]); have d0 : decide (0 ≤ k) = true := decide_eq_true h0; rw [HN.out]; clear HN; go_enter func95, ntmps95; go_wp2; go_ret; exact ⟨rfl, rfl⟩
 ·have HN : Hid (M.slot k = false) := Hf (by unfold M.slot; rw [decide_eq_false h0, Bool.false_and]); have d0 : decide (0 ≤ k) = false := decide_eq_false h0; rw [HN.out]; clear HN; go_enter func95, ntmps95; go_wp2; go_ret; exact ⟨rfl, rfl⟩
section
variable {w : World} {base b : Nat} {mv : Option Nat} {s : M.S}
theorem leads_any (h : PI w base b mv s) : Calls prog 68 #[.pointer (some ⟨b, 0, none⟩)] w fun e w' => e = .returned (.bool (decide (2 ≤ s.st))) ∧ w' = w := by
 obtain ⟨c0, _⟩ := row16 h.row; clear h; go_enter func68, ntmps68; go_wp2; go_ret; exact ⟨rfl, rfl⟩
theorem mayPropose_any (h : PI w base b mv s) (v : ByteArray) : Calls prog 101 #[.pointer (some ⟨b, 0, none⟩), .string v] w fun e w' => e = .returned (.int .i64 (M.ppc s v)) ∧ w' = w := by
 have hL := leads_any h; obtain ⟨c0, _⟩ := row16 h.row; clear h; by_cases h0 : 4096 < v.size
 ·have HN : Hid (M.ppc s v = 2) := Hf (by unfold M.ppc; rw [if_pos h0]); have d0 : decide ((4096 : Int) < (v.size : Int)) = true := decide_eq_true (by omega); rw [HN.out]; clear HN h0; go_enter func101, ntmps101; go_wp2; go_ret; exact ⟨rfl, rfl⟩
 ·have d0 : decide ((4096 : Int) < (v.size : Int)) = false := decide_eq_false (by omega); by_cases h1 : 1024 ≤ s.nx
  ·have HN : Hid (M.ppc s v = 5) := Hf (by unfold M.ppc; rw [if_neg h0, if_pos h1]); have d1 : decide (1024 ≤ s.nx) = true := decide_eq_true h1; rw [HN.out]; clear HN h0 h1; go_enter func101, ntmps101; go_wp2; go_ret; exact ⟨rfl, rfl⟩
  ·have d1 : decide (1024 ≤ s.nx) = false := decide_eq_false h1; by_cases h2 : s.st < 2
   ·have HN : Hid (M.ppc s v = 16) := Hf (by unfold M.ppc; rw [if_neg h0, if_neg h1, if_pos h2]); have d2 : decide (2 ≤ s.st) = false := decide_eq_false (by omega); rw [HN.out]; rw [d2] at hL; clear HN h0 h1 h2 d2; go_enter func101, ntmps101; go_wp2_with fail; refine hL.mono ?_; rintro e w1 ⟨rfl, rfl⟩; go_wp2; go_ret; exact ⟨rfl, rfl⟩
   ·have HN : Hid (M.ppc s v = 0) := Hf (by unfold M.ppc; rw [if_neg h0, if_neg h1, if_neg h2]); have d2 : decide (2 ≤ s.st) = true := decide_eq_true (by omega); rw [HN.out]; rw [d2] at hL; clear HN h0 h1 h2 d2; go_enter func101, ntmps101; go_wp2_with fail; refine hL.mono ?_; rintro e w1 ⟨rfl, rfl⟩; go_wp2; go_ret; exact ⟨rfl, rfl⟩
theorem index46 (g : Nat → Bool) (k : Nat) (hk : k < 7) (w : World) : (Instr.index 46 (.agg #[.bool (g 0), .bool (g 1), .bool (g 2), .bool (g 3), .bool (g 4), .bool (g 5), .bool (g 6)]) (.int .i64 k)).run prog w = .ok (.bool (g k)) w := by
 obtain rfl | rfl | rfl | rfl | rfl | rfl | rfl : k = 0 ∨ k = 1 ∨ k = 2 ∨ k = 3 ∨ k = 4 ∨ k = 5 ∨ k = 6 := by omega
 all_goals kernel_rfl
theorem promises_any (h : PI w base b mv s) : Calls prog 138 #[.pointer (some ⟨b, 0, none⟩)] w fun e w' => e = .returned (.int .i64 (M.wcnt s.who 7 : Nat)) ∧ w' = w := by
 obtain ⟨c0, _⟩ := row16 h.row; clear h; go_enter func138, ntmps138; go_wp2; go_loopw [3, 10] (fun t i wr => ∃ k : Nat, k ≤ 7 ∧ i = .int .i64 k ∧ t = .int .i64 (M.wcnt s.who k : Nat) ∧ wr = w) (fun t i _ => 7 - (intOf i).toNat)
 case atStart => exact ⟨0, by omega, rfl, rfl, rfl⟩
 case round =>
  obtain ⟨k, hk, rfl, rfl, rfl⟩ := hrel; have hle : ∀ g m, M.wcnt g m ≤ m := by
   intro g m
   induction m with
   | zero => exact Nat.le_refl _
   | succ m ih => rw [M.wcnt]; split <;> omega
  have hl := hle s.who k; clear hle; by_cases hlt : k < 7
  ·have HE : Hid (M.wcnt s.who (k + 1) = M.wcnt s.who k + (if s.who k then 1 else 0)) := Hf rfl; generalize M.wcnt s.who k = q0 at *; have hg := fun w => index46 s.who k hlt w; have hk7 : (k : Int) < 7 := by omega
   cases hw : s.who k with
   | false =>
    rw [hw] at HE hg; simp only [Bool.false_eq_true, if_false, Nat.add_zero] at HE; go_wp2; go_roundw
    case rel => exact ⟨k + 1, by omega, by go_num, by rw [HE.out], trivial⟩
    case measure => simp [intOf]; omega
   | true =>
    rw [hw] at HE hg; simp only [if_true] at HE; go_wp2; go_roundw
    case rel => exact ⟨k + 1, by omega, by go_num, by rw [HE.out]; go_num, trivial⟩
    case measure => simp [intOf]; omega
  ·obtain rfl : k = 7 := by omega
   go_wp2; go_ret; exact ⟨rfl, rfl⟩
end
theorem _root_.Go.Proofs.YtgodnpngdbelhaaGreat.Fr.weak {w w' : World} {F G G' : Nat → Prop} (h : Fr w F w' G) (hg : ∀ k, G' k → G k) : Fr w F w' G' := ⟨h.os, h.tape, h.output, h.size, h.block, fun k hk => h.n k (hg k hk)⟩
theorem fr_set {w w1 : World} {F G : Nat → Prop} {b : Nat} (h : Fr w F w1 G) (hb : F b) (o : Nat) (x : Value) : Fr w F (w1.setCell ⟨b, o, none⟩ x) G :=
 ⟨h.os, h.tape, h.output, by simpa using h.size, fun k hk hF => by rw [heap_setCell_other w1 ⟨b, o, none⟩ k _ (fun e => hF (by subst e; exact hb))]; exact h.block k hk hF, h.n⟩
theorem fpp_none {b : Nat} {mv : Option Nat} {k : Nat} (h : fpp b none k) : fpp b mv k := by
 rcases h with h | h
 ·exact .inl h
 ·cases h
theorem fr_new {w w1 : World} {F G : Nat → Prop} {g : Nat} (h : Fr w F w1 G) (hg : w.heap.size ≤ g) (o : Nat) (x : Value) : Fr w F (w1.setCell ⟨g, o, none⟩ x) G :=
 ⟨h.os, h.tape, h.output, by simpa using h.size, fun k hk hF => by rw [heap_setCell_other w1 ⟨g, o, none⟩ k _ (by simp; omega)]; exact h.block k hk hF, h.n⟩
section
variable {w : World} {base b : Nat} {mv : Option Nat} {s : M.S}
theorem enter_any (h : PI w base b mv s) (t : Int) (x : E) : Calls prog 97 #[.pointer (some ⟨b, 0, none⟩), .int .i64 t, bV x] w fun e w' => e = .returned (.tuple #[]) ∧ PI w' base b none (M.enter s t x) ∧ Fr w (fpp b mv) w' (fpp b none) := by
 obtain ⟨W1, HW1⟩ := Nh (w.alloc (.cells #[.int .i64 x.i, .int .i64 x.t] 42)); have hb1 := Ab HW1; have hr1 := Ac HW1; have h1 := h.keep hb1; have hlt := h.lt; have HK : Hid (PI (((((((((((W1.setCell ⟨b, 2, none⟩ (.int .i64 t)).setCell ⟨b, 3, none⟩ (.int .i64 x.i)).setCell ⟨b, 4, none⟩ (.int .i64 x.t)).setCell ⟨b, 6, none⟩ (.bool false)).setCell ⟨b, 7, none⟩ (.bool false)).setCell ⟨b, 8, none⟩ (.bool false)).setCell ⟨b, 9, none⟩ (.bool false)).setCell ⟨b, 10, none⟩ (.bool false)).setCell ⟨b, 11, none⟩ (.bool false)).setCell ⟨b, 12, none⟩ (.bool false)).setCell ⟨b, 13, none⟩ (.map none)) base b none (M.enter s t x) ∧ Fr w (fpp b mv) (((((((((((W1.setCell ⟨b, 2, none⟩ (.int .i64 t)).setCell ⟨b, 3, none⟩ (.int .i64 x.i)).setCell ⟨b, 4, none⟩ (.int .i64 x.t)).setCell ⟨b, 6, none⟩ (.bool false)).setCell ⟨b, 7, none⟩ (.bool false)).setCell ⟨b, 8, none⟩ (.bool false)).setCell ⟨b, 9, none⟩ (.bool false)).setCell ⟨b, 10, none⟩ (.bool false)).setCell ⟨b, 11, none⟩ (.bool false)).setCell ⟨b, 12, none⟩ (.bool false)).setCell ⟨b, 13, none⟩ (.map none)) (fpp b none)) :=
  ⟨⟨by
   have hrow := (heap_setCell_same _ b 13 _ _ (.map none) (heap_setCell_same _ b 12 _ _ (.bool false) (heap_setCell_same _ b 11 _ _ (.bool false) (heap_setCell_same _ b 10 _ _ (.bool false) (heap_setCell_same _ b 9 _ _ (.bool false) (heap_setCell_same _ b 8 _ _ (.bool false) (heap_setCell_same _ b 7 _ _ (.bool false) (heap_setCell_same _ b 6 _ _ (.bool false) (heap_setCell_same _ b 4 _ _ (.int .i64 x.t) (heap_setCell_same _ b 3 _ _ (.int .i64 x.i) (heap_setCell_same _ b 2 _ _ (.int .i64 t) h1.row))))))))))); simp only [prow, List.setIfInBounds_toArray, List.set_cons_succ, List.set_cons_zero] at hrow; exact hrow, ⟨fun _ _ => rfl, fun m hm => by cases hm⟩, h1.lo⟩, (fr_set (fr_set (fr_set (fr_set (fr_set (fr_set (fr_set (fr_set (fr_set (fr_set (fr_set (Fr.ofBelow hb1) (.inl rfl) 2 _) (.inl rfl) 3 _) (.inl rfl) 4 _) (.inl rfl) 6 _) (.inl rfl) 7 _) (.inl rfl) 8 _) (.inl rfl) 9 _) (.inl rfl) 10 _) (.inl rfl) 11 _) (.inl rfl) 12 _) (.inl rfl) 13 _).weak (fun _ => fpp_none)⟩
 obtain ⟨c0, cf⟩ := row16 h1.row; obtain ⟨x0, xf⟩ := row2 hr1; have f2 := cf 2; have f3 := cf 3; have f4 := cf 4; have f6 := cf 6; have f7 := cf 7; have f8 := cf 8; have f9 := cf 9; have f10 := cf 10; have f11 := cf 11; have f12 := cf 12; have f13 := cf 13; have hne : w.heap.size ≠ b := by omega
 clear h h1 hb1 hr1 cf xf; go_enter func97, ntmps97; go_upto_region 1 with fail
 rw [HW1.out]; clear HW1; go_wp2; go_end0; exact ⟨rfl, HK.out⟩
def StOut (w : World) (base b : Nat) (mv : Option Nat) (s : M.S) (x : E) (e : Ending) (w' : World) : Prop := ∃ mv', e = .returned (.bool (M.stb s x)) ∧ PI w' base b mv' (M.sts s x) ∧ Fr w (fpp b mv) w' (fpp b mv')
theorem step_any (h : PI w base b mv s) (x : E) : Calls prog 125 #[.pointer (some ⟨b, 0, none⟩), bV x] w (StOut w base b mv s x) := by
 obtain ⟨W1, HW1⟩ := Nh (w.alloc (.cells #[.int .i64 x.i, .int .i64 x.t] 42)); have hb1 := Ab HW1; have hr1 := Ac HW1; have h1 := h.keep hb1; have HS : Hid (∀ w', Bl W1 w' → (w'.cell? ⟨w.heap.size, 0, none⟩ = some (.int .i64 x.i) ∧ w'.cell? ⟨w.heap.size, 1, none⟩ = some (.int .i64 x.t)) ∧ (w'.cell? ⟨b, 3, none⟩ = some (.int .i64 s.b.i) ∧ w'.cell? ⟨b, 4, none⟩ = some (.int .i64 s.b.t))) := fun w' hw' => by
  obtain ⟨⟨c0, c1, c2, c3, c4, c5, c6, c7, c8, c9, c10, c11, c12, c13, c14, c15⟩, -⟩ := row16 (h1.keep hw').row; exact ⟨(row2 (Br hr1 hw')).1, c3, c4⟩
 have HNO : Hid (M.stb s x = false → ∀ w', Bl W1 w' → StOut w base b mv s x (.returned (.bool false)) w') := fun e w' hw' => ⟨mv, by rw [e], by unfold M.sts; rw [e]; exact h1.keep hw', Fr.ofBelow (Bu hb1 hw' Lr)⟩; have HH1 := Hf h1; have HB1 := Hf hb1; have cv := valid_any x; clear h h1 hb1 hr1; cases hv : M.vld x with
 | false =>
  have HQ := Hf (HNO.out (by unfold M.stb; rw [hv]; rfl)); rw [hv] at cv; clear HNO hv; go_enter func125, ntmps125; go_upto_region 1 with fail
  rw [HW1.out]; clear HW1; refine wp_region_held_drew (S := fun wq => Below (W1).heap.size (W1) wq) (by kernel_rfl) (Below.drew (Below.refl _ _)) fun Hl => ?_; refine Tm 0 Hl ?_; simp only [Act.put, Pz]; refine Tm 1 Hl ?_; simp only [Act.put, Pz]; refine Tm 2 Hl ?_; simp only [Act.put, Pz]; refine Tj 3 Hl ?_; simp only [Act.put, Pz]; refine Rd 4 ?pE ?sE; intro K hK; go_simp; refine (cv _).mono ?_; rintro e w2 ⟨rfl, hb2⟩; have B2 : Bl W1 w2 := Hl.trans (hb2.mono Hl.size); refine hK.out _ _ B2 fun Hl => ?_; refine Tm 5 Hl ?_; simp only [Act.put, Pz]; refine Tm 6 Hl ?_; simp only [Act.put, Pz]; refine Tm 7 Hl ?_; simp only [Act.put, Pz]; refine Ts 8 Hl ?_; simp only [Act.put, Pz]; refine Ts 9 Hl ?_; simp only [Act.put, Pz]; refine Ts 10 Hl ?_; simp only [Act.put, Pz]; refine Ts 11 Hl ?_; simp only [Act.put, Pz]; refine Ts 12 Hl ?_; simp only [Act.put, Pz]; refine Ts 13 Hl ?_; simp only [Act.put, Pz]; refine Ts 14 Hl ?_; simp only [Act.put, Pz]; refine Tm 15 Hl ?_; simp only [Act.put, Pz]; refine Wd ?_; go_wp2; go_ret; exact HQ.out _ Hl
 | true =>
  rw [hv] at cv; have cc := cmp_any x s.b; by_cases hc : 0 < M.cmpE x s.b
  ·have hd : decide (M.cmpE x s.b ≤ 0) = false := decide_eq_false (by omega); have HY : Hid (M.stb s x = true) := Hf (by unfold M.stb; rw [hv, decide_eq_true hc]; rfl); generalize M.cmpE x s.b = r at *; clear HNO hv hc; go_enter func125, ntmps125; go_upto_region 1 with fail
   rw [HW1.out]; clear HW1; refine wp_region_held_drew (S := fun wq => Below (W1).heap.size (W1) wq) (by kernel_rfl) (Below.drew (Below.refl _ _)) fun Hl => ?_; refine Tm 0 Hl ?_; simp only [Act.put, Pz]; refine Tm 1 Hl ?_; simp only [Act.put, Pz]; refine Tm 2 Hl ?_; simp only [Act.put, Pz]; refine Tj 3 Hl ?_; simp only [Act.put, Pz]; refine Rd 4 ?pU ?sU; intro K hK; go_simp; refine (cv _).mono ?_; rintro e w2 ⟨rfl, hb2⟩; have B2 : Bl W1 w2 := Hl.trans (hb2.mono Hl.size); refine hK.out _ _ B2 fun Hl => ?_; refine Tm 5 Hl ?_; simp only [Act.put, Pz]; refine Tm 6 Hl ?_; simp only [Act.put, Pz]; refine Tm 7 Hl ?_; simp only [Act.put, Pz]; refine Tj 8 Hl ?_; simp only [Act.put, Pz]; refine Tm 9 Hl ?_; simp only [Act.put, Pz]; refine Tm 10 Hl ?_; simp only [Act.put, Pz]; refine Tm 11 Hl ?_; simp only [Act.put, Pz]; refine Tj 12 Hl ?_; simp only [Act.put, Pz]; refine Rd 13 ?pd ?sd; intro K hK; go_simp; refine (cc _).mono ?_; rintro e w3 ⟨rfl, hb3⟩; have B3 : Bl W1 w3 := Hl.trans (hb3.mono Hl.size); refine hK.out _ _ B3 fun Hl => ?_; refine Tm 14 Hl ?_; simp only [Act.put, Pz]; refine Tm 15 Hl ?_; simp only [Act.put, Pz]; refine Wd ?_; obtain ⟨x0, -⟩ := HS.out _ Hl; have hh := HH1.out.keep Hl; have HBq := Hf (Bu HB1.out Hl Lr); go_wp2_with fail; refine (enter_any hh 0 x).mono ?_; rintro e w4 ⟨rfl, h4, hf4⟩; have HP4 := Hf h4; have HF4 := Hf hf4; clear hh h4 hf4; go_wp2; go_ret
   exact ⟨none, by rw [HY.out]; rfl, by unfold M.sts; rw [HY.out]; exact HP4.out, (Fr.ofBelow HBq.out).trans HF4.out⟩
  ·have hd : decide (M.cmpE x s.b ≤ 0) = true := decide_eq_true (by omega); have HQ := Hf (HNO.out (by unfold M.stb; rw [hv, decide_eq_false hc]; rfl)); generalize M.cmpE x s.b = r at *; clear HNO hv hc; go_enter func125, ntmps125; go_upto_region 1 with fail
   rw [HW1.out]; clear HW1; refine wp_region_held_drew (S := fun wq => Below (W1).heap.size (W1) wq) (by kernel_rfl) (Below.drew (Below.refl _ _)) fun Hl => ?_; refine Tm 0 Hl ?_; simp only [Act.put, Pz]; refine Tm 1 Hl ?_; simp only [Act.put, Pz]; refine Tm 2 Hl ?_; simp only [Act.put, Pz]; refine Tj 3 Hl ?_; simp only [Act.put, Pz]; refine Rd 4 ?pk ?sk; intro K hK; go_simp; refine (cv _).mono ?_; rintro e w2 ⟨rfl, hb2⟩; have B2 : Bl W1 w2 := Hl.trans (hb2.mono Hl.size); refine hK.out _ _ B2 fun Hl => ?_; refine Tm 5 Hl ?_; simp only [Act.put, Pz]; refine Tm 6 Hl ?_; simp only [Act.put, Pz]; refine Tm 7 Hl ?_; simp only [Act.put, Pz]; refine Tj 8 Hl ?_; simp only [Act.put, Pz]; refine Tm 9 Hl ?_; simp only [Act.put, Pz]; refine Tm 10 Hl ?_; simp only [Act.put, Pz]; refine Tm 11 Hl ?_; simp only [Act.put, Pz]; refine Tj 12 Hl ?_; simp only [Act.put, Pz]; refine Rd 13 ?pt ?st; intro K hK; go_simp; refine (cc _).mono ?_; rintro e w3 ⟨rfl, hb3⟩; have B3 : Bl W1 w3 := Hl.trans (hb3.mono Hl.size); refine hK.out _ _ B3 fun Hl => ?_; refine Tm 14 Hl ?_; simp only [Act.put, Pz]; refine Tm 15 Hl ?_; simp only [Act.put, Pz]; refine Wd ?_; go_wp2; go_ret; exact HQ.out _ Hl
theorem f102_res : Tryz.f102.results = #[.cell 6 126] := rfl
theorem vote_any (h : PI w base b mv s) (k : Int) (v : ByteArray) (hx : v.size ≤ 140737488351232) : Calls prog 102 #[.pointer (some ⟨b, 0, none⟩), .int .i64 k, .string v] w fun e w' => e = .returned (vV ⟨k, s.b, v⟩) ∧ Bl w w' := by
 obtain ⟨W1, HW1⟩ := Nh (w.alloc (.cells #[.int .i64 0, .int .i64 0, .int .i64 0, .string ⟨#[]⟩] 126)); have hb1 := Ab HW1; have hr1 := Ac HW1; have HS : Hid (∀ w', Bl w w' → (w'.cell? ⟨b, 3, none⟩ = some (.int .i64 s.b.i) ∧ w'.cell? ⟨b, 4, none⟩ = some (.int .i64 s.b.t))) := fun w' hw' => by
  obtain ⟨⟨c0, c1, c2, c3, c4, c5, c6, c7, c8, c9, c10, c11, c12, c13, c14, c15⟩, -⟩ := row16 (h.keep hw').row; exact ⟨c3, c4⟩
 have HB1 := Hf hb1; have HR1 := Hf hr1; clear h hb1 hr1; go_enter func102, ntmps102; go_upto_region 1 with fail
 rw [HW1.out]; clear HW1; refine Wm (fun wq => Bl w wq) (Below.drew HB1.out) fun wda hBwd Hl => ?_; refine Tm 0 Hl ?_; refine Tm 1 Hl ?_; refine Tm 2 Hl ?_; refine Tm 3 Hl ?_; refine Tj 4 Hl ?_; refine Tm 5 Hl ?_; simp only [Act.put, Pz]; refine Rd 6 ?px ?sx; intro K hK; go_simp; refine (sclone_any v _ hx).mono ?_; rintro e w2 ⟨rfl, hb2⟩; have B2 := Bu Hl hb2 Lr; have hr2 := Br (Br HR1.out hBwd) hb2; obtain ⟨x0, xf⟩ := row4 hr2; have HR2 := Hf hr2; have g0 := xf 0; have g1 := xf 1; have g2 := xf 2; have g3 := xf 3; clear xf hr2 hb2 hBwd; refine hK.out _ _ B2 fun Hl => ?_; refine Tm 7 Hl ?_; simp only [Act.put, Pz]; refine Rd 8 ?pz ?sz; intro K hK; go_simp; refine hK.out _ _ (put4_bel B2 Lr _ _ _ _) fun Hl => ?_; refine Wd ?_; go_wp2; refine bodyPost_ret (v := vV ⟨k, s.b, v⟩) ?_ rfl ⟨rfl, Hl⟩; exact results_cell_row f102_res _ _ w.heap.size 126 _ (0, 0) _ rfl (put4_row HR2.out _ _ _ _) underlying126 rfl Tryz.size126
theorem f73_res : Tryz.f73.results = #[.cell 4 126, .tmp 5] := rfl
theorem propose_any (h : PI w base b mv s) (ok : M.Ok s) (v : ByteArray) : Calls prog 73 #[.pointer (some ⟨b, 0, none⟩), .string v] w fun e w' => e = .returned (.tuple #[vV (M.ppv s v), .int .i64 (M.ppc s v)]) ∧ PI w' base b mv (M.pps s v) ∧ Fr w (fpp b mv) w' (fpp b mv) := by
 obtain ⟨W1, HW1⟩ := Nh (w.alloc (.cells #[.int .i64 0, .int .i64 0, .int .i64 0, .string ⟨#[]⟩] 126)); have hb1 := Ab HW1; have hr1 := Ac HW1; have h1 := h.keep hb1; have hlt := h.lt; have cm := mayPropose_any h1 v; have HP1 := Hf h1; have HB1 := Hf hb1; have HR1 := Hf hr1; have hne : w.heap.size ≠ b := by omega
 by_cases h0 : M.ppc s v = 0
 ·have HE1 : Hid (M.ppv s v = ⟨s.nx, s.b, v⟩) := Hf (by unfold M.ppv; rw [if_pos h0]); have HE2 : Hid (M.pps s v = { s with nx := s.nx + 1 }) := Hf (by unfold M.pps; rw [if_pos h0])
  have hsz : v.size ≤ 4096 ∧ s.nx < 1024 := by
   unfold M.ppc at h0
   split at h0
   ·omega
   ·split at h0
    ·omega
    ·omega
  obtain ⟨hsz, hnx⟩ := hsz; have hx0 : 0 ≤ s.nx := by have := ok.a0; have := ok.af; have := ok.fx; omega
  have hwr : IntKind.i64.wrap (s.nx + 1) = s.nx + 1 := by rw [IntKind.wrap_i64]; omega
  rw [h0, HE1.out, HE2.out]; rw [h0] at cm; have cv := vote_any h1 s.nx v (by omega); obtain ⟨c0, -⟩ := row16 h1.row; clear h h1 hb1 hr1 HE1 HE2 ok; go_enter func73, ntmps73; go_upto_region 1 with fail
  rw [HW1.out]; clear HW1; go_wp2_with fail; refine cm.mono ?_; clear cm; rintro e w1 ⟨rfl, rfl⟩; go_wp2_with fail; refine cv.mono ?_; clear cv c0; rintro e w2 ⟨rfl, hb2⟩; obtain ⟨W3, HW3⟩ := Nh (w2.alloc (.cells #[.int .i64 s.nx, .int .i64 s.b.i, .int .i64 s.b.t, .string v] 126)); have hb3 := Ab HW3; have hr3 := Ac HW3; have hb13 := Bu hb2 hb3 Lr; have h3 := HP1.out.keep hb13; obtain ⟨c0, cf⟩ := row16 h3.row; have f15 := cf 15; have q3 := Br HR1.out hb13; have h4 : PI (W3.setCell ⟨b, 15, none⟩ (.int .i64 (s.nx + 1))) base b mv { s with nx := s.nx + 1 } := h3.cell 15 _ rfl rfl rfl
  have hf4 : Fr w (fpp b mv) (W3.setCell ⟨b, 15, none⟩ (.int .i64 (s.nx + 1))) (fpp b mv) := fr_set (Fr.ofBelow (Bu HB1.out hb13 Lr)) (.inl rfl) 15 _; have hs2 := hb2.size; have hs1 := HB1.out.size; have hwl := (Array.getElem?_eq_some_iff.1 HR1.out).1; have hr4 := (heap_setCell_other W3 ⟨b, 15, none⟩ w2.heap.size (.int .i64 (s.nx + 1)) (by simp; omega)).trans hr3; have q4 := (heap_setCell_other W3 ⟨b, 15, none⟩ w.heap.size (.int .i64 (s.nx + 1)) (by simp; omega)).trans q3; obtain ⟨W4, HW4⟩ := Nh (W3.setCell ⟨b, 15, none⟩ (.int .i64 (s.nx + 1))); rw [HW4.out] at h4 hf4 hr4 q4; obtain ⟨x0, -⟩ := row4 hr4; obtain ⟨y0, yf⟩ := row4 q4; have g0 := yf 0; have g1 := yf 1; have g2 := yf 2; have g3 := yf 3; have HR4 := Hf q4; have HP4 := Hf (h4.keepBut (w' := put4 W4 w.heap.size (.int .i64 s.nx) (.int .i64 s.b.i) (.int .i64 s.b.t) (.string v)) (fun k hk hF => put4_oth (by
   rcases hF with rfl | hm
   ·exact fun e => hne e.symm
   ·have h0 := (HP1.out.map.yes k hm).2; have h1 := (HP1.out.map.yes k hm).1.ne HR1.out; exact fun e => h1 e.symm) _ _ _ _))
  have HF4 := Hf hf4; clear h3 h4 hf4 hr4 q4 q3 hb2 hb3 hb13 hr3 cf yf hs1 hs2 hwl HR1 HP1 HB1; go_upto_region 5 with fail
  rw [HW3.out]; clear HW3; go_upto_region 6 with fail
  rw [HW4.out]; clear HW4; clear c0; go_wp2; refine bodyPost_ret (v := .tuple #[.agg #[.int .i64 s.nx, .int .i64 s.b.i, .int .i64 s.b.t, .string v], .int .i64 0]) ?_ rfl ⟨rfl, HP4.out, ?_⟩
  ·exact res4 f73_res _ _ w.heap.size _ _ _ _ rfl (put4_row HR4.out _ _ _ _)
  ·exact fr_new (fr_new (fr_new (fr_new HF4.out Lr 0 _) Lr 1 _) Lr 2 _) Lr 3 _
 ·have HE1 : Hid (M.ppv s v = ⟨0, ⟨0, 0⟩, ⟨#[]⟩⟩) := Hf (by unfold M.ppv; rw [if_neg h0]); have HE2 : Hid (M.pps s v = s) := Hf (by unfold M.pps; rw [if_neg h0]); rw [HE1.out, HE2.out]; have hd : (M.ppc s v == 0) = false := by simpa using h0
  generalize M.ppc s v = r at *; obtain ⟨y0, yf⟩ := row4 hr1; have g0 := yf 0; have g1 := yf 1; have g2 := yf 2; have g3 := yf 3; have HP4 := Hf (h.keep (put4_bel hb1 Lr (.int .i64 0) (.int .i64 0) (.int .i64 0) (.string ⟨#[]⟩))); clear h h1 hb1 hr1 HE1 HE2 ok yf hne h0; go_enter func73, ntmps73; go_upto_region 1 with fail
  rw [HW1.out]; clear HW1; go_wp2_with fail; refine cm.mono ?_; clear cm; rintro e w1 ⟨rfl, rfl⟩; go_wp2; refine bodyPost_ret (v := .tuple #[.agg #[.int .i64 0, .int .i64 0, .int .i64 0, .string ⟨#[]⟩], .int .i64 r]) ?_ rfl ⟨rfl, HP4.out, Fr.ofBelow (put4_bel HB1.out Lr _ _ _ _)⟩; exact res4 f73_res _ _ w.heap.size _ _ _ _ rfl (put4_row HR1.out _ _ _ _)
end
end Go.Proofs.YtgodnpngdbelhaaGreat.Np
