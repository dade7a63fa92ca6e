/-
  Delete.
-/
import Derived.Test.YticjilpomdahbaaFT
namespace Go.Proofs.Yticjilpomdahbaa
open Go.RowKit
open M (ofL ofL_size ofL_of)
set_option linter.unusedVariables false

section
variable {w0 w w' : World} {b s d : Nat} {F G : Nat → Prop} {n : Nat} {P Q : List M.Pl} {L : List Fr.Sl} {cut : Bool}
/-- A slot is set. -/
theorem Sto.slot (h : Sto w0 w b s d F n P L cut) (i : Nat) (hi : i < L.length) (v0 v1 v2 v3 : Value) (x : Fr.Sl) (hx : SV x = #[v0, v1, v2, v3]) :
    Sto w0 ((((w.setCell ⟨s, i * 4, none⟩ v0).setCell ⟨s, i * 4 + 1, none⟩ v1).setCell ⟨s, i * 4 + 2, none⟩ v2).setCell ⟨s, i * 4 + 3, none⟩ v3) b s d F n P (L.set i x) cut ∧
    Ch w (FP F b s) ((((w.setCell ⟨s, i * 4, none⟩ v0).setCell ⟨s, i * 4 + 1, none⟩ v1).setCell ⟨s, i * 4 + 2, none⟩ v2).setCell ⟨s, i * 4 + 3, none⟩ v3) (FP F b s) := by
  have hk : FP F b s s := .inr (.inr rfl)
  have hC := (((Ch.cell (w := w) s (i * 4) v0 hk).trans (Ch.cell s (i * 4 + 1) v1 hk)).trans (Ch.cell s (i * 4 + 2) v2 hk)).trans (Ch.cell s (i * 4 + 3) v3 hk)
  have hR := h.o.sl.set i hi v0 v1 v2 v3 x hx
  have hb : ∀ k, k ≠ s → ((((w.setCell ⟨s, i * 4, none⟩ v0).setCell ⟨s, i * 4 + 1, none⟩ v1).setCell ⟨s, i * 4 + 2, none⟩ v2).setCell ⟨s, i * 4 + 3, none⟩ v3).heap[k]? = w.heap[k]? := fun k hk => by
    rw [heap_setCell_other _ ⟨s, i * 4 + 3, none⟩ k _ hk, heap_setCell_other _ ⟨s, i * 4 + 2, none⟩ k _ hk, heap_setCell_other _ ⟨s, i * 4 + 1, none⟩ k _ hk, heap_setCell_other _ ⟨s, i * 4, none⟩ k _ hk]
  generalize (((w.setCell ⟨s, i * 4, none⟩ v0).setCell ⟨s, i * 4 + 1, none⟩ v1).setCell ⟨s, i * 4 + 2, none⟩ v2).setCell ⟨s, i * 4 + 3, none⟩ v3 = W at *
  refine ⟨⟨h.dev.keepBut (fun k hk hF => hb k (fun e => h.ap.2 (e ▸ hF))) (h.dev.bel.trans (hC.below (fun k hk => (h.own k hk).1) h.dev.bel.size)), ⟨?_, hR, h.o.ne, by rw [List.length_set]; exact h.o.len⟩, h.ap, h.low⟩, hC⟩
  rw [List.length_set]
  exact (hb b h.o.ne).trans h.o.row
theorem Sto.row (h : Sto w0 w b s d F n P L cut) : w.cell? ⟨b, 0, none⟩ = some (.pointer (some ⟨d, 0, none⟩)) ∧ w.cell? ⟨b, 1, none⟩ = some (.slice (some ⟨s, 0, none⟩) L.length L.length) ∧ w.cell? ⟨b, 2, none⟩ = some (.bool cut) := (row3f h.o.row).1
end
theorem wcode_in (n a k : Nat) (t : ByteArray) (hk : 1 ≤ k) (ht : t.size = k * 64) (ha : a + k ≤ n) : M.wcode n false (a : Int) t = 0 := by
  unfold M.wcode M.refused
  rw [decide_eq_true (show t.size % 64 = 0 by omega), show t.size / 64 = k by omega, decide_eq_false (show ¬ (a : Int) < 0 by omega), decide_eq_false (show ¬ ((k : Nat) : Int) < 1 by omega), decide_eq_false (show ¬ (a : Int) > n - (k : Nat) by omega)]
  rfl
theorem wrote_in (n a k : Nat) (P : List M.Pl) (t : ByteArray) (hk : 1 ≤ k) (ht : t.size = k * 64) (ha : a + k ≤ n) : M.wrote n false P (a : Int) t = M.wr P a t k := by
  unfold M.wrote
  rw [wcode_in n a k t hk ht ha, Int.toNat_natCast, show t.size / 64 = k by omega]
  rfl
/-- What Delete leaves. -/
def DelOut (w0 w : World) (b s d : Nat) (F : Nat → Prop) (n : Nat) (P : List M.Pl) (L : List Fr.Sl) (i m : Nat) (e : Ending) (w' : World) : Prop := ∃ G, e = .returned (.int .i64 (dcode 2 m)) ∧ Sto w0 w' b s d G n (d2 n P ((9 * i : Nat) : Int) zr m) (bif decide (m < 2) then L else L.set i none) (decide (m < 2)) ∧ Ch w (FP F b s) w' (FP G b s)
set_option maxRecDepth 100000 in
set_option maxHeartbeats 400000 in
theorem delete_no {w : World} {b s d : Nat} {L : List Fr.Sl} {cut : Bool} {p q : Int} (steps : Int) (h : FO w b s d L cut) (hr : Fst L (Fr.isAt p q) (-1)) :
    Calls Try.prog 7 #[.pointer (some ⟨b, 0, none⟩), .agg #[.int .i64 p, .int .i64 q], .int .i64 steps] w fun e w' => e = .returned (.int .i64 7) ∧ Below w.heap.size w w' := by
  have hB := bel1 w (.cells #[.int .i64 p, .int .i64 q] 23)
  have hc := find_no (h.keep hB) hr
  have HB := Hid_of hB
  clear h hr hB
  go_enter Try.func7, Try.ntmps7
  go_wp2_with fail
  refine hc.mono ?_
  rintro e w1 ⟨rfl, hb⟩
  have HB1 := Hid_of (bel_up HB.out hb (Nat.le_refl _))
  clear hc hb
  go_wp2
  go_ret
  exact ⟨rfl, HB1.out⟩
set_option maxRecDepth 100000 in
set_option maxHeartbeats 400000 in
theorem delete_cut {w0 w : World} {b s d : Nat} {F : Nat → Prop} {n : Nat} {P : List M.Pl} {L : List Fr.Sl} {p q : Int} (steps : Int) {i m : Nat} {a c : Nat} {t : ByteArray} (h : Sto w0 w b s d F n P L false) (hr : Fst L (Fr.isAt p q) i) (hi : L[i]? = some (some ((a, c), t))) (hin : 9 * i + 1 ≤ n) (hm : m < 2 ∧ steps = m) :
    Calls Try.prog 7 #[.pointer (some ⟨b, 0, none⟩), .agg #[.int .i64 p, .int .i64 q], .int .i64 steps] w fun e w' => DelOut w0 w b s d F n P L i m e w' := by
  have hB := bel1 w (.cells #[.int .i64 p, .int .i64 q] 23)
  have hlt := lt_of_some hi
  have hle := h.o.len
  have hc := find_yes (h.o.keep hB) hr hlt
  have HB := Hid_of hB
  have HH := Hid_of h
  have HI := Hid_of hi
  have hz := wcode_in n (9 * i) 1 zr (by omega) (by rw [zr_size]) (by omega)
  have HM := Hid_of hm
  clear h hr hB hi hm
  go_enter Try.func7, Try.ntmps7
  go_wp2_with fail
  refine hc.mono ?_
  rintro e w1 ⟨rfl, hb⟩
  have HB1 := Hid_of (bel_up HB.out hb (Nat.le_refl _))
  clear hc hb HB
  have hc := pad_any w1
  go_wp2_with fail
  refine hc.mono ?_
  rintro e w2 ⟨rfl, hb⟩
  have HB2 := Hid_of (bel_up HB1.out hb (Nat.le_refl _))
  clear hc hb HB1
  have hc := headAt_any i (by omega) w2
  go_wp2_with fail
  refine hc.mono ?_
  rintro e w3 ⟨rfl, rfl⟩
  clear hc
  have hc := writing_any b ((9 * i : Nat) : Int) zr F w3 (fun k hk => (HH.out.keep HB2.out).own k (.inl hk) |>.2)
  go_wp2_with fail
  refine hc.mono ?_
  rintro e w4 ⟨k, rfl, hW, hk, hb⟩
  have hb4 := bel_up HB2.out hb (Nat.le_refl _)
  have hS4 := HH.out.keep hb4
  obtain ⟨W5, hW5⟩ : ∃ W5, w4.alloc (.cells #[fw k, ff b] 55) = W5 := ⟨_, rfl⟩
  have hb5 : Below w4.heap.size w4 W5 := by rw [← hW5]; exact bel1 w4 _
  have hg5 : W5.heap[w4.heap.size]? = some (.cells #[fw k, ff b] 55 (0, 0)) := by rw [← hW5]; exact heap_alloc_last w4 _
  have HB5 := Hid_of (bel_up hb4 hb5 (Nat.le_refl _))
  have hc5 := do2 w0 W5 b s d F n P L steps w4.heap.size k _ zr m (hS4.keep hb5) hg5 (fun hF => by have := (hS4.own _ (.inl hF)).2; omega) (hW.keep hb5) hz (by rw [zr_size]; omega) (.inl HM.out)
  have HE : Hid (dcode 2 m = 16 ∧ decide (m < 2) = true) := by unfold dcode; rw [decide_eq_true HM.out.1]; exact ⟨rfl, rfl⟩
  rw [HE.out.1, HE.out.2] at hc5
  have HW5 := Hid_of hW5
  unfold fw ff at HW5
  unfold fw
  clear hc hb hW hk hb4 hS4 hW5 hb5 hg5 HB2
  go_wp2_with (go_at_call 20; rw [HW5.out]; refine hc5.mono ?_; rintro e w6 ⟨G, rfl, hS6, hC6⟩; have HR := Hid_of (And.intro hS6 ((Ch.ofBelow (F := FP F b s) HB5.out).trans hC6)); clear hc5 hC6 hS6 HW5 HB5 HH)
  go_ret
  unfold DelOut
  obtain ⟨e1, e2⟩ := HE.out
  rw [e1, e2]
  exact ⟨G, rfl, HR.out.1, HR.out.2⟩
set_option maxRecDepth 100000 in
set_option maxHeartbeats 400000 in
theorem delete_all {w0 w : World} {b s d : Nat} {F : Nat → Prop} {n : Nat} {P : List M.Pl} {L : List Fr.Sl} {p q : Int} (steps : Int) {i : Nat} {a c : Nat} {t : ByteArray} (h : Sto w0 w b s d F n P L false) (hr : Fst L (Fr.isAt p q) i) (hi : L[i]? = some (some ((a, c), t))) (hin : 9 * i + 1 ≤ n) (hm : ∀ j : Nat, j < 2 → steps ≠ j) :
    Calls Try.prog 7 #[.pointer (some ⟨b, 0, none⟩), .agg #[.int .i64 p, .int .i64 q], .int .i64 steps] w fun e w' => DelOut w0 w b s d F n P L i 2 e w' := by
  have hB := bel1 w (.cells #[.int .i64 p, .int .i64 q] 23)
  have hlt := lt_of_some hi
  have hle := h.o.len
  have hc := find_yes (h.o.keep hB) hr hlt
  have HB := Hid_of hB
  have HH := Hid_of h
  have HI := Hid_of hi
  have hz := wcode_in n (9 * i) 1 zr (by omega) (by rw [zr_size]) (by omega)
  clear h hr hB hi
  go_enter Try.func7, Try.ntmps7
  go_wp2_with fail
  refine hc.mono ?_
  rintro e w1 ⟨rfl, hb⟩
  have HB1 := Hid_of (bel_up HB.out hb (Nat.le_refl _))
  clear hc hb HB
  have hc := pad_any w1
  go_wp2_with fail
  refine hc.mono ?_
  rintro e w2 ⟨rfl, hb⟩
  have HB2 := Hid_of (bel_up HB1.out hb (Nat.le_refl _))
  clear hc hb HB1
  have hc := headAt_any i (by omega) w2
  go_wp2_with fail
  refine hc.mono ?_
  rintro e w3 ⟨rfl, rfl⟩
  clear hc
  have hc := writing_any b ((9 * i : Nat) : Int) zr F w3 (fun k hk => (HH.out.keep HB2.out).own k (.inl hk) |>.2)
  go_wp2_with fail
  refine hc.mono ?_
  rintro e w4 ⟨k, rfl, hW, hk, hb⟩
  have hb4 := bel_up HB2.out hb (Nat.le_refl _)
  have hS4 := HH.out.keep hb4
  obtain ⟨W5, hW5⟩ : ∃ W5, w4.alloc (.cells #[fw k, ff b] 55) = W5 := ⟨_, rfl⟩
  have hb5 : Below w4.heap.size w4 W5 := by rw [← hW5]; exact bel1 w4 _
  have hg5 : W5.heap[w4.heap.size]? = some (.cells #[fw k, ff b] 55 (0, 0)) := by rw [← hW5]; exact heap_alloc_last w4 _
  have HB5 := Hid_of (bel_up hb4 hb5 (Nat.le_refl _))
  have hc5 := do2 w0 W5 b s d F n P L steps w4.heap.size k _ zr 2 (hS4.keep hb5) hg5 (fun hF => by have := (hS4.own _ (.inl hF)).2; omega) (hW.keep hb5) hz (by rw [zr_size]; omega) (.inr ⟨rfl, hm⟩)
  rw [show dcode 2 2 = 0 from rfl, show decide (2 < 2) = false from rfl] at hc5
  have HW5 := Hid_of hW5
  unfold fw ff at HW5
  unfold fw
  clear hc hb hW hk hb4 hS4 hW5 hb5 hg5 HB2
  go_wp2_with (go_at_call 20; rw [HW5.out]; refine hc5.mono ?_; rintro e w6 ⟨G, rfl, hS6, hC6⟩; have HR := Hid_of (And.intro hS6 ((Ch.ofBelow (F := FP F b s) HB5.out).trans hC6)); obtain ⟨x0, x1, x2⟩ := hS6.row; obtain ⟨y0, y1, y2, y3⟩ := hS6.o.sl.some HI.out; have g0 := hS6.o.sl.free (i * 4); have g1 := hS6.o.sl.free (i * 4 + 1); have g2 := hS6.o.sl.free (i * 4 + 2); have g3 := hS6.o.sl.free (i * 4 + 3); clear hc5 hC6 hS6 HW5 HB5 HH)
  go_ret
  have hT := HR.out.1.slot i hlt (.bool false) (.int .i64 0) (.int .i64 0) (.int .i64 0) none rfl
  exact ⟨G, rfl, hT.1, HR.out.2.trans hT.2⟩
end Go.Proofs.Yticjilpomdahbaa
