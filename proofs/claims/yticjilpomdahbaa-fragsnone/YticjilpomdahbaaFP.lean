/-
  Put.
-/
import Derived.Test.YticjilpomdahbaaFX
namespace Go.Proofs.Yticjilpomdahbaa
open Go.RowKit
open M (ofL ofL_size ofL_of)
set_option linter.unusedVariables false

/-- The place's box, behind what lay there. -/
def BX (w : World) (p q : Int) (W : World) : Prop := Below w.heap.size w W ∧ W.heap[w.heap.size]? = some (.cells #[.int .i64 p, .int .i64 q] 23 (0, 0))
theorem BX.up {w W W' : World} {p q : Int} (h : BX w p q W) (hb : Below W.heap.size W W') : BX w p q W' := ⟨bel_up h.1 hb (Nat.le_refl _), bel_row h.2 hb⟩
theorem BX.new (w : World) (p q : Int) : BX w p q (w.alloc (.cells #[.int .i64 p, .int .i64 q] 23)) := ⟨bel1 w _, heap_alloc_last w _⟩
theorem bb_pad (t : ByteArray) : ofL (pad t.data.toList 512) = Fr.bb t := rfl
/-- What Put leaves. -/
def PutOut (w0 w : World) (b s d : Nat) (F : Nat → Prop) (n : Nat) (P : List M.Pl) (L : List Fr.Sl) (i a c : Nat) (t : ByteArray) (m : Nat) (e : Ending) (w' : World) : Prop := ∃ G, e = .returned (.int .i64 (dcode 4 m)) ∧ Sto w0 w' b s d G n (d4 n P ((9 * i + 1 : Nat) : Int) (Fr.bb t) ((9 * i : Nat) : Int) (Fr.hb a c t) m) (bif decide (m < 4) then L else L.set i (some ((a, c), t))) (decide (m < 4)) ∧ Ch w (FP F b s) w' (FP G b s)

set_option maxRecDepth 100000 in
set_option maxHeartbeats 400000 in
theorem put_arg {w : World} {b s d : Nat} {L : List Fr.Sl} {cut : Bool} {p q : Int} (t : ByteArray) (steps : Int) (h : FO w b s d L cut) (hm : Fr.mayBe p q = false) :
    Calls Try.prog 6 #[.pointer (some ⟨b, 0, none⟩), .agg #[.int .i64 p, .int .i64 q], .string t, .int .i64 steps] w fun e w' => e = .returned (.int .i64 1) ∧ Below w.heap.size w w' := by
  have hB := bel1 w (.cells #[.int .i64 p, .int .i64 q] 23)
  have hc := room_arg t (h.keep hB) hm
  have HB := Hid_of hB
  clear h hB
  go_enter Try.func6, Try.ntmps6
  go_wp2_with fail
  refine hc.mono ?_
  rintro e w1 ⟨rfl, hb⟩
  have HB1 := Hid_of (bel_up HB.out hb (Nat.le_refl _))
  clear hc hb
  go_wp2
  go_ret
  exact ⟨rfl, HB1.out⟩

set_option maxRecDepth 100000 in
set_option maxHeartbeats 400000 in
theorem put_size {w : World} {b s d : Nat} {L : List Fr.Sl} {cut : Bool} {p q : Int} (t : ByteArray) (steps : Int) (h : FO w b s d L cut) (hm : Fr.mayBe p q = true) (ht : 512 < t.size) (htl : t.size ≤ maxLen) :
    Calls Try.prog 6 #[.pointer (some ⟨b, 0, none⟩), .agg #[.int .i64 p, .int .i64 q], .string t, .int .i64 steps] w fun e w' => e = .returned (.int .i64 2) ∧ Below w.heap.size w w' := by
  have hB := bel1 w (.cells #[.int .i64 p, .int .i64 q] 23)
  have hc := room_size t (h.keep hB) hm ht htl
  have HB := Hid_of hB
  clear h hB
  go_enter Try.func6, Try.ntmps6
  go_wp2_with fail
  refine hc.mono ?_
  rintro e w1 ⟨rfl, hb⟩
  have HB1 := Hid_of (bel_up HB.out hb (Nat.le_refl _))
  clear hc hb
  go_wp2
  go_ret
  exact ⟨rfl, HB1.out⟩

set_option maxRecDepth 100000 in
set_option maxHeartbeats 400000 in
theorem put_full {w : World} {b s d : Nat} {L : List Fr.Sl} {cut : Bool} {p q : Int} (t : ByteArray) (steps : Int) (h : FO w b s d L cut) (hm : Fr.mayBe p q = true) (ht : t.size ≤ 512) (hr : Fst L isFr (-1)) :
    Calls Try.prog 6 #[.pointer (some ⟨b, 0, none⟩), .agg #[.int .i64 p, .int .i64 q], .string t, .int .i64 steps] w fun e w' => e = .returned (.int .i64 5) ∧ Below w.heap.size w w' := by
  have hB := bel1 w (.cells #[.int .i64 p, .int .i64 q] 23)
  have hc := room_full t (h.keep hB) hm ht hr
  have HB := Hid_of hB
  clear h hB
  go_enter Try.func6, Try.ntmps6
  go_wp2_with fail
  refine hc.mono ?_
  rintro e w1 ⟨rfl, hb⟩
  have HB1 := Hid_of (bel_up HB.out hb (Nat.le_refl _))
  clear hc hb
  go_wp2
  go_ret
  exact ⟨rfl, HB1.out⟩

set_option maxRecDepth 100000 in
set_option maxHeartbeats 400000 in
theorem put_twice {w : World} {b s d : Nat} {L : List Fr.Sl} {cut : Bool} {p q : Int} (t : ByteArray) (steps : Int) (h : FO w b s d L cut) (hm : Fr.mayBe p q = true) (ht : t.size ≤ 512) {k j : Nat} (hr : Fst L isFr k) (hk : k < L.length) (hx : Fst L (Fr.isAt p q) j) (hj : j < L.length) :
    Calls Try.prog 6 #[.pointer (some ⟨b, 0, none⟩), .agg #[.int .i64 p, .int .i64 q], .string t, .int .i64 steps] w fun e w' => e = .returned (.int .i64 6) ∧ Below w.heap.size w w' := by
  have hB := bel1 w (.cells #[.int .i64 p, .int .i64 q] 23)
  have hc := room_twice t (h.keep hB) hm ht hr hk hx hj
  have HB := Hid_of hB
  clear h hB
  go_enter Try.func6, Try.ntmps6
  go_wp2_with fail
  refine hc.mono ?_
  rintro e w1 ⟨rfl, hb⟩
  have HB1 := Hid_of (bel_up HB.out hb (Nat.le_refl _))
  clear hc hb
  go_wp2
  go_ret
  exact ⟨rfl, HB1.out⟩

set_option maxRecDepth 100000 in
set_option maxHeartbeats 1000000 in
theorem put_cut {w0 w : World} {b s d : Nat} {F : Nat → Prop} {n : Nat} {P : List M.Pl} {L : List Fr.Sl} {a c : Nat} (t : ByteArray) (steps : Int) {i m : Nat} (h : Sto w0 w b s d F n P L false) (ha : a < 2147483648) (hc8 : c < 8) (ht : t.size ≤ 512) (hr : Fst L isFr i) (hi : L[i]? = some none) (hx : Fst L (Fr.isAt a c) (-1)) (hin : 9 * i + 9 ≤ n) (hm : m < 4 ∧ steps = m) :
    Calls Try.prog 6 #[.pointer (some ⟨b, 0, none⟩), .agg #[.int .i64 a, .int .i64 c], .string t, .int .i64 steps] w fun e w' => PutOut w0 w b s d F n P L i a c t m e w' := by
  have hlt := lt_of_some hi
  have hle := h.o.len
  have hmb : Fr.mayBe a c = true := by unfold Fr.mayBe; simp; omega
  have hX0 := BX.new w a c
  have hc := room_yes t (h.o.keep hX0.1) hmb ht hr hlt hx
  have HH := Hid_of h
  have HI := Hid_of hi
  have HM : Hid (m < 4 ∧ steps = m ∨ m = 4 ∧ ∀ j : Nat, j < 4 → steps ≠ j) := .inl hm
  have HCD : Hid (dcode 4 m = 16) := by unfold dcode; rw [decide_eq_true hm.1]; rfl
  have HZ : Hid (M.wcode n false ((9 * i + 1 : Nat) : Int) (Fr.bb t) = 0 ∧ M.wcode n false ((9 * i : Nat) : Int) (Fr.hb a c t) = 0) := ⟨wcode_in n (9 * i + 1) 8 _ (by omega) (by rw [Fr.bb_size t ht]) (by omega), wcode_in n (9 * i) 1 _ (by omega) (by rw [Fr.hb_size]) (by omega)⟩
  have HF : Hid (∀ W, BX w a c W → ∀ k, F k → k < W.heap.size) := fun W hW k hk => (HH.out.keep hW.1).own k (.inl hk) |>.2
  have HN : Hid (¬ FP F b s w.heap.size) := fun hF => by have := (HH.out.own _ hF).2; omega
  have HX0 := Hid_of hX0
  clear h hr hi hx hX0 hm hmb
  go_enter Try.func6, Try.ntmps6
  go_wp2_with fail
  refine hc.mono ?_
  rintro e w1 ⟨rfl, hb⟩
  have HX1 := Hid_of (HX0.out.up hb)
  clear hc hb HX0
  have hc := pad_to t 512 w1 (by omega) ht
  rw [bb_pad] at hc
  go_wp2_with fail
  refine hc.mono ?_
  rintro e w2 ⟨rfl, hb⟩
  have HX2 := Hid_of (HX1.out.up hb)
  have HX2d : Hid (BX w a c w2.drew) := HX2.out.up (Below.drew (Below.refl _ _))
  clear hc hb HX1
  go_wp2_with fail
  refine wp_region_held_drew (S := fun wq => wq.cell? ⟨w.heap.size, 0, none⟩ = some (.int .i64 a) ∧ wq.cell? ⟨w.heap.size, 1, none⟩ = some (.int .i64 c)) (by kernel_rfl) (row2 HX2d.out.2).1 (fun hHeld => ?_)
  refine wpAnyH_take (i := 0) (oi := ?p0r) (v := ?v0r) ?o0r (by kernel_rfl) (by kernel_rfl) (by kernel_rfl) ?q0r ?y0r hHeld ?r0r
  case o0r => simp only [List.getElem?_toArray, List.getElem?_cons_zero]; rfl
  case q0r => exact fun _ _ _ h => h
  case y0r => (refine Or.inl ⟨rfl, ?_⟩; intro wq hq; obtain ⟨a0, a1⟩ := hq; go_simp; try with_reducible rfl)
  simp only [Act.put, List.setIfInBounds_toArray, List.set_cons_zero, List.set_cons_succ]
  refine wpAnyH_take (i := 1) (oi := ?p1r) (v := ?v1r) ?o1r (by kernel_rfl) (by kernel_rfl) (by kernel_rfl) ?q1r ?y1r hHeld ?r1r
  case o1r => simp only [List.getElem?_toArray, List.getElem?_cons_succ, List.getElem?_cons_zero]; rfl
  case q1r => exact fun _ _ _ h => h
  case y1r => (refine Or.inl ⟨rfl, ?_⟩; intro wq hq; obtain ⟨a0, a1⟩ := hq; go_simp; try with_reducible rfl)
  simp only [Act.put, List.setIfInBounds_toArray, List.set_cons_zero, List.set_cons_succ]
  refine wpAnyH_take (i := 2) (oi := ?p2r) (v := ?v2r) ?o2r (by kernel_rfl) (by kernel_rfl) (by kernel_rfl) ?q2r ?y2r hHeld ?r2r
  case o2r => simp only [List.getElem?_toArray, List.getElem?_cons_succ, List.getElem?_cons_zero]; rfl
  case q2r => exact fun _ _ _ h => h
  case y2r => (refine Or.inl ⟨rfl, ?_⟩; intro wq hq; obtain ⟨a0, a1⟩ := hq; go_simp; try with_reducible rfl)
  simp only [Act.put, List.setIfInBounds_toArray, List.set_cons_zero, List.set_cons_succ]
  refine wpAnyH_take (i := 3) (oi := ?p3r) (v := ?v3r) ?o3r (by kernel_rfl) (by kernel_rfl) (by kernel_rfl) ?q3r ?y3r hHeld ?r3r
  case o3r => simp only [List.getElem?_toArray, List.getElem?_cons_succ, List.getElem?_cons_zero]; rfl
  case q3r => exact fun _ _ _ h => h
  case y3r => (refine Or.inl ⟨rfl, ?_⟩; intro wq hq; obtain ⟨a0, a1⟩ := hq; go_simp; try with_reducible rfl)
  simp only [Act.put, List.setIfInBounds_toArray, List.set_cons_zero, List.set_cons_succ]
  refine wpAnyH_take (i := 5) (oi := ?p5r) (v := ?v5r) ?o5r (by kernel_rfl) (by kernel_rfl) (by kernel_rfl) ?q5r ?y5r hHeld ?r5r
  case o5r => simp only [List.getElem?_toArray, List.getElem?_cons_succ, List.getElem?_cons_zero]; rfl
  case q5r => exact fun _ _ _ h => h
  case y5r => (refine Or.inl ⟨rfl, ?_⟩; intro wq hq; obtain ⟨a0, a1⟩ := hq; go_simp; try with_reducible rfl)
  simp only [Act.put, List.setIfInBounds_toArray, List.set_cons_zero, List.set_cons_succ]
  refine wpAnyH_take (i := 7) (oi := ?p7r) (v := ?v7r) ?o7r (by kernel_rfl) (by kernel_rfl) (by kernel_rfl) ?q7r ?y7r hHeld ?r7r
  case o7r => simp only [List.getElem?_toArray, List.getElem?_cons_succ, List.getElem?_cons_zero]; rfl
  case q7r => exact fun _ _ _ h => h
  case y7r => (refine Or.inl ⟨rfl, ?_⟩; intro wq hq; obtain ⟨a0, a1⟩ := hq; go_simp; try with_reducible rfl)
  simp only [Act.put, List.setIfInBounds_toArray, List.set_cons_zero, List.set_cons_succ]
  refine wpAnyH_take (i := 9) (oi := ?p9r) (v := ?v9r) ?o9r (by kernel_rfl) (by kernel_rfl) (by kernel_rfl) ?q9r ?y9r hHeld ?r9r
  case o9r => simp only [List.getElem?_toArray, List.getElem?_cons_succ, List.getElem?_cons_zero]; rfl
  case q9r => exact fun _ _ _ h => h
  case y9r => (refine Or.inl ⟨rfl, ?_⟩; intro wq hq; obtain ⟨a0, a1⟩ := hq; go_simp; try with_reducible rfl)
  simp only [Act.put, List.setIfInBounds_toArray, List.set_cons_zero, List.set_cons_succ]
  refine wpAnyH_take (i := 10) (oi := ?p10r) (v := ?v10r) ?o10r (by kernel_rfl) (by kernel_rfl) (by kernel_rfl) ?q10r ?y10r hHeld ?r10r
  case o10r => simp only [List.getElem?_toArray, List.getElem?_cons_succ, List.getElem?_cons_zero]; rfl
  case q10r => exact fun _ _ _ h => h
  case y10r => (refine Or.inl ⟨rfl, ?_⟩; intro wq hq; obtain ⟨a0, a1⟩ := hq; go_simp; try with_reducible rfl)
  simp only [Act.put, List.setIfInBounds_toArray, List.set_cons_zero, List.set_cons_succ]
  refine wpAnyH_take (i := 12) (oi := ?p12r) (v := ?v12r) ?o12r (by kernel_rfl) (by kernel_rfl) (by kernel_rfl) ?q12r ?y12r hHeld ?r12r
  case o12r => simp only [List.getElem?_toArray, List.getElem?_cons_succ, List.getElem?_cons_zero]; rfl
  case q12r => exact fun _ _ _ h => h
  case y12r => (refine Or.inl ⟨rfl, ?_⟩; intro wq hq; obtain ⟨a0, a1⟩ := hq; go_simp; try with_reducible rfl)
  simp only [Act.put, List.setIfInBounds_toArray, List.set_cons_zero, List.set_cons_succ]
  refine wpAnyH_take (i := 13) (oi := ?p13r) (v := ?v13r) ?o13r (by kernel_rfl) (by kernel_rfl) (by kernel_rfl) ?q13r ?y13r hHeld ?r13r
  case o13r => simp only [List.getElem?_toArray, List.getElem?_cons_succ, List.getElem?_cons_zero]; rfl
  case q13r => exact fun _ _ _ h => h
  case y13r => (refine Or.inl ⟨rfl, ?_⟩; intro wq hq; obtain ⟨a0, a1⟩ := hq; go_simp; try with_reducible rfl)
  simp only [Act.put, List.setIfInBounds_toArray, List.set_cons_zero, List.set_cons_succ]
  refine wpAnyH_take (i := 16) (oi := ?p16r) (v := ?v16r) ?o16r (by kernel_rfl) (by kernel_rfl) (by kernel_rfl) ?q16r ?y16r hHeld ?r16r
  case o16r => simp only [List.getElem?_toArray, List.getElem?_cons_succ, List.getElem?_cons_zero]; rfl
  case q16r => exact fun _ _ _ h => h
  case y16r => (refine Or.inl ⟨rfl, ?_⟩; intro wq hq; obtain ⟨a0, a1⟩ := hq; go_simp; try with_reducible rfl)
  simp only [Act.put, List.setIfInBounds_toArray, List.set_cons_zero, List.set_cons_succ]
  refine wpAnyH_take (i := 8) (oi := ?p8r) (v := ?v8r) ?o8r (by kernel_rfl) (by kernel_rfl) (by kernel_rfl) ?q8r ?y8r hHeld ?r8r
  case o8r => simp only [List.getElem?_toArray, List.getElem?_cons_succ, List.getElem?_cons_zero]; rfl
  case q8r => exact fun _ _ _ h => h
  case y8r => (refine Or.inl ⟨rfl, ?_⟩; intro wq hq; obtain ⟨a0, a1⟩ := hq; go_simp; try with_reducible rfl)
  simp only [Act.put, List.setIfInBounds_toArray, List.set_cons_zero, List.set_cons_succ]
  refine wpAnyH_take (i := 17) (oi := ?p17r) (v := ?v17r) ?o17r (by kernel_rfl) (by kernel_rfl) (by kernel_rfl) ?q17r ?y17r hHeld ?r17r
  case o17r => simp only [List.getElem?_toArray, List.getElem?_cons_succ, List.getElem?_cons_zero]; rfl
  case q17r => exact fun _ _ _ h => h
  case y17r => (refine Or.inl ⟨rfl, ?_⟩; intro wq hq; obtain ⟨a0, a1⟩ := hq; go_simp; try with_reducible rfl)
  simp only [Act.put, List.setIfInBounds_toArray, List.set_cons_zero, List.set_cons_succ]
  refine wpAnyH_ready (rs := [4]) (by kernel_rfl) (by simp) ?_
  refine AllReadyH.cons (o := ?p4r) ?o4r ?s4r AllReadyH.nil
  case o4r => simp only [List.getElem?_toArray, List.getElem?_cons_succ, List.getElem?_cons_zero]; rfl
  intro K hK
  go_simp
  refine (bodyAt_any i (by omega) _).mono ?_
  rintro x w3 ⟨rfl, rfl⟩
  refine hK.out _ _ hHeld (fun hHeld => ?_)
  clear hK K
  refine wpAnyH_ready (rs := [6]) (by kernel_rfl) (by simp) ?_
  refine AllReadyH.cons (o := ?p6r) ?o6r ?s6r AllReadyH.nil
  case o6r => simp only [List.getElem?_toArray, List.getElem?_cons_succ, List.getElem?_cons_zero]; rfl
  intro K hK
  go_simp
  refine (writing_any b ((9 * i + 1 : Nat) : Int) (Fr.bb t) F _ (HF.out _ HX2d.out)).mono ?_
  rintro x w4 ⟨k0, rfl, hW0, _, hb4⟩
  have HX4 := Hid_of (HX2d.out.up hb4)
  have HW0 := Hid_of hW0
  clear hW0 hb4
  unfold fw
  refine hK.out _ _ (row2 HX4.out.2).1 (fun hHeld => ?_)
  clear hK K
  refine wpAnyH_ready (rs := [11]) (by kernel_rfl) (by simp) ?_
  refine AllReadyH.cons (o := ?p11r) ?o11r ?s11r AllReadyH.nil
  case o11r => simp only [List.getElem?_toArray, List.getElem?_cons_succ, List.getElem?_cons_zero]; rfl
  intro K hK
  go_simp
  refine (headAt_any i (by omega) _).mono ?_
  rintro x w5 ⟨rfl, rfl⟩
  refine hK.out _ _ hHeld (fun hHeld => ?_)
  clear hK K
  refine wpAnyH_ready (rs := [14]) (by kernel_rfl) (by simp) ?_
  refine AllReadyH.cons (o := ?p14r) ?o14r ?s14r AllReadyH.nil
  case o14r => simp only [List.getElem?_toArray, List.getElem?_cons_succ, List.getElem?_cons_zero]; rfl
  intro K hK
  go_simp
  refine (headOf_any a c t ha hc8 ht _).mono ?_
  rintro x w6 ⟨rfl, hb6⟩
  have HX6 := Hid_of (HX4.out.up hb6)
  have HW6 := Hid_of (HW0.out.keep hb6)
  clear hb6
  refine hK.out _ _ (row2 HX6.out.2).1 (fun hHeld => ?_)
  clear hK K
  refine wpAnyH_ready (rs := [15]) (by kernel_rfl) (by simp) ?_
  refine AllReadyH.cons (o := ?p15r) ?o15r ?s15r AllReadyH.nil
  case o15r => simp only [List.getElem?_toArray, List.getElem?_cons_succ, List.getElem?_cons_zero]; rfl
  intro K hK
  go_simp
  refine (writing_any b ((9 * i : Nat) : Int) (Fr.hb a c t) F _ (HF.out _ HX6.out)).mono ?_
  rintro x w7 ⟨k1, rfl, hW1, _, hb7⟩
  have HX7 := Hid_of (HX6.out.up hb7)
  have HW7 := Hid_of (And.intro (HW6.out.keep hb7) hW1)
  clear hW1 hb7
  unfold fw
  refine hK.out _ _ (row2 HX7.out.2).1 (fun hHeld => ?_)
  clear hK K
  refine wpAnyH_ready (rs := [18]) (by kernel_rfl) (by simp) ?_
  refine AllReadyH.cons (o := ?p18r) ?o18r ?s18r AllReadyH.nil
  case o18r => simp only [List.getElem?_toArray, List.getElem?_cons_succ, List.getElem?_cons_zero]; rfl
  intro K hK
  go_simp
  obtain ⟨W8, hW8⟩ : ∃ W8, w7.alloc (.cells #[fw k0, ff b, fw k1, ff b] 55) = W8 := ⟨_, rfl⟩
  have hb8 : Below w7.heap.size w7 W8 := by rw [← hW8]; exact bel1 w7 _
  have HG8 : Hid (W8.heap[w7.heap.size]? = some (.cells #[fw k0, ff b, fw k1, ff b] 55 (0, 0))) := by rw [← hW8]; exact heap_alloc_last w7 _
  have HX8 := Hid_of (HX7.out.up hb8)
  have HW8 := Hid_of (And.intro (HW7.out.1.keep hb8) (HW7.out.2.keep hb8))
  have HE8 := Hid_of hW8
  unfold fw ff at HE8
  clear hb8 hW8
  rw [HE8.out]
  refine hK.out _ _ (row2 HX8.out.2).1 (fun hHeld => ?_)
  clear hK K
  refine wpAnyH_ready (rs := [19]) (by kernel_rfl) (by simp) ?_
  refine AllReadyH.cons (o := ?p19r) ?o19r ?s19r AllReadyH.nil
  case o19r => simp only [List.getElem?_toArray, List.getElem?_cons_succ, List.getElem?_cons_zero]; rfl
  intro K hK
  go_simp
  refine (do4 w0 W8 b s d F n P L steps w7.heap.size k0 k1 _ _ _ _ m (HH.out.keep HX8.out.1) HG8.out (fun hF => by have := ((HH.out.keep HX7.out.1).own _ (.inl hF)).2; omega) HW8.out.1 HW8.out.2 HZ.out.1 HZ.out.2 (by rw [Fr.bb_size t ht]; omega) (by rw [Fr.hb_size]; omega) HM.out).mono ?_
  rintro x w9 ⟨G, he, hS9, hC9⟩
  rw [HCD.out] at he
  subst he
  have HR := Hid_of (And.intro hS9 ((Ch.ofBelow (F := FP F b s) HX8.out.1).trans hC9))
  have HQ9 := Hid_of ((hC9.block _ (by have := (Array.getElem?_eq_some_iff.1 HX8.out.2).1; exact this) HN.out).trans HX8.out.2)
  clear hS9 hC9
  refine hK.out _ _ (row2 HQ9.out).1 (fun hHeld => ?_)
  clear hK K
  refine wpAnyH_take (i := 20) (oi := ?p20r) (v := ?v20r) ?o20r (by kernel_rfl) (by kernel_rfl) (by kernel_rfl) ?q20r ?y20r hHeld ?r20r
  case o20r => simp only [List.getElem?_toArray, List.getElem?_cons_succ, List.getElem?_cons_zero]; rfl
  case q20r => exact fun _ _ _ h => h
  case y20r => (refine Or.inl ⟨rfl, ?_⟩; intro wq hq; obtain ⟨a0, a1⟩ := hq; go_simp; try with_reducible rfl)
  simp only [Act.put, List.setIfInBounds_toArray, List.set_cons_zero, List.set_cons_succ]
  refine wpAnyH_done (by kernel_rfl) ?_ _
  go_wp2
  go_ret
  unfold PutOut
  obtain ⟨hm1, _⟩ : m < 4 ∧ steps = m := by
    rcases HM.out with h' | ⟨h', _⟩
    · exact h'
    · have := HCD.out; rw [h'] at this; cases this
  rw [HCD.out, decide_eq_true hm1]
  have hR := HR.out
  rw [decide_eq_true hm1] at hR
  exact ⟨G, rfl, hR.1, hR.2⟩

set_option maxRecDepth 100000 in
set_option maxHeartbeats 1000000 in
theorem put_all {w0 w : World} {b s d : Nat} {F : Nat → Prop} {n : Nat} {P : List M.Pl} {L : List Fr.Sl} {a c : Nat} (t : ByteArray) (steps : Int) {i : Nat} (h : Sto w0 w b s d F n P L false) (ha : a < 2147483648) (hc8 : c < 8) (ht : t.size ≤ 512) (hr : Fst L isFr i) (hi : L[i]? = some none) (hx : Fst L (Fr.isAt a c) (-1)) (hin : 9 * i + 9 ≤ n) (hm : ∀ j : Nat, j < 4 → steps ≠ j) :
    Calls Try.prog 6 #[.pointer (some ⟨b, 0, none⟩), .agg #[.int .i64 a, .int .i64 c], .string t, .int .i64 steps] w fun e w' => PutOut w0 w b s d F n P L i a c t 4 e w' := by
  have hlt := lt_of_some hi
  have hle := h.o.len
  have hmb : Fr.mayBe a c = true := by unfold Fr.mayBe; simp; omega
  have hX0 := BX.new w a c
  have hc := room_yes t (h.o.keep hX0.1) hmb ht hr hlt hx
  have HH := Hid_of h
  have HI := Hid_of hi
  have HM : Hid (∀ j : Nat, j < 4 → steps ≠ j) := hm
  have HCD : Hid (dcode 4 4 = 0) := rfl
  have HZ : Hid (M.wcode n false ((9 * i + 1 : Nat) : Int) (Fr.bb t) = 0 ∧ M.wcode n false ((9 * i : Nat) : Int) (Fr.hb a c t) = 0) := ⟨wcode_in n (9 * i + 1) 8 _ (by omega) (by rw [Fr.bb_size t ht]) (by omega), wcode_in n (9 * i) 1 _ (by omega) (by rw [Fr.hb_size]) (by omega)⟩
  have HF : Hid (∀ W, BX w a c W → ∀ k, F k → k < W.heap.size) := fun W hW k hk => (HH.out.keep hW.1).own k (.inl hk) |>.2
  have HN : Hid (¬ FP F b s w.heap.size) := fun hF => by have := (HH.out.own _ hF).2; omega
  have HX0 := Hid_of hX0
  clear h hr hi hx hX0 hm hmb
  go_enter Try.func6, Try.ntmps6
  go_wp2_with fail
  refine hc.mono ?_
  rintro e w1 ⟨rfl, hb⟩
  have HX1 := Hid_of (HX0.out.up hb)
  clear hc hb HX0
  have hc := pad_to t 512 w1 (by omega) ht
  rw [bb_pad] at hc
  go_wp2_with fail
  refine hc.mono ?_
  rintro e w2 ⟨rfl, hb⟩
  have HX2 := Hid_of (HX1.out.up hb)
  have HX2d : Hid (BX w a c w2.drew) := HX2.out.up (Below.drew (Below.refl _ _))
  clear hc hb HX1
  go_wp2_with fail
  refine wp_region_held_drew (S := fun wq => wq.cell? ⟨w.heap.size, 0, none⟩ = some (.int .i64 a) ∧ wq.cell? ⟨w.heap.size, 1, none⟩ = some (.int .i64 c)) (by kernel_rfl) (row2 HX2d.out.2).1 (fun hHeld => ?_)
  refine wpAnyH_take (i := 0) (oi := ?p0r) (v := ?v0r) ?o0r (by kernel_rfl) (by kernel_rfl) (by kernel_rfl) ?q0r ?y0r hHeld ?r0r
  case o0r => simp only [List.getElem?_toArray, List.getElem?_cons_zero]; rfl
  case q0r => exact fun _ _ _ h => h
  case y0r => (refine Or.inl ⟨rfl, ?_⟩; intro wq hq; obtain ⟨a0, a1⟩ := hq; go_simp; try with_reducible rfl)
  simp only [Act.put, List.setIfInBounds_toArray, List.set_cons_zero, List.set_cons_succ]
  refine wpAnyH_take (i := 1) (oi := ?p1r) (v := ?v1r) ?o1r (by kernel_rfl) (by kernel_rfl) (by kernel_rfl) ?q1r ?y1r hHeld ?r1r
  case o1r => simp only [List.getElem?_toArray, List.getElem?_cons_succ, List.getElem?_cons_zero]; rfl
  case q1r => exact fun _ _ _ h => h
  case y1r => (refine Or.inl ⟨rfl, ?_⟩; intro wq hq; obtain ⟨a0, a1⟩ := hq; go_simp; try with_reducible rfl)
  simp only [Act.put, List.setIfInBounds_toArray, List.set_cons_zero, List.set_cons_succ]
  refine wpAnyH_take (i := 2) (oi := ?p2r) (v := ?v2r) ?o2r (by kernel_rfl) (by kernel_rfl) (by kernel_rfl) ?q2r ?y2r hHeld ?r2r
  case o2r => simp only [List.getElem?_toArray, List.getElem?_cons_succ, List.getElem?_cons_zero]; rfl
  case q2r => exact fun _ _ _ h => h
  case y2r => (refine Or.inl ⟨rfl, ?_⟩; intro wq hq; obtain ⟨a0, a1⟩ := hq; go_simp; try with_reducible rfl)
  simp only [Act.put, List.setIfInBounds_toArray, List.set_cons_zero, List.set_cons_succ]
  refine wpAnyH_take (i := 3) (oi := ?p3r) (v := ?v3r) ?o3r (by kernel_rfl) (by kernel_rfl) (by kernel_rfl) ?q3r ?y3r hHeld ?r3r
  case o3r => simp only [List.getElem?_toArray, List.getElem?_cons_succ, List.getElem?_cons_zero]; rfl
  case q3r => exact fun _ _ _ h => h
  case y3r => (refine Or.inl ⟨rfl, ?_⟩; intro wq hq; obtain ⟨a0, a1⟩ := hq; go_simp; try with_reducible rfl)
  simp only [Act.put, List.setIfInBounds_toArray, List.set_cons_zero, List.set_cons_succ]
  refine wpAnyH_take (i := 5) (oi := ?p5r) (v := ?v5r) ?o5r (by kernel_rfl) (by kernel_rfl) (by kernel_rfl) ?q5r ?y5r hHeld ?r5r
  case o5r => simp only [List.getElem?_toArray, List.getElem?_cons_succ, List.getElem?_cons_zero]; rfl
  case q5r => exact fun _ _ _ h => h
  case y5r => (refine Or.inl ⟨rfl, ?_⟩; intro wq hq; obtain ⟨a0, a1⟩ := hq; go_simp; try with_reducible rfl)
  simp only [Act.put, List.setIfInBounds_toArray, List.set_cons_zero, List.set_cons_succ]
  refine wpAnyH_take (i := 7) (oi := ?p7r) (v := ?v7r) ?o7r (by kernel_rfl) (by kernel_rfl) (by kernel_rfl) ?q7r ?y7r hHeld ?r7r
  case o7r => simp only [List.getElem?_toArray, List.getElem?_cons_succ, List.getElem?_cons_zero]; rfl
  case q7r => exact fun _ _ _ h => h
  case y7r => (refine Or.inl ⟨rfl, ?_⟩; intro wq hq; obtain ⟨a0, a1⟩ := hq; go_simp; try with_reducible rfl)
  simp only [Act.put, List.setIfInBounds_toArray, List.set_cons_zero, List.set_cons_succ]
  refine wpAnyH_take (i := 9) (oi := ?p9r) (v := ?v9r) ?o9r (by kernel_rfl) (by kernel_rfl) (by kernel_rfl) ?q9r ?y9r hHeld ?r9r
  case o9r => simp only [List.getElem?_toArray, List.getElem?_cons_succ, List.getElem?_cons_zero]; rfl
  case q9r => exact fun _ _ _ h => h
  case y9r => (refine Or.inl ⟨rfl, ?_⟩; intro wq hq; obtain ⟨a0, a1⟩ := hq; go_simp; try with_reducible rfl)
  simp only [Act.put, List.setIfInBounds_toArray, List.set_cons_zero, List.set_cons_succ]
  refine wpAnyH_take (i := 10) (oi := ?p10r) (v := ?v10r) ?o10r (by kernel_rfl) (by kernel_rfl) (by kernel_rfl) ?q10r ?y10r hHeld ?r10r
  case o10r => simp only [List.getElem?_toArray, List.getElem?_cons_succ, List.getElem?_cons_zero]; rfl
  case q10r => exact fun _ _ _ h => h
  case y10r => (refine Or.inl ⟨rfl, ?_⟩; intro wq hq; obtain ⟨a0, a1⟩ := hq; go_simp; try with_reducible rfl)
  simp only [Act.put, List.setIfInBounds_toArray, List.set_cons_zero, List.set_cons_succ]
  refine wpAnyH_take (i := 12) (oi := ?p12r) (v := ?v12r) ?o12r (by kernel_rfl) (by kernel_rfl) (by kernel_rfl) ?q12r ?y12r hHeld ?r12r
  case o12r => simp only [List.getElem?_toArray, List.getElem?_cons_succ, List.getElem?_cons_zero]; rfl
  case q12r => exact fun _ _ _ h => h
  case y12r => (refine Or.inl ⟨rfl, ?_⟩; intro wq hq; obtain ⟨a0, a1⟩ := hq; go_simp; try with_reducible rfl)
  simp only [Act.put, List.setIfInBounds_toArray, List.set_cons_zero, List.set_cons_succ]
  refine wpAnyH_take (i := 13) (oi := ?p13r) (v := ?v13r) ?o13r (by kernel_rfl) (by kernel_rfl) (by kernel_rfl) ?q13r ?y13r hHeld ?r13r
  case o13r => simp only [List.getElem?_toArray, List.getElem?_cons_succ, List.getElem?_cons_zero]; rfl
  case q13r => exact fun _ _ _ h => h
  case y13r => (refine Or.inl ⟨rfl, ?_⟩; intro wq hq; obtain ⟨a0, a1⟩ := hq; go_simp; try with_reducible rfl)
  simp only [Act.put, List.setIfInBounds_toArray, List.set_cons_zero, List.set_cons_succ]
  refine wpAnyH_take (i := 16) (oi := ?p16r) (v := ?v16r) ?o16r (by kernel_rfl) (by kernel_rfl) (by kernel_rfl) ?q16r ?y16r hHeld ?r16r
  case o16r => simp only [List.getElem?_toArray, List.getElem?_cons_succ, List.getElem?_cons_zero]; rfl
  case q16r => exact fun _ _ _ h => h
  case y16r => (refine Or.inl ⟨rfl, ?_⟩; intro wq hq; obtain ⟨a0, a1⟩ := hq; go_simp; try with_reducible rfl)
  simp only [Act.put, List.setIfInBounds_toArray, List.set_cons_zero, List.set_cons_succ]
  refine wpAnyH_take (i := 8) (oi := ?p8r) (v := ?v8r) ?o8r (by kernel_rfl) (by kernel_rfl) (by kernel_rfl) ?q8r ?y8r hHeld ?r8r
  case o8r => simp only [List.getElem?_toArray, List.getElem?_cons_succ, List.getElem?_cons_zero]; rfl
  case q8r => exact fun _ _ _ h => h
  case y8r => (refine Or.inl ⟨rfl, ?_⟩; intro wq hq; obtain ⟨a0, a1⟩ := hq; go_simp; try with_reducible rfl)
  simp only [Act.put, List.setIfInBounds_toArray, List.set_cons_zero, List.set_cons_succ]
  refine wpAnyH_take (i := 17) (oi := ?p17r) (v := ?v17r) ?o17r (by kernel_rfl) (by kernel_rfl) (by kernel_rfl) ?q17r ?y17r hHeld ?r17r
  case o17r => simp only [List.getElem?_toArray, List.getElem?_cons_succ, List.getElem?_cons_zero]; rfl
  case q17r => exact fun _ _ _ h => h
  case y17r => (refine Or.inl ⟨rfl, ?_⟩; intro wq hq; obtain ⟨a0, a1⟩ := hq; go_simp; try with_reducible rfl)
  simp only [Act.put, List.setIfInBounds_toArray, List.set_cons_zero, List.set_cons_succ]
  refine wpAnyH_ready (rs := [4]) (by kernel_rfl) (by simp) ?_
  refine AllReadyH.cons (o := ?p4r) ?o4r ?s4r AllReadyH.nil
  case o4r => simp only [List.getElem?_toArray, List.getElem?_cons_succ, List.getElem?_cons_zero]; rfl
  intro K hK
  go_simp
  refine (bodyAt_any i (by omega) _).mono ?_
  rintro x w3 ⟨rfl, rfl⟩
  refine hK.out _ _ hHeld (fun hHeld => ?_)
  clear hK K
  refine wpAnyH_ready (rs := [6]) (by kernel_rfl) (by simp) ?_
  refine AllReadyH.cons (o := ?p6r) ?o6r ?s6r AllReadyH.nil
  case o6r => simp only [List.getElem?_toArray, List.getElem?_cons_succ, List.getElem?_cons_zero]; rfl
  intro K hK
  go_simp
  refine (writing_any b ((9 * i + 1 : Nat) : Int) (Fr.bb t) F _ (HF.out _ HX2d.out)).mono ?_
  rintro x w4 ⟨k0, rfl, hW0, _, hb4⟩
  have HX4 := Hid_of (HX2d.out.up hb4)
  have HW0 := Hid_of hW0
  clear hW0 hb4
  unfold fw
  refine hK.out _ _ (row2 HX4.out.2).1 (fun hHeld => ?_)
  clear hK K
  refine wpAnyH_ready (rs := [11]) (by kernel_rfl) (by simp) ?_
  refine AllReadyH.cons (o := ?p11r) ?o11r ?s11r AllReadyH.nil
  case o11r => simp only [List.getElem?_toArray, List.getElem?_cons_succ, List.getElem?_cons_zero]; rfl
  intro K hK
  go_simp
  refine (headAt_any i (by omega) _).mono ?_
  rintro x w5 ⟨rfl, rfl⟩
  refine hK.out _ _ hHeld (fun hHeld => ?_)
  clear hK K
  refine wpAnyH_ready (rs := [14]) (by kernel_rfl) (by simp) ?_
  refine AllReadyH.cons (o := ?p14r) ?o14r ?s14r AllReadyH.nil
  case o14r => simp only [List.getElem?_toArray, List.getElem?_cons_succ, List.getElem?_cons_zero]; rfl
  intro K hK
  go_simp
  refine (headOf_any a c t ha hc8 ht _).mono ?_
  rintro x w6 ⟨rfl, hb6⟩
  have HX6 := Hid_of (HX4.out.up hb6)
  have HW6 := Hid_of (HW0.out.keep hb6)
  clear hb6
  refine hK.out _ _ (row2 HX6.out.2).1 (fun hHeld => ?_)
  clear hK K
  refine wpAnyH_ready (rs := [15]) (by kernel_rfl) (by simp) ?_
  refine AllReadyH.cons (o := ?p15r) ?o15r ?s15r AllReadyH.nil
  case o15r => simp only [List.getElem?_toArray, List.getElem?_cons_succ, List.getElem?_cons_zero]; rfl
  intro K hK
  go_simp
  refine (writing_any b ((9 * i : Nat) : Int) (Fr.hb a c t) F _ (HF.out _ HX6.out)).mono ?_
  rintro x w7 ⟨k1, rfl, hW1, _, hb7⟩
  have HX7 := Hid_of (HX6.out.up hb7)
  have HW7 := Hid_of (And.intro (HW6.out.keep hb7) hW1)
  clear hW1 hb7
  unfold fw
  refine hK.out _ _ (row2 HX7.out.2).1 (fun hHeld => ?_)
  clear hK K
  refine wpAnyH_ready (rs := [18]) (by kernel_rfl) (by simp) ?_
  refine AllReadyH.cons (o := ?p18r) ?o18r ?s18r AllReadyH.nil
  case o18r => simp only [List.getElem?_toArray, List.getElem?_cons_succ, List.getElem?_cons_zero]; rfl
  intro K hK
  go_simp
  obtain ⟨W8, hW8⟩ : ∃ W8, w7.alloc (.cells #[fw k0, ff b, fw k1, ff b] 55) = W8 := ⟨_, rfl⟩
  have hb8 : Below w7.heap.size w7 W8 := by rw [← hW8]; exact bel1 w7 _
  have HG8 : Hid (W8.heap[w7.heap.size]? = some (.cells #[fw k0, ff b, fw k1, ff b] 55 (0, 0))) := by rw [← hW8]; exact heap_alloc_last w7 _
  have HX8 := Hid_of (HX7.out.up hb8)
  have HW8 := Hid_of (And.intro (HW7.out.1.keep hb8) (HW7.out.2.keep hb8))
  have HE8 := Hid_of hW8
  unfold fw ff at HE8
  clear hb8 hW8
  rw [HE8.out]
  refine hK.out _ _ (row2 HX8.out.2).1 (fun hHeld => ?_)
  clear hK K
  refine wpAnyH_ready (rs := [19]) (by kernel_rfl) (by simp) ?_
  refine AllReadyH.cons (o := ?p19r) ?o19r ?s19r AllReadyH.nil
  case o19r => simp only [List.getElem?_toArray, List.getElem?_cons_succ, List.getElem?_cons_zero]; rfl
  intro K hK
  go_simp
  refine (do4 w0 W8 b s d F n P L steps w7.heap.size k0 k1 _ _ _ _ 4 (HH.out.keep HX8.out.1) HG8.out (fun hF => by have := ((HH.out.keep HX7.out.1).own _ (.inl hF)).2; omega) HW8.out.1 HW8.out.2 HZ.out.1 HZ.out.2 (by rw [Fr.bb_size t ht]; omega) (by rw [Fr.hb_size]; omega) (.inr ⟨rfl, HM.out⟩)).mono ?_
  rintro x w9 ⟨G, he, hS9, hC9⟩
  rw [HCD.out] at he
  subst he
  have HR := Hid_of (And.intro hS9 ((Ch.ofBelow (F := FP F b s) HX8.out.1).trans hC9))
  have HQ9 := Hid_of ((hC9.block _ (by have := (Array.getElem?_eq_some_iff.1 HX8.out.2).1; exact this) HN.out).trans HX8.out.2)
  clear hS9 hC9
  refine hK.out _ _ (row2 HQ9.out).1 (fun hHeld => ?_)
  clear hK K
  refine wpAnyH_take (i := 20) (oi := ?p20r) (v := ?v20r) ?o20r (by kernel_rfl) (by kernel_rfl) (by kernel_rfl) ?q20r ?y20r hHeld ?r20r
  case o20r => simp only [List.getElem?_toArray, List.getElem?_cons_succ, List.getElem?_cons_zero]; rfl
  case q20r => exact fun _ _ _ h => h
  case y20r => (refine Or.inl ⟨rfl, ?_⟩; intro wq hq; obtain ⟨a0, a1⟩ := hq; go_simp; try with_reducible rfl)
  simp only [Act.put, List.setIfInBounds_toArray, List.set_cons_zero, List.set_cons_succ]
  refine wpAnyH_done (by kernel_rfl) ?_ _
  obtain ⟨x0, x1, x2⟩ := HR.out.1.row
  obtain ⟨y0, y1, y2, y3⟩ := HR.out.1.o.sl.none HI.out
  have g0 := HR.out.1.o.sl.free (i * 4)
  have g1 := HR.out.1.o.sl.free (i * 4 + 1)
  have g2 := HR.out.1.o.sl.free (i * 4 + 2)
  have g3 := HR.out.1.o.sl.free (i * 4 + 3)
  obtain ⟨⟨z0, z1⟩, _⟩ := row2 HQ9.out
  clear HX2 HX2d HX4 HX6 HX7 HX8 HW0 HW6 HW7 HW8 HG8 HE8
  go_wp2_with fail
  go_region
  all_goals
    go_wp2
    go_ret
    have hS9 : Sto w0 w9.drew b s d G n (d4 n P ((9 * i + 1 : Nat) : Int) (Fr.bb t) ((9 * i : Nat) : Int) (Fr.hb a c t) 4) L false := HR.out.1.keep (Below.drew (Below.refl _ _))
    have hT := hS9.slot i hlt (.bool true) (.int .i64 a) (.int .i64 c) (.int .i64 t.size) (some ((a, c), t)) rfl
    exact ⟨G, rfl, hT.1, (HR.out.2.trans (Ch.ofBelow (Below.drew (Below.refl _ _)))).trans hT.2⟩

end Go.Proofs.Yticjilpomdahbaa
