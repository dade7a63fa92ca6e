/-
  A store in memory; the slot of a place, room for a fragment.
-/
import Derived.Test.YticjilpomdahbaaFI
namespace Go.Proofs.Yticjilpomdahbaa
open Go.RowKit
open M (ofL ofL_size ofL_of)
set_option linter.unusedVariables false

/-- A store at block b, its slots at block s, of the device at block d. -/
structure FO (w : World) (b s d : Nat) (L : List Fr.Sl) (cut : Bool) : Prop where
  row : w.heap[b]? = some (.cells #[.pointer (some ⟨d, 0, none⟩), .slice (some ⟨s, 0, none⟩) L.length L.length, .bool cut] 45 (0, 0))
  sl : LR w s L
  ne : b ≠ s
  len : L.length ≤ 256
theorem FO.lt {w : World} {b s d : Nat} {L : List Fr.Sl} {cut : Bool} (h : FO w b s d L cut) : b < w.heap.size ∧ s < w.heap.size := ⟨(Array.getElem?_eq_some_iff.1 h.row).1, h.sl.lt⟩
theorem FO.keepBut {w w' : World} {b s d : Nat} {L : List Fr.Sl} {cut : Bool} (h : FO w b s d L cut) (hb : ∀ k, k < w.heap.size → k = b ∨ k = s → w'.heap[k]? = w.heap[k]?) : FO w' b s d L cut :=
  ⟨(hb b h.lt.1 (.inl rfl)).trans h.row, (hb s h.lt.2 (.inr rfl)).trans h.sl, h.ne, h.len⟩
theorem FO.keep {w w' : World} {b s d : Nat} {L : List Fr.Sl} {cut : Bool} (h : FO w b s d L cut) (hb : Below w.heap.size w w') : FO w' b s d L cut := h.keepBut fun k hk _ => hb.block k hk
theorem row3f {w : World} {k : Nat} {v0 v1 v2 : Value} {t : TypeId} (h : w.heap[k]? = some (.cells #[v0, v1, v2] t (0, 0))) :
    (w.cell? ⟨k, 0, none⟩ = some v0 ∧ w.cell? ⟨k, 1, none⟩ = some v1 ∧ w.cell? ⟨k, 2, none⟩ = some v2) ∧ ∀ j, w.frozen? ⟨k, j, none⟩ = false :=
  ⟨row3 h, fun j => frozen_of_row w k j _ _ h⟩
set_option maxRecDepth 100000 in
set_option maxHeartbeats 400000 in
theorem index_any (b s d : Nat) (L : List Fr.Sl) (cut : Bool) (p q r : Int) (w : World) (h : FO w b s d L cut) (hr : Fst L (Fr.isAt p q) r) :
    Calls Try.prog 30 #[.pointer (some ⟨b, 0, none⟩), .agg #[.int .i64 p, .int .i64 q]] w fun e w' => e = .returned (.int .i64 r) ∧ Below w.heap.size w w' := by
  have hB := bel1 w (.cells #[.int .i64 p, .int .i64 q] 23)
  have h1 := h.keep hB
  have hc := indexFunc_any s L p q w.heap.size r (w.alloc (.cells #[.int .i64 p, .int .i64 q] 23)) h.len h1.sl (heap_alloc_last w _) hr
  obtain ⟨⟨c0, c1, c2⟩, _⟩ := row3f h1.row
  have HB := Hid_of hB
  clear h h1 hr hB
  go_enter Try.func30, Try.ntmps30
  go_wp2_with fail
  refine hc.mono ?_
  rintro e w1 ⟨rfl, hb⟩
  have HB1 := Hid_of (bel_up HB.out hb (Nat.le_refl _))
  clear hc hb
  go_wp2
  go_ret
  exact ⟨rfl, HB1.out⟩
section
variable {w : World} {b s d : Nat} {L : List Fr.Sl} {p q : Int}
set_option maxRecDepth 100000 in
set_option maxHeartbeats 400000 in
theorem find_no {cut : Bool} (h : FO w b s d L cut) (hr : Fst L (Fr.isAt p q) (-1)) :
    Calls Try.prog 11 #[.pointer (some ⟨b, 0, none⟩), .agg #[.int .i64 p, .int .i64 q]] w fun e w' => e = .returned (.tuple #[.int .i64 0, .int .i64 7]) ∧ Below w.heap.size w w' := by
  have hB := bel1 w (.cells #[.int .i64 p, .int .i64 q] 23)
  have hc := index_any b s d L cut p q (-1) _ (h.keep hB) hr
  have HB := Hid_of hB
  clear h hr hB
  go_enter Try.func11, Try.ntmps11
  go_wp2_with fail
  refine hc.mono ?_
  rintro e w1 ⟨rfl, hb⟩
  have HB1 := Hid_of (bel_up HB.out hb (Nat.le_refl _))
  clear hc hb
  go_wp2
  go_ret2
  exact ⟨rfl, HB1.out⟩
set_option maxRecDepth 100000 in
set_option maxHeartbeats 400000 in
theorem find_yes (h : FO w b s d L false) {i : Nat} (hr : Fst L (Fr.isAt p q) i) (hi : i < L.length) :
    Calls Try.prog 11 #[.pointer (some ⟨b, 0, none⟩), .agg #[.int .i64 p, .int .i64 q]] w fun e w' => e = .returned (.tuple #[.int .i64 i, .int .i64 0]) ∧ Below w.heap.size w w' := by
  have hB := bel1 w (.cells #[.int .i64 p, .int .i64 q] 23)
  have hc := index_any b s d L false p q i _ (h.keep hB) hr
  have HB := Hid_of hB
  have HF := Hid_of (h.keep hB)
  have hle := h.len
  clear h hr hB
  go_enter Try.func11, Try.ntmps11
  go_wp2_with fail
  refine hc.mono ?_
  rintro e w1 ⟨rfl, hb⟩
  obtain ⟨⟨c0, c1, c2⟩, _⟩ := row3f (HF.out.keep hb).row
  have HB1 := Hid_of (bel_up HB.out hb (Nat.le_refl _))
  clear hc hb
  go_wp2
  go_ret2
  exact ⟨rfl, HB1.out⟩
set_option maxRecDepth 100000 in
set_option maxHeartbeats 400000 in
theorem room_arg {cut : Bool} (t : ByteArray) (h : FO w b s d L cut) (hm : Fr.mayBe p q = false) :
    Calls Try.prog 18 #[.pointer (some ⟨b, 0, none⟩), .agg #[.int .i64 p, .int .i64 q], .string t] w fun e w' => e = .returned (.tuple #[.int .i64 0, .int .i64 1]) ∧ Below w.heap.size w w' := by
  have hB := bel1 w (.cells #[.int .i64 p, .int .i64 q] 23)
  have hc := mayBe_any p q (w.alloc (.cells #[.int .i64 p, .int .i64 q] 23))
  rw [hm] at hc
  have HB := Hid_of hB
  clear h hB
  go_enter Try.func18, Try.ntmps18
  go_wp2_with fail
  refine hc.mono ?_
  rintro e w1 ⟨rfl, hb⟩
  have HB1 := Hid_of (bel_up HB.out hb (Nat.le_refl _))
  clear hc hb
  go_wp2
  go_ret2
  exact ⟨rfl, HB1.out⟩
set_option maxRecDepth 100000 in
set_option maxHeartbeats 400000 in
theorem room_size {cut : Bool} (t : ByteArray) (h : FO w b s d L cut) (hm : Fr.mayBe p q = true) (ht : 512 < t.size) (htl : t.size ≤ maxLen) :
    Calls Try.prog 18 #[.pointer (some ⟨b, 0, none⟩), .agg #[.int .i64 p, .int .i64 q], .string t] w fun e w' => e = .returned (.tuple #[.int .i64 0, .int .i64 2]) ∧ Below w.heap.size w w' := by
  have hB := bel1 w (.cells #[.int .i64 p, .int .i64 q] 23)
  have hc := mayBe_any p q (w.alloc (.cells #[.int .i64 p, .int .i64 q] 23))
  rw [hm] at hc
  have HB := Hid_of hB
  have d1 : decide ((512 : Int) < (t.size : Int)) = true := decide_eq_true (by omega)
  unfold maxLen at htl
  clear h hB
  go_enter Try.func18, Try.ntmps18
  go_wp2_with fail
  refine hc.mono ?_
  rintro e w1 ⟨rfl, hb⟩
  have HB1 := Hid_of (bel_up HB.out hb (Nat.le_refl _))
  clear hc hb
  go_wp2
  go_ret2
  exact ⟨rfl, HB1.out⟩
set_option maxRecDepth 100000 in
set_option maxHeartbeats 400000 in
theorem room_full {cut : Bool} (t : ByteArray) (h : FO w b s d L cut) (hm : Fr.mayBe p q = true) (ht : t.size ≤ 512) (hr : Fst L isFr (-1)) :
    Calls Try.prog 18 #[.pointer (some ⟨b, 0, none⟩), .agg #[.int .i64 p, .int .i64 q], .string t] w fun e w' => e = .returned (.tuple #[.int .i64 0, .int .i64 5]) ∧ Below w.heap.size w w' := by
  have hB := bel1 w (.cells #[.int .i64 p, .int .i64 q] 23)
  have hc := mayBe_any p q (w.alloc (.cells #[.int .i64 p, .int .i64 q] 23))
  rw [hm] at hc
  have HB := Hid_of hB
  have HF := Hid_of (h.keep hB)
  have HI := Hid_of (fun W hW => sliceIndex_any s L (-1) W h.len hW hr)
  have d1 : decide ((512 : Int) < (t.size : Int)) = false := decide_eq_false (by omega)
  clear h hB hr
  go_enter Try.func18, Try.ntmps18
  go_wp2_with fail
  refine hc.mono ?_
  rintro e w1 ⟨rfl, hb⟩
  have hf1 := HF.out.keep hb
  obtain ⟨⟨c0, c1, c2⟩, _⟩ := row3f hf1.row
  have hc2 := HI.out w1 hf1.sl
  have HB1 := Hid_of (bel_up HB.out hb (Nat.le_refl _))
  clear hc hb hf1
  go_wp2_with fail
  refine hc2.mono ?_
  rintro e w2 ⟨rfl, hb⟩
  have HB2 := Hid_of (bel_up HB1.out hb (Nat.le_refl _))
  clear hc2 hb
  go_wp2
  go_ret2
  exact ⟨rfl, HB2.out⟩
set_option maxRecDepth 100000 in
set_option maxHeartbeats 400000 in
theorem room_twice {cut : Bool} (t : ByteArray) (h : FO w b s d L cut) (hm : Fr.mayBe p q = true) (ht : t.size ≤ 512) {k j : Nat} (hr : Fst L isFr k) (hk : k < L.length) (hx : Fst L (Fr.isAt p q) j) (hj : j < L.length) :
    Calls Try.prog 18 #[.pointer (some ⟨b, 0, none⟩), .agg #[.int .i64 p, .int .i64 q], .string t] w fun e w' => e = .returned (.tuple #[.int .i64 0, .int .i64 6]) ∧ Below w.heap.size w w' := by
  have hB := bel1 w (.cells #[.int .i64 p, .int .i64 q] 23)
  have hc := mayBe_any p q (w.alloc (.cells #[.int .i64 p, .int .i64 q] 23))
  rw [hm] at hc
  have HB := Hid_of hB
  have HF := Hid_of (h.keep hB)
  have HQ := Hid_of (heap_alloc_last w (.cells #[.int .i64 p, .int .i64 q] 23))
  have HI := Hid_of (fun W hW => sliceIndex_any s L k W h.len hW hr)
  have HX := Hid_of (fun W hW => index_any b s d L cut p q j W hW hx)
  have d1 : decide ((512 : Int) < (t.size : Int)) = false := decide_eq_false (by omega)
  have hle := h.len
  clear h hB hr hx
  go_enter Try.func18, Try.ntmps18
  go_wp2_with fail
  refine hc.mono ?_
  rintro e w1 ⟨rfl, hb⟩
  have hf1 := HF.out.keep hb
  obtain ⟨⟨c0, c1, c2⟩, _⟩ := row3f hf1.row
  have hc2 := HI.out w1 hf1.sl
  have HQ1 := Hid_of (bel_row HQ.out hb)
  have HB1 := Hid_of (bel_up HB.out hb (Nat.le_refl _))
  have HF1 := Hid_of hf1
  clear hc hb hf1
  go_wp2_with fail
  refine hc2.mono ?_
  rintro e w2 ⟨rfl, hb⟩
  obtain ⟨⟨q0, q1⟩, _⟩ := row2 (bel_row HQ1.out hb)
  have hc3 := HX.out w2 (HF1.out.keep hb)
  have HB2 := Hid_of (bel_up HB1.out hb (Nat.le_refl _))
  clear hc2 hb c0 c1 c2
  go_wp2_with fail
  refine hc3.mono ?_
  rintro e w3 ⟨rfl, hb⟩
  have HB3 := Hid_of (bel_up HB2.out hb (Nat.le_refl _))
  clear hc3 hb
  go_wp2
  go_ret2
  exact ⟨rfl, HB3.out⟩
set_option maxRecDepth 100000 in
set_option maxHeartbeats 400000 in
theorem room_yes (t : ByteArray) (h : FO w b s d L false) (hm : Fr.mayBe p q = true) (ht : t.size ≤ 512) {k : Nat} (hr : Fst L isFr k) (hk : k < L.length) (hx : Fst L (Fr.isAt p q) (-1)) :
    Calls Try.prog 18 #[.pointer (some ⟨b, 0, none⟩), .agg #[.int .i64 p, .int .i64 q], .string t] w fun e w' => e = .returned (.tuple #[.int .i64 k, .int .i64 0]) ∧ Below w.heap.size w w' := by
  have hB := bel1 w (.cells #[.int .i64 p, .int .i64 q] 23)
  have hc := mayBe_any p q (w.alloc (.cells #[.int .i64 p, .int .i64 q] 23))
  rw [hm] at hc
  have HB := Hid_of hB
  have HF := Hid_of (h.keep hB)
  have HQ := Hid_of (heap_alloc_last w (.cells #[.int .i64 p, .int .i64 q] 23))
  have HI := Hid_of (fun W hW => sliceIndex_any s L k W h.len hW hr)
  have HX := Hid_of (fun W hW => index_any b s d L false p q (-1) W hW hx)
  have d1 : decide ((512 : Int) < (t.size : Int)) = false := decide_eq_false (by omega)
  have hle := h.len
  clear h hB hr hx
  go_enter Try.func18, Try.ntmps18
  go_wp2_with fail
  refine hc.mono ?_
  rintro e w1 ⟨rfl, hb⟩
  have hf1 := HF.out.keep hb
  obtain ⟨⟨c0, c1, c2⟩, _⟩ := row3f hf1.row
  have hc2 := HI.out w1 hf1.sl
  have HQ1 := Hid_of (bel_row HQ.out hb)
  have HB1 := Hid_of (bel_up HB.out hb (Nat.le_refl _))
  have HF1 := Hid_of hf1
  clear hc hb hf1
  go_wp2_with fail
  refine hc2.mono ?_
  rintro e w2 ⟨rfl, hb⟩
  obtain ⟨⟨q0, q1⟩, _⟩ := row2 (bel_row HQ1.out hb)
  have hc3 := HX.out w2 (HF1.out.keep hb)
  have HB2 := Hid_of (bel_up HB1.out hb (Nat.le_refl _))
  have HF2 := Hid_of (HF1.out.keep hb)
  clear hc2 hb c0 c1 c2
  go_wp2_with fail
  refine hc3.mono ?_
  rintro e w3 ⟨rfl, hb⟩
  obtain ⟨⟨c0, c1, c2⟩, _⟩ := row3f (HF2.out.keep hb).row
  have HB3 := Hid_of (bel_up HB2.out hb (Nat.le_refl _))
  clear hc3 hb
  go_wp2
  go_ret2
  exact ⟨rfl, HB3.out⟩
end
end Go.Proofs.Yticjilpomdahbaa
