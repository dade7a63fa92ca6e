/-
  What a place tells: the program's.
-/
import Derived.Test.YthffglacokfkgaaT
import Derived.Laws.ResultCell
namespace Go.Proofs.Ythffglacokfkgaa
open Go.RowKit
open M (ofL ofL_size ofL_of)
set_option linter.unusedVariables false

theorem f49_res : Try.f49.results = #[.cell 2 48] := rfl
theorem Try.und48 : ∃ fs, Try.prog.underlying 48 = some (.struct fs) := ⟨_, Try.underlying48⟩
theorem nm_tail (s : ByteArray) : Sp.nm (s.extract 4 s.size).data.toList 0 = Sp.nm s.data.toList 4 := by
  rw [extract_list _ _ _ (Nat.le_refl _), List.take_of_length_le (by rw [List.length_drop, len_data]; omega), Sp.nm_drop]
theorem box2_up {w W : World} {x y : Value} (h : Below (w.heap.size + 1) (w.alloc (.cells #[x, y] 48)) W) :
    (W.cell? ⟨w.heap.size, 0, none⟩ = some x ∧ W.cell? ⟨w.heap.size, 1, none⟩ = some y ∧ W.frozen? ⟨w.heap.size, 0, none⟩ = false ∧ W.frozen? ⟨w.heap.size, 1, none⟩ = false) ∧
    ∀ a b, ((W.setCell ⟨w.heap.size, 0, none⟩ a).setCell ⟨w.heap.size, 1, none⟩ b).heap[w.heap.size]? = some (.cells #[a, b] 48 (0, 0)) := by
  have hr : W.heap[w.heap.size]? = some (.cells #[x, y] 48 (0, 0)) := (h.block _ (by omega)).trans (heap_alloc_last w _)
  obtain ⟨⟨h0, h1⟩, hf⟩ := row2 hr
  refine ⟨⟨h0, h1, hf 0, hf 1⟩, fun a b => ?_⟩
  exact heap_setCell_same _ _ 1 _ _ _ (heap_setCell_same _ _ 0 _ _ _ hr)
theorem below_two {w0 w : World} {k : Nat} {a b : Value} (h : Below k w0 w) : Below k w0 ((w.setCell ⟨k, 0, none⟩ a).setCell ⟨k, 1, none⟩ b) :=
  (h.setCell (p := ⟨k, 0, none⟩) (Nat.le_refl _) a).setCell (p := ⟨k, 1, none⟩) (Nat.le_refl _) b
set_option maxRecDepth 100000 in
set_option maxHeartbeats 1000000 in
theorem headOf_any (s : ByteArray) (w : World) (hs : s.size ≤ maxLen) (h8 : 8 ≤ s.size) :
    Calls Try.prog 49 #[.string s] w fun e w' => e = .returned (.agg #[.int .u32 (Sp.nm s.data.toList 0), .int .u32 (Sp.nm s.data.toList 4)]) ∧ Below w.heap.size w w' := by
  have c1 := fun W => number_any s W hs (by omega)
  have c2 := fun W => number_any (s.extract 4 s.size) W (by rw [ByteArray.size_extract]; omega) (by rw [ByteArray.size_extract]; omega)
  rw [nm_tail] at c2
  have hg := Sp.nm_lt s.data.toList 0
  have hn := Sp.nm_lt s.data.toList 4
  generalize Sp.nm s.data.toList 0 = g at *
  generalize Sp.nm s.data.toList 4 = n at *
  have p4 : (4 : Int) ≤ (s.size : Int) := by omega
  unfold maxLen at hs
  obtain ⟨W1, hW1⟩ : ∃ W1, w.alloc (.cells #[.int .u32 0, .int .u32 0] 48) = W1 := ⟨_, rfl⟩
  have HC : Hid (∀ W, Below (w.heap.size + 1) W1 W → (W.cell? ⟨w.heap.size, 0, none⟩ = some (.int .u32 0) ∧ W.cell? ⟨w.heap.size, 1, none⟩ = some (.int .u32 0) ∧ W.frozen? ⟨w.heap.size, 0, none⟩ = false ∧ W.frozen? ⟨w.heap.size, 1, none⟩ = false) ∧ ∀ a b, ((W.setCell ⟨w.heap.size, 0, none⟩ a).setCell ⟨w.heap.size, 1, none⟩ b).heap[w.heap.size]? = some (.cells #[a, b] 48 (0, 0))) := by
    intro W hW
    rw [← hW1] at hW
    exact box2_up hW
  have HB1 : Hid (Below w.heap.size w W1) := by rw [← hW1]; exact bel1 w _
  have hs1 : W1.heap.size = w.heap.size + 1 := by rw [← hW1]; simp
  have BD : Below (w.heap.size + 1) W1 W1.drew := Below.drew (Below.refl _ _)
  have HW1 := Hid_of hW1
  clear hW1
  go_enter Try.func49, Try.ntmps49
  go_upto_region 1 with fail
  rw [HW1.out]
  go_wp2_with fail
  have BW : Below w.heap.size w W1.drew := Below.drew HB1.out
  go_region_held3 (fun wq => Below w.heap.size w wq) (first | assumption | exact below_two (by assumption)) (first | (go_at_call 60; refine (c1 _).mono ?_; rintro e w2 ⟨rfl, hb2⟩; have B2 : Below (w.heap.size + 1) W1 w2 := BD.trans (hb2.mono (by simp; omega)); have BW2 : Below w.heap.size w w2 := HB1.out.trans (B2.mono (by omega)); clear c1 BD BW) | (go_at_call 60; refine (c2 _).mono ?_; rintro e w3 ⟨rfl, hb3⟩; have B3 : Below (w.heap.size + 1) W1 w3 := B2.trans (hb3.mono (by have := B2.size; omega)); have BW3 : Below w.heap.size w w3 := HB1.out.trans (B3.mono (by omega)); obtain ⟨⟨k0, k1, k2, k3⟩, hfin⟩ := HC.out w3 B3; clear c2 B2 BW2))
  have HF := Hid_of (hfin (.int .u32 g) (.int .u32 n))
  have HB3 := Hid_of BW3
  clear hfin k0 k1 k2 k3 BW3 B3 hb3 hb2 HC HB1
  go_wp2
  refine bodyPost_ret (v := .agg #[.int .u32 g, .int .u32 n]) ?_ rfl ⟨rfl, below_two HB3.out⟩
  exact results_cell_row f49_res _ _ w.heap.size 48 _ (0, 0) _ rfl HF.out Try.underlying48 rfl Try.size48

theorem f28_res : Try.f28.results = #[.cell 4 64] := rfl
theorem Try.size64 : (Try.prog.info? 64).map (·.size) = some 3 := by kernel_rfl
def st3 (w : World) (B : Nat) (v0 v1 v2 : Value) : World := ((w.setCell ⟨B, 0, none⟩ v0).setCell ⟨B, 1, none⟩ v1).setCell ⟨B, 2, none⟩ v2
theorem put3 {w : World} {B : Nat} {u0 u1 u2 : Value} {t : TypeId} (v0 v1 v2 : Value) (h : w.heap[B]? = some (.cells #[u0, u1, u2] t (0, 0))) :
    (st3 w B v0 v1 v2).heap[B]? = some (.cells #[v0, v1, v2] t (0, 0)) :=
  heap_setCell_same _ B 2 _ _ _ (heap_setCell_same _ B 1 _ _ _ (heap_setCell_same w B 0 _ _ _ h))
theorem below3 {w0 w : World} {B' B : Nat} {v0 v1 v2 : Value} (h : Below B' w0 w) (hB : B' ≤ B) : Below B' w0 (st3 w B v0 v1 v2) := ((h.setCell hB _).setCell hB _).setCell hB _
/-- A state in memory. -/
def SV (x : Nat × List UInt8) : Array Value := #[.int .u32 x.1, .int .u32 (x.2.length : Nat), .string (ofL x.2)]
theorem body_eq (s : ByteArray) (h : s.size = 256) (hn : Sp.nm s.data.toList 4 ≤ 244) :
    (ofL (s.data.toList.take 252)).extract 8 (8 + Sp.nm s.data.toList 4) = ofL (Sp.bd s.data.toList) ∧ (Sp.bd s.data.toList).length = Sp.nm s.data.toList 4 := by
  have hl : s.data.toList.length = 256 := by rw [len_data, h]
  constructor
  · apply ByteArray.ext
    apply Array.ext'
    rw [extract_list _ _ _ (by rw [ofL_size, List.length_take, hl]; omega), ofL_data, ofL_data]
    unfold Sp.bd
    rw [List.drop_take, List.take_take]
    congr 1
    omega
  · unfold Sp.bd
    rw [List.length_take, List.length_drop, hl]
    omega
end Go.Proofs.Ythffglacokfkgaa
