import Derived.Test.YtlnedgjikkhplaaGreatGP29
import Derived.Test.YtlnedgjikkhplaaGreatGP26
set_option maxRecDepth 100000
set_option maxHeartbeats 8000000
set_option linter.unusedVariables false
set_option linter.unusedSimpArgs false
namespace Go.Proofs.YtlnedgjikkhplaaGreat.Ns
open Go.RowKit
open M (ofL ofL_size ofL_of DD)
theorem run_appS (w : World) (base : Nat) (v : Value) (l : List ByteArray) (x : ByteArray) (B c : Nat) (h : w.ownsRow base 9 1 v l.length (SC l)) (hs : w.heap[B]? = some (.cells #[.string x] 9 (0, 0))) (hl : l.length ≤ 100000) (hb : base ≤ w.heap.size) :
  ∃ g cap w', (∀ ty, (Builtin.append_ #[31, 31] ty #[v, .slice (some ⟨B, 0, none⟩) 1 c]).run Tryz.prog w = .ok (.slice (some ⟨g, 0, none⟩) (l.length + 1) cap) w') ∧ w'.ownsRow base 9 1 (.slice (some ⟨g, 0, none⟩) (l.length + 1) cap) (l ++ [x]).length (SC (l ++ [x])) ∧ Rw w v w' (.slice (some ⟨g, 0, none⟩) (l.length + 1) cap) := by
 obtain ⟨i0, hi, hz0, hz1, hz2⟩ := info_parts Tryz.info9
 obtain ⟨g, cap, w', hr, h2, h3, h4, h5⟩ := run_append_lies (P := Tryz.prog) w 31 0 base 9 i0 _ 1 16 Tryz.underlying31 hi hz0 hz1 hz2 rfl (by decide) v l.length (SC l) h ⟨B, 0, none⟩ 1 c [.string x] rfl (cell_one w B _ 9 hs) (by simp; rfl) (by decide) (by unfold maxLen; omega) (by omega) hb _ rfl
 refine ⟨g, cap, w', fun ty => hr, ?_, rw_lies h3 h4 rfl⟩
 rw [List.length_append, show SC (l ++ [x]) = SC l ++ [.string x] by simp [SC]]
 exact h2
theorem run_appB (w : World) (base : Nat) (v : Value) (l : List Bool) (x : Bool) (B c : Nat) (h : w.ownsRow base 4 1 v l.length (BC l)) (hs : w.heap[B]? = some (.cells #[.bool x] 4 (0, 0))) (hl : l.length ≤ 100000) (hb : base ≤ w.heap.size) :
  ∃ g cap w', (∀ ty, (Builtin.append_ #[32, 32] ty #[v, .slice (some ⟨B, 0, none⟩) 1 c]).run Tryz.prog w = .ok (.slice (some ⟨g, 0, none⟩) (l.length + 1) cap) w') ∧ w'.ownsRow base 4 1 (.slice (some ⟨g, 0, none⟩) (l.length + 1) cap) (l ++ [x]).length (BC (l ++ [x])) ∧ Rw w v w' (.slice (some ⟨g, 0, none⟩) (l.length + 1) cap) := by
 obtain ⟨i0, hi, hz0, hz1, hz2⟩ := info_parts Tryz.info4
 obtain ⟨g, cap, w', hr, h2, h3, h4, h5⟩ := run_append_lies (P := Tryz.prog) w 32 0 base 4 i0 _ 1 1 Tryz.underlying32 hi hz0 hz1 hz2 rfl (by decide) v l.length (BC l) h ⟨B, 0, none⟩ 1 c [.bool x] rfl (cell_one w B _ 4 hs) (by simp; rfl) (by decide) (by unfold maxLen; omega) (by omega) hb _ rfl
 refine ⟨g, cap, w', fun ty => hr, ?_, rw_lies h3 h4 rfl⟩
 rw [List.length_append, show BC (l ++ [x]) = BC l ++ [.bool x] by simp [BC]]
 exact h2
structure NB (w wr : World) (k1 k2 k3 : Nat) (v1 v2 v3 : Value) : Prop where
 r1 : wr.heap[w.heap.size + 1]? = some (.cells #[v1, v2, v3, .bool false] 34 (0, 0))
 r0 : wr.heap[w.heap.size]? = some (.cells #[.slice none 0 0, .slice none 0 0, .slice none 0 0, .bool false] 34 (0, 0))
 o1 : wr.ownsRow (w.heap.size + 2) 9 1 v1 k1 (SC (List.replicate k1 zr))
 o2 : wr.ownsRow (w.heap.size + 2) 9 1 v2 k2 (SC (List.replicate k2 zr))
 o3 : wr.ownsRow (w.heap.size + 2) 4 1 v3 k3 (BC (List.replicate k3 false))
 a12 : ∀ y, v1.ownBlock = some y → v2.ownBlock ≠ some y
 a13 : ∀ y, v1.ownBlock = some y → v3.ownBlock ≠ some y
 a23 : ∀ y, v2.ownBlock = some y → v3.ownBlock ≠ some y
 bel : Below w.heap.size w wr
section
variable {w wr w' : World} {k1 k2 k3 : Nat} {v1 v2 v3 : Value}
theorem NB.lt (h : NB w wr k1 k2 k3 v1 v2 v3) : w.heap.size < wr.heap.size ∧ w.heap.size + 1 < wr.heap.size := ⟨(Array.getElem?_eq_some_iff.1 h.r0).1, (Array.getElem?_eq_some_iff.1 h.r1).1⟩
theorem NB.keep (h : NB w wr k1 k2 k3 v1 v2 v3) (hb : Below wr.heap.size wr w') : NB w w' k1 k2 k3 v1 v2 v3 :=
 ⟨(hb.block _ h.lt.2).trans h.r1, (hb.block _ h.lt.1).trans h.r0, owns_keep h.o1 hb, owns_keep h.o2 hb, owns_keep h.o3 hb, h.a12, h.a13, h.a23, Bu h.bel hb Lr⟩
theorem NB.app1 (h : NB w wr k1 k2 k3 v1 v2 v3) (hk : k1 ≤ 4096) :
  ∃ g c w2 W3, (∀ ty, (Builtin.append_ #[31, 31] ty #[v1, .slice (some ⟨wr.heap.size, 0, none⟩) 1 1]).run Tryz.prog (wr.alloc (.cells #[.string zr] 9)) = .ok (.slice (some ⟨g, 0, none⟩) (k1 + 1) c) w2) ∧ (w2.cell? ⟨w.heap.size + 1, 0, none⟩ = some v1 ∧ w2.frozen? ⟨w.heap.size + 1, 0, none⟩ = false) ∧ w2.setCell ⟨w.heap.size + 1, 0, none⟩ (.slice (some ⟨g, 0, none⟩) (k1 + 1) c) = W3 ∧ NB w W3 (k1 + 1) k2 k3 (.slice (some ⟨g, 0, none⟩) (k1 + 1) c) v2 v3 := by
 have hb := h.bel.size
 obtain ⟨l1, l2⟩ := h.lt
 obtain ⟨g, c, w2, hrun, ho, hrw⟩ := run_appS (wr.alloc (.cells #[.string zr] 9)) (w.heap.size + 2) v1 (List.replicate k1 zr) zr wr.heap.size 1 (by rw [List.length_replicate]; exact owns_keep h.o1 (bel1 wr _)) (heap_alloc_last wr _) (by rw [List.length_replicate]; omega) (by simp; omega)
 rw [List.length_replicate] at hrun
 have er : List.replicate k1 zr ++ [zr] = List.replicate (k1 + 1) zr := List.replicate_succ'.symm
 rw [er, List.length_replicate, List.length_replicate] at ho
 have hsame : ∀ y, y < wr.heap.size → v1.ownBlock ≠ some y → w2.heap[y]? = wr.heap[y]? := fun y hy hn => (hrw.g.block y (by simp; omega) (fun e => hn e.symm)).trans (Below.heap_alloc wr _ y hy)
 have hnew : ∀ y, ((.slice (some ⟨g, 0, none⟩) (k1 + 1) c) : Value).ownBlock = some y → v1.ownBlock = some y ∨ wr.heap.size < y := fun y e => by
  rcases hrw.n y (by rw [List.length_replicate]; exact e) with h' | h'
  ·exact .inl h'
  ·exact .inr (by simp at h'; omega)
 have hlo : ∀ y, v1.ownBlock = some y → w.heap.size + 2 ≤ y := fun y e => (World.ownsRow.lt h.o1 y e).1
 have r1 := (hsame _ l2 (fun e => by have := hlo _ e; omega)).trans h.r1
 have r0 := (hsame _ l1 (fun e => by have := hlo _ e; omega)).trans h.r0
 obtain ⟨⟨f0, f1, f2, f3⟩, ff⟩ := row4 r1
 have n5 : ∀ y, y ≠ w.heap.size + 1 → (w2.setCell ⟨w.heap.size + 1, 0, none⟩ (.slice (some ⟨g, 0, none⟩) (k1 + 1) c)).heap[y]? = w2.heap[y]? := fun y hy => heap_setCell_other w2 ⟨w.heap.size + 1, 0, none⟩ y _ hy
 have hB2 : Below w.heap.size w w2 := (Bu h.bel (bel1 wr _) Lr).trans (hrw.below (fun y e => by have := hlo y e; omega) (by simp; omega))
 have q2 : (w2.setCell ⟨w.heap.size + 1, 0, none⟩ (.slice (some ⟨g, 0, none⟩) (k1 + 1) c)).ownsRow (w.heap.size + 2) 9 1 v2 k2 (SC (List.replicate k2 zr)) := owns_keepBut h.o2 fun y hy e => (n5 y (by have := (World.ownsRow.lt h.o2 y e).1; omega)).trans (hsame y hy (fun e' => h.a12 y e' e))
 have q3 : (w2.setCell ⟨w.heap.size + 1, 0, none⟩ (.slice (some ⟨g, 0, none⟩) (k1 + 1) c)).ownsRow (w.heap.size + 2) 4 1 v3 k3 (BC (List.replicate k3 false)) := owns_keepBut h.o3 fun y hy e => (n5 y (by have := (World.ownsRow.lt h.o3 y e).1; omega)).trans (hsame y hy (fun e' => h.a13 y e' e))
 refine ⟨g, c, w2, _, hrun, ⟨f0, ff _⟩, rfl, ⟨heap_setCell_same w2 _ 0 _ _ _ r1, (n5 _ (by omega)).trans r0, ?_, ?_, ?_, ?_, ?_, ?_, hB2.setCell (by show w.heap.size ≤ w.heap.size + 1; omega) _⟩⟩
 ·exact owns_keepBut ho fun y hy e => n5 y (by
   rcases hnew y e with h' | h'
   ·have := hlo y h'; omega
   ·omega)
 ·exact q2
 ·exact q3
 ·intro y e e'
  rcases hnew y e with h' | h'
  ·exact h.a12 y h' e'
  ·have := (World.ownsRow.lt h.o2 y e').2; omega
 ·intro y e e'
  rcases hnew y e with h' | h'
  ·exact h.a13 y h' e'
  ·have := (World.ownsRow.lt h.o3 y e').2; omega
 ·exact h.a23
theorem NB.app2 (h : NB w wr k1 k2 k3 v1 v2 v3) (hk : k2 ≤ 4096) :
  ∃ g c w2 W3, (∀ ty, (Builtin.append_ #[31, 31] ty #[v2, .slice (some ⟨wr.heap.size, 0, none⟩) 1 1]).run Tryz.prog (wr.alloc (.cells #[.string zr] 9)) = .ok (.slice (some ⟨g, 0, none⟩) (k2 + 1) c) w2) ∧ (w2.cell? ⟨w.heap.size + 1, 1, none⟩ = some v2 ∧ w2.frozen? ⟨w.heap.size + 1, 1, none⟩ = false) ∧ w2.setCell ⟨w.heap.size + 1, 1, none⟩ (.slice (some ⟨g, 0, none⟩) (k2 + 1) c) = W3 ∧ NB w W3 k1 (k2 + 1) k3 v1 (.slice (some ⟨g, 0, none⟩) (k2 + 1) c) v3 := by
 have hb := h.bel.size
 obtain ⟨l1, l2⟩ := h.lt
 obtain ⟨g, c, w2, hrun, ho, hrw⟩ := run_appS (wr.alloc (.cells #[.string zr] 9)) (w.heap.size + 2) v2 (List.replicate k2 zr) zr wr.heap.size 1 (by rw [List.length_replicate]; exact owns_keep h.o2 (bel1 wr _)) (heap_alloc_last wr _) (by rw [List.length_replicate]; omega) (by simp; omega)
 rw [List.length_replicate] at hrun
 have er : List.replicate k2 zr ++ [zr] = List.replicate (k2 + 1) zr := List.replicate_succ'.symm
 rw [er, List.length_replicate, List.length_replicate] at ho
 have hsame : ∀ y, y < wr.heap.size → v2.ownBlock ≠ some y → w2.heap[y]? = wr.heap[y]? := fun y hy hn => (hrw.g.block y (by simp; omega) (fun e => hn e.symm)).trans (Below.heap_alloc wr _ y hy)
 have hnew : ∀ y, ((.slice (some ⟨g, 0, none⟩) (k2 + 1) c) : Value).ownBlock = some y → v2.ownBlock = some y ∨ wr.heap.size < y := fun y e => by
  rcases hrw.n y (by rw [List.length_replicate]; exact e) with h' | h'
  ·exact .inl h'
  ·exact .inr (by simp at h'; omega)
 have hlo : ∀ y, v2.ownBlock = some y → w.heap.size + 2 ≤ y := fun y e => (World.ownsRow.lt h.o2 y e).1
 have r1 := (hsame _ l2 (fun e => by have := hlo _ e; omega)).trans h.r1
 have r0 := (hsame _ l1 (fun e => by have := hlo _ e; omega)).trans h.r0
 obtain ⟨⟨f0, f1, f2, f3⟩, ff⟩ := row4 r1
 have n5 : ∀ y, y ≠ w.heap.size + 1 → (w2.setCell ⟨w.heap.size + 1, 1, none⟩ (.slice (some ⟨g, 0, none⟩) (k2 + 1) c)).heap[y]? = w2.heap[y]? := fun y hy => heap_setCell_other w2 ⟨w.heap.size + 1, 1, none⟩ y _ hy
 have hB2 : Below w.heap.size w w2 := (Bu h.bel (bel1 wr _) Lr).trans (hrw.below (fun y e => by have := hlo y e; omega) (by simp; omega))
 have q1 : (w2.setCell ⟨w.heap.size + 1, 1, none⟩ (.slice (some ⟨g, 0, none⟩) (k2 + 1) c)).ownsRow (w.heap.size + 2) 9 1 v1 k1 (SC (List.replicate k1 zr)) := owns_keepBut h.o1 fun y hy e => (n5 y (by have := (World.ownsRow.lt h.o1 y e).1; omega)).trans (hsame y hy (fun e' => h.a12 y e e'))
 have q3 : (w2.setCell ⟨w.heap.size + 1, 1, none⟩ (.slice (some ⟨g, 0, none⟩) (k2 + 1) c)).ownsRow (w.heap.size + 2) 4 1 v3 k3 (BC (List.replicate k3 false)) := owns_keepBut h.o3 fun y hy e => (n5 y (by have := (World.ownsRow.lt h.o3 y e).1; omega)).trans (hsame y hy (fun e' => h.a23 y e' e))
 refine ⟨g, c, w2, _, hrun, ⟨f1, ff _⟩, rfl, ⟨heap_setCell_same w2 _ 1 _ _ _ r1, (n5 _ (by omega)).trans r0, ?_, ?_, ?_, ?_, ?_, ?_, hB2.setCell (by show w.heap.size ≤ w.heap.size + 1; omega) _⟩⟩
 ·exact q1
 ·exact owns_keepBut ho fun y hy e => n5 y (by
   rcases hnew y e with h' | h'
   ·have := hlo y h'; omega
   ·omega)
 ·exact q3
 ·intro y e e'
  rcases hnew y e' with h' | h'
  ·exact h.a12 y e h'
  ·have := (World.ownsRow.lt h.o1 y e).2; omega
 ·exact h.a13
 ·intro y e e'
  rcases hnew y e with h' | h'
  ·exact h.a23 y h' e'
  ·have := (World.ownsRow.lt h.o3 y e').2; omega
theorem NB.app3 (h : NB w wr k1 k2 k3 v1 v2 v3) (hk : k3 ≤ 4096) :
  ∃ g c w2 W3, (∀ ty, (Builtin.append_ #[32, 32] ty #[v3, .slice (some ⟨wr.heap.size, 0, none⟩) 1 1]).run Tryz.prog (wr.alloc (.cells #[.bool false] 4)) = .ok (.slice (some ⟨g, 0, none⟩) (k3 + 1) c) w2) ∧ (w2.cell? ⟨w.heap.size + 1, 2, none⟩ = some v3 ∧ w2.frozen? ⟨w.heap.size + 1, 2, none⟩ = false) ∧ w2.setCell ⟨w.heap.size + 1, 2, none⟩ (.slice (some ⟨g, 0, none⟩) (k3 + 1) c) = W3 ∧ NB w W3 k1 k2 (k3 + 1) v1 v2 (.slice (some ⟨g, 0, none⟩) (k3 + 1) c) := by
 have hb := h.bel.size
 obtain ⟨l1, l2⟩ := h.lt
 obtain ⟨g, c, w2, hrun, ho, hrw⟩ := run_appB (wr.alloc (.cells #[.bool false] 4)) (w.heap.size + 2) v3 (List.replicate k3 false) false wr.heap.size 1 (by rw [List.length_replicate]; exact owns_keep h.o3 (bel1 wr _)) (heap_alloc_last wr _) (by rw [List.length_replicate]; omega) (by simp; omega)
 rw [List.length_replicate] at hrun
 have er : List.replicate k3 false ++ [false] = List.replicate (k3 + 1) false := List.replicate_succ'.symm
 rw [er, List.length_replicate, List.length_replicate] at ho
 have hsame : ∀ y, y < wr.heap.size → v3.ownBlock ≠ some y → w2.heap[y]? = wr.heap[y]? := fun y hy hn => (hrw.g.block y (by simp; omega) (fun e => hn e.symm)).trans (Below.heap_alloc wr _ y hy)
 have hnew : ∀ y, ((.slice (some ⟨g, 0, none⟩) (k3 + 1) c) : Value).ownBlock = some y → v3.ownBlock = some y ∨ wr.heap.size < y := fun y e => by
  rcases hrw.n y (by rw [List.length_replicate]; exact e) with h' | h'
  ·exact .inl h'
  ·exact .inr (by simp at h'; omega)
 have hlo : ∀ y, v3.ownBlock = some y → w.heap.size + 2 ≤ y := fun y e => (World.ownsRow.lt h.o3 y e).1
 have r1 := (hsame _ l2 (fun e => by have := hlo _ e; omega)).trans h.r1
 have r0 := (hsame _ l1 (fun e => by have := hlo _ e; omega)).trans h.r0
 obtain ⟨⟨f0, f1, f2, f3⟩, ff⟩ := row4 r1
 have n5 : ∀ y, y ≠ w.heap.size + 1 → (w2.setCell ⟨w.heap.size + 1, 2, none⟩ (.slice (some ⟨g, 0, none⟩) (k3 + 1) c)).heap[y]? = w2.heap[y]? := fun y hy => heap_setCell_other w2 ⟨w.heap.size + 1, 2, none⟩ y _ hy
 have hB2 : Below w.heap.size w w2 := (Bu h.bel (bel1 wr _) Lr).trans (hrw.below (fun y e => by have := hlo y e; omega) (by simp; omega))
 have q1 : (w2.setCell ⟨w.heap.size + 1, 2, none⟩ (.slice (some ⟨g, 0, none⟩) (k3 + 1) c)).ownsRow (w.heap.size + 2) 9 1 v1 k1 (SC (List.replicate k1 zr)) := owns_keepBut h.o1 fun y hy e => (n5 y (by have := (World.ownsRow.lt h.o1 y e).1; omega)).trans (hsame y hy (fun e' => h.a13 y e e'))
 have q2 : (w2.setCell ⟨w.heap.size + 1, 2, none⟩ (.slice (some ⟨g, 0, none⟩) (k3 + 1) c)).ownsRow (w.heap.size + 2) 9 1 v2 k2 (SC (List.replicate k2 zr)) := owns_keepBut h.o2 fun y hy e => (n5 y (by have := (World.ownsRow.lt h.o2 y e).1; omega)).trans (hsame y hy (fun e' => h.a23 y e e'))
 refine ⟨g, c, w2, _, hrun, ⟨f2, ff _⟩, rfl, ⟨heap_setCell_same w2 _ 2 _ _ _ r1, (n5 _ (by omega)).trans r0, ?_, ?_, ?_, ?_, ?_, ?_, hB2.setCell (by show w.heap.size ≤ w.heap.size + 1; omega) _⟩⟩
 ·exact q1
 ·exact q2
 ·exact owns_keepBut ho fun y hy e => n5 y (by
   rcases hnew y e with h' | h'
   ·have := hlo y h'; omega
   ·omega)
 ·exact h.a12
 ·intro y e e'
  rcases hnew y e' with h' | h'
  ·exact h.a13 y e h'
  ·have := (World.ownsRow.lt h.o1 y e).2; omega
 ·intro y e e'
  rcases hnew y e' with h' | h'
  ·exact h.a23 y e h'
  ·have := (World.ownsRow.lt h.o2 y e).2; omega
end
theorem zeros_any (w : World) : Calls Tryz.prog 44 #[.int .i64 64] w fun e w' => e = .returned (.string zr) ∧ Below w.heap.size w w' := by
 obtain ⟨i0, hi, hz0, hz1, hz2⟩ := info_parts Tryz.info5
 go_enter Tryz.func44, Tryz.ntmps44
 go_wp2_with (at_make; refine wpList_make_full _ rfl (.tmp 3) (.tmp 3) 138 rfl w.heap.size 5 i0 (.int .u8 0) 1 Tryz.underlying138 hi hz0 hz1 .i64 .i64 64 64 64 rfl rfl rfl rfl (by rw [hz2]; omega) (by unfold maxLen; omega) Lr ?_; intro w1 ho hg; rw [made_cells] at ho; have hcv := (row_of_owns (by simp) ho).convert 64 64 (by simp); rw [show ofL (List.replicate 64 0) = zr from rfl] at hcv; have HB : Hid (Below w.heap.size w w1) := (Below.refl _ _).grown hg Lr (by simp); clear ho hg)
 go_ret
 exact ⟨rfl, HB.out⟩
theorem f12_res : Tryz.f12.results = #[.cell 2 34] := rfl
def newDD (n : Nat) : DD := ⟨List.replicate n zr, List.replicate n zr, List.replicate n false, false⟩
theorem newDD_rr (n : Nat) (h : 1 ≤ n ∧ n ≤ 4096) : M.RR n (new n) false (newDD n) := by
 have hz : ∀ s ∈ List.replicate n zr, s.size = 64 := fun s hs => by rw [(List.mem_replicate.1 hs).2]; exact zr_size
 refine ⟨rfl, ⟨by simp [newDD], by simp [newDD], by simp [newDD], hz, hz, h⟩, fun _ => ⟨?_, ?_, ?_⟩, fun e => by cases e⟩
 ·simp [newDD, new, M.last_E]
 ·simp [newDD, new]
 ·simp [newDD, new, M.lse_E]
theorem rnew_any (n : Int) (w : World) : Calls Tryz.prog 12 #[.int .i64 n] w fun e w' => ∃ h : Hd, e = .returned (.agg (h.vals (newDD (cntOf n)))) ∧ XD w' h (newDD (cntOf n)) ∧ (∀ k, h.blk k → w.heap.size ≤ k) ∧ Below w.heap.size w w' := by
 obtain ⟨h1, h2, h3⟩ := cntOf_le n
 generalize cntOf n = c at *
 obtain ⟨mx, hmx⟩ := Nq (max n 1)
 rw [hmx] at h3
 obtain ⟨W1, hW1, hs1, hB1, hr0, hr1⟩ := box2 w (.slice none 0 0) (.slice none 0 0) (.slice none 0 0) (.bool false)
 have HNB : Hid (NB w W1 0 0 0 (.slice none 0 0) (.slice none 0 0) (.slice none 0 0)) := ⟨hr1, hr0, World.ownsRow_nil _ _ _ _, World.ownsRow_nil _ _ _ _, World.ownsRow_nil _ _ _ _, by simp [Value.ownBlock], by simp [Value.ownBlock], by simp [Value.ownBlock], hB1⟩
 have HW1 := Hf hW1
 clear hW1 hs1 hB1 hr0 hr1
 go_enter Tryz.func12, Tryz.ntmps12
 go_upto_region 2 with fail
 rw [HW1.out]; clear HW1; go_wp2
 go_loopw [4] (fun i wr => ∃ (k : Nat) (v1 v2 v3 : Value), k ≤ c ∧ i = .int .i64 k ∧ NB w wr k k k v1 v2 v3) (fun i _ => c - (intOf i).toNat)
 case atStart => exact ⟨0, _, _, _, Nat.zero_le _, rfl, HNB.out⟩
 case round =>
  obtain ⟨k, v1, v2, v3, hk, rfl, hN⟩ := hrel
  clear HNB
  by_cases hlt : k < c
  ·have HN := Hf hN
   clear hN
   go_wp2_with fail
   refine (zeros_any wr).mono ?_; rintro x w2 ⟨rfl, b2⟩
   have hN2 := HN.out.keep b2
   obtain ⟨a1, x1, rfl, _⟩ := owns_at hN2.o1
   obtain ⟨⟨r0, _⟩, _⟩ := row4 hN2.r1
   obtain ⟨g1, c1, w3, W4, run1, ⟨p1, pf1⟩, hW4, hN4⟩ := hN2.app1 (by omega)
   obtain ⟨a2, x2, rfl, _⟩ := owns_at hN4.o2
   obtain ⟨⟨_, r1, _⟩, _⟩ := row4 hN4.r1
   obtain ⟨g2, c2, w5, W6, run2, ⟨p2, pf2⟩, hW6, hN6⟩ := hN4.app2 (by omega)
   obtain ⟨a3, x3, rfl, _⟩ := owns_at hN6.o3
   obtain ⟨⟨_, _, r2, _⟩, _⟩ := row4 hN6.r1
   obtain ⟨g3, c3, w7, W8, run3, ⟨p3, pf3⟩, hW8, hN8⟩ := hN6.app3 (by omega)
   have HN8 := Hf hN8
   have HW4 := Hf hW4
   have HW6 := Hf hW6
   have HW8 := Hf hW8
   obtain ⟨⟨r0', _⟩, _⟩ := row4 ((Below.heap_alloc w2 (.cells #[.string zr] 9) _ hN2.lt.2).trans hN2.r1)
   obtain ⟨⟨_, r1', _⟩, _⟩ := row4 ((Below.heap_alloc W4 (.cells #[.string zr] 9) _ hN4.lt.2).trans hN4.r1)
   obtain ⟨⟨_, _, r2', _⟩, _⟩ := row4 ((Below.heap_alloc W6 (.cells #[.bool false] 4) _ hN6.lt.2).trans hN6.r1)
   clear hN2 hN4 hN6 hN8 hW4 hW6 hW8 HN b2
   go_upto_region 7 with (at_builtin; refine wpList_append_known rfl (.tmp 16) (.tmp 18) 31 rfl _ _ (by simp [Act.eval]) (by simp [Act.eval]) _ _ (run1 _) ?_)
   rw [HW4.out]; clear run1 p1 pf1 HW4 r0 r0'
   go_upto_region 8 with (at_builtin; refine wpList_append_known rfl (.tmp 22) (.tmp 24) 31 rfl _ _ (by simp [Act.eval]) (by simp [Act.eval]) _ _ (run2 _) ?_)
   rw [HW6.out]; clear run2 p2 pf2 HW6 r1 r1'
   go_wp2_with (at_builtin; refine wpList_append_known rfl (.tmp 28) (.tmp 29) 32 rfl _ _ (by simp [Act.eval]) (by simp [Act.eval]) _ _ (run3 _) ?_)
   go_roundw
   case rel => exact ⟨k + 1, _, _, _, by omega, by go_num, by rw [HW8.out]; exact HN8.out⟩
   case measure => simp [intOf]; omega
  ·obtain rfl : k = c := by omega
   obtain ⟨a1, x1, rfl, at1, bl1, _⟩ := owns_at hN.o1
   obtain ⟨a2, x2, rfl, at2, bl2, _⟩ := owns_at hN.o2
   obtain ⟨a3, x3, rfl, at3, bl3, _⟩ := owns_at hN.o3
   obtain ⟨p1, p2, p3⟩ := put4 (v0 := .slice a1 k x1) (v1 := .slice a2 k x2) (v2 := .slice a3 k x3) (v3 := .bool false) hN.r0
   have hX : XD (st4 wr w.heap.size (.slice a1 k x1) (.slice a2 k x2) (.slice a3 k x3) (.bool false)) ⟨a1, x1, a2, x2, a3, x3⟩ (newDD k) := by
    refine ⟨at1.keepBut (fun j _ hb => p2 j (by have := (bl1 j hb).1; omega)), at2.keepBut (fun j _ hb => p2 j (by have := (bl2 j hb).1; omega)), at3.keepBut (fun j _ hb => p2 j (by have := (bl3 j hb).1; omega)), ?_⟩
    rw [p3]; rintro j (hj | hj | hj)
    ·exact (bl1 j hj).2.2
    ·exact (bl2 j hj).2.2
    ·exact (bl3 j hj).2.2
   have HQ : Hid (∃ h : Hd, Ending.returned (.agg #[.slice a1 k x1, .slice a2 k x2, .slice a3 k x3, .bool false]) = .returned (.agg (h.vals (newDD k))) ∧ XD (st4 wr w.heap.size (.slice a1 k x1) (.slice a2 k x2) (.slice a3 k x3) (.bool false)) h (newDD k) ∧ (∀ j, h.blk j → w.heap.size ≤ j) ∧ Below w.heap.size w (st4 wr w.heap.size (.slice a1 k x1) (.slice a2 k x2) (.slice a3 k x3) (.bool false))) := by
    refine ⟨⟨a1, x1, a2, x2, a3, x3⟩, by simp [Hd.vals, newDD], hX, ?_, below4 hN.bel Lr⟩
    rintro j (hj | hj | hj)
    ·have := (bl1 j hj).1; omega
    ·have := (bl2 j hj).1; omega
    ·have := (bl3 j hj).1; omega
   have HP1 := Hf p1
   obtain ⟨⟨r0, r1, r2, r3⟩, _⟩ := row4 hN.r1
   obtain ⟨⟨s0, s1, s2, s3⟩, sf⟩ := row4 hN.r0
   have sf0 := sf 0
   have sf1 := sf 1
   have sf2 := sf 2
   have sf3 := sf 3
   clear hN at1 at2 at3 bl1 bl2 bl3 p1 p2 p3 hX sf; go_wp2
   refine bodyPost_ret (v := .agg #[.slice a1 k x1, .slice a2 k x2, .slice a3 k x3, .bool false]) ?_ rfl HQ.out
   exact results_cell_row f12_res _ _ w.heap.size 34 _ (0, 0) _ rfl HP1.out Tryz.underlying34 rfl Tryz.size34
end Go.Proofs.YtlnedgjikkhplaaGreat.Ns
namespace Go.Proofs.YtlnedgjikkhplaaGreat.Du
open Go.RowKit
open Na (Fr AS XL vl bV vV Hf bel1 bel2 Bu Br row2 row4 blk OwnL AtL)
open Na.M (E V S S0)
open Ns.M (ofL)
open Nc.M (enc encT)
theorem cat1 (c : UInt8) (a : List UInt8) : (⟨#[c]⟩ : ByteArray) ++ ofL a = ofL (c :: a) := Ns.M.ofL_app [c] a
theorem dpromise_any (b : E) (w : World) (h1 : I64 b.i) (h2 : I64 b.t) : Calls Tryz.prog 99 #[bV b] w fun e w' => e = .returned (.string (ofL (kb (.pr b)))) ∧ Below w.heap.size w w' := by
 obtain ⟨W1, HW1⟩ := Nh (w.alloc (.cells #[.int .i64 b.i, .int .i64 b.t] 36))
 have hb1 : Below w.heap.size w W1 := by rw [← HW1.out]; exact bel1 w _
 have hr1 : W1.heap[w.heap.size]? = some (.cells #[.int .i64 b.i, .int .i64 b.t] 36 (0, 0)) := by rw [← HW1.out]; exact heap_alloc_last w _
 have HB1 := Hf hb1
 have HS : Hid (∀ w', Below W1.heap.size W1 w' → w'.cell? ⟨w.heap.size, 0, none⟩ = some (.int .i64 b.i) ∧ w'.cell? ⟨w.heap.size, 1, none⟩ = some (.int .i64 b.t)) := fun w' hb => (row2 (Br hr1 hb)).1
 have HE : Hid (((⟨#[1]⟩ : ByteArray) ++ Nc.ofL (enc b.i)) ++ Nc.ofL (enc b.t) = ofL (kb (.pr b))) := by
  show ((⟨#[1]⟩ : ByteArray) ++ ofL (enc b.i)) ++ ofL (enc b.t) = _
  rw [cat1, Ns.M.ofL_app]
  rfl
 have z1 : (Nc.ofL (enc b.i)).size ≤ 10 := by rw [Nc.ofL_size]; exact enc_le h1
 have z2 : (Nc.ofL (enc b.t)).size ≤ 10 := by rw [Nc.ofL_size]; exact enc_le h2
 have n1 : ¬ (9223372036854775807 < 1 + (Nc.ofL (enc b.i)).size) := by omega
 have n2 : ¬ (9223372036854775807 < 1 + (Nc.ofL (enc b.i)).size + (Nc.ofL (enc b.t)).size) := by omega
 clear hb1 hr1
 go_enter Tryz.func99, Tryz.ntmps99
 go_upto_region 1 with fail
 rw [HW1.out]; clear HW1
 go_wp2_with fail
 refine wp_region_held_drew (S := fun wq => Below (W1).heap.size (W1) wq) (by kernel_rfl) (Below.drew (Below.refl _ _)) fun Hl => ?_
 refine Tm 0 ?pA ?vA Hl ?rA
 refine Tk 1 ?pB ?vB ?yB Hl ?rB
 case yB => intro q h; obtain ⟨c0, c1⟩ := HS.out q h; go_simp; try with_reducible rfl
 refine Tm 4 ?pC ?vC Hl ?rC
 refine Tk 5 ?pD ?vD ?yD Hl ?rD
 case yD => intro q h; obtain ⟨c0, c1⟩ := HS.out q h; go_simp; try with_reducible rfl
 simp only [Act.put, Pa, Pb, Pc]
 refine Rd 2 ?pE ?sE
 intro K hK; go_simp
 refine (Nc.refInt_any _ _ h1).mono ?_; rintro e v2 ⟨rfl, hb2⟩
 have B2 : Below W1.heap.size W1 v2 := Hl.trans (hb2.mono Hl.size)
 refine hK.out _ _ B2 fun Hl => ?_; clear hK K
 refine Tm 3 ?pF ?vF Hl ?rF
 simp only [Act.put, Pa, Pb, Pc]
 refine Rd 6 ?pG ?sG
 intro K hK; go_simp
 refine (Nc.refInt_any _ _ h2).mono ?_; rintro e v6 ⟨rfl, hb6⟩
 have B6 : Below W1.heap.size W1 v6 := Hl.trans (hb6.mono Hl.size)
 refine hK.out _ _ B6 fun Hl => ?_; clear hK K
 refine Tm 7 ?pH ?vH Hl ?rH
 refine Tm 8 ?pI ?vI Hl ?rI
 simp only [Act.put, Pa, Pb, Pc]
 refine wpAnyH_done (by kernel_rfl) ?_ _
 have HBF := Hf (Bu HB1.out Hl Lr)
 clear Hl; go_wp2
 go_ret
 refine ⟨?_, HBF.out⟩
 rw [← HE.out]
 rfl
theorem dvote_any (v : V) (w : World) (hv : Wf (.vo v)) : Calls Tryz.prog 100 #[vV v] w fun e w' => e = .returned (.string (ofL (kb (.vo v)))) ∧ Below w.heap.size w w' := by
 obtain ⟨h1, h2, h3, h40⟩ := hv
 obtain ⟨vs, ⟨vi, vt⟩, vv⟩ := v
 obtain ⟨l, rfl⟩ : ∃ l, vv = Nc.ofL l := ⟨vv.data.toList, (Nc.ofL_of _).symm⟩
 have h4 : l.length ≤ 70000 := by
  have : (Nc.ofL l).size ≤ 4096 := h40
  rw [Nc.ofL_size] at this
  omega
 have h44 : l.length ≤ 60000 := by
  have : (Nc.ofL l).size ≤ 4096 := h40
  rw [Nc.ofL_size] at this
  omega
 simp only at h1 h2 h3
 obtain ⟨W1, HW1⟩ := Nh (w.alloc (.cells #[.int .i64 vs, .int .i64 vi, .int .i64 vt, .string (Nc.ofL l)] 48))
 have hb1 : Below w.heap.size w W1 := by rw [← HW1.out]; exact bel1 w _
 have hr1 : W1.heap[w.heap.size]? = some (.cells #[.int .i64 vs, .int .i64 vi, .int .i64 vt, .string (Nc.ofL l)] 48 (0, 0)) := by rw [← HW1.out]; exact heap_alloc_last w _
 have HB1 := Hf hb1
 have HS : Hid (∀ w', Below W1.heap.size W1 w' → w'.cell? ⟨w.heap.size, 0, none⟩ = some (.int .i64 vs) ∧ w'.cell? ⟨w.heap.size, 1, none⟩ = some (.int .i64 vi) ∧ w'.cell? ⟨w.heap.size, 2, none⟩ = some (.int .i64 vt) ∧ w'.cell? ⟨w.heap.size, 3, none⟩ = some (.string (Nc.ofL l))) := fun w' hb => (row4 (Br hr1 hb)).1
 have HE : Hid (((((⟨#[2]⟩ : ByteArray) ++ Nc.ofL (enc vs)) ++ Nc.ofL (enc vi)) ++ Nc.ofL (enc vt)) ++ Nc.ofL (encT l) = ofL (kb (.vo ⟨vs, ⟨vi, vt⟩, Nc.ofL l⟩))) := by
  show ((((⟨#[2]⟩ : ByteArray) ++ ofL (enc vs)) ++ ofL (enc vi)) ++ ofL (enc vt)) ++ ofL (encT l) = _
  rw [cat1, Ns.M.ofL_app, Ns.M.ofL_app, Ns.M.ofL_app]
  congr 1
  show _ = 2 :: (enc vs ++ ((enc vi ++ enc vt) ++ encT (Nc.ofL l).data.toList))
  rw [Nc.ofL_data]
  simp
 have z1 : (Nc.ofL (enc vs)).size ≤ 10 := by rw [Nc.ofL_size]; exact enc_le h1
 have z2 : (Nc.ofL (enc vi)).size ≤ 10 := by rw [Nc.ofL_size]; exact enc_le h2
 have z3 : (Nc.ofL (enc vt)).size ≤ 10 := by rw [Nc.ofL_size]; exact enc_le h3
 have z4 : (Nc.ofL (encT l)).size ≤ 70010 := by rw [Nc.ofL_size]; have := encT_le l h44; omega
 have n1 : ¬ (9223372036854775807 < 1 + (Nc.ofL (enc vs)).size) := by omega
 have n2 : ¬ (9223372036854775807 < 1 + (Nc.ofL (enc vs)).size + (Nc.ofL (enc vi)).size) := by omega
 have n3 : ¬ (9223372036854775807 < 1 + (Nc.ofL (enc vs)).size + (Nc.ofL (enc vi)).size + (Nc.ofL (enc vt)).size) := by omega
 have n4 : ¬ (9223372036854775807 < 1 + (Nc.ofL (enc vs)).size + (Nc.ofL (enc vi)).size + (Nc.ofL (enc vt)).size + (Nc.ofL (encT l)).size) := by omega
 clear hb1 hr1 h40
 simp only [vV]
 go_enter Tryz.func100, Tryz.ntmps100
 go_upto_region 1 with fail
 rw [HW1.out]; clear HW1
 go_wp2_with fail
 refine wp_region_held_drew (S := fun wq => Below (W1).heap.size (W1) wq) (by kernel_rfl) (Below.drew (Below.refl _ _)) fun Hl => ?_
 refine Tm 0 ?pJ ?vJ Hl ?rJ
 refine Tk 1 ?pK ?vK ?yK Hl ?rK
 case yK => intro q h; obtain ⟨c0, c1, c2, c3⟩ := HS.out q h; go_simp; try with_reducible rfl
 refine Tm 4 ?pL ?vL Hl ?rL
 refine Tm 5 ?pM ?vM Hl ?rM
 refine Tk 6 ?pN ?vN ?yN Hl ?rN
 case yN => intro q h; obtain ⟨c0, c1, c2, c3⟩ := HS.out q h; go_simp; try with_reducible rfl
 refine Tm 9 ?pO ?vO Hl ?rO
 refine Tm 10 ?pP ?vP Hl ?rP
 refine Tk 11 ?pQ ?vQ ?yQ Hl ?rQ
 case yQ => intro q h; obtain ⟨c0, c1, c2, c3⟩ := HS.out q h; go_simp; try with_reducible rfl
 refine Tm 14 ?pR ?vR Hl ?rR
 refine Tk 15 ?pS ?vS ?yS Hl ?rS
 case yS => intro q h; obtain ⟨c0, c1, c2, c3⟩ := HS.out q h; go_simp; try with_reducible rfl
 simp only [Act.put, Pa, Pb, Pc]
 refine Rd 2 ?pT ?sT
 intro K hK; go_simp
 refine (Nc.refInt_any _ _ h1).mono ?_; rintro e v2 ⟨rfl, hb2⟩
 have B2 : Below W1.heap.size W1 v2 := Hl.trans (hb2.mono Hl.size)
 refine hK.out _ _ B2 fun Hl => ?_; clear hK K
 refine Tm 3 ?pU ?vU Hl ?rU
 simp only [Act.put, Pa, Pb, Pc]
 refine Rd 7 ?pV ?sV
 intro K hK; go_simp
 refine (Nc.refInt_any _ _ h2).mono ?_; rintro e v7 ⟨rfl, hb7⟩
 have B7 : Below W1.heap.size W1 v7 := Hl.trans (hb7.mono Hl.size)
 refine hK.out _ _ B7 fun Hl => ?_; clear hK K
 refine Tm 8 ?pW ?vW Hl ?rW
 simp only [Act.put, Pa, Pb, Pc]
 refine Rd 12 ?pX ?sX
 intro K hK; go_simp
 refine (Nc.refInt_any _ _ h3).mono ?_; rintro e v12 ⟨rfl, hb12⟩
 have B12 : Below W1.heap.size W1 v12 := Hl.trans (hb12.mono Hl.size)
 refine hK.out _ _ B12 fun Hl => ?_; clear hK K
 refine Tm 13 ?pY ?vY Hl ?rY
 simp only [Act.put, Pa, Pb, Pc]
 refine Rd 16 ?pZ ?sZ
 intro K hK; go_simp
 refine (Nc.refText_any _ _ h4).mono ?_; rintro e v16 ⟨rfl, hb16⟩
 have B16 : Below W1.heap.size W1 v16 := Hl.trans (hb16.mono Hl.size)
 refine hK.out _ _ B16 fun Hl => ?_; clear hK K
 refine Tm 17 ?pa ?va Hl ?ra
 refine Tm 18 ?pb ?vb Hl ?rb
 simp only [Act.put, Pa, Pb, Pc]
 refine wpAnyH_done (by kernel_rfl) ?_ _
 have HBF := Hf (Bu HB1.out Hl Lr)
 clear Hl; go_wp2
 go_ret
 refine ⟨?_, HBF.out⟩
 rw [← HE.out]
 rfl
theorem dtrim_any (u : Int) (w : World) (h1 : I64 u) : Calls Tryz.prog 101 #[.int .i64 u] w fun e w' => e = .returned (.string (ofL (kb (.tr u)))) ∧ Below w.heap.size w w' := by
 have hc := Nc.refInt_any u w h1
 have HE : Hid ((⟨#[3]⟩ : ByteArray) ++ Nc.ofL (enc u) = ofL (kb (.tr u))) := cat1 3 (enc u)
 have z1 : (Nc.ofL (enc u)).size ≤ 10 := by rw [Nc.ofL_size]; exact enc_le h1
 have n1 : ¬ (9223372036854775807 < 1 + (Nc.ofL (enc u)).size) := by omega
 go_enter Tryz.func101, Tryz.ntmps101
 go_wp2_with fail
 refine hc.mono ?_; rintro e w1 ⟨rfl, hb⟩
 have HB := Hf hb
 clear hc hb; go_wp2
 go_ret
 refine ⟨?_, HB.out⟩
 rw [← HE.out]
 rfl
def szOf (v : Value) : Nat := match v with | .string s => s.size | _ => 0
theorem drecord_any (ep k : Nat) (r : R) (w : World) (he : ep ≤ 2147483648) (hk : k ≤ 2147483648) (hr : Wf r) : Calls Tryz.prog 78 #[.int .i64 ep, .int .i64 k, .string (ofL (kb r))] w fun e w' => e = .returned (.string (ofL (Du.rec ep k r))) ∧ Below w.heap.size w w' := by
 have hbl := body_len ep k r he hk hr
 have hrl := raw_len ep k r he hk hr
 have hi1 := fun W => Nc.refInt_any (ep : Int) W (I64.nat he)
 have hi2 := fun W => Nc.refInt_any (k : Int) W (I64.nat hk)
 have e1 : (Nc.ofL (enc (ep : Int)) ++ Nc.ofL (enc (k : Int))) ++ ofL (kb r) = ofL (body ep k r) := by
  show (ofL (enc (ep : Int)) ++ ofL (enc (k : Int))) ++ ofL (kb r) = _
  rw [Ns.M.ofL_app, Ns.M.ofL_app]; unfold body; rw [List.append_assoc]
 have hse := fun W => Ns.refSeal_any (ofL (body ep k r)) W (by rw [Ns.M.ofL_size]; omega)
 have hd : (ofL (body ep k r)).data.toList = body ep k r := Ns.ofL_data _
 rw [hd] at hse
 have hte := fun W => Nc.refText_any (K2.sealed (body ep k r)) W (by
  have := sealed_len (body ep k r)
  omega)
 have hlen : ∀ j : Nat, (ofL (raw ep k r ++ List.replicate j 0)).size = (raw ep k r).length + j := fun j => by rw [Ns.M.ofL_size, List.length_append, List.length_replicate]
 have hst : ∀ j : Nat, ofL (raw ep k r ++ List.replicate j 0) ++ (⟨#[0]⟩ : ByteArray) = ofL (raw ep k r ++ List.replicate (j + 1) 0) := fun j => by
  rw [show (⟨#[0]⟩ : ByteArray) = ofL [0] from rfl, Ns.M.ofL_app, List.append_assoc, List.replicate_succ']
 have HE : Hid (ofL (raw ep k r ++ List.replicate (fil (raw ep k r).length) 0) = ofL (Du.rec ep k r)) := rfl
 have h0 : Nc.ofL (encT (K2.sealed (body ep k r))) = ofL (raw ep k r ++ List.replicate 0 0) := by
  rw [List.replicate_zero, List.append_nil]
  rfl
 have z1 : (Nc.ofL (enc (ep : Int))).size ≤ 10 := by rw [Nc.ofL_size]; exact enc_le (I64.nat he)
 have z2 : (Nc.ofL (enc (k : Int))).size ≤ 10 := by rw [Nc.ofL_size]; exact enc_le (I64.nat hk)
 have z3 : (ofL (kb r)).size ≤ 4200 := by
  rw [Ns.M.ofL_size]; unfold body at hbl; rw [List.length_append, List.length_append] at hbl
  omega
 have n1 : ¬ (9223372036854775807 < (Nc.ofL (enc (ep : Int))).size + (Nc.ofL (enc (k : Int))).size) := by omega
 have n2 : ¬ (9223372036854775807 < (Nc.ofL (enc (ep : Int))).size + (Nc.ofL (enc (k : Int))).size + (ofL (kb r)).size) := by omega
 have HE1 := Hf e1
 have HL := Hf hlen
 have HST := Hf hst
 have H0 := Hf h0
 clear hlen hst h0 e1 hd hbl
 go_enter Tryz.func78, Tryz.ntmps78
 go_wp2_with fail
 refine (hi1 _).mono ?_; rintro e w1 ⟨rfl, hb1⟩
 clear hi1
 go_wp2_with fail
 refine (hi2 _).mono ?_; rintro e w2 ⟨rfl, hb2⟩
 have HB2 := Hf (Bu hb1 hb2 Lr)
 clear hi2 hb1 hb2
 go_wp2_with fail
 rw [HE1.out]
 refine (hse _).mono ?_; rintro e w3 ⟨rfl, hb3⟩
 have HB3 := Hf (Bu HB2.out hb3 Lr)
 clear hse hb3 HB2 HE1
 go_wp2_with fail
 refine (hte _).mono ?_; rintro e w4 ⟨rfl, hb4⟩
 have HB4 := Hf (Bu HB3.out hb4 Lr)
 clear hte hb4 HB3; rw [H0.out]
 generalize raw ep k r = q at *
 go_wp2
 go_loopw [7] (fun v wr => ∃ j : Nat, j ≤ fil q.length ∧ v = .string (ofL (q ++ List.replicate j 0)) ∧ wr = w4) (fun v _ => q.length + fil q.length - szOf v)
 case atStart => exact ⟨0, Nat.zero_le _, by simp, rfl⟩
 case round =>
  obtain ⟨j, hj, rfl, hw⟩ := hrel
  subst hw
  have hz := HL.out j
  have hz1 := HL.out (j + 1)
  by_cases hlt : j < fil q.length
  ·have hm : (((q.length : Int) + (j : Int)) % 64 != 0) = true := by
    unfold fil at hlt
    simp
    omega
   have hfl : fil q.length ≤ 64 := by unfold fil; omega
   have n3 : ¬ (9223372036854775807 < q.length + j + 1) := by omega
   have hsx := HST.out j
   go_wp2
   go_roundw
   case rel => exact ⟨j + 1, by omega, rfl, trivial⟩
   case measure => simp only [szOf, hz, hz1]; omega
  ·obtain rfl : j = fil q.length := by omega
   have hm : (((q.length : Int) + (fil q.length : Int)) % 64 != 0) = false := by
    unfold fil
    simp
    omega
   go_wp2
   go_ret
   refine ⟨?_, HB4.out⟩
   rw [← HE.out]
   rfl
end Go.Proofs.YtlnedgjikkhplaaGreat.Du
