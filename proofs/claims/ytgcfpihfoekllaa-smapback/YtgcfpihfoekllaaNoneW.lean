/- Stripes that are none. -/
import Derived.Test.YtgcfpihfoekllaaDD

namespace Go.Proofs.Ytgcfpihfoekllaa

open Go.RowKit

set_option linter.unusedVariables false

open Go.ChangeShapes Go.WideShapes Go.ChangeAt
open Sm (S)

abbrev dO (x : D) : Obj := .cells #[.int .i64 x.k, .int .i64 x.a, .int .i64 x.b, .int .i64 x.c, .slice x.sa x.l.length x.sc] 32 (0, 0)
theorem row5 {w : World} {k : Nat} {v0 v1 v2 v3 v4 : Value} {t : TypeId} (h : w.heap[k]? = some (.cells #[v0, v1, v2, v3, v4] t (0, 0))) : (w.cell? ⟨k, 0, none⟩ = some v0 ∧ w.cell? ⟨k, 1, none⟩ = some v1 ∧ w.cell? ⟨k, 2, none⟩ = some v2 ∧ w.cell? ⟨k, 3, none⟩ = some v3 ∧ w.cell? ⟨k, 4, none⟩ = some v4) ∧ ∀ j, w.frozen? ⟨k, j, none⟩ = false :=
  ⟨⟨by rw [cell_of_row w k 0 _ _ _ h]; rfl, by rw [cell_of_row w k 1 _ _ _ h]; rfl, by rw [cell_of_row w k 2 _ _ _ h]; rfl, by rw [cell_of_row w k 3 _ _ _ h]; rfl, by rw [cell_of_row w k 4 _ _ _ h]; rfl⟩, fun j => frozen_of_row w k j _ _ h⟩
set_option maxRecDepth 100000 in
set_option maxHeartbeats 4000000 in
theorem none_walk (d : D) (w : World) (hd : DOk w d) : Calls Try.prog 7 #[dV d] w fun e w' => e = .returned (.bool true) ∧ Below w.heap.size w w' := by
  obtain ⟨W1, HW1⟩ : ∃ W1, Hid (w.alloc (dO d) = W1) := ⟨_, rfl⟩
  have hr1 := heap_alloc_last w (dO d)
  have hb1 := bel1 w (dO d)
  rw [HW1.out] at hr1 hb1
  obtain ⟨B, HB⟩ : ∃ B, Hid (w.heap.size = B) := ⟨_, rfl⟩
  rw [HB.out] at hr1
  have HB1 := Hid_of hb1
  have HR1 := Hid_of hr1
  have HD : Hid (∀ W : World, Below w.heap.size w W → W.heap[B]? = some (dO d) → W.cell? ⟨B, 1, none⟩ = some (.int .i64 d.a) ∧ W.cell? ⟨B, 2, none⟩ = some (.int .i64 d.b) ∧ W.cell? ⟨B, 3, none⟩ = some (.int .i64 d.c) ∧ W.cell? ⟨B, 4, none⟩ = some (.slice d.sa d.l.length d.sc)) := Hid_of fun W _ h => (row5 h).1.2
  obtain ⟨c1, c2, c3, c4⟩ := HD.out _ hb1 hr1
  have hbg := beginN d.a d.b d.c d.sa d.l.length d.sc W1
  clear hr1 hb1 hd
  go_enter Try.func7, Try.ntmps7
  go_upto_region 2 with fail
  rw [HW1.out, HB.out]
  clear HW1
  go_wp2_with fail
  refine hbg.mono ?_
  rintro e w2 ⟨rfl, hb2⟩
  have HB2 := Hid_of (bel_up HB1.out hb2 (Nat.le_refl _))
  have HR2 := Hid_of (bel_row HR1.out hb2)
  have hg := getN d.a w2
  clear hbg hb2 HB1 HR1 c1 c2 c3 c4
  obtain ⟨c1, c2, c3, c4⟩ := HD.out _ HB2.out HR2.out
  go_wp2_with fail
  refine hg.mono ?_
  rintro e w3 ⟨rfl, hb3⟩
  have HB3 := Hid_of (bel_up HB2.out hb3 (Nat.le_refl _))
  have HR3 := Hid_of (bel_row HR2.out hb3)
  clear hg hb3 HB2 HR2 c1 c2 c3 c4
  obtain ⟨W4, HW4⟩ : ∃ W4, Hid (w3.alloc (.cells #[.int .i64 0, .int .i64 0, .int .i64 0, .int .i64 0, .int .i64 0, .slice none 0 0] 34) = W4) := ⟨_, rfl⟩
  have hb4 := bel1 w3 (.cells #[.int .i64 0, .int .i64 0, .int .i64 0, .int .i64 0, .int .i64 0, .slice none 0 0] 34)
  have hr4 := heap_alloc_last w3 (.cells #[.int .i64 0, .int .i64 0, .int .i64 0, .int .i64 0, .int .i64 0, .slice none 0 0] 34)
  rw [HW4.out] at hb4 hr4
  obtain ⟨G, HG⟩ : ∃ G, Hid (w3.heap.size = G) := ⟨_, rfl⟩
  rw [HG.out] at hr4
  have HB4 := Hid_of (bel_up HB3.out hb4 (Nat.le_refl _))
  have HR4 := Hid_of (bel_row HR3.out hb4)
  have HG4 := Hid_of hr4
  clear hb4 hr4 HB3 HR3
  obtain ⟨c1, c2, c3, c4⟩ := HD.out _ HB4.out HR4.out
  have hc := commitN d.a d.b W4
  have hf := freeN d.a W4
  have hdr := dropN d.a W4
  go_upto_region 4 with fail
  rw [HW4.out, HG.out]
  clear HW4 HG
  go_wp2_with fail
  refine hc.mono ?_
  rintro e w1 ⟨rfl, hw1⟩
  subst w1
  clear hc
  go_wp2_with fail
  refine hf.mono ?_
  rintro e w1 ⟨rfl, hw1⟩
  subst w1
  clear hf
  go_wp2_with fail
  refine hdr.mono ?_
  rintro e w6 ⟨rfl, hb6⟩
  have HB6 := Hid_of (bel_up HB4.out hb6 (Nat.le_refl _))
  have HR6 := Hid_of (bel_row HR4.out hb6)
  have HG6 := Hid_of (bel_row HG4.out hb6)
  clear hdr hb6 HB4 HR4 HG4 c1 c2 c3 c4
  obtain ⟨c1, c2, c3, c4⟩ := HD.out _ HB6.out HR6.out
  obtain ⟨⟨g0, g1, g2, g3, g4, g5⟩, _⟩ := row_cells (y := e0) HG6.out
  have hmv := moveN d.a d.b d.c w6
  have hsm := same_any e0 e0 w6 rfl rfl (by simp) (AtL.nil _ _) (AtL.nil _ _)
  go_wp2_with fail
  refine hmv.mono ?_
  rintro e w1 ⟨rfl, hw1⟩
  subst w1
  clear hmv
  go_wp2_with fail
  refine hsm.mono ?_
  rintro e w7 ⟨rfl, hb7⟩
  have HB7 := Hid_of (bel_up HB6.out hb7 (Nat.le_refl _))
  have HR7 := Hid_of (bel_row HR6.out hb7)
  clear hsm hb7 HB6 HR6 HG6 c1 c2 c3 c4 g0 g1 g2 g3 g4 g5
  obtain ⟨c1, c2, c3, c4⟩ := HD.out _ HB7.out HR7.out
  have hls := listN d.a w7
  go_wp2_with fail
  refine hls.mono ?_
  rintro e w8 ⟨rfl, hb8⟩
  have HB8 := Hid_of (bel_up HB7.out hb8 (Nat.le_refl _))
  have HR8 := Hid_of (bel_row HR7.out hb8)
  clear hls hb8 HB7 HR7 c1 c2 c3 c4
  obtain ⟨c1, c2, c3, c4⟩ := HD.out _ HB8.out HR8.out
  have hon := onN d.a w8
  go_wp2_with fail
  refine hon.mono ?_
  rintro e w9 ⟨rfl, hb9⟩
  have HB9 := Hid_of (bel_up HB8.out hb9 (Nat.le_refl _))
  clear hon hb9 HB8 HR8 c1 c2 c3 c4
  have htx := textN w9
  go_wp2_with fail
  refine htx.mono ?_
  rintro e w10 ⟨rfl, hb10⟩
  have ht : (ofL []).toList = [] := by rw [ByteArray.toList_eq]; rfl
  have HB10 := Hid_of (bel_up HB9.out hb10 (Nat.le_refl _))
  have haw := awake_any w10
  clear htx hb10 HB9
  go_wp2_with fail
  refine haw.mono ?_
  rintro e w11 ⟨rfl, hb11⟩
  have HB11 := Hid_of (bel_up HB10.out hb11 (Nat.le_refl _))
  clear haw hb11 HB10
  go_wp2
  go_ret
  exact ⟨rfl, HB11.out⟩

end Go.Proofs.Ytgcfpihfoekllaa
