/-
  The chapter's example.
-/
import Derived.Test.YtacfndfkoiifhaaRJ
namespace Go.Proofs.Ytacfndfkoiifhaa
open Go.RowKit
set_option linter.unusedVariables false
open Mb (S)

namespace Mb
def x0 : S := ⟨[1, 2, 3], [9], 1, -1, false, -1⟩
def x1 : S := ⟨[1, 2, 3], [9], 2, 1, false, 2⟩
def x2 : S := ⟨[1, 9, 3], [], 3, 1, true, 2⟩
def x3 : S := ⟨[1, 9, 3], [], 4, -1, false, -1⟩
def x4 : S := ⟨[1, 9, 3], [2], 4, -1, false, -1⟩
theorem aw0 : nw [1, 2, 3] [9] ∧ ¬ nw [1] [] := by unfold nw Gp Ap; decide
theorem aw1 : fc x0 2 1 = 0 ∧ fs x0 2 1 = x1 := ⟨by decide, by rfl⟩
theorem aw2 : fc x1 3 2 = 9 ∧ fs x1 3 2 = x1 := ⟨by decide, by rfl⟩
theorem aw3 : wc x1 2 = 0 ∧ wv x1 2 = 9 ∧ ws x1 2 = x2 := ⟨by decide, by decide, by rfl⟩
theorem aw4 : dc x2 2 = 10 ∧ ds x2 2 = x2 := ⟨by decide, by rfl⟩
theorem aw5 : dc x2 3 = 0 ∧ ds x2 3 = x3 := ⟨by decide, by rfl⟩
theorem aw6 : ac x3 2 = 0 ∧ as' x3 2 = x4 := ⟨by decide, by rfl⟩
theorem aw7 : ac x4 2 = 6 := by decide
theorem g0 : G x0 := G.zero aw0.1
theorem g1 : G x1 := by rw [← aw1.2]; exact g0.fail 2 1
theorem g2 : G x2 := by rw [← aw3.2.2]; exact g1.swap 2
theorem g3 : G x3 := by rw [← aw5.2]; exact g2.done 3
end Mb
theorem at_three {W : World} {n : Nat} {a b c : Int} (h : W.heap[n]? = some (.cells #[.int .i64 a, .int .i64 b, .int .i64 c] 3 (0, 0))) : AtL il W (some ⟨n, 0, none⟩) [a, b, c] := by
  intro j hj
  refine ⟨n, 0, rfl, fun o ho => ?_⟩
  have ho' : o = 0 := by simp [il] at ho; omega
  subst ho'
  rw [cell_of_row W n _ _ _ _ h]
  simp only [List.length_cons, List.length_nil] at hj
  match j, hj with
  | 0, _ => rfl
  | 1, _ => rfl
  | 2, _ => rfl
set_option maxRecDepth 100000 in
set_option maxHeartbeats 4000000 in
theorem awake_any (w : World) : Calls Try.prog 9 #[] w fun e w' => e = .returned (.bool true) ∧ Below w.heap.size w w' := by
  have hb1 := bel1 w (.cells #[.int .i64 1, .int .i64 2, .int .i64 3] 3)
  have hb2 := bel_up hb1 (bel1 (w.alloc (.cells #[.int .i64 1, .int .i64 2, .int .i64 3] 3)) (.cells #[.int .i64 9] 3)) (Nat.le_refl _)
  have hr1 := bel_row (heap_alloc_last w (.cells #[.int .i64 1, .int .i64 2, .int .i64 3] 3)) (bel1 (w.alloc (.cells #[.int .i64 1, .int .i64 2, .int .i64 3] 3)) (.cells #[.int .i64 9] 3))
  have hr2 := heap_alloc_last (w.alloc (.cells #[.int .i64 1, .int .i64 2, .int .i64 3] 3)) (.cells #[.int .i64 9] 3)
  have hnew := newG_any (w0 := w) hb2 (some ⟨w.heap.size, 0, none⟩) 3 [1, 2, 3] (some ⟨(w.alloc (.cells #[.int .i64 1, .int .i64 2, .int .i64 3] 3)).heap.size, 0, none⟩) 1 [9] (by simp) (by simp) (at_three hr1) (at_int1 hr2)
  rw [show (w.alloc (.cells #[.int .i64 1, .int .i64 2, .int .i64 3] 3)).heap.size = w.heap.size + 1 by simp] at hnew
  simp only [List.length_cons, List.length_nil, Nat.zero_add, Nat.reduceAdd] at hnew
  have HB2 := Hid_of hb2
  clear hb1 hb2 hr1 hr2
  go_enter Try.func9, Try.ntmps9
  go_wp2_with fail
  refine hnew.mono ?_
  rintro e w1 ⟨hw1, hcase⟩
  have HB1 := Hid_of (bel_up HB2.out hw1 (Nat.le_refl _))
  clear hnew hw1 HB2
  rcases hcase with ⟨-, b, va, vb, rfl, hg, -⟩ | ⟨hn, -⟩
  case inr => exact absurd Mb.aw0.1 hn
  have HG : Hid (GS w w1 b va vb Mb.x0) := Hid_of hg
  have hb1' := bel1 w1 (.cells #[.int .i64 1] 3)
  have hnew2 := newG_any (w0 := w1) hb1' (some ⟨w1.heap.size, 0, none⟩) 1 [1] none 0 [] (by simp) (by simp) (at_int1 (heap_alloc_last w1 (.cells #[.int .i64 1] 3))) (AtL.nil _ _)
  have HB1' := Hid_of hb1'
  clear hg hb1'
  go_wp2_with fail
  refine hnew2.mono ?_
  rintro e w2 ⟨hw2, hcase⟩
  rcases hcase with ⟨hn, -⟩ | ⟨-, rfl⟩
  case inl => exact absurd hn Mb.aw0.2
  have HG2 := Hid_of (HG.out.keep (bel_up HB1'.out hw2 (Nat.le_refl _)))
  have hc := HG2.out.fail (by decide) 2 1
  rw [Mb.aw1.1, Mb.aw1.2] at hc
  clear hw2 hnew2 HG HB1 HB1'
  go_wp2_with fail
  refine hc.mono ?_
  rintro e w3 ⟨rfl, v3, h3, -⟩
  have HG3 := Hid_of h3
  have hc3 := h3.fail (by decide) 3 2
  rw [Mb.aw2.1, Mb.aw2.2] at hc3
  clear h3 hc HG2
  go_wp2_with fail
  refine hc3.mono ?_
  rintro e w4 ⟨rfl, v4, h4, -⟩
  have hc4 := h4.swap (by decide) 2
  rw [Mb.aw3.1, Mb.aw3.2.1, Mb.aw3.2.2] at hc4
  clear h4 hc3 HG3
  go_wp2_with fail
  refine hc4.mono ?_
  rintro e w5 ⟨rfl, v5, h5, -⟩
  have HG5 := Hid_of h5
  have hc5 := h5.servers
  clear h5 hc4
  go_wp2_with fail
  refine hc5.mono ?_
  rintro e w6 ⟨rfl, ho6, hb6⟩
  have HO6 := Hid_of ho6
  have HG6 := Hid_of (HG5.out.keep hb6)
  have HLT6 : Hid (∀ k, fpm b va v5 k → k < w5.heap.size) := Hid_of fun k hk => (HG5.out.mine k hk).2
  have hc6 := HG6.out.done (by decide) 2
  rw [Mb.aw4.1, Mb.aw4.2] at hc6
  clear ho6 hb6 hc5 HG5
  go_wp2_with fail
  refine hc6.mono ?_
  rintro e w7 ⟨rfl, v7, h7, f7⟩
  have HO7 : Hid (OwnL il 3 w7 w5.heap.size (.slice (some ⟨w5.heap.size, 0, none⟩) Mb.x2.l.length Mb.x2.l.length) Mb.x2.l) := Hid_of (HO6.out.keepBut fun k hk e => f7.block k hk (fun hf => by have := HLT6.out k hf; simp [Value.ownBlock] at e; omega))
  have HN7 : Hid (∀ k, fpm b va v7 k → k ≠ w5.heap.size) := Hid_of fun k hk e => by
    rcases f7.n k hk with h | h
    · have := HLT6.out k h; omega
    · have := (HO6.out.lt (b := w5.heap.size) rfl).2; omega
  have hc7 := h7.done (by decide) 3
  rw [Mb.aw5.1, Mb.aw5.2] at hc7
  clear h7 f7 hc6 HO6 HG6 HLT6
  go_wp2_with fail
  refine hc7.mono ?_
  rintro e w8 ⟨rfl, v8, h8, f8⟩
  have HO8 : Hid (OwnL il 3 w8 w5.heap.size (.slice (some ⟨w5.heap.size, 0, none⟩) Mb.x2.l.length Mb.x2.l.length) Mb.x2.l) := Hid_of (HO7.out.keepBut fun k hk e => f8.block k hk (fun hf => by have := HN7.out k hf; simp [Value.ownBlock] at e; omega))
  have HG8 := Hid_of h8
  have hc8 := h8.text (by decide)
  clear h8 f8 hc7 HO7 HN7
  go_wp2_with fail
  refine hc8.mono ?_
  rintro e w9 ⟨rfl, hb9⟩
  have HG9 := Hid_of (HG8.out.keep hb9)
  have HO9 := Hid_of (HO8.out.keep hb9)
  have hc9 := readG_any (w0 := w9) (Below.refl _ _) (Mb.txt Mb.x3) (by have := (Mb.t_len Mb.g3 (by decide)).2.2.2.2.2.1; omega)
  clear hb9 hc8 HG8 HO8
  go_wp2_with fail
  refine hc9.mono ?_
  rintro e w10 ⟨hb10, hcase⟩
  have ht := Mb.tell_txt Mb.g3 (by decide)
  rcases hcase with ⟨bx, xa, xb, htl, rfl, hgx, -⟩ | ⟨hn, -⟩
  case inr => exact absurd ⟨_, ht⟩ hn
  rw [Mb.tell_one htl ht] at hgx
  have HG10 := Hid_of (HG9.out.keep hb10)
  have HX10 := Hid_of hgx
  have HO10 := Hid_of (HO9.out.keep hb10)
  have hbz := bel1 w10 (.cells #[.int .i64 1, .int .i64 9, .int .i64 3] 3)
  obtain ⟨ao, co, hao, hxo, -⟩ := (HO10.out.keep hbz).at
  simp only [Value.slice.injEq] at hao
  obtain ⟨rfl, -, rfl⟩ := hao
  have hsame := same_any (c1 := 3) (c2 := 3) (l := [1, 9, 3]) (by simp) hxo.at' (at_three (heap_alloc_last w10 (.cells #[.int .i64 1, .int .i64 9, .int .i64 3] 3)))
  have HBZ := Hid_of hbz
  clear htl hgx hb10 hc9 HG9 HO9 hbz hxo ht
  go_wp2_with fail
  refine hsame.mono ?_
  rintro e w11 ⟨rfl, hb11⟩
  have HB11 := Hid_of (bel_up HBZ.out hb11 (Nat.le_refl _))
  have HG11 := Hid_of (HG10.out.keep HB11.out)
  have HX11 := Hid_of (HX10.out.keep HB11.out)
  have hc11 := HG11.out.epoch
  clear hsame hb11 HBZ HO10 HG10 HX10
  go_wp2_with fail
  refine hc11.mono ?_
  rintro e w12 ⟨rfl, hw12⟩
  subst w12
  have hc12 := HG11.out.hole
  clear hc11
  go_wp2_with fail
  refine hc12.mono ?_
  rintro e w12 ⟨rfl, hw12⟩
  subst w12
  have hc13 := HG11.out.spares
  clear hc12
  go_wp2_with fail
  refine hc13.mono ?_
  rintro e w13 ⟨rfl, ho13, hb13⟩
  have HG13 := Hid_of (HG11.out.keep hb13)
  have HX13 := Hid_of (HX11.out.keep hb13)
  have hc14 := HX13.out.epoch
  clear hc13 ho13 hb13 HG11 HX11
  go_wp2_with fail
  refine hc14.mono ?_
  rintro e w14 ⟨rfl, hw14⟩
  subst w14
  have hc15 := HG13.out.add 2
  rw [Mb.aw6.1, Mb.aw6.2] at hc15
  clear hc14 HX13
  go_wp2_with fail
  refine hc15.mono ?_
  rintro e w15 ⟨rfl, v15, h15, -⟩
  have hc16 := h15.add 2
  rw [Mb.aw7] at hc16
  clear hc15 h15 HG13
  go_wp2_with fail
  refine hc16.mono ?_
  rintro e w16 ⟨rfl, v16, h16, -⟩
  have HB16 := Hid_of h16.bel
  clear hc16 h16
  go_wp2
  go_ret
  exact ⟨rfl, HB16.out⟩
end Go.Proofs.Ytacfndfkoiifhaa
