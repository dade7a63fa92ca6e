/- The chapter example. -/
import Derived.Test.YtgcfpihfoekllaaAI

namespace Go.Proofs.Ytgcfpihfoekllaa

open Go.RowKit

set_option linter.unusedVariables false

open Sm (S)

/-! The chapter's example. -/
abbrev x1 : S := ⟨1, 1, 1, 10, [5, 6, 7]⟩
abbrev x2 : S := ⟨2, 1, 1, 10, [5, 6, 7]⟩
abbrev x3 : S := ⟨2, 1, 1, 10, [5, 9, 7]⟩
abbrev x4 : S := ⟨3, 1, 1, 10, [5, 9, 7]⟩
theorem idsOut_one {w : World} {x : Int} {e : Ending} {w' : World} (h : IdsOut w [x] e w') : ∃ a c, e = .returned (.slice a 1 c) ∧ AtL il w' a [x] ∧ (∀ k, blk a k → w.heap.size ≤ k ∧ k < w'.heap.size) ∧ Below w.heap.size w w' := by
  obtain ⟨u, rfl, ho, hb⟩ := h
  obtain ⟨a, c, hv, hx, hk⟩ := ho.at
  exact ⟨a, c, by rw [hv]; rfl, hx.at', fun k hb' => ⟨(hk k hb').1, (hk k hb').2.2⟩, hb⟩
set_option maxRecDepth 100000 in
set_option maxHeartbeats 4000000 in
theorem awake_any (w : World) : Calls Try.prog 9 #[] w fun e w' => e = .returned (.bool true) ∧ Below w.heap.size w w' := by
  have hnw := new_any w
  obtain ⟨bm, hbm⟩ : ∃ bm, w.heap.size = bm := ⟨_, rfl⟩
  go_enter Try.func9, Try.ntmps9
  go_wp2_with fail
  refine hnw.mono ?_
  rintro e w1 ⟨rfl, hb1, hm1⟩
  have HI1 : Hid (AwI w w1 w.heap.size (fun _ => False) []) := Hid_of ⟨hb1, _, MM.none hm1, fun k hk => hk.elim⟩
  have hb2 := bel1 w1 (.cells #[.int .i64 5, .int .i64 6, .int .i64 7] 3)
  have hr2 := own_row (base := 0) (w := w1.alloc (.cells #[.int .i64 5, .int .i64 6, .int .i64 7] 3)) (g := w1.heap.size) (l := [5, 6, 7]) (heap_alloc_last w1 _) (Nat.zero_le _) (by simp)
  obtain ⟨a2, c2, hv2, hx2, _⟩ := hr2.at
  simp only [Value.slice.injEq, List.length_cons, List.length_nil] at hv2
  obtain ⟨hv2, -, -⟩ := hv2
  subst hv2
  rw [hbm] at HI1 ⊢
  have hbg := (HI1.out.keep hb2).begin 1 1 10 (some ⟨w1.heap.size, 0, none⟩) 3 [5, 6, 7] (by decide) (by simp) hx2.at'
  rw [show Sm.bv [] ⟨1, 1, 1, 10, [5, 6, 7]⟩ = 0 from rfl, show Sm.bc [] ⟨1, 1, 1, 10, [5, 6, 7]⟩ = 0 from rfl, show Sm.bm [] ⟨1, 1, 1, 10, [5, 6, 7]⟩ = [x1] from rfl] at hbg
  simp only [List.length_cons, List.length_nil] at hbg
  clear hnw hb1 hm1 hb2 hr2 hx2 HI1 hbm
  go_wp2_with fail
  refine hbg.mono ?_
  rintro e w3 ⟨rfl, h3, -⟩
  have hc := h3.commit 0 1
  rw [show Sm.cc [x1] 0 1 = 0 from rfl, show Sm.cm [x1] 0 1 = [x2] from rfl] at hc
  clear hbg h3
  go_wp2_with fail
  refine hc.mono ?_
  rintro e w4 ⟨rfl, h4, -⟩
  have hc2 := h4.commit 0 1
  rw [show Sm.cc [x2] 0 1 = 16 from rfl, show Sm.cm [x2] 0 1 = [x2] from rfl] at hc2
  clear hc h4
  go_wp2_with fail
  refine hc2.mono ?_
  rintro e w5 ⟨rfl, h5, -⟩
  have HI5 := Hid_of h5
  have hg := h5.get 0
  clear hc2 h5
  go_wp2_with fail
  refine hg.mono ?_
  rintro e w6 ⟨hb6, hcase⟩
  obtain ⟨s6, a6, c6, hat6, rfl, ho6⟩ : ∃ s a c, Sm.at' [x2] 0 = some s ∧ e = .returned (.tuple #[eV ⟨0, s, a, c⟩, .bool true]) ∧ OwnL il 3 w6 w5.heap.size (.slice a s.l.length c) s.l := by
    rcases hcase with ⟨q, _⟩ | q
    · exact absurd q (by decide)
    · exact q
  have hs6 : s6 = x2 := by
    have : some x2 = some s6 := hat6
    exact (Option.some.inj this).symm
  subst hs6
  obtain ⟨W7, hW7⟩ : ∃ W7, Hid (w6.alloc (.cells #[.int .i64 0, .int .i64 2, .int .i64 1, .int .i64 1, .int .i64 10, .slice a6 3 c6] 34) = W7) := ⟨_, rfl⟩
  have hb7 := bel1 w6 (.cells #[.int .i64 0, .int .i64 2, .int .i64 1, .int .i64 1, .int .i64 10, .slice a6 3 c6] 34)
  have hr7 := heap_alloc_last w6 (.cells #[.int .i64 0, .int .i64 2, .int .i64 1, .int .i64 1, .int .i64 10, .slice a6 3 c6] 34)
  rw [hW7.out] at hb7 hr7
  have hI7 := (HI5.out.keep hb6).more hb7
  obtain ⟨B7, hB7⟩ : ∃ B7, Hid (w6.heap.size = B7) := ⟨_, rfl⟩
  rw [hB7.out] at hr7
  have hI7 := hI7.sub (K' := fun k => k = B7) (fun k hk => .inr (by subst hk; rw [← hB7.out]; exact ⟨Nat.le_refl _, by rw [← hW7.out]; simp⟩))
  have HR7 := Hid_of hr7
  have hmv := hI7.move 0 1 9
  rw [show Sm.mc [x2] 0 1 9 = 0 from rfl, show Sm.mm [x2] 0 1 9 = [x3] from rfl] at hmv
  clear hg hb6 hcase hat6 ho6 HI5 hb7 hr7 hI7
  go_wp2_with fail
  rw [hW7.out, hB7.out]
  refine hmv.mono ?_
  rintro e w8 ⟨rfl, h8, hk8⟩
  have HR8 := Hid_of ((hk8.2 B7 rfl).trans HR7.out)
  have HI8 := Hid_of h8
  have hon := h8.on 9
  rw [show Sm.onSv [x3] 9 = [0] from rfl] at hon
  clear hmv h8 hk8 hW7 hB7 HR7
  go_wp2_with fail
  refine hon.mono ?_
  intro e w9 ho9
  obtain ⟨a9, c9, rfl, hx9, hk9, hb9⟩ := idsOut_one ho9
  have HI9 := Hid_of (HI8.out.more hb9)
  have HR9 := Hid_of (bel_row HR8.out hb9)
  have HX9 := Hid_of hx9
  have HK9 := Hid_of hk9
  have hfr := HI9.out.free 0
  rw [show Sm.fc [x3] 0 = 0 from rfl, show Sm.fm [x3] 0 = [x4] from rfl] at hfr
  clear hon ho9 hx9 hk9 hb9 HI8 HR8
  go_wp2_with fail
  refine hfr.mono ?_
  rintro e w10 ⟨rfl, h10, hk10⟩
  have HR10 := Hid_of ((hk10.2 B7 (.inl rfl)).trans HR9.out)
  have HX10 := Hid_of (HX9.out.sk (fun k hk => .inr (HK9.out k hk)) hk10)
  have HI10 := Hid_of h10
  have htx := h10.text
  clear hfr h10 hk10 HI9 HR9 HX9 HK9
  go_wp2_with fail
  refine htx.mono ?_
  rintro e w11 ⟨rfl, hb11⟩
  have HI11 := Hid_of (HI10.out.keep hb11)
  have HR11 := Hid_of (bel_row HR10.out hb11)
  have HX11 := Hid_of (HX10.out.keep hb11)
  have hrd := read_any (Sm.txt [x4]) w11 (by decide)
  clear htx hb11 HI10 HR10 HX10
  go_wp2_with fail
  refine hrd.mono ?_
  rintro e w12 ⟨hb12, hcase⟩
  obtain ⟨bx, Fx, accx, hT, rfl, hMx⟩ : ∃ bm F acc, Sm.Tell (Sm.txt [x4]) acc ∧ e = .returned (.tuple #[.pointer (some ⟨bm, 0, none⟩), .int .i64 0]) ∧ MM w12 w11.heap.size bm F acc := by
    rcases hcase with q | ⟨q, _⟩
    · exact q
    · exact absurd ⟨[x4], HI11.out.g, rfl⟩ q
  have hac : accx = [x4] := Sm.tell_one hT ⟨HI11.out.g, rfl⟩
  subst hac
  have HI12 := Hid_of (HI11.out.keep hb12)
  have HXI : Hid (AwI w w12 bx (fun _ => False) [x4]) := Hid_of (AwI.new HI11.out.1 hb12 hMx (fun k hk => hk.elim))
  have HR12 := Hid_of (bel_row HR11.out hb12)
  have HX12 := Hid_of (HX11.out.keep hb12)
  clear hrd hcase hT hMx hb12 HI11 HR11 HX11
  obtain ⟨⟨k0, k1, k2, k3, k4, k5⟩, _⟩ := row_cells (y := ⟨0, x2, a6, c6⟩) HR12.out
  have hb13 := bel1 w12 (.cells #[.int .i64 0] 3)
  have hin := ints_one (c := c9) (HX12.out.keep hb13) (heap_alloc_last w12 (.cells #[.int .i64 0] 3))
  have HB13 := Hid_of hb13
  clear hb13
  go_wp2_with fail
  refine hin.mono ?_
  rintro e w14 ⟨rfl, hb14⟩
  have HB14 := Hid_of (bel_up HB13.out hb14 (Nat.le_refl _))
  have hls := (HXI.out.keep HB14.out).list 3
  rw [show Sm.ofSt [x4] 3 = [0] from rfl] at hls
  clear hin hb14 HB13 HX12 HR12 k0 k1 k2 k3 k4 k5
  go_wp2_with fail
  refine hls.mono ?_
  intro e w15 ho15
  obtain ⟨a15, c15, rfl, hx15, hk15, hb15⟩ := idsOut_one ho15
  have HB15 := Hid_of (bel_up HB14.out hb15 (Nat.le_refl _))
  have hb16 := bel1 w15 (.cells #[.int .i64 0] 3)
  have hin := ints_one (c := c15) (hx15.keep hb16) (heap_alloc_last w15 (.cells #[.int .i64 0] 3))
  have HB16 := Hid_of (bel_up HB15.out hb16 (Nat.le_refl _))
  clear hls ho15 hx15 hk15 hb15 hb16 HB14 HB15
  go_wp2_with fail
  refine hin.mono ?_
  rintro e w17 ⟨rfl, hb17⟩
  have hcm := (HI12.out.keep (bel_up HB16.out hb17 (Nat.le_refl _))).commit 1 1
  rw [show Sm.cc [x4] 1 1 = 7 from rfl, show Sm.cm [x4] 1 1 = [x4] from rfl] at hcm
  clear hin hb17 HB16 HXI HI12
  go_wp2_with fail
  refine hcm.mono ?_
  rintro e w18 ⟨rfl, h18, hk18⟩
  have HQ := Hid_of h18.1
  clear hcm h18 hk18
  go_wp2
  go_ret
  exact ⟨rfl, HQ.out⟩

end Go.Proofs.Ytgcfpihfoekllaa
