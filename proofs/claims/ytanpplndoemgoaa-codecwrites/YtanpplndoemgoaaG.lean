/-
  The chapter's examples come out as it says, in whatever memory, and nothing that was there is written.
-/
import Derived.Test.YtanpplndoemgoaaF
namespace Go.Proofs.Ytanpplndoemgoaa
open Go.RowKit
set_option linter.unusedVariables false

theorem At.grown {α : Type} {w w' : World} {a : Option Addr} {f : α → Value} {l : List α} {b : Nat} (h : At w a f l) (hg : w.grownBy w' (some b)) (hb : ∀ k, blk a k → k ≠ b) : At w' a f l :=
  h.keepBut fun k hk hk2 => hg.block k hk (by have := hb k hk2; simpa using this)
theorem RS.grown {w w' : World} {b b' : Nat} {st : Option (List UInt8)} (h : RS w b st) (hg : w.grownBy w' (some b')) (hb : b ≠ b') : RS w' b st :=
  h.keep (hg.block b h.lt (by simpa using hb))
theorem RS.below {w w' : World} {b : Nat} {st : Option (List UInt8)} (h : RS w b st) (hb : Below w.heap.size w w') : RS w' b st := h.keep (hb.block b h.lt)
theorem at_one {α : Type} (w : World) (e : TypeId) (f : α → Value) (x : α) : At (w.alloc (.cells #[f x] e)) (some ⟨w.heap.size, 0, none⟩) f [x] := by
  intro j hj
  have hj0 : j = 0 := by simpa using hj
  subst hj0
  exact ⟨w.heap.size, 0, rfl, by rw [cell_of_row _ _ _ _ _ _ (heap_alloc_new w _)]; rfl⟩

theorem enc_small (n : Int) (u : Nat) (h : M.zz n = u) (hu : u < 128) : M.enc n = [UInt8.ofNat u] := by rw [M.enc, h, M.grp_small u hu]
theorem enc_m1 : M.enc (-1) = [1] := enc_small _ 1 (by decide) (by decide)
theorem enc_64 : M.enc 64 = [128, 1] := by
  rw [M.enc, show M.zz 64 = 128 by decide, M.grp_great 128 (by decide), M.grp_small _ (by decide)]; rfl
theorem enc_ab : M.encT [97, 98] = [4, 97, 98] := by
  rw [M.encT, show M.enc (([97, 98] : List UInt8).length : Nat) = [4] from enc_small _ 4 (by decide) (by decide)]; rfl
theorem enc_3 : M.encIs [3] = [2, 6] := by
  rw [M.encIs, show M.enc (([3] : List Int).length : Nat) = [2] from enc_small _ 2 (by decide) (by decide)]
  simp [show M.enc 3 = [6] from enc_small _ 6 (by decide) (by decide)]
theorem laid_ex : M.lay 100 (M.lay 100 (M.lay 100 (M.lay 100 (0, []) (M.enc (-1))) (M.enc 64)) (M.encT [97, 98])) (M.encIs [3]) = (0, [1, 128, 1, 4, 97, 98, 2, 6]) := by
  rw [enc_m1, enc_64, enc_ab, enc_3]; rfl
theorem int_1 : M.int [1, 128, 1, 4, 97, 98, 2, 6] = some (-1, [128, 1, 4, 97, 98, 2, 6]) := by decide
theorem int_2 : M.int [128, 1, 4, 97, 98, 2, 6] = some (64, [4, 97, 98, 2, 6]) := by decide
theorem text_3 : M.text [4, 97, 98, 2, 6] = some ([97, 98], [2, 6]) := by decide
theorem ints_4 : M.ints [2, 6] = some ([3], []) := by decide
theorem int_5 : M.int [128] = none := by decide

set_option maxRecDepth 100000 in
set_option maxHeartbeats 4000000 in
theorem awake_any (w : World) : Calls Try.prog 9 #[] w fun x w' => x = .returned (.bool true) ∧ Below w.heap.size w w' := by
  have HL : Hid (_ = _) := laid_ex
  have hs : ofL [1, 128, 1, 4, 97, 98, 2, 6] = ⟨#[1, 128, 1, 4, 97, 98, 2, 6]⟩ := rfl
  have hab : ofL [97, 98] = ⟨#[97, 98]⟩ := rfl
  go_enter Try.func9, Try.ntmps9
  go_wp2_with fail
  refine (newWriter_any 100 w).mono ?_
  rintro x w1 h
  obtain ⟨b, rfl, hb, hw1, hb1⟩ := h
  have hw1 : WS w1 b none 0 100 (0, []) := hw1
  go_wp2_with fail
  refine (wint_any b none 0 100 _ (-1) w1 hw1 (by decide)).mono ?_
  rintro x w2 ⟨rfl, hq⟩
  obtain ⟨a2, cap2, hw2, hs2⟩ := hq
  go_wp2_with fail
  refine (wint_any b a2 cap2 100 _ 64 w2 hw2 (by decide)).mono ?_
  rintro x w3 ⟨rfl, hq⟩
  obtain ⟨a3, cap3, hw3, hs3⟩ := hq
  have S3 := hs2.trans hs3
  clear hw1 hw2 hs2 hs3
  go_wp2_with fail
  refine (wtext_any b a3 cap3 100 _ [97, 98] w3 hw3 (by decide)).mono ?_
  rintro x w4 ⟨rfl, hq⟩
  obtain ⟨a4, cap4, hw4, hs4⟩ := hq
  have S4 := S3.trans hs4
  have hlt4 := hw4.lt
  clear hw3 hs4 S3
  go_wp2_with fail
  have A5 : Below w4.heap.size w4 (w4.alloc (.cells #[.int .i64 3] 3)) := (Below.refl _ _).alloc (Nat.le_refl _) _
  refine (wints_any b a4 cap4 100 _ (some ⟨w4.heap.size, 0, none⟩) 1 [3] _ (hw4.keep A5) (at_one w4 3 (Value.int .i64) 3) (fun _ k ⟨_, _, h⟩ => by
    simp only [Option.some.injEq, Addr.mk.injEq] at h
    obtain ⟨rfl, _, _⟩ := h
    exact ⟨by omega, fun h => by have := (hw4.inb _ h).2; omega⟩) (by decide) (by simp)).mono ?_
  rintro x w5 ⟨rfl, hq⟩
  obtain ⟨a5, cap5, hw5, hs5⟩ := hq
  rw [HL.out] at hw5
  have S5 := S4.trans ((Step.of_below A5).trans hs5)
  clear hw4 hs5 S4 A5
  have B5 := hb1.trans (S5.below hb (fun k ⟨_, _, h⟩ => by cases h) hb1.size)
  clear S5 hb1
  go_wp2_with fail
  refine (wdone_any b a5 cap5 100 _ w5 hw5).mono ?_
  rintro x w6 ⟨rfl, hb6⟩
  have B6 := B5.trans (hb6.mono B5.size)
  clear hw5 hb6 B5
  simp only
  go_wp2_with fail
  refine (newReader_any [1, 128, 1, 4, 97, 98, 2, 6] w6 (by decide)).mono ?_
  rintro x w7 h
  obtain ⟨r, rfl, hr, hr7, hb7⟩ := h
  have B7 := B6.trans (hb7.mono B6.size)
  have hrw : w.heap.size ≤ r := Nat.le_trans B6.size hr
  clear B6 hb7 hr
  go_wp2_with fail
  refine (int_rs r _ w7 hr7 (by decide)).mono ?_
  rintro x w8 ⟨rfl, hr8, hg8⟩
  simp only [lft, Option.getD_some, int_1, vl, nx, Option.map_some] at hr8 ⊢
  have B8 := B7.trans (below_grown hg8 B7.size (by simp [hrw]))
  clear B7 hg8 hr7
  go_wp2_with fail
  refine (int_rs r _ w8 hr8 (by decide)).mono ?_
  rintro x w9 ⟨rfl, hr9, hg9⟩
  simp only [lft, Option.getD_some, int_2, vl, nx, Option.map_some] at hr9 ⊢
  have B9 := B8.trans (below_grown hg9 B8.size (by simp [hrw]))
  clear B8 hg9 hr8
  go_wp2_with fail
  refine (text_any r _ w9 hr9 (by decide)).mono ?_
  rintro x w10 ⟨rfl, hr10, hg10⟩
  simp only [lft, Option.getD_some, text_3, vl, nx, Option.map_some] at hr10 ⊢
  have B10 := B9.trans (below_grown hg10 B9.size (by simp [hrw]))
  clear B9 hg10 hr9
  go_wp2_with fail
  refine (ints_any r _ w10 hr10 (by decide)).mono ?_
  rintro x w11 h
  obtain ⟨v, rfl, hown, hr11, hg11⟩ := h
  simp only [lft, Option.getD_some, ints_4, vl, nx, Option.map_some] at hr11 hown
  have B11 := B10.trans (below_grown hg11 B10.size (by simp [hrw]))
  obtain ⟨av, capv, rfl, hat, hbv⟩ := owns_at hown
  have hr10lt := hr10.lt
  clear hg11 hr10 hown
  go_wp2_with fail
  refine (newReader_any [128] w11 (by decide)).mono ?_
  rintro x w12 h
  obtain ⟨q, rfl, hq, hq12, hb12⟩ := h
  have B12 := B11.trans (hb12.mono B11.size)
  have hqw : w.heap.size ≤ q := Nat.le_trans B11.size hq
  have hat12 := hat.keep hb12
  have hrlt := hr11.lt
  have hr12 := hr11.below hb12
  have hvlt : ∀ k, blk av k → k < w11.heap.size := by
    intro k ⟨off, s, h⟩
    obtain ⟨b', off', e, hc⟩ := hat 0 (by decide)
    rw [h] at e
    simp only [Option.some.injEq, Addr.mk.injEq] at e
    obtain ⟨rfl, _, _⟩ := e
    exact World.block_lt_of_cell? w11 _ hc
  clear hat hr11 hb12
  go_wp2_with fail
  refine (int_rs q _ w12 hq12 (by decide)).mono ?_
  rintro x w13 ⟨rfl, hq13, hg13⟩
  simp only [lft, Option.getD_some, int_5, vl, nx, Option.map_none] at hq13 ⊢
  have B13 := B12.trans (below_grown hg13 B12.size (by simp [hqw]))
  have hat13 := hat12.grown hg13 (fun k hk => by have := hvlt k hk; omega)
  have hr13 := hr12.grown hg13 (by omega)
  clear hat12 hr12 hg13 hq12 B12 B11 B10
  go_wp2_with fail
  have A14 : Below w13.heap.size w13 (w13.alloc (.cells #[.int .i64 3] 3)) := (Below.refl _ _).alloc (Nat.le_refl _) _
  refine (sameInts_any av capv (some ⟨w13.heap.size, 0, none⟩) 1 [3] _ (by decide) (hat13.keep A14) (at_one w13 3 (Value.int .i64) 3)).mono ?_
  rintro x w14 ⟨rfl, hb14⟩
  have A := A14.trans (hb14.mono A14.size)
  have B14 := B13.trans (A.mono B13.size)
  have hr14 := hr13.below A
  have hq14 := hq13.below A
  clear hat13 hr13 hq13 A A14 hb14
  go_wp2_with fail
  refine (rdone_any r _ w14 hr14 (by decide)).mono ?_
  rintro x w15 ⟨rfl, rfl⟩
  simp only [rdone]
  go_wp2_with fail
  refine (rdone_any q _ w15 hq14 (by decide)).mono ?_
  rintro x w16 ⟨rfl, rfl⟩
  simp only [rdone]
  go_wp2
  go_ret
  exact ⟨rfl, B14⟩

end Go.Proofs.Ytanpplndoemgoaa
