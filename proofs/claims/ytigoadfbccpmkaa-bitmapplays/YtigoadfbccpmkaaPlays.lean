/-
  Proved: for every number and deeds the law BitmapPlays of the program returns true, and the arguments read as they did.
-/
import Derived.Test.YtigoadfbccpmkaaL
import Derived.Test.YtigoadfbccpmkaaR
import Derived.Test.YtigoadfbccpmkaaW
import Derived.Test.YtigoadfbccpmkaaX
import Derived.Deep.RegionHeld3
import Derived.ShutString
import Derived.OpenShut
namespace Go.Proofs.Ytigoadfbccpmkaa
open Go.ChangeShapes Go.WideShapes Go.ChangeAt Go.RowKit
open Go.ChangeMaps (open_string shut_string)
set_option linter.unusedVariables false

theorem At.alloc {α : Type} {w : World} {a : Option Addr} {f : α → Value} {l : List α} (h : At w a f l) (o : Obj) : At (w.alloc o) a f l := h.keep ((Below.refl w.heap.size w).alloc (Nat.le_refl _) o)
theorem row3 {w : World} {k : Nat} {v0 v1 v2 : Value} {t : TypeId} (h : w.heap[k]? = some (.cells #[v0, v1, v2] t (0, 0))) :
    w.cell? ⟨k, 0, none⟩ = some v0 ∧ w.cell? ⟨k, 1, none⟩ = some v1 ∧ w.cell? ⟨k, 2, none⟩ = some v2 :=
  ⟨by rw [cell_of_row w k 0 _ _ _ h]; rfl, by rw [cell_of_row w k 1 _ _ _ h]; rfl, by rw [cell_of_row w k 2 _ _ _ h]; rfl⟩
/-- Both maps, the program's at b and the document's, are alike. -/
structure Two (W wr : World) (b N : Nat) (f : Nat → Bool) (a : Option Addr) : Prop where
  m : MIs wr b N f
  x : At wr a Value.bool (bl N f)
  ne : ∀ k, blk a k → k ≠ b
  bel : Below W.heap.size W wr
  low : W.heap.size ≤ b
theorem Two.step {W wr wr' : World} {b N : Nat} {f : Nat → Bool} {a : Option Addr} (h : Two W wr b N f a) (hb : Below wr.heap.size wr wr') : Two W wr' b N f a :=
  ⟨h.m.below hb, h.x.keep hb, h.ne, h.bel.trans (hb.mono h.bel.size), h.low⟩
/-- The document's map is changed first, then the program's. -/
theorem Two.change {W wr w2 w3 : World} {b N : Nat} {f f' : Nat → Bool} {a : Option Addr} {cap : Nat} {v : Value} (h : Two W wr b N f a) (hb : Below wr.heap.size wr w2) (hr : RRes wr w2 a cap v N f f') (hm : MIs w3 b N f') (hg : w2.grownBy w3 (some b)) :
    ∃ a' cap', v = .slice a' N cap' ∧ Two W w3 b N f' a' := by
  have h2 := h.step hb
  rcases hr with ⟨rfl, rfl⟩ | ⟨a', cap', rfl, hat, hbk⟩
  · exact ⟨a, cap, rfl, hm, h2.x.keepBut (fun k hk hkb => hg.block k hk (by simp; exact h.ne k hkb)), h.ne, bgrow h2.bel (Nat.le_refl _) h.low hg, h.low⟩
  · have hne : ∀ k, blk a' k → k ≠ b := fun k hk => by have := hbk k hk; have := h.m.lt; omega
    exact ⟨a', cap', rfl, hm, hat.keepBut (fun k hk hkb => hg.block k hk (by simp; exact hne k hkb)), hne, bgrow h2.bel (Nat.le_refl _) h.low hg, h.low⟩

set_option maxRecDepth 100000 in
set_option maxHeartbeats 20000000 in
theorem plays_walk (n : Int) (a : Option Addr) (cap : Nat) (l : List Dd) (w : World) (hl : l.length ≤ maxLen) (hd : Dds w a l) :
    Calls Try.prog 3 #[.int .i64 n, .slice a l.length cap] w fun e w' => e = .returned (.bool true) ∧ Below w.heap.size w w' := by
  by_cases h60 : 60 < l.length
  · go_enter Try.func3, Try.ntmps3
    go_wp2_with fail
    refine (awake_any _).mono ?_
    rintro x w1 ⟨rfl, hb⟩
    go_wp2
    go_ret
    exact ⟨rfl, hb⟩
  · have hN := sz_le n
    have h60' : l.length ≤ 60 := by omega
    go_enter Try.func3, Try.ntmps3
    go_wp2_with fail
    refine (new_any n w).mono ?_
    rintro e w1 h
    obtain ⟨b, rfl, hb, m1, B1⟩ := h
    go_wp2_with fail
    refine (refNew_any n w1).mono ?_
    rintro e w2 h
    obtain ⟨v2, rfl, ⟨a2, cap2, rfl, at2, ne2⟩, B2⟩ := h
    have T2 : Two w w2 b (sz n) M.nof a2 := ⟨m1.below B2, at2, fun k hk => by have := ne2 k hk; have := m1.lt; omega, B1.trans (B2.mono B1.size), hb⟩
    clear m1 B1 at2 ne2 B2
    generalize sz n = N at *
    go_wp2
    go_loopw [6, 7] (fun x i wr => ∃ (j : Nat) (f : Nat → Bool) (a' : Option Addr) (cap' : Nat), j ≤ l.length ∧ i = .int .i64 j ∧ x = .slice a' N cap' ∧ Two w wr b N f a') (fun _ i _ => l.length - (intOf i).toNat)
    case atStart => exact ⟨0, _, _, _, by omega, rfl, rfl, T2⟩
    case round =>
      obtain ⟨j, f, ax, cx, hj, rfl, rfl, T3⟩ := hrel
      clear T2
      by_cases hlt : j < l.length
      · obtain ⟨bb, off, rfl, c0, c1, c2⟩ := (hd.keep T3.bel) j hlt
        have HD : Hid (∀ w', Below w.heap.size w w' → w'.cell? ⟨bb, off + j * 3 + 1, none⟩ = some (.int .i64 l[j].a) ∧ w'.cell? ⟨bb, off + j * 3 + 2, none⟩ = some (.int .i64 l[j].n)) := by
          intro w' hb'
          obtain ⟨b', off', e', q0, q1, q2⟩ := (hd.keep hb') j hlt
          cases e'
          exact ⟨q1, q2⟩
        generalize l[j].k = dk at *
        generalize l[j].a = da at *
        generalize l[j].n = dn at *
        clear hd
        by_cases k0 : dk = 0
        · subst k0
          have hT4 := T3.step ((Below.refl wr.heap.size wr).alloc (Nat.le_refl _) (.cells #[.int .i64 0, .int .i64 da, .int .i64 dn] 29))
          go_wp2_with fail
          refine (refSet_any N f ax cx da true _ hN hT4.x).mono ?_
          rintro e w4 h4
          obtain ⟨hb4, v4, rfl, r4⟩ := h4.res
          obtain ⟨d0, d1, d2⟩ := row3 ((hb4.block wr.heap.size (by simp)).trans (heap_alloc_last wr _))
          have m4 := (hT4.step hb4).m
          go_wp2_with fail
          refine (set_any b N f da true _ m4).mono ?_
          rintro e w5 ⟨rfl, m5, g5⟩
          obtain ⟨ay, cy, rfl, T6⟩ := hT4.change hb4 r4 m5 g5
          clear T3 hT4 hb4 r4 d0 d1 d2 m4 m5 g5 h4 c0 c1 c2
          generalize setf N f da true = g at *
          generalize inb N da = q0 at *
          have HS : Hid (∀ w', Below w5.heap.size w5 w' → w'.cell? ⟨bb, off + j * 3 + 1, none⟩ = some (.int .i64 da) ∧ w'.cell? ⟨bb, off + j * 3 + 2, none⟩ = some (.int .i64 dn)) := fun w' hb' => HD.out w' (T6.bel.trans (hb'.mono T6.bel.size))
          have HM : Hid (∀ w', Below w5.heap.size w5 w' → Two w w' b N g ay) := fun w' hb' => T6.step hb'
          obtain ⟨q1, q2⟩ := HS.out w5 (Below.refl _ _)
          clear HD T6
          go_wp2_with fail
          go_region_held3 (fun wq => wq.cell? ⟨bb, off + j * 3 + 1, none⟩ = some (.int .i64 da) ∧ wq.cell? ⟨bb, off + j * 3 + 2, none⟩ = some (.int .i64 dn)) (first | exact HS.out _ (Below.refl _ _) | exact HS.out _ (by assumption) | exact HS.out _ (Below.drew (Below.refl _ _)) | exact HS.out _ (Below.drew (by assumption))) (first
            | (go_at_call 17; refine (get_any b N g da _ (HM.out _ (Below.drew (Below.refl _ _))).m).mono ?_; rintro e w6 ⟨rfl, rfl⟩)
            | (go_at_call 18; refine (refGet_any N g ay cy da _ hN (HM.out _ (Below.drew (Below.refl _ _))).x).mono ?_; rintro e w7 ⟨rfl, rfl⟩)
            | (go_at_call 19; refine (find_any b N g dn _ (HM.out _ (Below.drew (Below.refl _ _))).m).mono ?_; rintro e w8 ⟨rfl, hb8⟩; have B8 : Below w5.heap.size w5 w8 := Below.trans (Below.drew (Below.refl _ _)) hb8; clear hb8)
            | (go_at_call 20; refine (refFind_any N g ay cy dn _ hN (HM.out _ (by first | exact B8 | exact B8.drew)).x).mono ?_; rintro e w9 ⟨rfl, hb9⟩; have B9 : Below w5.heap.size w5 w9 := B8.trans (hb9.mono B8.size); clear hb9))
          all_goals
            have T9 : Hid (Two w w9 b N g ay) := HM.out _ B9
            clear HS HM q1 q2
            go_wp2
            go_roundw
            case rel => exact ⟨j + 1, g, ay, cy, by omega, by go_num, rfl, T9.out⟩
            case measure => simp [intOf]; omega
        by_cases k1 : dk = 1
        · subst k1
          have hT4 := T3.step ((Below.refl wr.heap.size wr).alloc (Nat.le_refl _) (.cells #[.int .i64 1, .int .i64 da, .int .i64 dn] 29))
          go_wp2_with fail
          refine (refSet_any N f ax cx da false _ hN hT4.x).mono ?_
          rintro e w4 h4
          obtain ⟨hb4, v4, rfl, r4⟩ := h4.res
          obtain ⟨d0, d1, d2⟩ := row3 ((hb4.block wr.heap.size (by simp)).trans (heap_alloc_last wr _))
          have m4 := (hT4.step hb4).m
          go_wp2_with fail
          refine (set_any b N f da false _ m4).mono ?_
          rintro e w5 ⟨rfl, m5, g5⟩
          obtain ⟨ay, cy, rfl, T6⟩ := hT4.change hb4 r4 m5 g5
          clear T3 hT4 hb4 r4 d0 d1 d2 m4 m5 g5 h4 c0 c1 c2
          generalize setf N f da false = g at *
          generalize inb N da = q0 at *
          have HS : Hid (∀ w', Below w5.heap.size w5 w' → w'.cell? ⟨bb, off + j * 3 + 1, none⟩ = some (.int .i64 da) ∧ w'.cell? ⟨bb, off + j * 3 + 2, none⟩ = some (.int .i64 dn)) := fun w' hb' => HD.out w' (T6.bel.trans (hb'.mono T6.bel.size))
          have HM : Hid (∀ w', Below w5.heap.size w5 w' → Two w w' b N g ay) := fun w' hb' => T6.step hb'
          obtain ⟨q1, q2⟩ := HS.out w5 (Below.refl _ _)
          clear HD T6
          go_wp2_with fail
          go_region_held3 (fun wq => wq.cell? ⟨bb, off + j * 3 + 1, none⟩ = some (.int .i64 da) ∧ wq.cell? ⟨bb, off + j * 3 + 2, none⟩ = some (.int .i64 dn)) (first | exact HS.out _ (Below.refl _ _) | exact HS.out _ (by assumption) | exact HS.out _ (Below.drew (Below.refl _ _)) | exact HS.out _ (Below.drew (by assumption))) (first
            | (go_at_call 17; refine (get_any b N g da _ (HM.out _ (Below.drew (Below.refl _ _))).m).mono ?_; rintro e w6 ⟨rfl, rfl⟩)
            | (go_at_call 18; refine (refGet_any N g ay cy da _ hN (HM.out _ (Below.drew (Below.refl _ _))).x).mono ?_; rintro e w7 ⟨rfl, rfl⟩)
            | (go_at_call 19; refine (find_any b N g dn _ (HM.out _ (Below.drew (Below.refl _ _))).m).mono ?_; rintro e w8 ⟨rfl, hb8⟩; have B8 : Below w5.heap.size w5 w8 := Below.trans (Below.drew (Below.refl _ _)) hb8; clear hb8)
            | (go_at_call 20; refine (refFind_any N g ay cy dn _ hN (HM.out _ (by first | exact B8 | exact B8.drew)).x).mono ?_; rintro e w9 ⟨rfl, hb9⟩; have B9 : Below w5.heap.size w5 w9 := B8.trans (hb9.mono B8.size); clear hb9))
          all_goals
            have T9 : Hid (Two w w9 b N g ay) := HM.out _ B9
            clear HS HM q1 q2
            go_wp2
            go_roundw
            case rel => exact ⟨j + 1, g, ay, cy, by omega, by go_num, rfl, T9.out⟩
            case measure => simp [intOf]; omega
        by_cases k2 : dk = 2
        · subst k2
          have hT4 := T3.step ((Below.refl wr.heap.size wr).alloc (Nat.le_refl _) (.cells #[.int .i64 2, .int .i64 da, .int .i64 dn] 29))
          go_wp2_with fail
          refine (refTake_any N f ax cx da _ hN hT4.x).mono ?_
          rintro e w4 h4
          obtain ⟨hb4, v4, rfl, r4⟩ := h4
          obtain ⟨d0, d1, d2⟩ := row3 ((hb4.block wr.heap.size (by simp)).trans (heap_alloc_last wr _))
          have m4 := (hT4.step hb4).m
          go_wp2_with fail
          refine (take_any b N f da _ m4).mono ?_
          rintro e w5 ⟨rfl, m5, g5⟩
          obtain ⟨ay, cy, rfl, T6⟩ := hT4.change hb4 r4 m5 g5
          clear T3 hT4 hb4 r4 d0 d1 d2 m4 m5 g5 c0 c1 c2
          generalize takf N f da = g at *
          generalize takp N f da = tp at *
          generalize take N f da = te at *
          have HS : Hid (∀ w', Below w5.heap.size w5 w' → w'.cell? ⟨bb, off + j * 3 + 1, none⟩ = some (.int .i64 da) ∧ w'.cell? ⟨bb, off + j * 3 + 2, none⟩ = some (.int .i64 dn)) := fun w' hb' => HD.out w' (T6.bel.trans (hb'.mono T6.bel.size))
          have HM : Hid (∀ w', Below w5.heap.size w5 w' → Two w w' b N g ay) := fun w' hb' => T6.step hb'
          obtain ⟨q1, q2⟩ := HS.out w5 (Below.refl _ _)
          clear HD T6
          go_wp2_with fail
          go_region_held3 (fun wq => wq.cell? ⟨bb, off + j * 3 + 1, none⟩ = some (.int .i64 da) ∧ wq.cell? ⟨bb, off + j * 3 + 2, none⟩ = some (.int .i64 dn)) (first | exact HS.out _ (Below.refl _ _) | exact HS.out _ (by assumption) | exact HS.out _ (Below.drew (Below.refl _ _)) | exact HS.out _ (Below.drew (by assumption))) (first
            | (go_at_call 17; refine (get_any b N g da _ (HM.out _ (Below.drew (Below.refl _ _))).m).mono ?_; rintro e w6 ⟨rfl, rfl⟩)
            | (go_at_call 18; refine (refGet_any N g ay cy da _ hN (HM.out _ (Below.drew (Below.refl _ _))).x).mono ?_; rintro e w7 ⟨rfl, rfl⟩)
            | (go_at_call 19; refine (find_any b N g dn _ (HM.out _ (Below.drew (Below.refl _ _))).m).mono ?_; rintro e w8 ⟨rfl, hb8⟩; have B8 : Below w5.heap.size w5 w8 := Below.trans (Below.drew (Below.refl _ _)) hb8; clear hb8)
            | (go_at_call 20; refine (refFind_any N g ay cy dn _ hN (HM.out _ (by first | exact B8 | exact B8.drew)).x).mono ?_; rintro e w9 ⟨rfl, hb9⟩; have B9 : Below w5.heap.size w5 w9 := B8.trans (hb9.mono B8.size); clear hb9))
          all_goals
            have T9 : Hid (Two w w9 b N g ay) := HM.out _ B9
            clear HS HM q1 q2
            go_wp2
            go_roundw
            case rel => exact ⟨j + 1, g, ay, cy, by omega, by go_num, rfl, T9.out⟩
            case measure => simp [intOf]; omega
        by_cases k3 : dk = 3
        · subst k3
          have hT4 := T3.step ((Below.refl wr.heap.size wr).alloc (Nat.le_refl _) (.cells #[.int .i64 3, .int .i64 da, .int .i64 dn] 29))
          go_wp2_with fail
          refine (refFree_any N f ax cx da dn _ hN hT4.x).mono ?_
          rintro e w4 h4
          obtain ⟨hb4, v4, rfl, r4⟩ := h4
          obtain ⟨d0, d1, d2⟩ := row3 ((hb4.block wr.heap.size (by simp)).trans (heap_alloc_last wr _))
          have m4 := (hT4.step hb4).m
          go_wp2_with fail
          refine (free_any b N f da dn _ m4).mono ?_
          rintro e w5 ⟨rfl, m5, g5⟩
          obtain ⟨ay, cy, rfl, T6⟩ := hT4.change hb4 r4 m5 g5
          clear T3 hT4 hb4 r4 d0 d1 d2 m4 m5 g5 c0 c1 c2
          generalize frf N f da dn = g at *
          generalize frE N f da dn = fe at *
          have HS : Hid (∀ w', Below w5.heap.size w5 w' → w'.cell? ⟨bb, off + j * 3 + 1, none⟩ = some (.int .i64 da) ∧ w'.cell? ⟨bb, off + j * 3 + 2, none⟩ = some (.int .i64 dn)) := fun w' hb' => HD.out w' (T6.bel.trans (hb'.mono T6.bel.size))
          have HM : Hid (∀ w', Below w5.heap.size w5 w' → Two w w' b N g ay) := fun w' hb' => T6.step hb'
          obtain ⟨q1, q2⟩ := HS.out w5 (Below.refl _ _)
          clear HD T6
          go_wp2_with fail
          go_region_held3 (fun wq => wq.cell? ⟨bb, off + j * 3 + 1, none⟩ = some (.int .i64 da) ∧ wq.cell? ⟨bb, off + j * 3 + 2, none⟩ = some (.int .i64 dn)) (first | exact HS.out _ (Below.refl _ _) | exact HS.out _ (by assumption) | exact HS.out _ (Below.drew (Below.refl _ _)) | exact HS.out _ (Below.drew (by assumption))) (first
            | (go_at_call 17; refine (get_any b N g da _ (HM.out _ (Below.drew (Below.refl _ _))).m).mono ?_; rintro e w6 ⟨rfl, rfl⟩)
            | (go_at_call 18; refine (refGet_any N g ay cy da _ hN (HM.out _ (Below.drew (Below.refl _ _))).x).mono ?_; rintro e w7 ⟨rfl, rfl⟩)
            | (go_at_call 19; refine (find_any b N g dn _ (HM.out _ (Below.drew (Below.refl _ _))).m).mono ?_; rintro e w8 ⟨rfl, hb8⟩; have B8 : Below w5.heap.size w5 w8 := Below.trans (Below.drew (Below.refl _ _)) hb8; clear hb8)
            | (go_at_call 20; refine (refFind_any N g ay cy dn _ hN (HM.out _ (by first | exact B8 | exact B8.drew)).x).mono ?_; rintro e w9 ⟨rfl, hb9⟩; have B9 : Below w5.heap.size w5 w9 := B8.trans (hb9.mono B8.size); clear hb9))
          all_goals
            have T9 : Hid (Two w w9 b N g ay) := HM.out _ B9
            clear HS HM q1 q2
            go_wp2
            go_roundw
            case rel => exact ⟨j + 1, g, ay, cy, by omega, by go_num, rfl, T9.out⟩
            case measure => simp [intOf]; omega
        · have e0 : (dk == 0) = false := by simpa using k0
          have e1 : (dk == 1) = false := by simpa using k1
          have e2 : (dk == 2) = false := by simpa using k2
          have e3 : (dk == 3) = false := by simpa using k3
          have hT4 := T3.step ((Below.refl wr.heap.size wr).alloc (Nat.le_refl _) (.cells #[.int .i64 dk, .int .i64 da, .int .i64 dn] 29))
          obtain ⟨d0, d1, d2⟩ := row3 (heap_alloc_last wr (.cells #[.int .i64 dk, .int .i64 da, .int .i64 dn] 29))
          obtain ⟨w5, HW5⟩ : ∃ w5, Hid (wr.alloc (.cells #[.int .i64 dk, .int .i64 da, .int .i64 dn] 29) = w5) := ⟨_, rfl⟩
          have T6 : Two w w5 b N f ax := by rw [← HW5.out]; exact hT4
          obtain ⟨g, hg⟩ : ∃ g, g = f := ⟨_, rfl⟩
          obtain ⟨ay, hay⟩ : ∃ ay, ay = ax := ⟨_, rfl⟩
          obtain ⟨cy, hcy⟩ : ∃ cy, cy = cx := ⟨_, rfl⟩
          subst hg hay hcy
          go_upto_region 24 with fail
          rw [HW5.out]
          clear T3 hT4 d0 d1 d2 c0 c1 c2 HW5
          have HS : Hid (∀ w', Below w5.heap.size w5 w' → w'.cell? ⟨bb, off + j * 3 + 1, none⟩ = some (.int .i64 da) ∧ w'.cell? ⟨bb, off + j * 3 + 2, none⟩ = some (.int .i64 dn)) := fun w' hb' => HD.out w' (T6.bel.trans (hb'.mono T6.bel.size))
          have HM : Hid (∀ w', Below w5.heap.size w5 w' → Two w w' b N g ay) := fun w' hb' => T6.step hb'
          obtain ⟨q1, q2⟩ := HS.out w5 (Below.refl _ _)
          clear HD T6
          go_wp2_with fail
          go_region_held3 (fun wq => wq.cell? ⟨bb, off + j * 3 + 1, none⟩ = some (.int .i64 da) ∧ wq.cell? ⟨bb, off + j * 3 + 2, none⟩ = some (.int .i64 dn)) (first | exact HS.out _ (Below.refl _ _) | exact HS.out _ (by assumption) | exact HS.out _ (Below.drew (Below.refl _ _)) | exact HS.out _ (Below.drew (by assumption))) (first
            | (go_at_call 17; refine (get_any b N g da _ (HM.out _ (Below.drew (Below.refl _ _))).m).mono ?_; rintro e w6 ⟨rfl, rfl⟩)
            | (go_at_call 18; refine (refGet_any N g ay cy da _ hN (HM.out _ (Below.drew (Below.refl _ _))).x).mono ?_; rintro e w7 ⟨rfl, rfl⟩)
            | (go_at_call 19; refine (find_any b N g dn _ (HM.out _ (Below.drew (Below.refl _ _))).m).mono ?_; rintro e w8 ⟨rfl, hb8⟩; have B8 : Below w5.heap.size w5 w8 := Below.trans (Below.drew (Below.refl _ _)) hb8; clear hb8)
            | (go_at_call 20; refine (refFind_any N g ay cy dn _ hN (HM.out _ (by first | exact B8 | exact B8.drew)).x).mono ?_; rintro e w9 ⟨rfl, hb9⟩; have B9 : Below w5.heap.size w5 w9 := B8.trans (hb9.mono B8.size); clear hb9))
          all_goals
            have T9 : Hid (Two w w9 b N g ay) := HM.out _ B9
            clear HS HM q1 q2
            go_wp2
            go_roundw
            case rel => exact ⟨j + 1, g, ay, cy, by omega, by go_num, rfl, T9.out⟩
            case measure => simp [intOf]; omega
      · clear hd
        have hl1 := M.runs_len f N true
        have hl2 := M.runs_len f N false
        have HR1 : Hid (M.rr f true N = M.runs f N true) := M.rr_eq _ _ _
        have HR2 : Hid (M.rr f false N = M.runs f N false) := M.rr_eq _ _ _
        have HOF : Hid (∀ i, N ≤ i → f i = false) := T3.m.off
        go_wp2_with fail
        refine (count_any b N f _ T3.m).mono ?_
        rintro e w4 ⟨rfl, rfl⟩
        go_wp2_with fail
        refine (refCount_any N f ax cx _ hN T3.x).mono ?_
        rintro e w5 ⟨rfl, rfl⟩
        go_wp2_with fail
        refine (text_any b N f _ T3.m).mono ?_
        rintro e w6 ⟨rfl, hb6⟩
        have T6 := T3.step hb6
        clear T3 hb6
        go_wp2_with fail
        refine (refText_any N f ax cx _ hN HOF.out T6.x).mono ?_
        rintro e w7 ⟨rfl, hb7⟩
        have T7 := T6.step hb7
        clear T6 hb7 HOF
        generalize ofL (textOf f N) = tx
        go_wp2_with fail
        refine (runs_any b N f true _ T7.m).mono ?_
        rintro e w8 h8
        obtain ⟨v8, rfl, own8, hb8⟩ := h8
        have T8 := T7.step hb8
        obtain ⟨r1, c1, rfl, atr1, _⟩ := owns_atR own8
        clear T7 hb8 own8
        go_wp2_with fail
        refine (refRuns_any N f true ax cx _ hN T8.x).mono ?_
        rintro e w9 h9
        obtain ⟨v9, rfl, own9, hb9⟩ := h9
        rw [HR1.out] at own9
        obtain ⟨r2, c2, rfl, atr2, _⟩ := owns_atR own9
        have atr1' := atr1.keep hb9
        have T9 := T8.step hb9
        clear T8 hb9 own9 atr1 HR1
        generalize M.runs f N true = rs at *
        go_wp2_with fail
        refine (same_any r1 c1 r2 c2 rs _ (by omega) atr1' atr2).mono ?_
        rintro e w10 ⟨rfl, hb10⟩
        have T10 := T9.step hb10
        clear T9 hb10 atr1' atr2
        go_wp2_with fail
        refine (runs_any b N f false _ T10.m).mono ?_
        rintro e w11 h11
        obtain ⟨v11, rfl, own11, hb11⟩ := h11
        have T11 := T10.step hb11
        obtain ⟨r3, c3, rfl, atr3, _⟩ := owns_atR own11
        clear T10 hb11 own11
        go_wp2_with fail
        refine (refRuns_any N f false ax cx _ hN T11.x).mono ?_
        rintro e w12 h12
        obtain ⟨v12, rfl, own12, hb12⟩ := h12
        rw [HR2.out] at own12
        obtain ⟨r4, c4, rfl, atr4, _⟩ := owns_atR own12
        have atr3' := atr3.keep hb12
        have T12 := T11.step hb12
        clear T11 hb12 own12 atr3 HR2
        generalize M.runs f N false = rq at *
        go_wp2_with fail
        refine (same_any r3 c3 r4 c4 rq _ (by omega) atr3' atr4).mono ?_
        rintro e w13 ⟨rfl, hb13⟩
        have B13 := T12.bel.trans (hb13.mono T12.bel.size)
        clear T12 hb13 atr3' atr4
        go_wp2_with fail
        refine (awake_any _).mono ?_
        rintro e w14 ⟨rfl, hb14⟩
        go_wp2
        go_ret
        exact ⟨rfl, B13.trans (hb14.mono B13.size)⟩

set_option maxRecDepth 100000 in
theorem plays_lifted (os : Os) (started : os.Started) (H : Type) (enc : TypeId × Value → H) :
    ReturnsInHanded {} Try.checked os 3 .any (Rows.bitmapPlaysSpec.pre6 enc Try.prog Try.f3 Rows.bitmapPlaysRow.domain false) (Rows.bitmapPlaysSpec.post enc Try.prog Try.f3 false true false false) := by
  refine returnsInHanded_of_change (C := Try.checked) own started (by kernel_rfl) Try.func3
    (ChangeSpec.witness6 (enc := enc) (C := Try.checked) false ⟨#[], #[.int .i64 0, .slice none 0 0], []⟩ 8 (by kernel_rfl) (by kernel_rfl) (by kernel_rfl) (by kernel_rfl)) ?_
  intro W base args ds gs before hval0 hW hcnd _
  have hval : ∀ (j : Nat) t v, Try.f3.params[j]? = some t → args[j]? = some v → Value.okWide Try.prog W .any base t v := hval0
  have hW' := hW
  obtain ⟨p, q, hA0, hV, rfl, hfz, hnd⟩ := hW
  have hA : DataW.TrodAll enc Try.prog W 0 (fun _ => true) true Try.f3.params.toList args.toList ds p := hA0
  rw [Try.params3] at hA hval
  obtain ⟨v0, vs0, d0, ds0, p0, q0, hargs, rfl, rfl, h0, r0⟩ := trodAll_cons hA
  obtain ⟨v1, vs1, d1, ds1, p1, q1, rfl, rfl, rfl, h1, r1⟩ := trodAll_cons r0
  obtain ⟨rfl, rfl, rfl⟩ := trodAll_nil r1
  obtain rfl : args = #[v0, v1] := by cases args; simp_all
  obtain ⟨rfl, rfl⟩ := trodVars_none hV
  obtain ⟨a0, rfl, rfl, rfl, w0⟩ := open_int Try.underlying3 (hval 0 3 v0 rfl rfl) h0
  obtain ⟨a1, len1, cap1, rfl⟩ := okWide_slice Try.underlying22 (hval 1 22 v1 rfl rfl)
  have k1 := h1
  have lt1 : ∀ x ∈ p1, x.block < W.heap.size := by obtain ⟨m, hm⟩ := k1; exact DataW.trod_lt m _ _ _ hm
  obtain ⟨l, hlen, hit, hm⟩ : ∃ l : List Dd, len1 = l.length ∧ Dds W a1 l ∧ l.length ≤ maxLen := by
    obtain ⟨fuel, hf⟩ := h1
    obtain ⟨a', len', cap', l, hcs, hl, hi, hm⟩ := open_deeds hf
    simp [Value.cells] at hcs
    obtain ⟨rfl, rfl, rfl⟩ := hcs
    exact ⟨l, hl, hi, hm⟩
  clear hA0 hval0
  subst hlen
  refine (plays_walk a0 a1 cap1 l W hm hit).mono fun e W' ⟨he, bel⟩ => ?_
  subst he
  exact ⟨_, rfl, _, _, _, [], _, [], hW', trodAll_mk1 (shut_bool Try.underlying4 _), (trodAll_cons_mk (shut_int Try.underlying3 w0) (trodAll_cons_mk (Below.trod laidOut (by kernel_rfl) (of_decide_eq_true (by kernel_rfl)) k1 bel lt1) trodAll_mk0)), rfl, bel.frame _, fun h => by cases h⟩

theorem plays_holds : Rows.BitmapPlaysSaid :=
  OpenClaim.holds_of_wide 3 Try.f3 rfl rfl rfl rfl rfl rfl rfl ⟨rfl, rfl, rfl, rfl, rfl⟩ rfl rfl rfl rfl rfl (by kernel_rfl) Try.func3 (by kernel_rfl)
    (of_decide_eq_true (by kernel_rfl)) (by unfold Func.isWrapper; first | (rw [if_pos (by decide +kernel)]; kernel_rfl) | (rw [if_neg (by decide +kernel)]; exact ⟨rfl, rfl⟩))
    (fun os started H enc _ => plays_lifted os started H enc)
#print axioms plays_holds


end Go.Proofs.Ytigoadfbccpmkaa
