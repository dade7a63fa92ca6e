/-
  Timers in memory that is new; the chapter's example.
-/
import Derived.Test.YtcjibgpbfcedlaaR
namespace Go.Proofs.Ytcjibgpbfcedlaa
open Go.RowKit
set_option linter.unusedVariables false
open M (E)

/-- Timers in memory that is new since w0. -/
structure TS (w0 w : World) (b : Nat) (v : Value) (P : List E) : Prop where
  x : XI w w0.heap.size b v P
  bel : Below w0.heap.size w0 w
  b : w0.heap.size ≤ b
theorem TS.step {w0 w w' : World} {b : Nat} {v v' : Value} {P P' : List E} (h : TS w0 w b v P) (hx : XI w' w0.heap.size b v' P') (hc : Ch w b v w' v') : TS w0 w' b v' P' :=
  ⟨hx, h.bel.trans (hc.below h.b (fun k e => (h.x.low k e).1) h.bel.size), h.b⟩
theorem TS.keep {w0 w w' : World} {b : Nat} {v : Value} {P : List E} (h : TS w0 w b v P) (hb : Below w.heap.size w w') : TS w0 w' b v P := ⟨h.x.keep hb, bel_up h.bel hb (Nat.le_refl _), h.b⟩
theorem TS.new {w w' : World} (h : XI w' w.heap.size w.heap.size (.slice none 0 0) []) (hb : Below w.heap.size w w') : TS w w' w.heap.size (.slice none 0 0) [] := ⟨h, hb, Nat.le_refl _⟩
theorem row_i1 {w : World} {x : Int} {b : Nat} (h : w.heap[b]? = some (.cells #[.int .i64 x] 3 (0, 0))) : AtI w (some ⟨b, 0, none⟩) [x] := by
  intro j hj
  match j, hj with
  | 0, _ => exact ⟨b, 0, rfl, by rw [cell_of_row w b 0 _ _ _ h]; rfl⟩
theorem row_i2 {w : World} {x y : Int} {b : Nat} (h : w.heap[b]? = some (.cells #[.int .i64 x, .int .i64 y] 3 (0, 0))) : AtI w (some ⟨b, 0, none⟩) [x, y] := by
  intro j hj
  match j, hj with
  | 0, _ => exact ⟨b, 0, rfl, by rw [cell_of_row w b 0 _ _ _ h]; rfl⟩
  | 1, _ => exact ⟨b, 0, rfl, by rw [cell_of_row w b (0 + 1) _ _ _ h]; rfl⟩
def A1 : List E := [⟨1, 5⟩]
def A2 : List E := [⟨1, 5⟩, ⟨2, 5⟩]
def A3 : List E := [⟨1, 5⟩, ⟨2, 5⟩, ⟨0, 9⟩]
def A4 : List E := [⟨0, 9⟩]
theorem aw1 : M.setL [] 1 5 = A1 ∧ M.setE [] 1 5 = 0 := ⟨rfl, rfl⟩
theorem aw2 : M.setL A1 2 5 = A2 ∧ M.setE A1 2 5 = 0 := ⟨rfl, rfl⟩
theorem aw3 : M.setL A2 0 9 = A3 ∧ M.setE A2 0 9 = 0 := ⟨rfl, rfl⟩
theorem aw4 : M.setL A3 (-1) 0 = A3 ∧ M.setE A3 (-1) 0 = 1 := ⟨rfl, rfl⟩
theorem aw5 : hdV A3 = .agg #[.int .i64 1, .int .i64 5] ∧ hdB A3 = true := ⟨rfl, rfl⟩
theorem aw6 : M.dueI A3 5 = [1, 2] ∧ M.dueL A3 5 = A4 := ⟨rfl, rfl⟩
theorem aw7 : M.stop A4 0 = [] ∧ decide (M.fnd A4 0 < A4.length) = true := ⟨rfl, rfl⟩
theorem aw8 : M.stop [] 0 = [] ∧ decide (M.fnd [] 0 < ([] : List E).length) = false := ⟨rfl, rfl⟩
theorem newT (w : World) : Calls Try.prog 8 #[] w fun e w' => ∃ b, e = .returned (.pointer (some ⟨b, 0, none⟩)) ∧ TS w w' b (.slice none 0 0) [] :=
  (new_any w).mono fun e w' h => ⟨w.heap.size, h.1, TS.new h.2.1 h.2.2⟩
theorem TS.set {w0 w : World} {b : Nat} {v : Value} {P : List E} (h : TS w0 w b v P) (k a : Int) : Calls Try.prog 10 #[.pointer (some ⟨b, 0, none⟩), .int .i64 k, .int .i64 a] w fun e w' => ∃ v', e = .returned (.int .i64 (M.setE P k a)) ∧ TS w0 w' b v' (M.setL P k a) :=
  (set_any _ b v P k a w h.bel.size h.x).mono fun e w' ⟨v', h1, h2, h3⟩ => ⟨v', h1, h.step h2 h3⟩
theorem TS.stop {w0 w : World} {b : Nat} {v : Value} {P : List E} (h : TS w0 w b v P) (k : Int) : Calls Try.prog 12 #[.pointer (some ⟨b, 0, none⟩), .int .i64 k] w fun e w' => ∃ v', e = .returned (.bool (decide (M.fnd P k < P.length))) ∧ TS w0 w' b v' (M.stop P k) :=
  (stop_any _ b v P k w h.bel.size h.x).mono fun e w' ⟨v', h1, h2, h3⟩ => ⟨v', h1, h.step h2 h3⟩
theorem TS.due {w0 w : World} {b : Nat} {v : Value} {P : List E} (h : TS w0 w b v P) (now : Int) : Calls Try.prog 15 #[.pointer (some ⟨b, 0, none⟩), .int .i64 now] w fun e w' => ∃ a cap v', e = .returned (.slice a (M.dueI P now).length cap) ∧ AtI w' a (M.dueI P now) ∧ TS w0 w' b v' (M.dueL P now) ∧ Ch w b v w' v' :=
  (due_any _ b v P now w h.bel.size h.x).mono fun e w' ⟨u, v', h1, h2, h3, h4⟩ => by
    obtain ⟨a, cap, rfl, hat, _⟩ := h2.at
    exact ⟨a, cap, v', h1, hat, h.step h3 h4, h4⟩
theorem TS.next {w0 w : World} {b : Nat} {v : Value} {P : List E} (h : TS w0 w b v P) : Calls Try.prog 16 #[.pointer (some ⟨b, 0, none⟩)] w fun e w' => e = .returned (.tuple #[hdV P, .bool (hdB P)]) ∧ Below w.heap.size w w' ∧ TS w0 w' b v P :=
  (next_any _ b v P w h.x).mono fun e w' h1 => ⟨h1.1, h1.2, h.keep h1.2⟩
theorem TS.len {w0 w : World} {b : Nat} {v : Value} {P : List E} (h : TS w0 w b v P) : Calls Try.prog 17 #[.pointer (some ⟨b, 0, none⟩)] w fun e w' => e = .returned (.int .i64 P.length) ∧ w' = w := len_any _ b v P w h.x
theorem TS.all {w0 w : World} {b : Nat} {v : Value} {P : List E} (h : TS w0 w b v P) : Calls Try.prog 19 #[.pointer (some ⟨b, 0, none⟩)] w fun e w' => ∃ a cap, e = .returned (.slice a P.length cap) ∧ AtE w' a P ∧ (∀ k, blk a k → w.heap.size ≤ k ∧ k < w'.heap.size) ∧ Below w.heap.size w w' ∧ TS w0 w' b v P :=
  (all_any _ b v P w h.x).mono fun e w' ⟨u, h1, h2, h3⟩ => by
    obtain ⟨a, cap, rfl, hat, hbl, _⟩ := h2.at
    exact ⟨a, cap, h1, hat, fun k hk => ⟨(hbl k hk).1, (hbl k hk).2.2⟩, h3, h.keep h3⟩
set_option maxRecDepth 100000 in
set_option maxHeartbeats 4000000 in
theorem awake_any (w : World) : Calls Try.prog 7 #[] w fun e w' => e = .returned (.bool true) ∧ Below w.heap.size w w' := by
  go_enter Try.func7, Try.ntmps7
  go_wp2_with fail
  refine (newT w).mono ?_
  rintro x w1 ⟨b, rfl, S1⟩
  have hc := S1.set 1 5
  rw [aw1.1, aw1.2] at hc
  clear S1
  go_wp2_with fail
  refine hc.mono ?_
  rintro x w2 ⟨v2, rfl, S2⟩
  have hc2 := S2.set 2 5
  rw [aw2.1, aw2.2] at hc2
  clear S2 hc
  go_wp2_with fail
  refine hc2.mono ?_
  rintro x w3 ⟨v3, rfl, S3⟩
  have hc3 := S3.set 0 9
  rw [aw3.1, aw3.2] at hc3
  clear S3 hc2
  go_wp2_with fail
  refine hc3.mono ?_
  rintro x w4 ⟨v4, rfl, S4⟩
  have hc4 := S4.set (-1) 0
  rw [aw4.1, aw4.2] at hc4
  clear S4 hc3
  go_wp2_with fail
  refine hc4.mono ?_
  rintro x w5 ⟨v5, rfl, S5⟩
  have hc5 := S5.next
  rw [aw5.1, aw5.2] at hc5
  clear S5 hc4
  go_wp2_with fail
  refine hc5.mono ?_
  rintro x w6 ⟨rfl, _, S6⟩
  have HB6 : Hid (Below w6.heap.size w6 (w6.alloc (.cells #[.int .i64 1, .int .i64 5] 42)) ∧ (w6.alloc (.cells #[.int .i64 1, .int .i64 5] 42)).heap[w6.heap.size]? = some (.cells #[.int .i64 1, .int .i64 5] 42 (0, 0)) ∧ w6.heap.size < (w6.alloc (.cells #[.int .i64 1, .int .i64 5] 42)).heap.size ∧ w6.heap.size ≠ b ∧ v5.ownBlock ≠ some w6.heap.size) := ⟨bel1 _ _, heap_alloc_last _ _, by simp, by have := S6.x.lt; omega, fun e => by have := (S6.x.low _ e).2; omega⟩
  obtain ⟨W7, HW7⟩ : ∃ W7, Hid (w6.alloc (.cells #[.int .i64 1, .int .i64 5] 42) = W7) := ⟨_, rfl⟩
  have hc7 := (S6.keep HB6.out.1).due 5
  rw [aw6.1, aw6.2, HW7.out] at hc7
  rw [HW7.out] at HB6
  clear S6 hc5
  go_wp2_with fail
  rw [HW7.out]
  clear HW7
  refine hc7.mono ?_
  rintro x w8 ⟨a8, cap8, v8, rfl, at8, S8, ch8⟩
  simp only [List.length_cons, List.length_nil]
  obtain ⟨⟨d0, d1⟩, _⟩ := row2 ((ch8.block _ HB6.out.2.2.1 HB6.out.2.2.2.1 HB6.out.2.2.2.2).trans HB6.out.2.1)
  have HS8 := Hid_of S8
  have HI8 : Hid (∀ W, Below w8.heap.size w8 W → W.heap[w8.heap.size]? = some (.cells #[.int .i64 1, .int .i64 2] 3 (0, 0)) → Calls Try.prog 14 #[.slice a8 2 cap8, .slice (some ⟨w8.heap.size, 0, none⟩) 2 2] W fun e w' => e = .returned (.bool true) ∧ Below W.heap.size W w') := fun W hW h2 => ints_any a8 cap8 _ 2 [1, 2] W (by decide) (at8.keep hW) (row_i2 h2)
  clear hc7 at8 S8 ch8 HB6
  go_wp2_with fail
  refine (HI8.out _ (bel1 _ _) (heap_alloc_last _ _)).mono ?_
  rintro x w9 ⟨rfl, B9⟩
  have S9 := (HS8.out.keep (bel1 _ _)).keep B9
  have hl9 := S9.len
  have HS9 := Hid_of S9
  clear HS8 HI8 B9 d0 d1 S9
  go_wp2_with fail
  refine hl9.mono ?_
  rintro x w10 ⟨rfl, rfl⟩
  have hs10 := HS9.out.stop 0
  rw [aw7.1, aw7.2] at hs10
  have hA4 : A4.length = 1 := rfl
  rw [hA4]
  clear hl9 hA4
  go_wp2_with fail
  refine hs10.mono ?_
  rintro x w11 ⟨v11, rfl, S11⟩
  have hs11 := S11.stop 0
  rw [aw8.1, aw8.2] at hs11
  clear S11 hs10 HS9
  go_wp2_with fail
  refine hs11.mono ?_
  rintro x w12 ⟨v12, rfl, S12⟩
  have HB := Hid_of S12.bel
  clear S12 hs11
  go_wp2
  go_ret
  exact ⟨rfl, HB.out⟩
end Go.Proofs.Ytcjibgpbfcedlaa
