/-
  What a place tells: the program's, and the document's.
-/
import Derived.Test.YthffglacokfkgaaV
namespace Go.Proofs.Ythffglacokfkgaa
open Go.RowKit
open M (ofL ofL_size ofL_of)
set_option linter.unusedVariables false

theorem open_yes (s : ByteArray) (hs : s.size = 256) (h : K2.sealed (s.data.toList.take 252) = s.data.toList) : openOut s = (ofL (s.data.toList.take 252), 0) := by
  unfold openOut
  rw [if_neg (by omega), hs, if_pos h]
theorem open_no (s : ByteArray) (hs : s.size = 256) (h : ¬ K2.sealed (s.data.toList.take 252) = s.data.toList) : openOut s = (ByteArray.empty, 4) := by
  unfold openOut
  rw [if_neg (by omega), hs, if_neg h]
theorem text_size (s : ByteArray) (hs : s.size = 256) : (ofL (s.data.toList.take 252)).size = 252 := by rw [ofL_size, List.length_take, len_data, hs]; rfl
theorem ok_false {pl : Nat} {s : List UInt8} (h : ¬ (K2.sealed (s.take 252) = s ∧ Sp.nm s 4 ≤ 244 ∧ 1 ≤ Sp.nm s 0 ∧ Sp.nm s 0 < 2147483648 ∧ Sp.pk (Sp.bd s) (Sp.nm s 0) = s ∧ Sp.nm s 0 % 2 = pl)) : Sp.ok pl s = false := by
  cases ho : Sp.ok pl s with
  | false => rfl
  | true => exact absurd ((Sp.ok_iff pl s).1 ho) h
theorem pack_of (s : ByteArray) (hs : s.size = 256) (hn : Sp.nm s.data.toList 4 ≤ 244) :
    (1 ≤ Sp.nm s.data.toList 0 ∧ Sp.nm s.data.toList 0 < 2147483648 ∧ ptext (ofL (Sp.bd s.data.toList)) (Sp.nm s.data.toList 0) = ofL (Sp.pk (Sp.bd s.data.toList) (Sp.nm s.data.toList 0)) ∧ pcode (ofL (Sp.bd s.data.toList)) (Sp.nm s.data.toList 0) = 0) ∨
    (¬ (1 ≤ Sp.nm s.data.toList 0 ∧ Sp.nm s.data.toList 0 < 2147483648) ∧ ptext (ofL (Sp.bd s.data.toList)) (Sp.nm s.data.toList 0) = M.E ∧ pcode (ofL (Sp.bd s.data.toList)) (Sp.nm s.data.toList 0) = 1) := by
  have hl := (body_eq s hs hn).2
  rcases pcode_cases (ofL (Sp.bd s.data.toList)) (Sp.nm s.data.toList 0) with ⟨h1, e1, e2⟩ | ⟨h1, h2, e1, e2⟩ | ⟨h1, h2, e1, e2⟩
  · right
    exact ⟨by omega, e2, e1⟩
  · rw [ofL_size, hl] at h2
    omega
  · left
    rw [ofL_data, Int.toNat_natCast] at e2
    exact ⟨by omega, by omega, e2, e1⟩
theorem ofL_ne {l : List UInt8} {s : ByteArray} (h : ¬ l = s.data.toList) : ((ofL l).toList == s.toList) = false := text_ne fun e => h (by rw [← e, ofL_data])
theorem stateAt_any (pl : Nat) (s : ByteArray) (w : World) (hs : s.size = 256) :
    Calls Try.prog 28 #[.int .i64 pl, .string s] w fun e w' => e = .returned (.agg (SV (Sp.sa pl s.data.toList))) ∧ Below w.heap.size w w' := by
  have c0 := fun W => open_any s W (by omega)
  by_cases h1 : K2.sealed (s.data.toList.take 252) = s.data.toList
  · rw [open_yes s hs h1] at c0
    have hT := text_size s hs
    have c1 := fun W => headOf_any (ofL (s.data.toList.take 252)) W (by rw [hT]; decide) (by omega)
    rw [ofL_data, Sp.nm_take _ _ _ (by omega), Sp.nm_take _ _ _ (by omega)] at c1
    have hg := Sp.nm_lt s.data.toList 0
    have hn := Sp.nm_lt s.data.toList 4
    by_cases h2 : Sp.nm s.data.toList 4 ≤ 244
    · obtain ⟨eb, el⟩ := body_eq s hs h2
      have hbz : (ofL (Sp.bd s.data.toList)).size ≤ 244 := by rw [ofL_size]; omega
      have c2 := fun W => pack_any ((ofL (s.data.toList.take 252)).extract 8 (8 + Sp.nm s.data.toList 4)) (Sp.nm s.data.toList 0) W (by rw [eb]; unfold maxLen; omega)
      have c3 := fun W => placeOf_any (Sp.nm s.data.toList 0) hg W
      have c4 := fun W => clone_any ((ofL (s.data.toList.take 252)).extract 8 (8 + Sp.nm s.data.toList 4)) W (by rw [eb]; omega)
      rcases pack_of s hs h2 with ⟨h3, h4, e1, e2⟩ | ⟨h3, e1, e2⟩
      · rw [eb, e1, e2, ← eb] at c2
        by_cases h5 : Sp.pk (Sp.bd s.data.toList) (Sp.nm s.data.toList 0) = s.data.toList
        · by_cases h6 : Sp.nm s.data.toList 0 % 2 = pl
          · have ho : Sp.ok pl s.data.toList = true := (Sp.ok_iff _ _).2 ⟨h1, h2, h3, h4, h5, h6⟩
            rw [Sp.sa_yes ho]
            have := stateAt_6 pl s _ w _ _ hg hn _ hT h2 _ c0 c1 c2 c3 c4 (by rw [h5, ofL_of]) h6
            rw [eb] at this
            unfold SV
            rw [el]
            exact this
          · rw [Sp.sa_no (ok_false fun h => h6 h.2.2.2.2.2)]
            exact stateAt_5 pl s _ w _ _ hg hn _ hT h2 _ c0 c1 c2 c3 (by rw [h5, ofL_of]) h6
        · rw [Sp.sa_no (ok_false fun h => h5 h.2.2.2.2.1)]
          exact stateAt_4 pl s _ w _ _ hg hn _ hT h2 0 c0 c1 c2 (ofL_ne h5)
      · rw [eb, e1, e2, ← eb] at c2
        rw [Sp.sa_no (ok_false fun h => h3 ⟨h.2.2.1, h.2.2.2.1⟩)]
        exact stateAt_3 pl s _ w _ _ hg hn _ hT h2 c0 c1 c2
    · rw [Sp.sa_no (ok_false fun h => h2 h.2.1)]
      exact stateAt_2 pl s _ w _ _ hg hn c0 c1 (by omega)
  · rw [open_no s hs h1] at c0
    rw [Sp.sa_no (ok_false fun h => h1 h.1)]
    exact stateAt_1 pl s _ w c0
set_option maxRecDepth 100000 in
set_option maxHeartbeats 2000000 in
theorem right_1 (at' : Nat) (s T : ByteArray) (w : World) (c0 : ∀ W, Calls Try.prog 36 #[.string s] W fun e w' => e = .returned (.tuple #[.string T, .int .i64 4]) ∧ Below W.heap.size W w') :
    Calls Try.prog 16 #[.string s, .int .i64 at'] w fun e w' => e = .returned (.tuple #[.string { data := #[] }, .int .i64 0, .bool false]) ∧ Below w.heap.size w w' := by
  go_enter Try.func16, Try.ntmps16
  go_wp2_with fail
  refine (c0 _).mono ?_
  rintro e w1 ⟨rfl, hb1⟩
  have HB1 := Hid_of hb1
  clear c0 hb1
  go_wp2
  go_ret3
  exact ⟨rfl, HB1.out⟩
set_option maxRecDepth 100000 in
set_option maxHeartbeats 2000000 in
theorem right_2 (at' : Nat) (s T : ByteArray) (w : World) (g n : Nat) (hg : g < 4294967296) (hn : n < 4294967296) (hT : T.size = 252) (c0 : ∀ W, Calls Try.prog 36 #[.string s] W fun e w' => e = .returned (.tuple #[.string T, .int .i64 0]) ∧ Below W.heap.size W w') (c1 : ∀ W, Calls Try.prog 37 #[.string T] W fun e w' => e = .returned (.int .u32 g) ∧ Below W.heap.size W w') (c1' : ∀ W, Calls Try.prog 37 #[.string (T.extract 4 252)] W fun e w' => e = .returned (.int .u32 n) ∧ Below W.heap.size W w') (h244 : 244 < n) :
    Calls Try.prog 16 #[.string s, .int .i64 at'] w fun e w' => e = .returned (.tuple #[.string { data := #[] }, .int .i64 0, .bool false]) ∧ Below w.heap.size w w' := by
  have d0 : ((T.size : Int) == 252) = true := by rw [hT]; rfl
  have p4 : (4 : Int) ≤ (T.size : Int) := by omega
  have d1 : decide ((244 : Int) < (n : Int)) = true := decide_eq_true (by omega)
  go_enter Try.func16, Try.ntmps16
  go_wp2_with fail
  refine (c0 _).mono ?_
  rintro e w1 ⟨rfl, hb1⟩
  have HB1 := Hid_of hb1
  clear c0 hb1
  have BD : Below w.heap.size w w1.drew := Below.drew HB1.out
  go_wp2_with fail
  go_region_held3 (fun wq => Below w.heap.size w wq) (first | assumption) (first | (go_at_call 37; refine (c1 _).mono ?_; rintro e w2 ⟨rfl, hb2⟩; have B2 : Below w.heap.size w w2 := bel_up BD hb2 (Nat.le_refl _); clear c1 BD) | (go_at_call 37; refine (c1' _).mono ?_; rintro e w3 ⟨rfl, hb3⟩; have B3 : Below w.heap.size w w3 := bel_up B2 hb3 (Nat.le_refl _); clear c1'))
  have HB3 := Hid_of B3
  clear B3 hb3 B2 hb2 HB1
  go_wp2
  go_ret3
  exact ⟨rfl, HB3.out⟩
set_option maxRecDepth 100000 in
set_option maxHeartbeats 2000000 in
theorem right_3 (at' : Nat) (s T : ByteArray) (w : World) (g n : Nat) (hg : g < 4294967296) (hn : n < 4294967296) (hT : T.size = 252) (h244 : n ≤ 244) (q : Nat) (c0 : ∀ W, Calls Try.prog 36 #[.string s] W fun e w' => e = .returned (.tuple #[.string T, .int .i64 0]) ∧ Below W.heap.size W w') (c1 : ∀ W, Calls Try.prog 37 #[.string T] W fun e w' => e = .returned (.int .u32 g) ∧ Below W.heap.size W w') (c1' : ∀ W, Calls Try.prog 37 #[.string (T.extract 4 252)] W fun e w' => e = .returned (.int .u32 n) ∧ Below W.heap.size W w') (c3 : ∀ W, Calls Try.prog 38 #[.int .i64 g] W fun e w' => e = .returned (.int .i64 q) ∧ w' = W) (hq : ¬ q = at') :
    Calls Try.prog 16 #[.string s, .int .i64 at'] w fun e w' => e = .returned (.tuple #[.string { data := #[] }, .int .i64 0, .bool false]) ∧ Below w.heap.size w w' := by
  have d0 : ((T.size : Int) == 252) = true := by rw [hT]; rfl
  have p4 : (4 : Int) ≤ (T.size : Int) := by omega
  have d1 : decide ((244 : Int) < (n : Int)) = false := decide_eq_false (by omega)
  have p8 : (8 : Int) ≤ 8 + (n : Int) := by omega
  have p9 : 8 + (n : Int) ≤ 252 := by omega
  have dq : ((q : Int) == (at' : Int)) = false := by rw [beq_eq_false_iff_ne]; omega
  go_enter Try.func16, Try.ntmps16
  go_wp2_with fail
  refine (c0 _).mono ?_
  rintro e w1 ⟨rfl, hb1⟩
  have HB1 := Hid_of hb1
  clear c0 hb1
  have BD : Below w.heap.size w w1.drew := Below.drew HB1.out
  go_wp2_with fail
  go_region_held3 (fun wq => Below w.heap.size w wq) (first | assumption) (first | (go_at_call 37; refine (c1 _).mono ?_; rintro e w2 ⟨rfl, hb2⟩; have B2 : Below w.heap.size w w2 := bel_up BD hb2 (Nat.le_refl _); clear c1 BD) | (go_at_call 37; refine (c1' _).mono ?_; rintro e w3 ⟨rfl, hb3⟩; have B3 : Below w.heap.size w w3 := bel_up B2 hb3 (Nat.le_refl _); clear c1'))
  have HB3 := Hid_of B3
  clear B3 hb3 B2 hb2 HB1
  go_wp2_with fail
  refine (c3 _).mono ?_
  rintro e w4 ⟨rfl, rfl⟩
  clear c3
  go_wp2
  go_ret3
  exact ⟨rfl, HB3.out⟩
set_option maxRecDepth 100000 in
set_option maxHeartbeats 2000000 in
theorem right_4 (at' : Nat) (s T : ByteArray) (w : World) (g n : Nat) (hg : g < 4294967296) (hn : n < 4294967296) (hT : T.size = 252) (h244 : n ≤ 244) (q : Nat) (X : ByteArray) (c0 : ∀ W, Calls Try.prog 36 #[.string s] W fun e w' => e = .returned (.tuple #[.string T, .int .i64 0]) ∧ Below W.heap.size W w') (c1 : ∀ W, Calls Try.prog 37 #[.string T] W fun e w' => e = .returned (.int .u32 g) ∧ Below W.heap.size W w') (c1' : ∀ W, Calls Try.prog 37 #[.string (T.extract 4 252)] W fun e w' => e = .returned (.int .u32 n) ∧ Below W.heap.size W w') (c3 : ∀ W, Calls Try.prog 38 #[.int .i64 g] W fun e w' => e = .returned (.int .i64 q) ∧ w' = W) (hq : q = at') (c2 : ∀ W, Calls Try.prog 7 #[.string (T.extract 8 (8 + n)), .int .i64 g] W fun e w' => e = .returned (.tuple #[.string X, .int .i64 1]) ∧ Below W.heap.size W w') :
    Calls Try.prog 16 #[.string s, .int .i64 at'] w fun e w' => e = .returned (.tuple #[.string (T.extract 8 (8 + n)), .int .i64 g, .bool false]) ∧ Below w.heap.size w w' := by
  subst hq
  have d0 : ((T.size : Int) == 252) = true := by rw [hT]; rfl
  have p4 : (4 : Int) ≤ (T.size : Int) := by omega
  have d1 : decide ((244 : Int) < (n : Int)) = false := decide_eq_false (by omega)
  have p8 : (8 : Int) ≤ 8 + (n : Int) := by omega
  have p9 : 8 + (n : Int) ≤ 252 := by omega
  go_enter Try.func16, Try.ntmps16
  go_wp2_with fail
  refine (c0 _).mono ?_
  rintro e w1 ⟨rfl, hb1⟩
  have HB1 := Hid_of hb1
  clear c0 hb1
  have BD : Below w.heap.size w w1.drew := Below.drew HB1.out
  go_wp2_with fail
  go_region_held3 (fun wq => Below w.heap.size w wq) (first | assumption) (first | (go_at_call 37; refine (c1 _).mono ?_; rintro e w2 ⟨rfl, hb2⟩; have B2 : Below w.heap.size w w2 := bel_up BD hb2 (Nat.le_refl _); clear c1 BD) | (go_at_call 37; refine (c1' _).mono ?_; rintro e w3 ⟨rfl, hb3⟩; have B3 : Below w.heap.size w w3 := bel_up B2 hb3 (Nat.le_refl _); clear c1'))
  have HB3 := Hid_of B3
  clear B3 hb3 B2 hb2 HB1
  go_wp2_with fail
  refine (c3 _).mono ?_
  rintro e w4 ⟨rfl, rfl⟩
  clear c3
  go_wp2_with fail
  refine (c2 _).mono ?_
  rintro e w5 ⟨rfl, hb5⟩
  have HB5 := Hid_of (bel_up HB3.out hb5 (Nat.le_refl _))
  clear c2 hb5 HB3
  go_wp2
  go_ret3
  exact ⟨rfl, HB5.out⟩
set_option maxRecDepth 100000 in
set_option maxHeartbeats 2000000 in
theorem right_5 (at' : Nat) (s T : ByteArray) (w : World) (g n : Nat) (hg : g < 4294967296) (hn : n < 4294967296) (hT : T.size = 252) (h244 : n ≤ 244) (q : Nat) (X : ByteArray) (c0 : ∀ W, Calls Try.prog 36 #[.string s] W fun e w' => e = .returned (.tuple #[.string T, .int .i64 0]) ∧ Below W.heap.size W w') (c1 : ∀ W, Calls Try.prog 37 #[.string T] W fun e w' => e = .returned (.int .u32 g) ∧ Below W.heap.size W w') (c1' : ∀ W, Calls Try.prog 37 #[.string (T.extract 4 252)] W fun e w' => e = .returned (.int .u32 n) ∧ Below W.heap.size W w') (c3 : ∀ W, Calls Try.prog 38 #[.int .i64 g] W fun e w' => e = .returned (.int .i64 q) ∧ w' = W) (hq : q = at') (c2 : ∀ W, Calls Try.prog 7 #[.string (T.extract 8 (8 + n)), .int .i64 g] W fun e w' => e = .returned (.tuple #[.string X, .int .i64 0]) ∧ Below W.heap.size W w') (hne : (X.toList == s.toList) = false) :
    Calls Try.prog 16 #[.string s, .int .i64 at'] w fun e w' => e = .returned (.tuple #[.string (T.extract 8 (8 + n)), .int .i64 g, .bool false]) ∧ Below w.heap.size w w' := by
  subst hq
  have d0 : ((T.size : Int) == 252) = true := by rw [hT]; rfl
  have p4 : (4 : Int) ≤ (T.size : Int) := by omega
  have d1 : decide ((244 : Int) < (n : Int)) = false := decide_eq_false (by omega)
  have p8 : (8 : Int) ≤ 8 + (n : Int) := by omega
  have p9 : 8 + (n : Int) ≤ 252 := by omega
  go_enter Try.func16, Try.ntmps16
  go_wp2_with fail
  refine (c0 _).mono ?_
  rintro e w1 ⟨rfl, hb1⟩
  have HB1 := Hid_of hb1
  clear c0 hb1
  have BD : Below w.heap.size w w1.drew := Below.drew HB1.out
  go_wp2_with fail
  go_region_held3 (fun wq => Below w.heap.size w wq) (first | assumption) (first | (go_at_call 37; refine (c1 _).mono ?_; rintro e w2 ⟨rfl, hb2⟩; have B2 : Below w.heap.size w w2 := bel_up BD hb2 (Nat.le_refl _); clear c1 BD) | (go_at_call 37; refine (c1' _).mono ?_; rintro e w3 ⟨rfl, hb3⟩; have B3 : Below w.heap.size w w3 := bel_up B2 hb3 (Nat.le_refl _); clear c1'))
  have HB3 := Hid_of B3
  clear B3 hb3 B2 hb2 HB1
  go_wp2_with fail
  refine (c3 _).mono ?_
  rintro e w4 ⟨rfl, rfl⟩
  clear c3
  go_wp2_with fail
  refine (c2 _).mono ?_
  rintro e w5 ⟨rfl, hb5⟩
  have HB5 := Hid_of (bel_up HB3.out hb5 (Nat.le_refl _))
  clear c2 hb5 HB3
  go_wp2
  go_ret3
  exact ⟨rfl, HB5.out⟩
set_option maxRecDepth 100000 in
set_option maxHeartbeats 2000000 in
theorem right_6 (at' : Nat) (s T : ByteArray) (w : World) (g n : Nat) (hg : g < 4294967296) (hn : n < 4294967296) (hT : T.size = 252) (h244 : n ≤ 244) (q : Nat) (X : ByteArray) (c0 : ∀ W, Calls Try.prog 36 #[.string s] W fun e w' => e = .returned (.tuple #[.string T, .int .i64 0]) ∧ Below W.heap.size W w') (c1 : ∀ W, Calls Try.prog 37 #[.string T] W fun e w' => e = .returned (.int .u32 g) ∧ Below W.heap.size W w') (c1' : ∀ W, Calls Try.prog 37 #[.string (T.extract 4 252)] W fun e w' => e = .returned (.int .u32 n) ∧ Below W.heap.size W w') (c3 : ∀ W, Calls Try.prog 38 #[.int .i64 g] W fun e w' => e = .returned (.int .i64 q) ∧ w' = W) (hq : q = at') (c2 : ∀ W, Calls Try.prog 7 #[.string (T.extract 8 (8 + n)), .int .i64 g] W fun e w' => e = .returned (.tuple #[.string X, .int .i64 0]) ∧ Below W.heap.size W w') (he : X = s) :
    Calls Try.prog 16 #[.string s, .int .i64 at'] w fun e w' => e = .returned (.tuple #[.string (T.extract 8 (8 + n)), .int .i64 g, .bool true]) ∧ Below w.heap.size w w' := by
  subst hq
  subst he
  have d0 : ((T.size : Int) == 252) = true := by rw [hT]; rfl
  have p4 : (4 : Int) ≤ (T.size : Int) := by omega
  have d1 : decide ((244 : Int) < (n : Int)) = false := decide_eq_false (by omega)
  have p8 : (8 : Int) ≤ 8 + (n : Int) := by omega
  have p9 : 8 + (n : Int) ≤ 252 := by omega
  go_enter Try.func16, Try.ntmps16
  go_wp2_with fail
  refine (c0 _).mono ?_
  rintro e w1 ⟨rfl, hb1⟩
  have HB1 := Hid_of hb1
  clear c0 hb1
  have BD : Below w.heap.size w w1.drew := Below.drew HB1.out
  go_wp2_with fail
  go_region_held3 (fun wq => Below w.heap.size w wq) (first | assumption) (first | (go_at_call 37; refine (c1 _).mono ?_; rintro e w2 ⟨rfl, hb2⟩; have B2 : Below w.heap.size w w2 := bel_up BD hb2 (Nat.le_refl _); clear c1 BD) | (go_at_call 37; refine (c1' _).mono ?_; rintro e w3 ⟨rfl, hb3⟩; have B3 : Below w.heap.size w w3 := bel_up B2 hb3 (Nat.le_refl _); clear c1'))
  have HB3 := Hid_of B3
  clear B3 hb3 B2 hb2 HB1
  go_wp2_with fail
  refine (c3 _).mono ?_
  rintro e w4 ⟨rfl, rfl⟩
  clear c3
  go_wp2_with fail
  refine (c2 _).mono ?_
  rintro e w5 ⟨rfl, hb5⟩
  have HB5 := Hid_of (bel_up HB3.out hb5 (Nat.le_refl _))
  clear c2 hb5 HB3
  go_wp2
  go_ret3
  exact ⟨rfl, HB5.out⟩
theorem refNum_tail (s : ByteArray) (hs : s.size = 256) (W : World) :
    Calls Try.prog 37 #[.string ((ofL (s.data.toList.take 252)).extract 4 252)] W fun e w' => e = .returned (.int .u32 (Sp.nm s.data.toList 4)) ∧ Below W.heap.size W w' := by
  have hT := text_size s hs
  have h := refNumber_any ((ofL (s.data.toList.take 252)).extract 4 252) W (by rw [ByteArray.size_extract, hT]; decide) (by rw [ByteArray.size_extract, hT]; decide)
  have e := nm_tail (ofL (s.data.toList.take 252))
  rw [hT, ofL_data, Sp.nm_take _ _ _ (by omega)] at e
  rw [e] at h
  exact h
theorem right_any (pl : Nat) (s : ByteArray) (w : World) (hs : s.size = 256) :
    Calls Try.prog 16 #[.string s, .int .i64 (pl * 4 : Nat)] w fun e w' => ∃ x y, e = .returned (.tuple #[.string x, .int .i64 y, .bool (Sp.ok pl s.data.toList)]) ∧ (Sp.ok pl s.data.toList = true → x = ofL (Sp.bd s.data.toList) ∧ y = (Sp.nm s.data.toList 0 : Nat)) ∧ Below w.heap.size w w' := by
  have c0 := fun W => refOpen_any s W (by omega)
  have key : ∀ (x : ByteArray) (y : Int) (v : Bool), (Calls Try.prog 16 #[.string s, .int .i64 (pl * 4 : Nat)] w fun e w' => e = .returned (.tuple #[.string x, .int .i64 y, .bool v]) ∧ Below w.heap.size w w') → Sp.ok pl s.data.toList = v → (v = true → x = ofL (Sp.bd s.data.toList) ∧ y = (Sp.nm s.data.toList 0 : Nat)) → Calls Try.prog 16 #[.string s, .int .i64 (pl * 4 : Nat)] w fun e w' => ∃ x y, e = .returned (.tuple #[.string x, .int .i64 y, .bool (Sp.ok pl s.data.toList)]) ∧ (Sp.ok pl s.data.toList = true → x = ofL (Sp.bd s.data.toList) ∧ y = (Sp.nm s.data.toList 0 : Nat)) ∧ Below w.heap.size w w' := by
    intro x y v h1 h2 h3
    rw [h2]
    exact h1.mono fun e w' h => ⟨x, y, h.1, h3, h.2⟩
  by_cases h1 : K2.sealed (s.data.toList.take 252) = s.data.toList
  · rw [open_yes s hs h1] at c0
    have hT := text_size s hs
    have c1 := fun W => refNumber_any (ofL (s.data.toList.take 252)) W (by rw [hT]; decide) (by omega)
    rw [ofL_data, Sp.nm_take _ _ _ (by omega)] at c1
    have c1' := fun W => refNum_tail s hs W
    have hg := Sp.nm_lt s.data.toList 0
    have hn := Sp.nm_lt s.data.toList 4
    by_cases h2 : Sp.nm s.data.toList 4 ≤ 244
    · obtain ⟨eb, el⟩ := body_eq s hs h2
      have hbz : (ofL (Sp.bd s.data.toList)).size ≤ 244 := by rw [ofL_size]; omega
      have c2 := fun W => refPack_any ((ofL (s.data.toList.take 252)).extract 8 (8 + Sp.nm s.data.toList 4)) (Sp.nm s.data.toList 0) W (by rw [eb]; unfold maxLen; omega)
      have c3 := fun W => refPlace_any (Sp.nm s.data.toList 0) hg W
      by_cases h6 : Sp.nm s.data.toList 0 % 2 = pl
      · have h6' : Sp.nm s.data.toList 0 % 2 * 4 = pl * 4 := by rw [h6]
        rcases pack_of s hs h2 with ⟨h3, h4, e1, e2⟩ | ⟨h3, e1, e2⟩
        · rw [eb, e1, e2, ← eb] at c2
          by_cases h5 : Sp.pk (Sp.bd s.data.toList) (Sp.nm s.data.toList 0) = s.data.toList
          · exact key _ _ _ (right_6 _ s _ w _ _ hg hn hT h2 _ _ c0 c1 c1' c3 h6' c2 (by rw [h5, ofL_of])) ((Sp.ok_iff _ _).2 ⟨h1, h2, h3, h4, h5, h6⟩) (fun _ => ⟨eb, rfl⟩)
          · exact key _ _ _ (right_5 _ s _ w _ _ hg hn hT h2 _ _ c0 c1 c1' c3 h6' c2 (ofL_ne h5)) (ok_false fun h => h5 h.2.2.2.2.1) (fun h => by cases h)
        · rw [eb, e1, e2, ← eb] at c2
          exact key _ _ _ (right_4 _ s _ w _ _ hg hn hT h2 _ _ c0 c1 c1' c3 h6' c2) (ok_false fun h => h3 ⟨h.2.2.1, h.2.2.2.1⟩) (fun h => by cases h)
      · exact key _ _ _ (right_3 _ s _ w _ _ hg hn hT h2 _ c0 c1 c1' c3 (by omega)) (ok_false fun h => h6 h.2.2.2.2.2) (fun h => by cases h)
    · exact key _ _ _ (right_2 _ s _ w _ _ hg hn hT c0 c1 c1' (by omega)) (ok_false fun h => h2 h.2.1) (fun h => by cases h)
  · rw [open_no s hs h1] at c0
    exact key _ _ _ (right_1 _ s _ w c0) (ok_false fun h => h1 h.1) (fun h => by cases h)
end Go.Proofs.Ythffglacokfkgaa
