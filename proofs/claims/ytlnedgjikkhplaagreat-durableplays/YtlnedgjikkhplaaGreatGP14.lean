import Derived.Test.YtlnedgjikkhplaaGreatGP13
import Derived.Test.YtlnedgjikkhplaaGreatGP11
set_option maxRecDepth 100000
set_option maxHeartbeats 8000000
set_option linter.unusedVariables false
set_option linter.unusedSimpArgs false
namespace Go.Proofs.YtlnedgjikkhplaaGreat.Ns
open Go.RowKit
open M (ofL ofL_size ofL_of)
theorem open_yes (s : ByteArray) (hs : s.size = 256) (h : K2.sealed (s.data.toList.take 252) = s.data.toList) : openOut s = (ofL (s.data.toList.take 252), 0) := by
 unfold openOut; rw [if_neg (by omega), hs, if_pos h]
theorem open_no (s : ByteArray) (hs : s.size = 256) (h : ¬ K2.sealed (s.data.toList.take 252) = s.data.toList) : openOut s = (ByteArray.empty, 4) := by
 unfold openOut; rw [if_neg (by omega), hs, if_neg h]
theorem text_size (s : ByteArray) (hs : s.size = 256) : (ofL (s.data.toList.take 252)).size = 252 := by rw [ofL_size, List.length_take, len_data, hs]; rfl
theorem ok_false {pl : Nat} {s : List UInt8} (h : ¬ (K2.sealed (s.take 252) = s ∧ Sp.nm s 4 ≤ 244 ∧ 1 ≤ Sp.nm s 0 ∧ Sp.nm s 0 < 2147483648 ∧ Sp.pk (Sp.bd s) (Sp.nm s 0) = s ∧ Sp.nm s 0 % 2 = pl)) : Sp.ok pl s = false := by
 cases ho : Sp.ok pl s with
 | false => rfl
 | true => exact absurd ((Sp.ok_iff pl s).1 ho) h
theorem pack_of (s : ByteArray) (hs : s.size = 256) (hn : Sp.nm s.data.toList 4 ≤ 244) :
  (1 ≤ Sp.nm s.data.toList 0 ∧ Sp.nm s.data.toList 0 < 2147483648 ∧ ptext (ofL (Sp.bd s.data.toList)) (Sp.nm s.data.toList 0) = ofL (Sp.pk (Sp.bd s.data.toList) (Sp.nm s.data.toList 0)) ∧ pcode (ofL (Sp.bd s.data.toList)) (Sp.nm s.data.toList 0) = 0) ∨
  (¬ (1 ≤ Sp.nm s.data.toList 0 ∧ Sp.nm s.data.toList 0 < 2147483648) ∧ ptext (ofL (Sp.bd s.data.toList)) (Sp.nm s.data.toList 0) = M.E ∧ pcode (ofL (Sp.bd s.data.toList)) (Sp.nm s.data.toList 0) = 1) := by
 have hl := (body_eq s hs hn).2
 rcases pcode_cases (ofL (Sp.bd s.data.toList)) (Sp.nm s.data.toList 0) with ⟨h1, e1, e2⟩ | ⟨h1, h2, e1, e2⟩ | ⟨h1, h2, e1, e2⟩
 ·right
  exact ⟨by omega, e2, e1⟩
 ·rw [ofL_size, hl] at h2
  omega
 ·left
  rw [ofL_data, Int.toNat_natCast] at e2
  exact ⟨by omega, by omega, e2, e1⟩
theorem ofL_ne {l : List UInt8} {s : ByteArray} (h : ¬ l = s.data.toList) : ((ofL l).toList == s.toList) = false := text_ne fun e => h (by rw [← e, ofL_data])
theorem stateAt_any (pl : Nat) (s : ByteArray) (w : World) (hs : s.size = 256) :
  Calls Tryz.prog 131 #[.int .i64 pl, .string s] w fun e w' => e = .returned (.agg (SV (Sp.sa pl s.data.toList))) ∧ Below w.heap.size w w' := by
 have c0 := fun W => open_any s W (by omega)
 by_cases h1 : K2.sealed (s.data.toList.take 252) = s.data.toList
 ·rw [open_yes s hs h1] at c0
  have hT := text_size s hs
  have c1 := fun W => headOf_any (ofL (s.data.toList.take 252)) W (by rw [hT]; decide) (by omega)
  rw [ofL_data, Sp.nm_take _ _ _ (by omega), Sp.nm_take _ _ _ (by omega)] at c1
  have hg := Sp.nm_lt s.data.toList 0
  have hn := Sp.nm_lt s.data.toList 4
  by_cases h2 : Sp.nm s.data.toList 4 ≤ 244
  ·obtain ⟨eb, el⟩ := body_eq s hs h2
   have hbz : (ofL (Sp.bd s.data.toList)).size ≤ 244 := by rw [ofL_size]; omega
   have c2 := fun W => pack_any ((ofL (s.data.toList.take 252)).extract 8 (8 + Sp.nm s.data.toList 4)) (Sp.nm s.data.toList 0) W (by rw [eb]; unfold maxLen; omega)
   have c3 := fun W => placeOf_any (Sp.nm s.data.toList 0) hg W
   have c4 := fun W => clone_any ((ofL (s.data.toList.take 252)).extract 8 (8 + Sp.nm s.data.toList 4)) W (by rw [eb]; omega)
   rcases pack_of s hs h2 with ⟨h3, h4, e1, e2⟩ | ⟨h3, e1, e2⟩
   ·rw [eb, e1, e2, ← eb] at c2
    by_cases h5 : Sp.pk (Sp.bd s.data.toList) (Sp.nm s.data.toList 0) = s.data.toList
    ·by_cases h6 : Sp.nm s.data.toList 0 % 2 = pl
     ·have ho : Sp.ok pl s.data.toList = true := (Sp.ok_iff _ _).2 ⟨h1, h2, h3, h4, h5, h6⟩
      rw [Sp.sa_yes ho]
      have := stateAt_6 pl s _ w _ _ hg hn _ hT h2 _ c0 c1 c2 c3 c4 (by rw [h5, ofL_of]) h6
      rw [eb] at this; unfold SV; rw [el]
      exact this
     ·rw [Sp.sa_no (ok_false fun h => h6 h.2.2.2.2.2)]
      exact stateAt_5 pl s _ w _ _ hg hn _ hT h2 _ c0 c1 c2 c3 (by rw [h5, ofL_of]) h6
    ·rw [Sp.sa_no (ok_false fun h => h5 h.2.2.2.2.1)]
     exact stateAt_4 pl s _ w _ _ hg hn _ hT h2 0 c0 c1 c2 (ofL_ne h5)
   ·rw [eb, e1, e2, ← eb] at c2
    rw [Sp.sa_no (ok_false fun h => h3 ⟨h.2.2.1, h.2.2.2.1⟩)]
    exact stateAt_3 pl s _ w _ _ hg hn _ hT h2 c0 c1 c2
  ·rw [Sp.sa_no (ok_false fun h => h2 h.2.1)]
   exact stateAt_2 pl s _ w _ _ hg hn c0 c1 (by omega)
 ·rw [open_no s hs h1] at c0
  rw [Sp.sa_no (ok_false fun h => h1 h.1)]
  exact stateAt_1 pl s _ w c0
theorem right_1 (at' : Nat) (s T : ByteArray) (w : World) (c0 : ∀ W, Calls Tryz.prog 94 #[.string s] W fun e w' => e = .returned (.tuple #[.string T, .int .i64 4]) ∧ Below W.heap.size W w') :
  Calls Tryz.prog 92 #[.string s, .int .i64 at'] w fun e w' => e = .returned (.tuple #[.string { data := #[] }, .int .i64 0, .bool false]) ∧ Below w.heap.size w w' := by
 go_enter Tryz.func92, Tryz.ntmps92
 go_wp2_with fail
 refine (c0 _).mono ?_; rintro e w1 ⟨rfl, hb1⟩
 have HB1 := Hf hb1
 clear c0 hb1; go_wp2
 go_ret3
 exact ⟨rfl, HB1.out⟩
theorem right_2 (at' : Nat) (s T : ByteArray) (w : World) (g n : Nat) (hg : g < 4294967296) (hn : n < 4294967296) (hT : T.size = 252) (c0 : ∀ W, Calls Tryz.prog 94 #[.string s] W fun e w' => e = .returned (.tuple #[.string T, .int .i64 0]) ∧ Below W.heap.size W w') (c1 : ∀ W, Calls Tryz.prog 139 #[.string T] W fun e w' => e = .returned (.int .u32 g) ∧ Below W.heap.size W w') (c1' : ∀ W, Calls Tryz.prog 139 #[.string (T.extract 4 252)] W fun e w' => e = .returned (.int .u32 n) ∧ Below W.heap.size W w') (h244 : 244 < n) :
  Calls Tryz.prog 92 #[.string s, .int .i64 at'] w fun e w' => e = .returned (.tuple #[.string { data := #[] }, .int .i64 0, .bool false]) ∧ Below w.heap.size w w' := by
 have d0 : ((T.size : Int) == 252) = true := by rw [hT]; rfl
 have p4 : (4 : Int) ≤ (T.size : Int) := by omega
 have d1 : decide ((244 : Int) < (n : Int)) = true := decide_eq_true (by omega)
 go_enter Tryz.func92, Tryz.ntmps92
 go_wp2_with fail
 refine (c0 _).mono ?_; rintro e w1 ⟨rfl, hb1⟩
 have HB1 := Hf hb1
 clear c0 hb1
 have BD : Below w.heap.size w w1.drew := Below.drew HB1.out
 go_wp2_with fail
 go_region_held3 (fun wq => Below w.heap.size w wq) (first | assumption) (first | (go_at_call 139; refine (c1 _).mono ?_; rintro e w2 ⟨rfl, hb2⟩; have B2 : Below w.heap.size w w2 := Bu BD hb2 Lr; clear c1 BD) | (go_at_call 139; refine (c1' _).mono ?_; rintro e w3 ⟨rfl, hb3⟩; have B3 : Below w.heap.size w w3 := Bu B2 hb3 Lr; clear c1'))
 have HB3 := Hf B3
 clear B3 hb3 B2 hb2 HB1; go_wp2
 go_ret3
 exact ⟨rfl, HB3.out⟩
theorem right_3 (at' : Nat) (s T : ByteArray) (w : World) (g n : Nat) (hg : g < 4294967296) (hn : n < 4294967296) (hT : T.size = 252) (h244 : n ≤ 244) (q : Nat) (c0 : ∀ W, Calls Tryz.prog 94 #[.string s] W fun e w' => e = .returned (.tuple #[.string T, .int .i64 0]) ∧ Below W.heap.size W w') (c1 : ∀ W, Calls Tryz.prog 139 #[.string T] W fun e w' => e = .returned (.int .u32 g) ∧ Below W.heap.size W w') (c1' : ∀ W, Calls Tryz.prog 139 #[.string (T.extract 4 252)] W fun e w' => e = .returned (.int .u32 n) ∧ Below W.heap.size W w') (c3 : ∀ W, Calls Tryz.prog 128 #[.int .i64 g] W fun e w' => e = .returned (.int .i64 q) ∧ w' = W) (hq : ¬ q = at') :
  Calls Tryz.prog 92 #[.string s, .int .i64 at'] w fun e w' => e = .returned (.tuple #[.string { data := #[] }, .int .i64 0, .bool false]) ∧ Below w.heap.size w w' := by
 have d0 : ((T.size : Int) == 252) = true := by rw [hT]; rfl
 have p4 : (4 : Int) ≤ (T.size : Int) := by omega
 have d1 : decide ((244 : Int) < (n : Int)) = false := decide_eq_false (by omega)
 have p8 : (8 : Int) ≤ 8 + (n : Int) := by omega
 have p9 : 8 + (n : Int) ≤ 252 := by omega
 have dq : ((q : Int) == (at' : Int)) = false := by rw [beq_eq_false_iff_ne]; omega
 go_enter Tryz.func92, Tryz.ntmps92
 go_wp2_with fail
 refine (c0 _).mono ?_; rintro e w1 ⟨rfl, hb1⟩
 have HB1 := Hf hb1
 clear c0 hb1
 have BD : Below w.heap.size w w1.drew := Below.drew HB1.out
 go_wp2_with fail
 go_region_held3 (fun wq => Below w.heap.size w wq) (first | assumption) (first | (go_at_call 139; refine (c1 _).mono ?_; rintro e w2 ⟨rfl, hb2⟩; have B2 : Below w.heap.size w w2 := Bu BD hb2 Lr; clear c1 BD) | (go_at_call 139; refine (c1' _).mono ?_; rintro e w3 ⟨rfl, hb3⟩; have B3 : Below w.heap.size w w3 := Bu B2 hb3 Lr; clear c1'))
 have HB3 := Hf B3
 clear B3 hb3 B2 hb2 HB1
 go_wp2_with fail
 refine (c3 _).mono ?_; rintro e w4 ⟨rfl, rfl⟩
 clear c3; go_wp2
 go_ret3
 exact ⟨rfl, HB3.out⟩
theorem right_4 (at' : Nat) (s T : ByteArray) (w : World) (g n : Nat) (hg : g < 4294967296) (hn : n < 4294967296) (hT : T.size = 252) (h244 : n ≤ 244) (q : Nat) (X : ByteArray) (c0 : ∀ W, Calls Tryz.prog 94 #[.string s] W fun e w' => e = .returned (.tuple #[.string T, .int .i64 0]) ∧ Below W.heap.size W w') (c1 : ∀ W, Calls Tryz.prog 139 #[.string T] W fun e w' => e = .returned (.int .u32 g) ∧ Below W.heap.size W w') (c1' : ∀ W, Calls Tryz.prog 139 #[.string (T.extract 4 252)] W fun e w' => e = .returned (.int .u32 n) ∧ Below W.heap.size W w') (c3 : ∀ W, Calls Tryz.prog 128 #[.int .i64 g] W fun e w' => e = .returned (.int .i64 q) ∧ w' = W) (hq : q = at') (c2 : ∀ W, Calls Tryz.prog 127 #[.string (T.extract 8 (8 + n)), .int .i64 g] W fun e w' => e = .returned (.tuple #[.string X, .int .i64 1]) ∧ Below W.heap.size W w') :
  Calls Tryz.prog 92 #[.string s, .int .i64 at'] w fun e w' => e = .returned (.tuple #[.string (T.extract 8 (8 + n)), .int .i64 g, .bool false]) ∧ Below w.heap.size w w' := by
 subst hq
 have d0 : ((T.size : Int) == 252) = true := by rw [hT]; rfl
 have p4 : (4 : Int) ≤ (T.size : Int) := by omega
 have d1 : decide ((244 : Int) < (n : Int)) = false := decide_eq_false (by omega)
 have p8 : (8 : Int) ≤ 8 + (n : Int) := by omega
 have p9 : 8 + (n : Int) ≤ 252 := by omega
 go_enter Tryz.func92, Tryz.ntmps92
 go_wp2_with fail
 refine (c0 _).mono ?_; rintro e w1 ⟨rfl, hb1⟩
 have HB1 := Hf hb1
 clear c0 hb1
 have BD : Below w.heap.size w w1.drew := Below.drew HB1.out
 go_wp2_with fail
 go_region_held3 (fun wq => Below w.heap.size w wq) (first | assumption) (first | (go_at_call 139; refine (c1 _).mono ?_; rintro e w2 ⟨rfl, hb2⟩; have B2 : Below w.heap.size w w2 := Bu BD hb2 Lr; clear c1 BD) | (go_at_call 139; refine (c1' _).mono ?_; rintro e w3 ⟨rfl, hb3⟩; have B3 : Below w.heap.size w w3 := Bu B2 hb3 Lr; clear c1'))
 have HB3 := Hf B3
 clear B3 hb3 B2 hb2 HB1
 go_wp2_with fail
 refine (c3 _).mono ?_; rintro e w4 ⟨rfl, rfl⟩
 clear c3
 go_wp2_with fail
 refine (c2 _).mono ?_; rintro e w5 ⟨rfl, hb5⟩
 have HB5 := Hf (Bu HB3.out hb5 Lr)
 clear c2 hb5 HB3; go_wp2
 go_ret3
 exact ⟨rfl, HB5.out⟩
theorem right_5 (at' : Nat) (s T : ByteArray) (w : World) (g n : Nat) (hg : g < 4294967296) (hn : n < 4294967296) (hT : T.size = 252) (h244 : n ≤ 244) (q : Nat) (X : ByteArray) (c0 : ∀ W, Calls Tryz.prog 94 #[.string s] W fun e w' => e = .returned (.tuple #[.string T, .int .i64 0]) ∧ Below W.heap.size W w') (c1 : ∀ W, Calls Tryz.prog 139 #[.string T] W fun e w' => e = .returned (.int .u32 g) ∧ Below W.heap.size W w') (c1' : ∀ W, Calls Tryz.prog 139 #[.string (T.extract 4 252)] W fun e w' => e = .returned (.int .u32 n) ∧ Below W.heap.size W w') (c3 : ∀ W, Calls Tryz.prog 128 #[.int .i64 g] W fun e w' => e = .returned (.int .i64 q) ∧ w' = W) (hq : q = at') (c2 : ∀ W, Calls Tryz.prog 127 #[.string (T.extract 8 (8 + n)), .int .i64 g] W fun e w' => e = .returned (.tuple #[.string X, .int .i64 0]) ∧ Below W.heap.size W w') (hne : (X.toList == s.toList) = false) :
  Calls Tryz.prog 92 #[.string s, .int .i64 at'] w fun e w' => e = .returned (.tuple #[.string (T.extract 8 (8 + n)), .int .i64 g, .bool false]) ∧ Below w.heap.size w w' := by
 subst hq
 have d0 : ((T.size : Int) == 252) = true := by rw [hT]; rfl
 have p4 : (4 : Int) ≤ (T.size : Int) := by omega
 have d1 : decide ((244 : Int) < (n : Int)) = false := decide_eq_false (by omega)
 have p8 : (8 : Int) ≤ 8 + (n : Int) := by omega
 have p9 : 8 + (n : Int) ≤ 252 := by omega
 go_enter Tryz.func92, Tryz.ntmps92
 go_wp2_with fail
 refine (c0 _).mono ?_; rintro e w1 ⟨rfl, hb1⟩
 have HB1 := Hf hb1
 clear c0 hb1
 have BD : Below w.heap.size w w1.drew := Below.drew HB1.out
 go_wp2_with fail
 go_region_held3 (fun wq => Below w.heap.size w wq) (first | assumption) (first | (go_at_call 139; refine (c1 _).mono ?_; rintro e w2 ⟨rfl, hb2⟩; have B2 : Below w.heap.size w w2 := Bu BD hb2 Lr; clear c1 BD) | (go_at_call 139; refine (c1' _).mono ?_; rintro e w3 ⟨rfl, hb3⟩; have B3 : Below w.heap.size w w3 := Bu B2 hb3 Lr; clear c1'))
 have HB3 := Hf B3
 clear B3 hb3 B2 hb2 HB1
 go_wp2_with fail
 refine (c3 _).mono ?_; rintro e w4 ⟨rfl, rfl⟩
 clear c3
 go_wp2_with fail
 refine (c2 _).mono ?_; rintro e w5 ⟨rfl, hb5⟩
 have HB5 := Hf (Bu HB3.out hb5 Lr)
 clear c2 hb5 HB3; go_wp2
 go_ret3
 exact ⟨rfl, HB5.out⟩
theorem right_6 (at' : Nat) (s T : ByteArray) (w : World) (g n : Nat) (hg : g < 4294967296) (hn : n < 4294967296) (hT : T.size = 252) (h244 : n ≤ 244) (q : Nat) (X : ByteArray) (c0 : ∀ W, Calls Tryz.prog 94 #[.string s] W fun e w' => e = .returned (.tuple #[.string T, .int .i64 0]) ∧ Below W.heap.size W w') (c1 : ∀ W, Calls Tryz.prog 139 #[.string T] W fun e w' => e = .returned (.int .u32 g) ∧ Below W.heap.size W w') (c1' : ∀ W, Calls Tryz.prog 139 #[.string (T.extract 4 252)] W fun e w' => e = .returned (.int .u32 n) ∧ Below W.heap.size W w') (c3 : ∀ W, Calls Tryz.prog 128 #[.int .i64 g] W fun e w' => e = .returned (.int .i64 q) ∧ w' = W) (hq : q = at') (c2 : ∀ W, Calls Tryz.prog 127 #[.string (T.extract 8 (8 + n)), .int .i64 g] W fun e w' => e = .returned (.tuple #[.string X, .int .i64 0]) ∧ Below W.heap.size W w') (he : X = s) :
  Calls Tryz.prog 92 #[.string s, .int .i64 at'] w fun e w' => e = .returned (.tuple #[.string (T.extract 8 (8 + n)), .int .i64 g, .bool true]) ∧ Below w.heap.size w w' := by
 subst hq; subst he
 have d0 : ((T.size : Int) == 252) = true := by rw [hT]; rfl
 have p4 : (4 : Int) ≤ (T.size : Int) := by omega
 have d1 : decide ((244 : Int) < (n : Int)) = false := decide_eq_false (by omega)
 have p8 : (8 : Int) ≤ 8 + (n : Int) := by omega
 have p9 : 8 + (n : Int) ≤ 252 := by omega
 go_enter Tryz.func92, Tryz.ntmps92
 go_wp2_with fail
 refine (c0 _).mono ?_; rintro e w1 ⟨rfl, hb1⟩
 have HB1 := Hf hb1
 clear c0 hb1
 have BD : Below w.heap.size w w1.drew := Below.drew HB1.out
 go_wp2_with fail
 go_region_held3 (fun wq => Below w.heap.size w wq) (first | assumption) (first | (go_at_call 139; refine (c1 _).mono ?_; rintro e w2 ⟨rfl, hb2⟩; have B2 : Below w.heap.size w w2 := Bu BD hb2 Lr; clear c1 BD) | (go_at_call 139; refine (c1' _).mono ?_; rintro e w3 ⟨rfl, hb3⟩; have B3 : Below w.heap.size w w3 := Bu B2 hb3 Lr; clear c1'))
 have HB3 := Hf B3
 clear B3 hb3 B2 hb2 HB1
 go_wp2_with fail
 refine (c3 _).mono ?_; rintro e w4 ⟨rfl, rfl⟩
 clear c3
 go_wp2_with fail
 refine (c2 _).mono ?_; rintro e w5 ⟨rfl, hb5⟩
 have HB5 := Hf (Bu HB3.out hb5 Lr)
 clear c2 hb5 HB3; go_wp2
 go_ret3
 exact ⟨rfl, HB5.out⟩
theorem refNum_tail (s : ByteArray) (hs : s.size = 256) (W : World) :
  Calls Tryz.prog 139 #[.string ((ofL (s.data.toList.take 252)).extract 4 252)] W fun e w' => e = .returned (.int .u32 (Sp.nm s.data.toList 4)) ∧ Below W.heap.size W w' := by
 have hT := text_size s hs
 have h := refNumber_any ((ofL (s.data.toList.take 252)).extract 4 252) W (by rw [ByteArray.size_extract, hT]; decide) (by rw [ByteArray.size_extract, hT]; decide)
 have e := nm_tail (ofL (s.data.toList.take 252))
 rw [hT, ofL_data, Sp.nm_take _ _ _ (by omega)] at e; rw [e] at h
 exact h
theorem right_any (pl : Nat) (s : ByteArray) (w : World) (hs : s.size = 256) :
  Calls Tryz.prog 92 #[.string s, .int .i64 (pl * 4 : Nat)] w fun e w' => ∃ x y, e = .returned (.tuple #[.string x, .int .i64 y, .bool (Sp.ok pl s.data.toList)]) ∧ (Sp.ok pl s.data.toList = true → x = ofL (Sp.bd s.data.toList) ∧ y = (Sp.nm s.data.toList 0 : Nat)) ∧ Below w.heap.size w w' := by
 have c0 := fun W => refOpen_any s W (by omega)
 have key : ∀ (x : ByteArray) (y : Int) (v : Bool), (Calls Tryz.prog 92 #[.string s, .int .i64 (pl * 4 : Nat)] w fun e w' => e = .returned (.tuple #[.string x, .int .i64 y, .bool v]) ∧ Below w.heap.size w w') → Sp.ok pl s.data.toList = v → (v = true → x = ofL (Sp.bd s.data.toList) ∧ y = (Sp.nm s.data.toList 0 : Nat)) → Calls Tryz.prog 92 #[.string s, .int .i64 (pl * 4 : Nat)] w fun e w' => ∃ x y, e = .returned (.tuple #[.string x, .int .i64 y, .bool (Sp.ok pl s.data.toList)]) ∧ (Sp.ok pl s.data.toList = true → x = ofL (Sp.bd s.data.toList) ∧ y = (Sp.nm s.data.toList 0 : Nat)) ∧ Below w.heap.size w w' := by
  intro x y v h1 h2 h3; rw [h2]
  exact h1.mono fun e w' h => ⟨x, y, h.1, h3, h.2⟩
 by_cases h1 : K2.sealed (s.data.toList.take 252) = s.data.toList
 ·rw [open_yes s hs h1] at c0
  have hT := text_size s hs
  have c1 := fun W => refNumber_any (ofL (s.data.toList.take 252)) W (by rw [hT]; decide) (by omega)
  rw [ofL_data, Sp.nm_take _ _ _ (by omega)] at c1
  have c1' := fun W => refNum_tail s hs W
  have hg := Sp.nm_lt s.data.toList 0
  have hn := Sp.nm_lt s.data.toList 4
  by_cases h2 : Sp.nm s.data.toList 4 ≤ 244
  ·obtain ⟨eb, el⟩ := body_eq s hs h2
   have hbz : (ofL (Sp.bd s.data.toList)).size ≤ 244 := by rw [ofL_size]; omega
   have c2 := fun W => refPack_any ((ofL (s.data.toList.take 252)).extract 8 (8 + Sp.nm s.data.toList 4)) (Sp.nm s.data.toList 0) W (by rw [eb]; unfold maxLen; omega)
   have c3 := fun W => refPlace_any (Sp.nm s.data.toList 0) hg W
   by_cases h6 : Sp.nm s.data.toList 0 % 2 = pl
   ·have h6' : Sp.nm s.data.toList 0 % 2 * 4 = pl * 4 := by rw [h6]
    rcases pack_of s hs h2 with ⟨h3, h4, e1, e2⟩ | ⟨h3, e1, e2⟩
    ·rw [eb, e1, e2, ← eb] at c2
     by_cases h5 : Sp.pk (Sp.bd s.data.toList) (Sp.nm s.data.toList 0) = s.data.toList
     ·exact key _ _ _ (right_6 _ s _ w _ _ hg hn hT h2 _ _ c0 c1 c1' c3 h6' c2 (by rw [h5, ofL_of])) ((Sp.ok_iff _ _).2 ⟨h1, h2, h3, h4, h5, h6⟩) (fun _ => ⟨eb, rfl⟩)
     ·exact key _ _ _ (right_5 _ s _ w _ _ hg hn hT h2 _ _ c0 c1 c1' c3 h6' c2 (ofL_ne h5)) (ok_false fun h => h5 h.2.2.2.2.1) (fun h => by cases h)
    ·rw [eb, e1, e2, ← eb] at c2
     exact key _ _ _ (right_4 _ s _ w _ _ hg hn hT h2 _ _ c0 c1 c1' c3 h6' c2) (ok_false fun h => h3 ⟨h.2.2.1, h.2.2.2.1⟩) (fun h => by cases h)
   ·exact key _ _ _ (right_3 _ s _ w _ _ hg hn hT h2 _ c0 c1 c1' c3 (by omega)) (ok_false fun h => h6 h.2.2.2.2.2) (fun h => by cases h)
  ·exact key _ _ _ (right_2 _ s _ w _ _ hg hn hT c0 c1 c1' (by omega)) (ok_false fun h => h2 h.2.1) (fun h => by cases h)
 ·rw [open_no s hs h1] at c0
  exact key _ _ _ (right_1 _ s _ w c0) (ok_false fun h => h1 h.1) (fun h => by cases h)
def both (P : List M.Pl) : List UInt8 := (M.cat (P.map M.last)).data.toList
def rdP (P : List M.Pl) : Nat × List UInt8 := Sp.rd (both P)
def rcode (x : Nat × List UInt8) : Int := bif decide (x.1 = 0) then 7 else 0
theorem rd_par (s : List UInt8) : (Sp.rd s).1 = 0 ∧ (Sp.rd s).2 = [] ∨ 1 ≤ (Sp.rd s).1 ∧ (Sp.rd s).1 < 2147483648 ∧ (Sp.rd s).2.length ≤ 244 := by
 unfold Sp.rd
 rcases Sp.sa_par 0 (s.take 256) with ⟨h1, h2⟩ | ⟨h1, h2, h3, h4, h5⟩ <;> rcases Sp.sa_par 1 (s.drop 256) with ⟨k1, k2⟩ | ⟨k1, k2, k3, k4, k5⟩ <;> cases hd : decide ((Sp.sa 0 (s.take 256)).1 < (Sp.sa 1 (s.drop 256)).1)
 ·exact .inl ⟨h1, h2⟩
 ·exact .inl ⟨k1, k2⟩
 ·exact .inl ⟨h1, h2⟩
 ·exact .inr ⟨k1, k3, k4⟩
 ·exact .inr ⟨h1, h3, h4⟩
 ·simp at hd; omega
 ·exact .inr ⟨h1, h3, h4⟩
 ·exact .inr ⟨k1, k3, k4⟩
theorem sread_piece (P : List M.Pl) (hl : P.length = 8) (hok : M.Ok P) :
  (M.cat (P.map M.last)).size = 512 ∧ ((M.cat (P.map M.last)).extract 0 256).data.toList = (both P).take 256 ∧ ((M.cat (P.map M.last)).extract 256 512).data.toList = (both P).drop 256 := by
 have hs : (M.cat (P.map M.last)).size = 512 := by
  rw [M.cat_size _ (fun s hs => by
   obtain ⟨p, hp, rfl⟩ := List.mem_map.1 hs
   exact hok.last p hp), List.length_map, hl]
 refine ⟨hs, ?_, ?_⟩
 ·rw [extract_list _ _ _ (by omega)]; rfl
 ·rw [extract_list _ _ _ (by omega), List.take_of_length_le (by rw [List.length_drop, len_data]; omega)]
  rfl
def acc (s : List UInt8) : Nat → Nat × List UInt8
 | 0 => (0, [])
 | 1 => Sp.sa 0 (s.take 256)
 | _ => Sp.rd s
theorem acc_1 (s : List UInt8) : acc s 1 = bif decide (0 < (Sp.sa 0 (s.take 256)).1) then Sp.sa 0 (s.take 256) else (0, []) := by
 show Sp.sa 0 (s.take 256) = _
 cases hd : decide (0 < (Sp.sa 0 (s.take 256)).1)
 ·rcases Sp.sa_par 0 (s.take 256) with ⟨h1, h2⟩ | ⟨h1, _⟩
  ·exact Prod.ext h1 h2
  ·simp at hd; omega
 ·rfl
theorem sa_lt (pl : Nat) (s : List UInt8) : (Sp.sa pl s).1 < 4294967296 := by
 rcases Sp.sa_par pl s with ⟨h1, _⟩ | ⟨_, _, h1, _⟩ <;> omega
theorem acc_lt (s : List UInt8) (k : Nat) : (acc s k).1 < 4294967296 := by
 match k with
 | 0 => exact Nat.zero_lt_succ _
 | 1 => exact sa_lt _ _
 | k + 2 =>
  show (Sp.rd s).1 < _
  rcases rd_par s with ⟨h1, _⟩ | ⟨_, h1, _⟩ <;> omega
structure Nw (w : World) (B : Nat) (x : Nat × List UInt8) (W : World) : Prop where
 r : W.heap[B]? = some (.cells (SV x) 204 (0, 0))
 bel : Below w.heap.size w W
theorem Nw.up {w W W' : World} {B : Nat} {x : Nat × List UInt8} (h : Nw w B x W) (hb : Below W.heap.size W W') : Nw w B x W' := ⟨Br h.r hb, Bu h.bel hb Lr⟩
theorem Nw.lt {w W : World} {B : Nat} {x : Nat × List UInt8} (h : Nw w B x W) : B < W.heap.size := (Array.getElem?_eq_some_iff.1 h.r).1
theorem Nw.put {w W : World} {B : Nat} {x y : Nat × List UInt8} (h : Nw w B x W) (hB : w.heap.size ≤ B) : Nw w B y (st3 W B (.int .u32 y.1) (.int .u32 (y.2.length : Nat)) (.string (ofL y.2))) := ⟨put3 _ _ _ h.r, below3 h.bel hB⟩
theorem Nw.two {w W : World} {B : Nat} {x y : Nat × List UInt8} (h : Nw w B x W) : Nw w B x (W.alloc (.cells (SV y) 204)) ∧ (W.alloc (.cells (SV y) 204)).heap[W.heap.size]? = some (.cells (SV y) 204 (0, 0)) :=
 ⟨h.up (bel1 W _), heap_alloc_last W _⟩
theorem rtext_8 {n : Nat} {P : List M.Pl} (h8 : 8 ≤ n) : M.refused n false 0 8 = 0 ∧ M.rtext n false P 0 8 = M.cat ((P.take 8).map M.last) := by
 have h1 : M.refused n false 0 8 = 0 := by
  unfold M.refused; rw [decide_eq_false (show ¬ ((0 : Int) < 0) by omega), decide_eq_false (show ¬ ((8 : Int) < 1) by omega), decide_eq_false (show ¬ ((0 : Int) > (n : Int) - 8) by omega)]
  rfl
 refine ⟨h1, ?_⟩
 unfold M.rtext; rw [h1, decide_eq_true rfl]
 show M.cat (((P.map M.last).drop (0 : Int).toNat).take (8 : Int).toNat) = _
 rw [show (0 : Int).toNat = 0 from rfl, show (8 : Int).toNat = 8 from rfl, List.drop_zero, List.map_take]
theorem ok_take {P : List M.Pl} (h : M.Ok P) (k : Nat) : M.Ok (P.take k) := fun p hp => h p (List.mem_of_mem_take hp)
theorem DS.sread {w0 w : World} {b n : Nat} {F : Nat → Prop} {P : List M.Pl} (h : DS w0 w b F n P false) (h8 : 8 ≤ n) :
  Calls Tryz.prog 83 #[.pointer (some ⟨b, 0, none⟩)] w fun e w' => e = .returned (.tuple #[.string (ofL (rdP (P.take 8)).2), .int .i64 (rdP (P.take 8)).1, .int .i64 (rcode (rdP (P.take 8)))]) ∧ Below w.heap.size w w' := by
 have hr := h.read 0 8 (by omega)
 obtain ⟨r1, r2⟩ := rtext_8 (P := P) h8
 rw [r1, r2] at hr
 have hl8 : (P.take 8).length = 8 := by rw [List.length_take, h.len]; omega
 obtain ⟨z0, z1, z2⟩ := sread_piece (P.take 8) hl8 (ok_take h.ok.1 8)
 clear hl8; clear h8 r1 r2 h
 generalize P.take 8 = P at *
 have c0 := fun W => stateAt_any 0 ((M.cat (P.map M.last)).extract 0 256) W (by rw [ByteArray.size_extract]; omega)
 have c1 := fun W => stateAt_any 1 ((M.cat (P.map M.last)).extract 256 512) W (by rw [ByteArray.size_extract]; omega)
 rw [z1] at c0; rw [z2] at c1
 have hp := rd_par (both P)
 have a1 : acc (both P) 1 = bif decide ((acc (both P) 0).1 < (Sp.sa 0 ((both P).take 256)).1) then Sp.sa 0 ((both P).take 256) else acc (both P) 0 := acc_1 (both P)
 have a2 : acc (both P) 2 = bif decide ((acc (both P) 1).1 < (Sp.sa 1 ((both P).drop 256)).1) then Sp.sa 1 ((both P).drop 256) else acc (both P) 1 := rfl
 have a3 : acc (both P) 2 = rdP P := rfl
 unfold rdP at *; clear z1 z2
 generalize M.cat (P.map M.last) = X at *
 generalize both P = s at *
 go_enter Tryz.func83, Tryz.ntmps83
 go_wp2_with fail
 refine hr.mono ?_; rintro e w1 ⟨rfl, hb1, _⟩
 have HB0 : Hid (w.heap.size ≤ w1.heap.size) := hb1.size
 obtain ⟨W1, hW1⟩ := Nq (w1.alloc (.cells #[.int .u32 0, .int .u32 0, .string { data := #[] }] 204))
 have HN1 : Hid (Nw w w1.heap.size (acc s 0) W1) := by
  rw [← hW1]
  exact ⟨heap_alloc_last w1 _, Bu hb1 (bel1 w1 _) Lr⟩
 have HW1 := Hf hW1
 clear hr hb1 hW1
 go_upto_region 7 with fail
 rw [HW1.out]; go_wp2
 go_loopw [20] (fun i wr => ∃ k : Nat, k ≤ 2 ∧ i = .int .i64 k ∧ Nw w w1.heap.size (acc s k) wr) (fun i _ => 2 - (intOf i).toNat)
 case atStart => exact ⟨0, by omega, rfl, HN1.out⟩
 case round =>
  obtain ⟨k, hk, rfl, hN⟩ := hrel
  clear HN1
  rcases (show k = 0 ∨ k = 1 ∨ k = 2 by omega) with rfl | rfl | rfl
  ·obtain ⟨x, hx⟩ := Nq (acc s 0)
   obtain ⟨y, hy⟩ := Nq (Sp.sa 0 (s.take 256))
   have cc := c0
   rw [hy] at cc a1; rw [hx] at hN a1
   obtain ⟨xg, xb⟩ := x
   obtain ⟨yg, yb⟩ := y
   have HN0 := Hf hN
   have HA := Hf a1
   have hxg : xg < 4294967296 := by cases hx; omega
   have hyg : yg < 4294967296 := by have := sa_lt 0 (s.take 256); rw [hy] at this; exact this
   clear hN hy hx c0 c1 hp a1 a2 a3; unfold SV at cc
   go_wp2_with fail
   refine (cc _).mono ?_; rintro e w2 ⟨rfl, hb2⟩
   obtain ⟨W3, hW3⟩ := Nq (w2.alloc (.cells #[.int .u32 yg, .int .u32 (yb.length : Nat), .string (ofL yb)] 204))
   obtain ⟨hN3, hF3⟩ := (HN0.out.up hb2).two (y := (yg, yb))
   have hne : w1.heap.size ≠ w2.heap.size := by have := (HN0.out.up hb2).lt; omega
   have hN3 : Nw w w1.heap.size (xg, xb) W3 := by rw [← hW3]; exact hN3
   have hF3 : W3.heap[w2.heap.size]? = some (.cells #[.int .u32 yg, .int .u32 (yb.length : Nat), .string (ofL yb)] 204 (0, 0)) := by rw [← hW3]; exact hF3
   have hXr : W3.heap[w1.heap.size]? = some (.cells #[.int .u32 xg, .int .u32 (xb.length : Nat), .string (ofL xb)] 204 (0, 0)) := hN3.r
   obtain ⟨⟨y0, y1, y2⟩, _⟩ := row3f hF3
   obtain ⟨⟨x0, x1, x2⟩, xf⟩ := row3f hXr
   have xf0 := xf 0
   have xf1 := xf 1
   have xf2 := xf 2
   have HN3 := Hf hN3
   have HW3 := Hf hW3
   clear cc hb2 hN3 hF3 hXr xf hW3 HN0
   go_upto_region 11 with fail
   rw [HW3.out]
   have HBB := Hf (Nat.le_refl 0)
   cases hd : decide (xg < yg)
   ·have hd' : decide ((xg : Int) < (yg : Int)) = false := by rw [decide_eq_false_iff_not] at hd ⊢; omega
    go_wp2
    go_roundw
    case rel =>
     refine ⟨1, by omega, by rfl, ?_⟩
     rw [HA.out, hd]
     exact HN3.out
    case measure => simp [intOf]
   ·have hd' : decide ((xg : Int) < (yg : Int)) = true := by rw [decide_eq_true_iff] at hd ⊢; omega
    go_wp2
    go_roundw
    case rel =>
     refine ⟨1, by omega, by rfl, ?_⟩
     rw [HA.out, hd]
     exact HN3.out.put HB0.out
    case measure => simp [intOf]
  ·obtain ⟨x, hx⟩ := Nq (acc s 1)
   obtain ⟨y, hy⟩ := Nq (Sp.sa 1 (s.drop 256))
   have cc := c1
   rw [hy] at cc a2; rw [hx] at hN a2
   obtain ⟨xg, xb⟩ := x
   obtain ⟨yg, yb⟩ := y
   have HN0 := Hf hN
   have HA := Hf a2
   have hxg : xg < 4294967296 := by have := acc_lt s 1; rw [hx] at this; exact this
   have hyg : yg < 4294967296 := by have := sa_lt 1 (s.drop 256); rw [hy] at this; exact this
   clear hN hy hx c0 c1 hp a1 a2 a3; unfold SV at cc
   go_wp2_with fail
   refine (cc _).mono ?_; rintro e w2 ⟨rfl, hb2⟩
   obtain ⟨W3, hW3⟩ := Nq (w2.alloc (.cells #[.int .u32 yg, .int .u32 (yb.length : Nat), .string (ofL yb)] 204))
   obtain ⟨hN3, hF3⟩ := (HN0.out.up hb2).two (y := (yg, yb))
   have hne : w1.heap.size ≠ w2.heap.size := by have := (HN0.out.up hb2).lt; omega
   have hN3 : Nw w w1.heap.size (xg, xb) W3 := by rw [← hW3]; exact hN3
   have hF3 : W3.heap[w2.heap.size]? = some (.cells #[.int .u32 yg, .int .u32 (yb.length : Nat), .string (ofL yb)] 204 (0, 0)) := by rw [← hW3]; exact hF3
   have hXr : W3.heap[w1.heap.size]? = some (.cells #[.int .u32 xg, .int .u32 (xb.length : Nat), .string (ofL xb)] 204 (0, 0)) := hN3.r
   obtain ⟨⟨y0, y1, y2⟩, _⟩ := row3f hF3
   obtain ⟨⟨x0, x1, x2⟩, xf⟩ := row3f hXr
   have xf0 := xf 0
   have xf1 := xf 1
   have xf2 := xf 2
   have HN3 := Hf hN3
   have HW3 := Hf hW3
   clear cc hb2 hN3 hF3 hXr xf hW3 HN0
   go_upto_region 11 with fail
   rw [HW3.out]
   have HBB := Hf (Nat.le_refl 0)
   cases hd : decide (xg < yg)
   ·have hd' : decide ((xg : Int) < (yg : Int)) = false := by rw [decide_eq_false_iff_not] at hd ⊢; omega
    go_wp2
    go_roundw
    case rel =>
     refine ⟨2, by omega, by rfl, ?_⟩
     rw [HA.out, hd]
     exact HN3.out
    case measure => simp [intOf]
   ·have hd' : decide ((xg : Int) < (yg : Int)) = true := by rw [decide_eq_true_iff] at hd ⊢; omega
    go_wp2
    go_roundw
    case rel =>
     refine ⟨2, by omega, by rfl, ?_⟩
     rw [HA.out, hd]
     exact HN3.out.put HB0.out
    case measure => simp [intOf]
  ·rw [a3] at hN
   obtain ⟨x, hx⟩ := Nq (Sp.rd s)
   rw [hx] at hN hp
   have HX := Hf hx
   obtain ⟨xg, xb⟩ := x
   have hXr : wr.heap[w1.heap.size]? = some (.cells #[.int .u32 xg, .int .u32 (xb.length : Nat), .string (ofL xb)] 204 (0, 0)) := hN.r
   obtain ⟨⟨x0, x1, x2⟩, _⟩ := row3f hXr
   have HBW := Hf hN.bel
   clear hN hXr a1 a2 a3 hx c0 c1
   rcases hp with ⟨h1, h2⟩ | ⟨h1, h2, h3⟩
   ·simp only at h1 h2
    subst h1; subst h2
    simp only [List.length_nil, Int.natCast_zero] at x0 x1
    go_wp2
    go_ret3
    rw [HX.out]
    exact ⟨rfl, HBW.out⟩
   ·simp only at h1 h2 h3
    have hd : ((xg : Int) == 0) = false := by rw [beq_eq_false_iff_ne]; omega
    have hc : rcode (xg, xb) = 0 := by unfold rcode; rw [decide_eq_false (by show ¬ xg = 0; omega)]; rfl
    have HC := Hf hc
    clear hc
    go_wp2_with fail
    go_region
    all_goals
     go_wp2
     go_ret3
     rw [HX.out, HC.out]
     exact ⟨rfl, Below.drew HBW.out⟩
end Go.Proofs.YtlnedgjikkhplaaGreat.Ns
