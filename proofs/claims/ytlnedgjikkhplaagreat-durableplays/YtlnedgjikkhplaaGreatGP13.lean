import Derived.Test.YtlnedgjikkhplaaGreatGP12
set_option maxRecDepth 100000
set_option maxHeartbeats 8000000
set_option linter.unusedVariables false
set_option linter.unusedSimpArgs false
namespace Go.Proofs.YtlnedgjikkhplaaGreat.Ns
open Go.RowKit
open M (ofL ofL_size ofL_of)
theorem Tryz.size202 : (Tryz.prog.info? 202).map (·.size) = some 2 := by kernel_rfl
theorem row2_up {w W : World} (x y : Value) (h : Below (w.heap.size + 1) (w.alloc (.cells #[x, y] 202)) W) : W.cell? ⟨w.heap.size, 0, none⟩ = some x ∧ W.cell? ⟨w.heap.size, 1, none⟩ = some y :=
 (row2 ((h.block _ (by omega)).trans (heap_alloc_last w _))).1
theorem ofL_app (a b : List UInt8) : ofL a ++ ofL b = ofL (a ++ b) := M.ofL_app a b
theorem four_nat (n : Nat) (h : n < 4294967296) (w : World) :
  Calls Tryz.prog 194 #[.int .u32 n] w fun e w' => e = .returned (.string (ofL (K2.four (BitVec.ofNat 32 n)))) ∧ Below w.heap.size w w' := by
 have e : (BitVec.ofNat 32 n).toNat = n := by rw [BitVec.toNat_ofNat]; omega
 have := four_any (BitVec.ofNat 32 n) w
 rw [e] at this
 exact this
theorem four_size (x : BitVec 32) : (ofL (K2.four x)).size = 4 := by rw [ofL_size]; rfl
theorem headText_any (g n : Nat) (hg : g < 4294967296) (hn : n < 4294967296) (w : World) :
  Calls Tryz.prog 161 #[.agg #[.int .u32 g, .int .u32 n]] w fun e w' => e = .returned (.string (ofL (K2.four (BitVec.ofNat 32 g) ++ K2.four (BitVec.ofNat 32 n)))) ∧ Below w.heap.size w w' := by
 have c1 := four_nat g hg
 have c2 := four_nat n hn
 have e4 := four_size (BitVec.ofNat 32 g)
 have e5 := four_size (BitVec.ofNat 32 n)
 rw [← ofL_app]
 generalize ofL (K2.four (BitVec.ofNat 32 g)) = A at *
 generalize ofL (K2.four (BitVec.ofNat 32 n)) = B at *
 obtain ⟨W1, hW1⟩ := Nq (w.alloc (.cells #[.int .u32 g, .int .u32 n] 202))
 have HC : Hid (∀ W, Below (w.heap.size + 1) W1 W → W.cell? ⟨w.heap.size, 0, none⟩ = some (.int .u32 g) ∧ W.cell? ⟨w.heap.size, 1, none⟩ = some (.int .u32 n)) := by
  intro W hW; rw [← hW1] at hW
  exact row2_up _ _ hW
 have HB1 : Hid (Below w.heap.size w W1) := by rw [← hW1]; exact bel1 w _
 have hs1 : W1.heap.size = w.heap.size + 1 := by rw [← hW1]; simp
 have BD : Below (w.heap.size + 1) W1 W1.drew := Below.drew (Below.refl _ _)
 have HW1 := Hf hW1
 clear hW1
 go_enter Tryz.func161, Tryz.ntmps161
 go_upto_region 1 with fail
 rw [HW1.out]
 go_wp2_with fail
 go_region_held3 (fun wq => wq.cell? ⟨w.heap.size, 0, none⟩ = some (.int .u32 g) ∧ wq.cell? ⟨w.heap.size, 1, none⟩ = some (.int .u32 n)) (first | exact HC.out _ (by assumption)) (first | (go_at_call 194; refine (c1 _).mono ?_; rintro e w2 ⟨rfl, hb2⟩; have B2 : Below (w.heap.size + 1) W1 w2 := BD.trans (hb2.mono (by simp; omega)); clear c1 BD ) | (go_at_call 194; refine (c2 _).mono ?_; rintro e w3 ⟨rfl, hb3⟩; have B3 : Below (w.heap.size + 1) W1 w3 := B2.trans (hb3.mono (by have := B2.size; omega))))
 have HB3 := Hf B3
 clear c2 hb2 B2 hb3 B3; go_wp2
 go_ret
 exact ⟨rfl, HB1.out.trans (HB3.out.mono (by omega))⟩
theorem refZeros_any (n : Nat) (h : n ≤ 65536) (w : World) : Calls Tryz.prog 44 #[.int .i64 n] w fun e w' => e = .returned (.string (ofL (List.replicate n 0))) ∧ Below w.heap.size w w' := by
 obtain ⟨i0, hi, hz0, hz1, hz2⟩ := info_parts Tryz.info5
 go_enter Tryz.func44, Tryz.ntmps44
 go_wp2_with (at_make; refine wpList_make_full _ rfl (.tmp 3) (.tmp 3) 138 rfl w.heap.size 5 i0 (.int .u8 0) 1 Tryz.underlying138 hi hz0 hz1 .i64 .i64 _ _ n rfl rfl rfl rfl (by rw [hz2]; omega) (by unfold maxLen; omega) Lr ?_; intro w1 ho hg; rw [made_cells] at ho; have hcv := (row_of_owns (by simp) ho).convert n n (by simp); have HB : Hid (Below w.heap.size w w1) := (Below.refl _ _).grown hg Lr (by simp); clear ho hg)
 go_ret
 exact ⟨rfl, HB.out⟩
theorem pad_app (s : ByteArray) (n : Nat) : s ++ ofL (List.replicate (n - s.size) 0) = ofL (pad s.data.toList n) := by
 unfold pad; rw [← M.ofL_app, ofL_of, len_data]
theorem refPad_to (s : ByteArray) (n : Nat) (w : World) (h : n ≤ 65536) (hs : s.size ≤ n) :
  Calls Tryz.prog 164 #[.string s, .int .i64 n] w fun e w' => e = .returned (.tuple #[.string (ofL (pad s.data.toList n)), .int .i64 0]) ∧ Below w.heap.size w w' := by
 have d1 : decide ((n : Int) < 0) = false := by simp
 have d2 : decide ((65536 : Int) < (n : Int)) = false := by simp; omega
 have d3 : decide ((n : Int) < (s.size : Int)) = false := by simp; omega
 have hz := refZeros_any (n - s.size) (by omega)
 rw [show ((n - s.size : Nat) : Int) = (n : Int) - (s.size : Int) by omega] at hz
 have HP : Hid (_ = _) := pad_app s n
 have hsz : (ofL (List.replicate (n - s.size) 0)).size = n - s.size := by rw [ofL_size, List.length_replicate]
 generalize ofL (List.replicate (n - s.size) 0) = Z at *
 go_enter Tryz.func164, Tryz.ntmps164
 go_wp2_with fail
 refine (hz w).mono ?_; rintro e w1 ⟨rfl, hb⟩
 clear hz; go_wp2
 go_ret2
 rw [HP.out]
 exact ⟨rfl, hb⟩
def pcode (b : ByteArray) (g : Int) : Int := bif decide (g < 1) || decide (2147483647 < g) then 1 else bif decide (244 < b.size) then 2 else 0
def ptext (b : ByteArray) (g : Int) : ByteArray := bif decide (pcode b g = 0) then ofL (Sp.pk b.data.toList g.toNat) else M.E
theorem pcode_cases (b : ByteArray) (g : Int) : (g < 1 ∨ 2147483647 < g) ∧ pcode b g = 1 ∧ ptext b g = M.E ∨ (1 ≤ g ∧ g ≤ 2147483647) ∧ 244 < b.size ∧ pcode b g = 2 ∧ ptext b g = M.E ∨ (1 ≤ g ∧ g ≤ 2147483647) ∧ b.size ≤ 244 ∧ pcode b g = 0 ∧ ptext b g = ofL (Sp.pk b.data.toList g.toNat) := by
 by_cases h1 : g < 1 ∨ 2147483647 < g
 ·left
  have e : pcode b g = 1 := by
   unfold pcode
   have : (decide (g < 1) || decide (2147483647 < g)) = true := by simpa using h1
   rw [this]; rfl
  exact ⟨h1, e, by unfold ptext; rw [e]; rfl⟩
 ·right
  have hh : (decide (g < 1) || decide (2147483647 < g)) = false := by simp; omega
  by_cases h2 : 244 < b.size
  ·left
   have e : pcode b g = 2 := by unfold pcode; rw [hh, decide_eq_true h2]; rfl
   exact ⟨by omega, h2, e, by unfold ptext; rw [e]; rfl⟩
  ·right
   have e : pcode b g = 0 := by unfold pcode; rw [hh, decide_eq_false h2]; rfl
   exact ⟨by omega, by omega, e, by unfold ptext; rw [e]; rfl⟩
theorem heads_app (b : ByteArray) (g : Nat) : ofL (K2.four (BitVec.ofNat 32 g) ++ K2.four (BitVec.ofNat 32 b.size)) ++ b = ofL (Sp.heads b.data.toList g) := by
 unfold Sp.heads; rw [len_data, ← M.ofL_app (K2.four (BitVec.ofNat 32 g) ++ K2.four (BitVec.ofNat 32 b.size)) b.data.toList, ofL_of]
theorem heads_size (b : ByteArray) (g : Nat) : (ofL (Sp.heads b.data.toList g)).size = 8 + b.size := by rw [ofL_size, Sp.heads_len, len_data]
theorem pk_of (b : ByteArray) (g : Nat) : ofL (K2.sealed (ofL (pad (ofL (Sp.heads b.data.toList g)).data.toList 252)).data.toList) = ofL (Sp.pk b.data.toList g) := by
 rw [ofL_data, ofL_data]
 rfl
theorem pack_any (b : ByteArray) (g : Int) (w : World) (hb : b.size ≤ maxLen) :
  Calls Tryz.prog 122 #[.string b, .int .i64 g] w fun e w' => e = .returned (.tuple #[.string (ptext b g), .int .i64 (pcode b g)]) ∧ Below w.heap.size w w' := by
 rcases pcode_cases b g with ⟨h1, e1, e2⟩ | ⟨h1, h2, e1, e2⟩ | ⟨h1, h2, e1, e2⟩
 ·rw [e1, e2]
  clear e1 e2
  rcases h1 with h1 | h1
  ·have d1 : decide (g < 1) = true := decide_eq_true h1
   go_enter Tryz.func122, Tryz.ntmps122
   go_wp2
   go_ret2
   exact ⟨rfl, Below.refl _ _⟩
  ·have d1 : decide (g < 1) = false := decide_eq_false (by omega)
   have d2 : decide (2147483647 < g) = true := decide_eq_true h1
   go_enter Tryz.func122, Tryz.ntmps122
   go_wp2
   go_ret2
   exact ⟨rfl, Below.refl _ _⟩
 ·rw [e1, e2]
  clear e1 e2
  have d1 : decide (g < 1) = false := decide_eq_false (by omega)
  have d2 : decide (2147483647 < g) = false := decide_eq_false (by omega)
  have d3 : decide ((244 : Int) < (b.size : Int)) = true := decide_eq_true (by omega)
  unfold maxLen at hb
  go_enter Tryz.func122, Tryz.ntmps122
  go_wp2
  go_ret2
  exact ⟨rfl, Below.refl _ _⟩
 ·rw [e1, e2]
  clear e1 e2
  obtain ⟨n, rfl⟩ : ∃ n : Nat, g = n := ⟨g.toNat, by omega⟩
  rw [Int.toNat_natCast]
  have d1 : decide ((n : Int) < 1) = false := decide_eq_false (by omega)
  have d2 : decide (2147483647 < (n : Int)) = false := decide_eq_false (by omega)
  have d3 : decide ((244 : Int) < (b.size : Int)) = false := decide_eq_false (by omega)
  have ht := headText_any n b.size (by omega) (by omega)
  have HH : Hid (_ = _) := heads_app b n
  have HZ : Hid (_ = _) := pk_of b n
  have s1 : (ofL (K2.four (BitVec.ofNat 32 n) ++ K2.four (BitVec.ofNat 32 b.size))).size = 8 := by rw [ofL_size]; rfl
  have s2 := heads_size b n
  generalize ofL (K2.four (BitVec.ofNat 32 n) ++ K2.four (BitVec.ofNat 32 b.size)) = A at *
  generalize ofL (Sp.heads b.data.toList n) = B at *
  generalize ofL (Sp.pk b.data.toList n) = Z at *
  have hp := fun W => pad_to B 252 W (by omega) (by omega)
  have s3 : (ofL (pad B.data.toList 252)).size = 252 := by rw [ofL_size, Sp.pad_len _ _ (by rw [len_data]; omega)]
  generalize ofL (pad B.data.toList 252) = C at *
  have hse := fun W => seal_any C W (by omega)
  rw [HZ.out] at hse
  go_enter Tryz.func122, Tryz.ntmps122
  go_wp2_with fail
  refine (ht _).mono ?_; rintro e w1 ⟨rfl, hb1⟩
  have HB1 : Hid (Below w.heap.size w w1) := Bu (bel1 w _) hb1 Lr
  clear ht hb1
  try rw [HH.out]
  go_wp2_with fail
  try rw [HH.out]
  refine (hp _).mono ?_; rintro e w2 ⟨rfl, hb2⟩
  have HB2 : Hid (Below w.heap.size w w2) := Bu HB1.out hb2 Lr
  clear hp hb2 HB1
  go_wp2_with fail
  refine (hse _).mono ?_; rintro e w3 ⟨rfl, hb3⟩
  have HB3 : Hid (Below w.heap.size w w3) := Bu HB2.out hb3 Lr
  clear hse hb3 HB2; go_wp2
  go_ret2
  exact ⟨rfl, HB3.out⟩
theorem refFour_nat (n : Nat) (h : n < 4294967296) (w : World) :
  Calls Tryz.prog 162 #[.int .u32 n] w fun e w' => e = .returned (.string (ofL (K2.four (BitVec.ofNat 32 n)))) ∧ Below w.heap.size w w' := by
 have e : (BitVec.ofNat 32 n).toNat = n := by rw [BitVec.toNat_ofNat]; omega
 have := refFour_any (BitVec.ofNat 32 n) w
 rw [e] at this
 exact this
theorem refPack_any (b : ByteArray) (g : Int) (w : World) (hb : b.size ≤ maxLen) :
  Calls Tryz.prog 127 #[.string b, .int .i64 g] w fun e w' => e = .returned (.tuple #[.string (ptext b g), .int .i64 (pcode b g)]) ∧ Below w.heap.size w w' := by
 rcases pcode_cases b g with ⟨h1, e1, e2⟩ | ⟨h1, h2, e1, e2⟩ | ⟨h1, h2, e1, e2⟩
 ·rw [e1, e2]
  clear e1 e2
  rcases h1 with h1 | h1
  ·have d1 : decide (g < 1) = true := decide_eq_true h1
   go_enter Tryz.func127, Tryz.ntmps127
   go_wp2
   go_ret2
   exact ⟨rfl, Below.refl _ _⟩
  ·have d1 : decide (g < 1) = false := decide_eq_false (by omega)
   have d2 : decide ((2147483648 : Int) ≤ g) = true := decide_eq_true (by omega)
   go_enter Tryz.func127, Tryz.ntmps127
   go_wp2
   go_ret2
   exact ⟨rfl, Below.refl _ _⟩
 ·rw [e1, e2]
  clear e1 e2
  have d1 : decide (g < 1) = false := decide_eq_false (by omega)
  have d2 : decide ((2147483648 : Int) ≤ g) = false := decide_eq_false (by omega)
  have d3 : decide ((244 : Int) < (b.size : Int)) = true := decide_eq_true (by omega)
  unfold maxLen at hb
  go_enter Tryz.func127, Tryz.ntmps127
  go_wp2
  go_ret2
  exact ⟨rfl, Below.refl _ _⟩
 ·rw [e1, e2]
  clear e1 e2
  obtain ⟨n, rfl⟩ : ∃ n : Nat, g = n := ⟨g.toNat, by omega⟩
  rw [Int.toNat_natCast]
  have d1 : decide ((n : Int) < 1) = false := decide_eq_false (by omega)
  have d2 : decide ((2147483648 : Int) ≤ (n : Int)) = false := decide_eq_false (by omega)
  have d3 : decide ((244 : Int) < (b.size : Int)) = false := decide_eq_false (by omega)
  have c1 := fun W => refFour_nat n (by omega) W
  have c2 := fun W => refFour_nat b.size (by omega) W
  have e4 := four_size (BitVec.ofNat 32 n)
  have e5 := four_size (BitVec.ofNat 32 b.size)
  have HH : Hid (_ = _) := heads_app b n
  rw [← M.ofL_app] at HH
  have HZ : Hid (_ = _) := pk_of b n
  have s1 : (ofL (K2.four (BitVec.ofNat 32 n) ++ K2.four (BitVec.ofNat 32 b.size))).size = 8 := by rw [ofL_size]; rfl
  have s2 := heads_size b n
  clear s1
  generalize ofL (K2.four (BitVec.ofNat 32 n)) = A1 at *
  generalize ofL (K2.four (BitVec.ofNat 32 b.size)) = A2 at *
  generalize ofL (Sp.heads b.data.toList n) = B at *
  generalize ofL (Sp.pk b.data.toList n) = Z at *
  have hp := fun W => refPad_to B 252 W (by omega) (by omega)
  have s3 : (ofL (pad B.data.toList 252)).size = 252 := by rw [ofL_size, Sp.pad_len _ _ (by rw [len_data]; omega)]
  generalize ofL (pad B.data.toList 252) = C at *
  have hse := fun W => refSeal_any C W (by omega)
  rw [HZ.out] at hse
  go_enter Tryz.func127, Tryz.ntmps127
  go_wp2_with fail
  refine (c1 _).mono ?_; rintro e w1 ⟨rfl, hb1⟩
  have HB1 := Hf hb1
  clear c1 hb1
  go_wp2_with fail
  refine (c2 _).mono ?_; rintro e w1' ⟨rfl, hb1⟩
  have HB1 : Hid (Below w.heap.size w w1') := Bu HB1.out hb1 Lr
  clear c2 hb1
  go_wp2_with fail
  rw [HH.out]
  refine (hp _).mono ?_; rintro e w2 ⟨rfl, hb2⟩
  have HB2 : Hid (Below w.heap.size w w2) := Bu HB1.out hb2 Lr
  clear hp hb2 HB1
  go_wp2_with fail
  refine (hse _).mono ?_; rintro e w3 ⟨rfl, hb3⟩
  have HB3 : Hid (Below w.heap.size w w3) := Bu HB2.out hb3 Lr
  clear hse hb3 HB2; go_wp2
  go_ret2
  exact ⟨rfl, HB3.out⟩
theorem f165_res : Tryz.f165.results = #[.cell 2 202] := rfl
theorem nm_tail (s : ByteArray) : Sp.nm (s.extract 4 s.size).data.toList 0 = Sp.nm s.data.toList 4 := by
 rw [extract_list _ _ _ Lr, List.take_of_length_le (by rw [List.length_drop, len_data]; omega), Sp.nm_drop]
theorem box2_up {w W : World} {x y : Value} (h : Below (w.heap.size + 1) (w.alloc (.cells #[x, y] 202)) W) :
  (W.cell? ⟨w.heap.size, 0, none⟩ = some x ∧ W.cell? ⟨w.heap.size, 1, none⟩ = some y ∧ W.frozen? ⟨w.heap.size, 0, none⟩ = false ∧ W.frozen? ⟨w.heap.size, 1, none⟩ = false) ∧
  ∀ a b, ((W.setCell ⟨w.heap.size, 0, none⟩ a).setCell ⟨w.heap.size, 1, none⟩ b).heap[w.heap.size]? = some (.cells #[a, b] 202 (0, 0)) := by
 have hr : W.heap[w.heap.size]? = some (.cells #[x, y] 202 (0, 0)) := (h.block _ (by omega)).trans (heap_alloc_last w _)
 obtain ⟨⟨h0, h1⟩, hf⟩ := row2 hr
 refine ⟨⟨h0, h1, hf 0, hf 1⟩, fun a b => ?_⟩
 exact heap_setCell_same _ _ 1 _ _ _ (heap_setCell_same _ _ 0 _ _ _ hr)
theorem below_two {w0 w : World} {k : Nat} {a b : Value} (h : Below k w0 w) : Below k w0 ((w.setCell ⟨k, 0, none⟩ a).setCell ⟨k, 1, none⟩ b) :=
 (h.setCell (p := ⟨k, 0, none⟩) Lr a).setCell (p := ⟨k, 1, none⟩) Lr b
theorem headOf_any (s : ByteArray) (w : World) (hs : s.size ≤ maxLen) (h8 : 8 ≤ s.size) :
  Calls Tryz.prog 165 #[.string s] w fun e w' => e = .returned (.agg #[.int .u32 (Sp.nm s.data.toList 0), .int .u32 (Sp.nm s.data.toList 4)]) ∧ Below w.heap.size w w' := by
 have c1 := fun W => number_any s W hs (by omega)
 have c2 := fun W => number_any (s.extract 4 s.size) W (by rw [ByteArray.size_extract]; omega) (by rw [ByteArray.size_extract]; omega)
 rw [nm_tail] at c2
 have hg := Sp.nm_lt s.data.toList 0
 have hn := Sp.nm_lt s.data.toList 4
 generalize Sp.nm s.data.toList 0 = g at *
 generalize Sp.nm s.data.toList 4 = n at *
 have p4 : (4 : Int) ≤ (s.size : Int) := by omega
 unfold maxLen at hs
 obtain ⟨W1, hW1⟩ := Nq (w.alloc (.cells #[.int .u32 0, .int .u32 0] 202))
 have HC : Hid (∀ W, Below (w.heap.size + 1) W1 W → (W.cell? ⟨w.heap.size, 0, none⟩ = some (.int .u32 0) ∧ W.cell? ⟨w.heap.size, 1, none⟩ = some (.int .u32 0) ∧ W.frozen? ⟨w.heap.size, 0, none⟩ = false ∧ W.frozen? ⟨w.heap.size, 1, none⟩ = false) ∧ ∀ a b, ((W.setCell ⟨w.heap.size, 0, none⟩ a).setCell ⟨w.heap.size, 1, none⟩ b).heap[w.heap.size]? = some (.cells #[a, b] 202 (0, 0))) := by
  intro W hW; rw [← hW1] at hW
  exact box2_up hW
 have HB1 : Hid (Below w.heap.size w W1) := by rw [← hW1]; exact bel1 w _
 have hs1 : W1.heap.size = w.heap.size + 1 := by rw [← hW1]; simp
 have BD : Below (w.heap.size + 1) W1 W1.drew := Below.drew (Below.refl _ _)
 have HW1 := Hf hW1
 clear hW1
 go_enter Tryz.func165, Tryz.ntmps165
 go_upto_region 1 with fail
 rw [HW1.out]
 go_wp2_with fail
 have BW : Below w.heap.size w W1.drew := Below.drew HB1.out
 go_region_held3 (fun wq => Below w.heap.size w wq) (first | assumption | exact below_two (by assumption)) (first | (go_at_call 196; refine (c1 _).mono ?_; rintro e w2 ⟨rfl, hb2⟩; have B2 : Below (w.heap.size + 1) W1 w2 := BD.trans (hb2.mono (by simp; omega)); have BW2 : Below w.heap.size w w2 := HB1.out.trans (B2.mono (by omega)); clear c1 BD BW) | (go_at_call 196; refine (c2 _).mono ?_; rintro e w3 ⟨rfl, hb3⟩; have B3 : Below (w.heap.size + 1) W1 w3 := B2.trans (hb3.mono (by have := B2.size; omega)); have BW3 : Below w.heap.size w w3 := HB1.out.trans (B3.mono (by omega)); obtain ⟨⟨k0, k1, k2, k3⟩, hfin⟩ := HC.out w3 B3; clear c2 B2 BW2))
 have HF := Hf (hfin (.int .u32 g) (.int .u32 n))
 have HB3 := Hf BW3
 clear hfin k0 k1 k2 k3 BW3 B3 hb3 hb2 HC HB1; go_wp2
 refine bodyPost_ret (v := .agg #[.int .u32 g, .int .u32 n]) ?_ rfl ⟨rfl, below_two HB3.out⟩
 exact results_cell_row f165_res _ _ w.heap.size 202 _ (0, 0) _ rfl HF.out Tryz.underlying202 rfl Tryz.size202
theorem f131_res : Tryz.f131.results = #[.cell 4 204] := rfl
theorem Tryz.size204 : (Tryz.prog.info? 204).map (·.size) = some 3 := by kernel_rfl
def st3 (w : World) (B : Nat) (v0 v1 v2 : Value) : World := ((w.setCell ⟨B, 0, none⟩ v0).setCell ⟨B, 1, none⟩ v1).setCell ⟨B, 2, none⟩ v2
theorem put3 {w : World} {B : Nat} {u0 u1 u2 : Value} {t : TypeId} (v0 v1 v2 : Value) (h : w.heap[B]? = some (.cells #[u0, u1, u2] t (0, 0))) :
  (st3 w B v0 v1 v2).heap[B]? = some (.cells #[v0, v1, v2] t (0, 0)) :=
 heap_setCell_same _ B 2 _ _ _ (heap_setCell_same _ B 1 _ _ _ (heap_setCell_same w B 0 _ _ _ h))
theorem below3 {w0 w : World} {B' B : Nat} {v0 v1 v2 : Value} (h : Below B' w0 w) (hB : B' ≤ B) : Below B' w0 (st3 w B v0 v1 v2) := ((h.setCell hB _).setCell hB _).setCell hB _
def SV (x : Nat × List UInt8) : Array Value := #[.int .u32 x.1, .int .u32 (x.2.length : Nat), .string (ofL x.2)]
theorem body_eq (s : ByteArray) (h : s.size = 256) (hn : Sp.nm s.data.toList 4 ≤ 244) :
  (ofL (s.data.toList.take 252)).extract 8 (8 + Sp.nm s.data.toList 4) = ofL (Sp.bd s.data.toList) ∧ (Sp.bd s.data.toList).length = Sp.nm s.data.toList 4 := by
 have hl : s.data.toList.length = 256 := by rw [len_data, h]
 constructor
 ·apply ByteArray.ext
  apply Array.ext'
  rw [extract_list _ _ _ (by rw [ofL_size, List.length_take, hl]; omega), ofL_data, ofL_data]; unfold Sp.bd; rw [List.drop_take, List.take_take]
  congr 1
  omega
 ·unfold Sp.bd
  rw [List.length_take, List.length_drop, hl]
  omega
theorem Br {W W' : World} {B : Nat} {o : Obj} (h : W.heap[B]? = some o) (hb : Below W.heap.size W W') : W'.heap[B]? = some o := (hb.block B (Array.getElem?_eq_some_iff.1 h).1).trans h
theorem row3f {w : World} {k : Nat} {v0 v1 v2 : Value} {t : TypeId} (h : w.heap[k]? = some (.cells #[v0, v1, v2] t (0, 0))) :
  (w.cell? ⟨k, 0, none⟩ = some v0 ∧ w.cell? ⟨k, 1, none⟩ = some v1 ∧ w.cell? ⟨k, 2, none⟩ = some v2) ∧ ∀ j, w.frozen? ⟨k, j, none⟩ = false :=
 ⟨row3 h, fun j => frozen_of_row w k j _ _ h⟩
structure Bx (w : World) (A : Nat) (B : Nat) (g n : Nat) (W : World) : Prop where
 a : W.heap[A]? = some (.cells #[.int .u32 0, .int .u32 0, .string { data := #[] }] 204 (0, 0))
 b : W.heap[B]? = some (.cells #[.int .u32 g, .int .u32 n] 202 (0, 0))
 bel : Below w.heap.size w W
theorem Bx.up {w W W' : World} {A B g n : Nat} (h : Bx w A B g n W) (hb : Below W.heap.size W W') : Bx w A B g n W' := ⟨Br h.a hb, Br h.b hb, Bu h.bel hb Lr⟩
theorem st3_other {w : World} {A B j : Nat} {v0 v1 v2 : Value} (h : B ≠ A) : (st3 w A v0 v1 v2).cell? ⟨B, j, none⟩ = w.cell? ⟨B, j, none⟩ := by
 have e : (st3 w A v0 v1 v2).heap[B]? = w.heap[B]? := by
  unfold st3; rw [heap_setCell_other _ ⟨A, 2, none⟩ B _ h, heap_setCell_other _ ⟨A, 1, none⟩ B _ h, heap_setCell_other _ ⟨A, 0, none⟩ B _ h]
 unfold World.cell?
 simp only [e]
theorem stateAt_1 (pl : Nat) (s T : ByteArray) (w : World) (c0 : ∀ W, Calls Tryz.prog 135 #[.string s] W fun e w' => e = .returned (.tuple #[.string T, .int .i64 4]) ∧ Below W.heap.size W w') :
  Calls Tryz.prog 131 #[.int .i64 pl, .string s] w fun e w' => e = .returned (.agg #[.int .u32 0, .int .u32 0, .string { data := #[] }]) ∧ Below w.heap.size w w' := by
 obtain ⟨W0, hW0⟩ := Nq (w.alloc (.cells #[.int .u32 0, .int .u32 0, .string { data := #[] }] 204))
 have HR0 : Hid (W0.heap[w.heap.size]? = some (.cells #[.int .u32 0, .int .u32 0, .string { data := #[] }] 204 (0, 0))) := by rw [← hW0]; exact heap_alloc_last w _
 have HB0 : Hid (Below w.heap.size w W0) := by rw [← hW0]; exact bel1 w _
 have HW0 := Hf hW0
 clear hW0
 go_enter Tryz.func131, Tryz.ntmps131
 go_upto_region 1 with fail
 rw [HW0.out]
 go_wp2_with fail
 refine (c0 _).mono ?_; rintro e w1 ⟨rfl, hb1⟩
 have HR1 := Hf (Br HR0.out hb1)
 have HB1 := Hf (Bu HB0.out hb1 Lr)
 clear c0 hb1 HR0 HB0 HW0
 obtain ⟨⟨k0, k1, k2⟩, kf⟩ := row3f HR1.out
 have f0 := kf 0
 have f1 := kf 1
 have f2 := kf 2
 clear kf; go_wp2
 refine bodyPost_ret (v := .agg #[.int .u32 0, .int .u32 0, .string { data := #[] }]) ?_ rfl ⟨rfl, below3 HB1.out Lr⟩
 exact results_cell_row f131_res _ _ w.heap.size 204 _ (0, 0) _ rfl (put3 _ _ _ HR1.out) Tryz.underlying204 rfl Tryz.size204
theorem stateAt_2 (pl : Nat) (s T : ByteArray) (w : World) (g n : Nat) (hg : g < 4294967296) (hn : n < 4294967296) (c0 : ∀ W, Calls Tryz.prog 135 #[.string s] W fun e w' => e = .returned (.tuple #[.string T, .int .i64 0]) ∧ Below W.heap.size W w') (c1 : ∀ W, Calls Tryz.prog 165 #[.string T] W fun e w' => e = .returned (.agg #[.int .u32 g, .int .u32 n]) ∧ Below W.heap.size W w') (h244 : 244 < n) :
  Calls Tryz.prog 131 #[.int .i64 pl, .string s] w fun e w' => e = .returned (.agg #[.int .u32 0, .int .u32 0, .string { data := #[] }]) ∧ Below w.heap.size w w' := by
 obtain ⟨W0, hW0⟩ := Nq (w.alloc (.cells #[.int .u32 0, .int .u32 0, .string { data := #[] }] 204))
 have HR0 : Hid (W0.heap[w.heap.size]? = some (.cells #[.int .u32 0, .int .u32 0, .string { data := #[] }] 204 (0, 0))) := by rw [← hW0]; exact heap_alloc_last w _
 have HB0 : Hid (Below w.heap.size w W0) := by rw [← hW0]; exact bel1 w _
 have HW0 := Hf hW0
 clear hW0
 have d1 : decide ((244 : Int) < (n : Int)) = true := decide_eq_true (by omega)
 go_enter Tryz.func131, Tryz.ntmps131
 go_upto_region 1 with fail
 rw [HW0.out]
 go_wp2_with fail
 refine (c0 _).mono ?_; rintro e w1 ⟨rfl, hb1⟩
 have HR1 := Hf (Br HR0.out hb1)
 have HB1 := Hf (Bu HB0.out hb1 Lr)
 clear c0 hb1 HR0 HB0 HW0
 go_wp2_with fail
 refine (c1 _).mono ?_; rintro e w2 ⟨rfl, hb2⟩
 have hr2 := Br HR1.out hb2
 have hb2' := Bu HB1.out hb2 Lr
 obtain ⟨W2, hW2⟩ := Nq (w2.alloc (.cells #[.int .u32 g, .int .u32 n] 202))
 have hx : Bx w w.heap.size w2.heap.size g n W2 := by
  rw [← hW2]
  exact ⟨(Below.heap_alloc _ _ _ (Array.getElem?_eq_some_iff.1 hr2).1).trans hr2, heap_alloc_last w2 _, Bu hb2' (bel1 w2 _) Lr⟩
 have HLT : Hid (w.heap.size < w2.heap.size) := (Array.getElem?_eq_some_iff.1 hr2).1
 have HW2 := Hf hW2
 have HX := Hf hx
 obtain ⟨⟨q0, q1⟩, _⟩ := row2 hx.b
 clear c1 hb2 hr2 hb2' hW2 HR1 HB1 hx
 go_upto_region 5 with fail
 rw [HW2.out]
 obtain ⟨⟨k0, k1, k2⟩, kf⟩ := row3f HX.out.a
 have f0 := kf 0
 have f1 := kf 1
 have f2 := kf 2
 clear kf; go_wp2
 refine bodyPost_ret (v := .agg #[.int .u32 0, .int .u32 0, .string { data := #[] }]) ?_ rfl ⟨rfl, below3 HX.out.bel Lr⟩
 exact results_cell_row f131_res _ _ w.heap.size 204 _ (0, 0) _ rfl (put3 _ _ _ HX.out.a) Tryz.underlying204 rfl Tryz.size204
theorem stateAt_3 (pl : Nat) (s T : ByteArray) (w : World) (g n : Nat) (hg : g < 4294967296) (hn : n < 4294967296) (X : ByteArray) (hT : T.size = 252) (h244 : n ≤ 244) (c0 : ∀ W, Calls Tryz.prog 135 #[.string s] W fun e w' => e = .returned (.tuple #[.string T, .int .i64 0]) ∧ Below W.heap.size W w') (c1 : ∀ W, Calls Tryz.prog 165 #[.string T] W fun e w' => e = .returned (.agg #[.int .u32 g, .int .u32 n]) ∧ Below W.heap.size W w') (c2 : ∀ W, Calls Tryz.prog 122 #[.string (T.extract 8 (8 + n)), .int .i64 g] W fun e w' => e = .returned (.tuple #[.string X, .int .i64 1]) ∧ Below W.heap.size W w') :
  Calls Tryz.prog 131 #[.int .i64 pl, .string s] w fun e w' => e = .returned (.agg #[.int .u32 0, .int .u32 0, .string { data := #[] }]) ∧ Below w.heap.size w w' := by
 obtain ⟨W0, hW0⟩ := Nq (w.alloc (.cells #[.int .u32 0, .int .u32 0, .string { data := #[] }] 204))
 have HR0 : Hid (W0.heap[w.heap.size]? = some (.cells #[.int .u32 0, .int .u32 0, .string { data := #[] }] 204 (0, 0))) := by rw [← hW0]; exact heap_alloc_last w _
 have HB0 : Hid (Below w.heap.size w W0) := by rw [← hW0]; exact bel1 w _
 have HW0 := Hf hW0
 clear hW0
 have d1 : decide ((244 : Int) < (n : Int)) = false := decide_eq_false (by omega)
 have p8 : (8 : Int) ≤ 8 + (n : Int) := by omega
 have p9 : 8 + (n : Int) ≤ (T.size : Int) := by omega
 go_enter Tryz.func131, Tryz.ntmps131
 go_upto_region 1 with fail
 rw [HW0.out]
 go_wp2_with fail
 refine (c0 _).mono ?_; rintro e w1 ⟨rfl, hb1⟩
 have HR1 := Hf (Br HR0.out hb1)
 have HB1 := Hf (Bu HB0.out hb1 Lr)
 clear c0 hb1 HR0 HB0 HW0
 go_wp2_with fail
 refine (c1 _).mono ?_; rintro e w2 ⟨rfl, hb2⟩
 have hr2 := Br HR1.out hb2
 have hb2' := Bu HB1.out hb2 Lr
 obtain ⟨W2, hW2⟩ := Nq (w2.alloc (.cells #[.int .u32 g, .int .u32 n] 202))
 have hx : Bx w w.heap.size w2.heap.size g n W2 := by
  rw [← hW2]
  exact ⟨(Below.heap_alloc _ _ _ (Array.getElem?_eq_some_iff.1 hr2).1).trans hr2, heap_alloc_last w2 _, Bu hb2' (bel1 w2 _) Lr⟩
 have HLT : Hid (w.heap.size < w2.heap.size) := (Array.getElem?_eq_some_iff.1 hr2).1
 have HW2 := Hf hW2
 have HX := Hf hx
 obtain ⟨⟨q0, q1⟩, _⟩ := row2 hx.b
 clear c1 hb2 hr2 hb2' hW2 HR1 HB1 hx
 go_upto_region 5 with fail
 rw [HW2.out]
 go_wp2_with fail
 refine (c2 _).mono ?_; rintro e w3 ⟨rfl, hb3⟩
 have HX3 := Hf (HX.out.up hb3)
 clear c2 hb3 HX HW2 q0 q1
 obtain ⟨⟨k0, k1, k2⟩, kf⟩ := row3f HX3.out.a
 have f0 := kf 0
 have f1 := kf 1
 have f2 := kf 2
 clear kf; go_wp2
 refine bodyPost_ret (v := .agg #[.int .u32 0, .int .u32 0, .string { data := #[] }]) ?_ rfl ⟨rfl, below3 HX3.out.bel Lr⟩
 exact results_cell_row f131_res _ _ w.heap.size 204 _ (0, 0) _ rfl (put3 _ _ _ HX3.out.a) Tryz.underlying204 rfl Tryz.size204
theorem stateAt_4 (pl : Nat) (s T : ByteArray) (w : World) (g n : Nat) (hg : g < 4294967296) (hn : n < 4294967296) (X : ByteArray) (hT : T.size = 252) (h244 : n ≤ 244) (q : Nat) (c0 : ∀ W, Calls Tryz.prog 135 #[.string s] W fun e w' => e = .returned (.tuple #[.string T, .int .i64 0]) ∧ Below W.heap.size W w') (c1 : ∀ W, Calls Tryz.prog 165 #[.string T] W fun e w' => e = .returned (.agg #[.int .u32 g, .int .u32 n]) ∧ Below W.heap.size W w') (c2 : ∀ W, Calls Tryz.prog 122 #[.string (T.extract 8 (8 + n)), .int .i64 g] W fun e w' => e = .returned (.tuple #[.string X, .int .i64 0]) ∧ Below W.heap.size W w') (hne : (X.toList == s.toList) = false) :
  Calls Tryz.prog 131 #[.int .i64 pl, .string s] w fun e w' => e = .returned (.agg #[.int .u32 0, .int .u32 0, .string { data := #[] }]) ∧ Below w.heap.size w w' := by
 obtain ⟨W0, hW0⟩ := Nq (w.alloc (.cells #[.int .u32 0, .int .u32 0, .string { data := #[] }] 204))
 have HR0 : Hid (W0.heap[w.heap.size]? = some (.cells #[.int .u32 0, .int .u32 0, .string { data := #[] }] 204 (0, 0))) := by rw [← hW0]; exact heap_alloc_last w _
 have HB0 : Hid (Below w.heap.size w W0) := by rw [← hW0]; exact bel1 w _
 have HW0 := Hf hW0
 clear hW0
 have d1 : decide ((244 : Int) < (n : Int)) = false := decide_eq_false (by omega)
 have p8 : (8 : Int) ≤ 8 + (n : Int) := by omega
 have p9 : 8 + (n : Int) ≤ (T.size : Int) := by omega
 go_enter Tryz.func131, Tryz.ntmps131
 go_upto_region 1 with fail
 rw [HW0.out]
 go_wp2_with fail
 refine (c0 _).mono ?_; rintro e w1 ⟨rfl, hb1⟩
 have HR1 := Hf (Br HR0.out hb1)
 have HB1 := Hf (Bu HB0.out hb1 Lr)
 clear c0 hb1 HR0 HB0 HW0
 go_wp2_with fail
 refine (c1 _).mono ?_; rintro e w2 ⟨rfl, hb2⟩
 have hr2 := Br HR1.out hb2
 have hb2' := Bu HB1.out hb2 Lr
 obtain ⟨W2, hW2⟩ := Nq (w2.alloc (.cells #[.int .u32 g, .int .u32 n] 202))
 have hx : Bx w w.heap.size w2.heap.size g n W2 := by
  rw [← hW2]
  exact ⟨(Below.heap_alloc _ _ _ (Array.getElem?_eq_some_iff.1 hr2).1).trans hr2, heap_alloc_last w2 _, Bu hb2' (bel1 w2 _) Lr⟩
 have HLT : Hid (w.heap.size < w2.heap.size) := (Array.getElem?_eq_some_iff.1 hr2).1
 have HW2 := Hf hW2
 have HX := Hf hx
 obtain ⟨⟨q0, q1⟩, _⟩ := row2 hx.b
 clear c1 hb2 hr2 hb2' hW2 HR1 HB1 hx
 go_upto_region 5 with fail
 rw [HW2.out]
 go_wp2_with fail
 refine (c2 _).mono ?_; rintro e w3 ⟨rfl, hb3⟩
 have HX3 := Hf (HX.out.up hb3)
 clear c2 hb3 HX HW2 q0 q1
 obtain ⟨⟨k0, k1, k2⟩, kf⟩ := row3f HX3.out.a
 have f0 := kf 0
 have f1 := kf 1
 have f2 := kf 2
 clear kf; go_wp2
 refine bodyPost_ret (v := .agg #[.int .u32 0, .int .u32 0, .string { data := #[] }]) ?_ rfl ⟨rfl, below3 HX3.out.bel Lr⟩
 exact results_cell_row f131_res _ _ w.heap.size 204 _ (0, 0) _ rfl (put3 _ _ _ HX3.out.a) Tryz.underlying204 rfl Tryz.size204
theorem stateAt_5 (pl : Nat) (s T : ByteArray) (w : World) (g n : Nat) (hg : g < 4294967296) (hn : n < 4294967296) (X : ByteArray) (hT : T.size = 252) (h244 : n ≤ 244) (q : Nat) (c0 : ∀ W, Calls Tryz.prog 135 #[.string s] W fun e w' => e = .returned (.tuple #[.string T, .int .i64 0]) ∧ Below W.heap.size W w') (c1 : ∀ W, Calls Tryz.prog 165 #[.string T] W fun e w' => e = .returned (.agg #[.int .u32 g, .int .u32 n]) ∧ Below W.heap.size W w') (c2 : ∀ W, Calls Tryz.prog 122 #[.string (T.extract 8 (8 + n)), .int .i64 g] W fun e w' => e = .returned (.tuple #[.string X, .int .i64 0]) ∧ Below W.heap.size W w') (c3 : ∀ W, Calls Tryz.prog 123 #[.int .i64 g] W fun e w' => e = .returned (.int .i64 q) ∧ w' = W) (he : X = s) (hq : ¬ q = pl) :
  Calls Tryz.prog 131 #[.int .i64 pl, .string s] w fun e w' => e = .returned (.agg #[.int .u32 0, .int .u32 0, .string { data := #[] }]) ∧ Below w.heap.size w w' := by
 subst he
 obtain ⟨W0, hW0⟩ := Nq (w.alloc (.cells #[.int .u32 0, .int .u32 0, .string { data := #[] }] 204))
 have HR0 : Hid (W0.heap[w.heap.size]? = some (.cells #[.int .u32 0, .int .u32 0, .string { data := #[] }] 204 (0, 0))) := by rw [← hW0]; exact heap_alloc_last w _
 have HB0 : Hid (Below w.heap.size w W0) := by rw [← hW0]; exact bel1 w _
 have HW0 := Hf hW0
 clear hW0
 have d1 : decide ((244 : Int) < (n : Int)) = false := decide_eq_false (by omega)
 have p8 : (8 : Int) ≤ 8 + (n : Int) := by omega
 have p9 : 8 + (n : Int) ≤ (T.size : Int) := by omega
 go_enter Tryz.func131, Tryz.ntmps131
 go_upto_region 1 with fail
 rw [HW0.out]
 go_wp2_with fail
 refine (c0 _).mono ?_; rintro e w1 ⟨rfl, hb1⟩
 have HR1 := Hf (Br HR0.out hb1)
 have HB1 := Hf (Bu HB0.out hb1 Lr)
 clear c0 hb1 HR0 HB0 HW0
 go_wp2_with fail
 refine (c1 _).mono ?_; rintro e w2 ⟨rfl, hb2⟩
 have hr2 := Br HR1.out hb2
 have hb2' := Bu HB1.out hb2 Lr
 obtain ⟨W2, hW2⟩ := Nq (w2.alloc (.cells #[.int .u32 g, .int .u32 n] 202))
 have hx : Bx w w.heap.size w2.heap.size g n W2 := by
  rw [← hW2]
  exact ⟨(Below.heap_alloc _ _ _ (Array.getElem?_eq_some_iff.1 hr2).1).trans hr2, heap_alloc_last w2 _, Bu hb2' (bel1 w2 _) Lr⟩
 have HLT : Hid (w.heap.size < w2.heap.size) := (Array.getElem?_eq_some_iff.1 hr2).1
 have HW2 := Hf hW2
 have HX := Hf hx
 obtain ⟨⟨q0, q1⟩, _⟩ := row2 hx.b
 clear c1 hb2 hr2 hb2' hW2 HR1 HB1 hx
 go_upto_region 5 with fail
 rw [HW2.out]
 go_wp2_with fail
 refine (c2 _).mono ?_; rintro e w3 ⟨rfl, hb3⟩
 have HX3 := Hf (HX.out.up hb3)
 clear c2 hb3 HX HW2 q0 q1
 go_wp2_with fail
 refine (c3 _).mono ?_; rintro e w4 ⟨rfl, rfl⟩
 clear c3
 have dq : ((q : Int) == (pl : Int)) = false := by rw [beq_eq_false_iff_ne]; omega
 obtain ⟨⟨k0, k1, k2⟩, kf⟩ := row3f HX3.out.a
 have f0 := kf 0
 have f1 := kf 1
 have f2 := kf 2
 clear kf; go_wp2
 refine bodyPost_ret (v := .agg #[.int .u32 0, .int .u32 0, .string { data := #[] }]) ?_ rfl ⟨rfl, below3 HX3.out.bel Lr⟩
 exact results_cell_row f131_res _ _ w.heap.size 204 _ (0, 0) _ rfl (put3 _ _ _ HX3.out.a) Tryz.underlying204 rfl Tryz.size204
theorem stateAt_6 (pl : Nat) (s T : ByteArray) (w : World) (g n : Nat) (hg : g < 4294967296) (hn : n < 4294967296) (X : ByteArray) (hT : T.size = 252) (h244 : n ≤ 244) (q : Nat) (c0 : ∀ W, Calls Tryz.prog 135 #[.string s] W fun e w' => e = .returned (.tuple #[.string T, .int .i64 0]) ∧ Below W.heap.size W w') (c1 : ∀ W, Calls Tryz.prog 165 #[.string T] W fun e w' => e = .returned (.agg #[.int .u32 g, .int .u32 n]) ∧ Below W.heap.size W w') (c2 : ∀ W, Calls Tryz.prog 122 #[.string (T.extract 8 (8 + n)), .int .i64 g] W fun e w' => e = .returned (.tuple #[.string X, .int .i64 0]) ∧ Below W.heap.size W w') (c3 : ∀ W, Calls Tryz.prog 123 #[.int .i64 g] W fun e w' => e = .returned (.int .i64 q) ∧ w' = W) (c4 : ∀ W, Calls Tryz.prog 134 #[.string (T.extract 8 (8 + n))] W fun e w' => e = .returned (.string (T.extract 8 (8 + n))) ∧ Below W.heap.size W w') (he : X = s) (hq : q = pl) :
  Calls Tryz.prog 131 #[.int .i64 pl, .string s] w fun e w' => e = .returned (.agg #[.int .u32 g, .int .u32 n, .string (T.extract 8 (8 + n))]) ∧ Below w.heap.size w w' := by
 subst he; subst hq
 obtain ⟨W0, hW0⟩ := Nq (w.alloc (.cells #[.int .u32 0, .int .u32 0, .string { data := #[] }] 204))
 have HR0 : Hid (W0.heap[w.heap.size]? = some (.cells #[.int .u32 0, .int .u32 0, .string { data := #[] }] 204 (0, 0))) := by rw [← hW0]; exact heap_alloc_last w _
 have HB0 : Hid (Below w.heap.size w W0) := by rw [← hW0]; exact bel1 w _
 have HW0 := Hf hW0
 clear hW0
 have d1 : decide ((244 : Int) < (n : Int)) = false := decide_eq_false (by omega)
 have p8 : (8 : Int) ≤ 8 + (n : Int) := by omega
 have p9 : 8 + (n : Int) ≤ (T.size : Int) := by omega
 go_enter Tryz.func131, Tryz.ntmps131
 go_upto_region 1 with fail
 rw [HW0.out]
 go_wp2_with fail
 refine (c0 _).mono ?_; rintro e w1 ⟨rfl, hb1⟩
 have HR1 := Hf (Br HR0.out hb1)
 have HB1 := Hf (Bu HB0.out hb1 Lr)
 clear c0 hb1 HR0 HB0 HW0
 go_wp2_with fail
 refine (c1 _).mono ?_; rintro e w2 ⟨rfl, hb2⟩
 have hr2 := Br HR1.out hb2
 have hb2' := Bu HB1.out hb2 Lr
 obtain ⟨W2, hW2⟩ := Nq (w2.alloc (.cells #[.int .u32 g, .int .u32 n] 202))
 have hx : Bx w w.heap.size w2.heap.size g n W2 := by
  rw [← hW2]
  exact ⟨(Below.heap_alloc _ _ _ (Array.getElem?_eq_some_iff.1 hr2).1).trans hr2, heap_alloc_last w2 _, Bu hb2' (bel1 w2 _) Lr⟩
 have HLT : Hid (w.heap.size < w2.heap.size) := (Array.getElem?_eq_some_iff.1 hr2).1
 have HW2 := Hf hW2
 have HX := Hf hx
 obtain ⟨⟨q0, q1⟩, _⟩ := row2 hx.b
 clear c1 hb2 hr2 hb2' hW2 HR1 HB1 hx
 go_upto_region 5 with fail
 rw [HW2.out]
 go_wp2_with fail
 refine (c2 _).mono ?_; rintro e w3 ⟨rfl, hb3⟩
 have HX3 := Hf (HX.out.up hb3)
 clear c2 hb3 HX HW2 q0 q1
 go_wp2_with fail
 refine (c3 _).mono ?_; rintro e w4 ⟨rfl, rfl⟩
 clear c3
 have HF : Hid (∀ W, Below w4.heap.size w4 W → Bx w w.heap.size w2.heap.size g n W) := fun W h => HX3.out.up h
 have BD : Below w4.heap.size w4 w4.drew := Below.drew (Below.refl _ _)
 have hP : ∀ W, Bx w w.heap.size w2.heap.size g n W → Below w.heap.size w W ∧ W.cell? ⟨w2.heap.size, 0, none⟩ = some (.int .u32 g) ∧ W.cell? ⟨w2.heap.size, 1, none⟩ = some (.int .u32 n) := fun W h => ⟨h.bel, (row2 h.b).1.1, (row2 h.b).1.2⟩
 have HP := Hf hP
 have HP0 := Hf (hP _ (HF.out _ BD))
 clear hP
 go_wp2_with fail
 go_region_held3 (fun wq => Below w.heap.size w wq ∧ wq.cell? ⟨w2.heap.size, 0, none⟩ = some (.int .u32 g) ∧ wq.cell? ⟨w2.heap.size, 1, none⟩ = some (.int .u32 n)) (first | exact HP0.out | exact HP5.out | exact ⟨below3 HP5.out.1 Lr, (st3_other (by have := HLT.out; omega)).trans HP5.out.2.1, (st3_other (by have := HLT.out; omega)).trans HP5.out.2.2⟩) ((go_at_call 134; refine (c4 _).mono ?_; rintro e w5 ⟨rfl, hb5⟩; have hx5 := HF.out w5 (BD.trans (hb5.mono Lr)); have HX5 := Hf hx5; have HP5 := Hf (HP.out _ hx5); obtain ⟨⟨k0, k1, k2⟩, kf⟩ := row3f hx5.a; have f0 := kf 0; have f1 := kf 1; have f2 := kf 2; clear kf hx5 hb5))
 all_goals
  clear c4 BD; go_wp2
  refine bodyPost_ret (v := .agg #[.int .u32 g, .int .u32 n, .string (T.extract 8 (8 + n))]) ?_ rfl ⟨rfl, below3 HX5.out.bel Lr⟩
  exact results_cell_row f131_res _ _ w.heap.size 204 _ (0, 0) _ rfl (put3 _ _ _ HX5.out.a) Tryz.underlying204 rfl Tryz.size204
end Go.Proofs.YtlnedgjikkhplaaGreat.Ns
