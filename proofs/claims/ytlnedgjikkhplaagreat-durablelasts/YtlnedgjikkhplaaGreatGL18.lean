/-
  A state's bytes: the program's and the document's.
  What a place tells: the program's.
-/
import Derived.Test.YtlnedgjikkhplaaGreatGL17
import Derived.Deep.RegionHeld3
import Derived.Deep.CutRange
import Derived.Laws.ResultCell
section
namespace Go.Proofs.YtlnedgjikkhplaaGreat.Ns
open Go.RowKit
open M (ofL ofL_size ofL_of)
set_option linter.unusedVariables false

theorem Tryz.size202 : (Tryz.prog.info? 202).map (·.size) = some 2 := by kernel_rfl
theorem row2_up {w W : World} (x y : Value) (h : Below (w.heap.size + 1) (w.alloc (.cells #[x, y] 202)) W) : W.cell? ⟨w.heap.size, 0, none⟩ = some x ∧ W.cell? ⟨w.heap.size, 1, none⟩ = some y :=
  (row2 ((h.block _ (by omega)).trans (heap_alloc_last w _))).1
theorem ofL_app (a b : List UInt8) : ofL a ++ ofL b = ofL (a ++ b) := M.ofL_app a b

theorem four_nat (n : Nat) (h : n < 4294967296) (w : World) :
    Calls Tryz.prog 194 #[.int .u32 n] w fun e w' => e = .returned (.string (ofL (K2.four (BitVec.ofNat 32 n)))) ∧ Below w.heap.size w w' := by
  have e : (BitVec.ofNat 32 n).toNat = n := by rw [BitVec.toNat_ofNat]; omega
  have := four_any (BitVec.ofNat 32 n) w
  rw [e] at this
  exact this
theorem four_size (x : BitVec 32) : (ofL (K2.four x)).size = 4 := by rw [ofL_size]; rfl
set_option maxRecDepth 100000 in
set_option maxHeartbeats 150000 in
theorem headText_any (g n : Nat) (hg : g < 4294967296) (hn : n < 4294967296) (w : World) :
    Calls Tryz.prog 161 #[.agg #[.int .u32 g, .int .u32 n]] w fun e w' => e = .returned (.string (ofL (K2.four (BitVec.ofNat 32 g) ++ K2.four (BitVec.ofNat 32 n)))) ∧ Below w.heap.size w w' := by
  have c1 := four_nat g hg
  have c2 := four_nat n hn
  have e4 := four_size (BitVec.ofNat 32 g)
  have e5 := four_size (BitVec.ofNat 32 n)
  rw [← ofL_app]
  generalize ofL (K2.four (BitVec.ofNat 32 g)) = A at *
  generalize ofL (K2.four (BitVec.ofNat 32 n)) = B at *
  obtain ⟨W1, hW1⟩ : ∃ W1, w.alloc (.cells #[.int .u32 g, .int .u32 n] 202) = W1 := ⟨_, rfl⟩
  have HC : Hid (∀ W, Below (w.heap.size + 1) W1 W → W.cell? ⟨w.heap.size, 0, none⟩ = some (.int .u32 g) ∧ W.cell? ⟨w.heap.size, 1, none⟩ = some (.int .u32 n)) := by
    intro W hW
    rw [← hW1] at hW
    exact row2_up _ _ hW
  have HB1 : Hid (Below w.heap.size w W1) := by rw [← hW1]; exact bel1 w _
  have hs1 : W1.heap.size = w.heap.size + 1 := by rw [← hW1]; simp
  have BD : Below (w.heap.size + 1) W1 W1.drew := Below.drew (Below.refl _ _)
  have HW1 := Hid_of hW1
  clear hW1
  go_enter Tryz.func161, Tryz.ntmps161
  go_upto_region 1 with fail
  rw [HW1.out]
  go_wp2_with fail
  go_region_held3 (fun wq => wq.cell? ⟨w.heap.size, 0, none⟩ = some (.int .u32 g) ∧ wq.cell? ⟨w.heap.size, 1, none⟩ = some (.int .u32 n)) (first | exact HC.out _ (by assumption)) (first | (go_at_call 194; refine (c1 _).mono ?_; rintro e w2 ⟨rfl, hb2⟩; have B2 : Below (w.heap.size + 1) W1 w2 := BD.trans (hb2.mono (by simp; omega)); clear c1 BD ) | (go_at_call 194; refine (c2 _).mono ?_; rintro e w3 ⟨rfl, hb3⟩; have B3 : Below (w.heap.size + 1) W1 w3 := B2.trans (hb3.mono (by have := B2.size; omega))))
  have HB3 := Hid_of B3
  clear c2 hb2 B2 hb3 B3
  go_wp2
  go_ret
  exact ⟨rfl, HB1.out.trans (HB3.out.mono (by omega))⟩
set_option maxRecDepth 100000 in
set_option maxHeartbeats 1000000 in
theorem refZeros_any (n : Nat) (h : n ≤ 65536) (w : World) : Calls Tryz.prog 44 #[.int .i64 n] w fun e w' => e = .returned (.string (ofL (List.replicate n 0))) ∧ Below w.heap.size w w' := by
  obtain ⟨i0, hi, hz0, hz1, hz2⟩ := info_parts Tryz.info5
  go_enter Tryz.func44, Tryz.ntmps44
  go_wp2_with (at_make; refine wpList_make_full _ rfl (.tmp 3) (.tmp 3) 138 rfl w.heap.size 5 i0 (.int .u8 0) 1 Tryz.underlying138 hi hz0 hz1 .i64 .i64 _ _ n rfl rfl rfl rfl (by rw [hz2]; omega) (by unfold maxLen; omega) (Nat.le_refl _) ?_; intro w1 ho hg; rw [made_cells] at ho; have hcv := (row_of_owns (by simp) ho).convert n n (by simp); have HB : Hid (Below w.heap.size w w1) := (Below.refl _ _).grown hg (Nat.le_refl _) (by simp); clear ho hg)
  go_ret
  exact ⟨rfl, HB.out⟩
theorem pad_app (s : ByteArray) (n : Nat) : s ++ ofL (List.replicate (n - s.size) 0) = ofL (pad s.data.toList n) := by
  unfold pad
  rw [← M.ofL_app, ofL_of, len_data]
set_option maxRecDepth 100000 in
set_option maxHeartbeats 1000000 in
theorem refPad_to (s : ByteArray) (n : Nat) (w : World) (h : n ≤ 65536) (hs : s.size ≤ n) :
    Calls Tryz.prog 164 #[.string s, .int .i64 n] w fun e w' => e = .returned (.tuple #[.string (ofL (pad s.data.toList n)), .int .i64 0]) ∧ Below w.heap.size w w' := by
  have d1 : decide ((n : Int) < 0) = false := by simp
  have d2 : decide ((65536 : Int) < (n : Int)) = false := by simp; omega
  have d3 : decide ((n : Int) < (s.size : Int)) = false := by simp; omega
  have hz := refZeros_any (n - s.size) (by omega)
  rw [show ((n - s.size : Nat) : Int) = (n : Int) - (s.size : Int) by omega] at hz
  have HP : Hid (_ = _) := pad_app s n
  have hsz : (ofL (List.replicate (n - s.size) 0)).size = n - s.size := by rw [ofL_size, List.length_replicate]
  generalize ofL (List.replicate (n - s.size) 0) = Z at *
  go_enter Tryz.func164, Tryz.ntmps164
  go_wp2_with fail
  refine (hz w).mono ?_
  rintro e w1 ⟨rfl, hb⟩
  clear hz
  go_wp2
  go_ret2
  rw [HP.out]
  exact ⟨rfl, hb⟩
/-- Pack's code, and its text. -/
def pcode (b : ByteArray) (g : Int) : Int := bif decide (g < 1) || decide (2147483647 < g) then 1 else bif decide (244 < b.size) then 2 else 0
def ptext (b : ByteArray) (g : Int) : ByteArray := bif decide (pcode b g = 0) then ofL (Sp.pk b.data.toList g.toNat) else M.E
theorem pcode_cases (b : ByteArray) (g : Int) : (g < 1 ∨ 2147483647 < g) ∧ pcode b g = 1 ∧ ptext b g = M.E ∨ (1 ≤ g ∧ g ≤ 2147483647) ∧ 244 < b.size ∧ pcode b g = 2 ∧ ptext b g = M.E ∨ (1 ≤ g ∧ g ≤ 2147483647) ∧ b.size ≤ 244 ∧ pcode b g = 0 ∧ ptext b g = ofL (Sp.pk b.data.toList g.toNat) := by
  by_cases h1 : g < 1 ∨ 2147483647 < g
  · left
    have e : pcode b g = 1 := by
      unfold pcode
      have : (decide (g < 1) || decide (2147483647 < g)) = true := by simpa using h1
      rw [this]; rfl
    exact ⟨h1, e, by unfold ptext; rw [e]; rfl⟩
  · right
    have hh : (decide (g < 1) || decide (2147483647 < g)) = false := by simp; omega
    by_cases h2 : 244 < b.size
    · left
      have e : pcode b g = 2 := by unfold pcode; rw [hh, decide_eq_true h2]; rfl
      exact ⟨by omega, h2, e, by unfold ptext; rw [e]; rfl⟩
    · right
      have e : pcode b g = 0 := by unfold pcode; rw [hh, decide_eq_false h2]; rfl
      exact ⟨by omega, by omega, e, by unfold ptext; rw [e]; rfl⟩
theorem heads_app (b : ByteArray) (g : Nat) : ofL (K2.four (BitVec.ofNat 32 g) ++ K2.four (BitVec.ofNat 32 b.size)) ++ b = ofL (Sp.heads b.data.toList g) := by
  unfold Sp.heads
  rw [len_data, ← M.ofL_app (K2.four (BitVec.ofNat 32 g) ++ K2.four (BitVec.ofNat 32 b.size)) b.data.toList, ofL_of]
theorem heads_size (b : ByteArray) (g : Nat) : (ofL (Sp.heads b.data.toList g)).size = 8 + b.size := by rw [ofL_size, Sp.heads_len, len_data]
theorem pk_of (b : ByteArray) (g : Nat) : ofL (K2.sealed (ofL (pad (ofL (Sp.heads b.data.toList g)).data.toList 252)).data.toList) = ofL (Sp.pk b.data.toList g) := by
  rw [ofL_data, ofL_data]
  rfl
set_option maxRecDepth 100000 in
set_option maxHeartbeats 2000000 in
theorem pack_any (b : ByteArray) (g : Int) (w : World) (hb : b.size ≤ maxLen) :
    Calls Tryz.prog 122 #[.string b, .int .i64 g] w fun e w' => e = .returned (.tuple #[.string (ptext b g), .int .i64 (pcode b g)]) ∧ Below w.heap.size w w' := by
  rcases pcode_cases b g with ⟨h1, e1, e2⟩ | ⟨h1, h2, e1, e2⟩ | ⟨h1, h2, e1, e2⟩
  · rw [e1, e2]
    clear e1 e2
    rcases h1 with h1 | h1
    · have d1 : decide (g < 1) = true := decide_eq_true h1
      go_enter Tryz.func122, Tryz.ntmps122
      go_wp2
      go_ret2
      exact ⟨rfl, Below.refl _ _⟩
    · have d1 : decide (g < 1) = false := decide_eq_false (by omega)
      have d2 : decide (2147483647 < g) = true := decide_eq_true h1
      go_enter Tryz.func122, Tryz.ntmps122
      go_wp2
      go_ret2
      exact ⟨rfl, Below.refl _ _⟩
  · rw [e1, e2]
    clear e1 e2
    have d1 : decide (g < 1) = false := decide_eq_false (by omega)
    have d2 : decide (2147483647 < g) = false := decide_eq_false (by omega)
    have d3 : decide ((244 : Int) < (b.size : Int)) = true := decide_eq_true (by omega)
    unfold maxLen at hb
    go_enter Tryz.func122, Tryz.ntmps122
    go_wp2
    go_ret2
    exact ⟨rfl, Below.refl _ _⟩
  · rw [e1, e2]
    clear e1 e2
    obtain ⟨n, rfl⟩ : ∃ n : Nat, g = n := ⟨g.toNat, by omega⟩
    rw [Int.toNat_natCast]
    have d1 : decide ((n : Int) < 1) = false := decide_eq_false (by omega)
    have d2 : decide (2147483647 < (n : Int)) = false := decide_eq_false (by omega)
    have d3 : decide ((244 : Int) < (b.size : Int)) = false := decide_eq_false (by omega)
    have ht := headText_any n b.size (by omega) (by omega)
    have HH : Hid (_ = _) := heads_app b n
    have HZ : Hid (_ = _) := pk_of b n
    have s1 : (ofL (K2.four (BitVec.ofNat 32 n) ++ K2.four (BitVec.ofNat 32 b.size))).size = 8 := by rw [ofL_size]; rfl
    have s2 := heads_size b n
    generalize ofL (K2.four (BitVec.ofNat 32 n) ++ K2.four (BitVec.ofNat 32 b.size)) = A at *
    generalize ofL (Sp.heads b.data.toList n) = B at *
    generalize ofL (Sp.pk b.data.toList n) = Z at *
    have hp := fun W => pad_to B 252 W (by omega) (by omega)
    have s3 : (ofL (pad B.data.toList 252)).size = 252 := by rw [ofL_size, Sp.pad_len _ _ (by rw [len_data]; omega)]
    generalize ofL (pad B.data.toList 252) = C at *
    have hse := fun W => seal_any C W (by omega)
    rw [HZ.out] at hse
    go_enter Tryz.func122, Tryz.ntmps122
    go_wp2_with fail
    refine (ht _).mono ?_
    rintro e w1 ⟨rfl, hb1⟩
    have HB1 : Hid (Below w.heap.size w w1) := bel_up (bel1 w _) hb1 (Nat.le_refl _)
    clear ht hb1
    try rw [HH.out]
    go_wp2_with fail
    try rw [HH.out]
    refine (hp _).mono ?_
    rintro e w2 ⟨rfl, hb2⟩
    have HB2 : Hid (Below w.heap.size w w2) := bel_up HB1.out hb2 (Nat.le_refl _)
    clear hp hb2 HB1
    go_wp2_with fail
    refine (hse _).mono ?_
    rintro e w3 ⟨rfl, hb3⟩
    have HB3 : Hid (Below w.heap.size w w3) := bel_up HB2.out hb3 (Nat.le_refl _)
    clear hse hb3 HB2
    go_wp2
    go_ret2
    exact ⟨rfl, HB3.out⟩
theorem refFour_nat (n : Nat) (h : n < 4294967296) (w : World) :
    Calls Tryz.prog 162 #[.int .u32 n] w fun e w' => e = .returned (.string (ofL (K2.four (BitVec.ofNat 32 n)))) ∧ Below w.heap.size w w' := by
  have e : (BitVec.ofNat 32 n).toNat = n := by rw [BitVec.toNat_ofNat]; omega
  have := refFour_any (BitVec.ofNat 32 n) w
  rw [e] at this
  exact this
set_option maxRecDepth 100000 in
set_option maxHeartbeats 2000000 in
theorem refPack_any (b : ByteArray) (g : Int) (w : World) (hb : b.size ≤ maxLen) :
    Calls Tryz.prog 127 #[.string b, .int .i64 g] w fun e w' => e = .returned (.tuple #[.string (ptext b g), .int .i64 (pcode b g)]) ∧ Below w.heap.size w w' := by
  rcases pcode_cases b g with ⟨h1, e1, e2⟩ | ⟨h1, h2, e1, e2⟩ | ⟨h1, h2, e1, e2⟩
  · rw [e1, e2]
    clear e1 e2
    rcases h1 with h1 | h1
    · have d1 : decide (g < 1) = true := decide_eq_true h1
      go_enter Tryz.func127, Tryz.ntmps127
      go_wp2
      go_ret2
      exact ⟨rfl, Below.refl _ _⟩
    · have d1 : decide (g < 1) = false := decide_eq_false (by omega)
      have d2 : decide ((2147483648 : Int) ≤ g) = true := decide_eq_true (by omega)
      go_enter Tryz.func127, Tryz.ntmps127
      go_wp2
      go_ret2
      exact ⟨rfl, Below.refl _ _⟩
  · rw [e1, e2]
    clear e1 e2
    have d1 : decide (g < 1) = false := decide_eq_false (by omega)
    have d2 : decide ((2147483648 : Int) ≤ g) = false := decide_eq_false (by omega)
    have d3 : decide ((244 : Int) < (b.size : Int)) = true := decide_eq_true (by omega)
    unfold maxLen at hb
    go_enter Tryz.func127, Tryz.ntmps127
    go_wp2
    go_ret2
    exact ⟨rfl, Below.refl _ _⟩
  · rw [e1, e2]
    clear e1 e2
    obtain ⟨n, rfl⟩ : ∃ n : Nat, g = n := ⟨g.toNat, by omega⟩
    rw [Int.toNat_natCast]
    have d1 : decide ((n : Int) < 1) = false := decide_eq_false (by omega)
    have d2 : decide ((2147483648 : Int) ≤ (n : Int)) = false := decide_eq_false (by omega)
    have d3 : decide ((244 : Int) < (b.size : Int)) = false := decide_eq_false (by omega)
    have c1 := fun W => refFour_nat n (by omega) W
    have c2 := fun W => refFour_nat b.size (by omega) W
    have e4 := four_size (BitVec.ofNat 32 n)
    have e5 := four_size (BitVec.ofNat 32 b.size)
    have HH : Hid (_ = _) := heads_app b n
    rw [← M.ofL_app] at HH
    have HZ : Hid (_ = _) := pk_of b n
    have s1 : (ofL (K2.four (BitVec.ofNat 32 n) ++ K2.four (BitVec.ofNat 32 b.size))).size = 8 := by rw [ofL_size]; rfl
    have s2 := heads_size b n
    clear s1
    generalize ofL (K2.four (BitVec.ofNat 32 n)) = A1 at *
    generalize ofL (K2.four (BitVec.ofNat 32 b.size)) = A2 at *
    generalize ofL (Sp.heads b.data.toList n) = B at *
    generalize ofL (Sp.pk b.data.toList n) = Z at *
    have hp := fun W => refPad_to B 252 W (by omega) (by omega)
    have s3 : (ofL (pad B.data.toList 252)).size = 252 := by rw [ofL_size, Sp.pad_len _ _ (by rw [len_data]; omega)]
    generalize ofL (pad B.data.toList 252) = C at *
    have hse := fun W => refSeal_any C W (by omega)
    rw [HZ.out] at hse
    go_enter Tryz.func127, Tryz.ntmps127
    go_wp2_with fail
    refine (c1 _).mono ?_
    rintro e w1 ⟨rfl, hb1⟩
    have HB1 := Hid_of hb1
    clear c1 hb1
    go_wp2_with fail
    refine (c2 _).mono ?_
    rintro e w1' ⟨rfl, hb1⟩
    have HB1 : Hid (Below w.heap.size w w1') := bel_up HB1.out hb1 (Nat.le_refl _)
    clear c2 hb1
    go_wp2_with fail
    rw [HH.out]
    refine (hp _).mono ?_
    rintro e w2 ⟨rfl, hb2⟩
    have HB2 : Hid (Below w.heap.size w w2) := bel_up HB1.out hb2 (Nat.le_refl _)
    clear hp hb2 HB1
    go_wp2_with fail
    refine (hse _).mono ?_
    rintro e w3 ⟨rfl, hb3⟩
    have HB3 : Hid (Below w.heap.size w w3) := bel_up HB2.out hb3 (Nat.le_refl _)
    clear hse hb3 HB2
    go_wp2
    go_ret2
    exact ⟨rfl, HB3.out⟩
end Go.Proofs.YtlnedgjikkhplaaGreat.Ns
end
section
namespace Go.Proofs.YtlnedgjikkhplaaGreat.Ns
open Go.RowKit
open M (ofL ofL_size ofL_of)
set_option linter.unusedVariables false

theorem f165_res : Tryz.f165.results = #[.cell 2 202] := rfl
theorem Tryz.und202 : ∃ fs, Tryz.prog.underlying 202 = some (.struct fs) := ⟨_, Tryz.underlying202⟩
theorem nm_tail (s : ByteArray) : Sp.nm (s.extract 4 s.size).data.toList 0 = Sp.nm s.data.toList 4 := by
  rw [extract_list _ _ _ (Nat.le_refl _), List.take_of_length_le (by rw [List.length_drop, len_data]; omega), Sp.nm_drop]
theorem box2_up {w W : World} {x y : Value} (h : Below (w.heap.size + 1) (w.alloc (.cells #[x, y] 202)) W) :
    (W.cell? ⟨w.heap.size, 0, none⟩ = some x ∧ W.cell? ⟨w.heap.size, 1, none⟩ = some y ∧ W.frozen? ⟨w.heap.size, 0, none⟩ = false ∧ W.frozen? ⟨w.heap.size, 1, none⟩ = false) ∧
    ∀ a b, ((W.setCell ⟨w.heap.size, 0, none⟩ a).setCell ⟨w.heap.size, 1, none⟩ b).heap[w.heap.size]? = some (.cells #[a, b] 202 (0, 0)) := by
  have hr : W.heap[w.heap.size]? = some (.cells #[x, y] 202 (0, 0)) := (h.block _ (by omega)).trans (heap_alloc_last w _)
  obtain ⟨⟨h0, h1⟩, hf⟩ := row2 hr
  refine ⟨⟨h0, h1, hf 0, hf 1⟩, fun a b => ?_⟩
  exact heap_setCell_same _ _ 1 _ _ _ (heap_setCell_same _ _ 0 _ _ _ hr)
theorem below_two {w0 w : World} {k : Nat} {a b : Value} (h : Below k w0 w) : Below k w0 ((w.setCell ⟨k, 0, none⟩ a).setCell ⟨k, 1, none⟩ b) :=
  (h.setCell (p := ⟨k, 0, none⟩) (Nat.le_refl _) a).setCell (p := ⟨k, 1, none⟩) (Nat.le_refl _) b
set_option maxRecDepth 100000 in
set_option maxHeartbeats 1000000 in
theorem headOf_any (s : ByteArray) (w : World) (hs : s.size ≤ maxLen) (h8 : 8 ≤ s.size) :
    Calls Tryz.prog 165 #[.string s] w fun e w' => e = .returned (.agg #[.int .u32 (Sp.nm s.data.toList 0), .int .u32 (Sp.nm s.data.toList 4)]) ∧ Below w.heap.size w w' := by
  have c1 := fun W => number_any s W hs (by omega)
  have c2 := fun W => number_any (s.extract 4 s.size) W (by rw [ByteArray.size_extract]; omega) (by rw [ByteArray.size_extract]; omega)
  rw [nm_tail] at c2
  have hg := Sp.nm_lt s.data.toList 0
  have hn := Sp.nm_lt s.data.toList 4
  generalize Sp.nm s.data.toList 0 = g at *
  generalize Sp.nm s.data.toList 4 = n at *
  have p4 : (4 : Int) ≤ (s.size : Int) := by omega
  unfold maxLen at hs
  obtain ⟨W1, hW1⟩ : ∃ W1, w.alloc (.cells #[.int .u32 0, .int .u32 0] 202) = W1 := ⟨_, rfl⟩
  have HC : Hid (∀ W, Below (w.heap.size + 1) W1 W → (W.cell? ⟨w.heap.size, 0, none⟩ = some (.int .u32 0) ∧ W.cell? ⟨w.heap.size, 1, none⟩ = some (.int .u32 0) ∧ W.frozen? ⟨w.heap.size, 0, none⟩ = false ∧ W.frozen? ⟨w.heap.size, 1, none⟩ = false) ∧ ∀ a b, ((W.setCell ⟨w.heap.size, 0, none⟩ a).setCell ⟨w.heap.size, 1, none⟩ b).heap[w.heap.size]? = some (.cells #[a, b] 202 (0, 0))) := by
    intro W hW
    rw [← hW1] at hW
    exact box2_up hW
  have HB1 : Hid (Below w.heap.size w W1) := by rw [← hW1]; exact bel1 w _
  have hs1 : W1.heap.size = w.heap.size + 1 := by rw [← hW1]; simp
  have BD : Below (w.heap.size + 1) W1 W1.drew := Below.drew (Below.refl _ _)
  have HW1 := Hid_of hW1
  clear hW1
  go_enter Tryz.func165, Tryz.ntmps165
  go_upto_region 1 with fail
  rw [HW1.out]
  go_wp2_with fail
  have BW : Below w.heap.size w W1.drew := Below.drew HB1.out
  go_region_held3 (fun wq => Below w.heap.size w wq) (first | assumption | exact below_two (by assumption)) (first | (go_at_call 196; refine (c1 _).mono ?_; rintro e w2 ⟨rfl, hb2⟩; have B2 : Below (w.heap.size + 1) W1 w2 := BD.trans (hb2.mono (by simp; omega)); have BW2 : Below w.heap.size w w2 := HB1.out.trans (B2.mono (by omega)); clear c1 BD BW) | (go_at_call 196; refine (c2 _).mono ?_; rintro e w3 ⟨rfl, hb3⟩; have B3 : Below (w.heap.size + 1) W1 w3 := B2.trans (hb3.mono (by have := B2.size; omega)); have BW3 : Below w.heap.size w w3 := HB1.out.trans (B3.mono (by omega)); obtain ⟨⟨k0, k1, k2, k3⟩, hfin⟩ := HC.out w3 B3; clear c2 B2 BW2))
  have HF := Hid_of (hfin (.int .u32 g) (.int .u32 n))
  have HB3 := Hid_of BW3
  clear hfin k0 k1 k2 k3 BW3 B3 hb3 hb2 HC HB1
  go_wp2
  refine bodyPost_ret (v := .agg #[.int .u32 g, .int .u32 n]) ?_ rfl ⟨rfl, below_two HB3.out⟩
  exact results_cell_row f165_res _ _ w.heap.size 202 _ (0, 0) _ rfl HF.out Tryz.underlying202 rfl Tryz.size202

theorem f131_res : Tryz.f131.results = #[.cell 4 204] := rfl
theorem Tryz.size204 : (Tryz.prog.info? 204).map (·.size) = some 3 := by kernel_rfl
def st3 (w : World) (B : Nat) (v0 v1 v2 : Value) : World := ((w.setCell ⟨B, 0, none⟩ v0).setCell ⟨B, 1, none⟩ v1).setCell ⟨B, 2, none⟩ v2
theorem put3 {w : World} {B : Nat} {u0 u1 u2 : Value} {t : TypeId} (v0 v1 v2 : Value) (h : w.heap[B]? = some (.cells #[u0, u1, u2] t (0, 0))) :
    (st3 w B v0 v1 v2).heap[B]? = some (.cells #[v0, v1, v2] t (0, 0)) :=
  heap_setCell_same _ B 2 _ _ _ (heap_setCell_same _ B 1 _ _ _ (heap_setCell_same w B 0 _ _ _ h))
theorem below3 {w0 w : World} {B' B : Nat} {v0 v1 v2 : Value} (h : Below B' w0 w) (hB : B' ≤ B) : Below B' w0 (st3 w B v0 v1 v2) := ((h.setCell hB _).setCell hB _).setCell hB _
/-- A state in memory. -/
def SV (x : Nat × List UInt8) : Array Value := #[.int .u32 x.1, .int .u32 (x.2.length : Nat), .string (ofL x.2)]
theorem body_eq (s : ByteArray) (h : s.size = 256) (hn : Sp.nm s.data.toList 4 ≤ 244) :
    (ofL (s.data.toList.take 252)).extract 8 (8 + Sp.nm s.data.toList 4) = ofL (Sp.bd s.data.toList) ∧ (Sp.bd s.data.toList).length = Sp.nm s.data.toList 4 := by
  have hl : s.data.toList.length = 256 := by rw [len_data, h]
  constructor
  · apply ByteArray.ext
    apply Array.ext'
    rw [extract_list _ _ _ (by rw [ofL_size, List.length_take, hl]; omega), ofL_data, ofL_data]
    unfold Sp.bd
    rw [List.drop_take, List.take_take]
    congr 1
    omega
  · unfold Sp.bd
    rw [List.length_take, List.length_drop, hl]
    omega
end Go.Proofs.YtlnedgjikkhplaaGreat.Ns
end
