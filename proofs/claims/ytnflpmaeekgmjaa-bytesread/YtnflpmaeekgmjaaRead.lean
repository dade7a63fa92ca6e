/-
  Proved: for any two texts and every number the law BytesRead of the program returns true, and all arguments read as they did.
-/
import Derived.Test.YtnflpmaeekgmjaaK
import Derived.Deep.RegionHeld3
namespace Go.Proofs.Ytnflpmaeekgmjaa
open Go.ChangeShapes Go.WideShapes Go.ChangeAt Go.RowKit
open Go.ChangeMaps (open_string shut_string)
set_option linter.unusedVariables false

theorem putL_length (s : List UInt8) (m : Nat) (t : List UInt8) : (putL s m t).length = max s.length (m + t.length) := by
  unfold putL
  rw [M.over_length, pad_length]
  · exact Nat.le_max_left _ _
  · rw [pad_length _ _ (Nat.le_max_left _ _)]; exact Nat.le_max_right _ _
theorem putL_parts (s : List UInt8) (m : Nat) (t : List UInt8) : putL s m t = (pad s (max s.length (m + t.length))).take m ++ t ++ (pad s (max s.length (m + t.length))).drop (m + t.length) := rfl
theorem putL_mid (s : List UInt8) (m : Nat) (t : List UInt8) : ((putL s m t).drop m).take t.length = t := by
  have h : ((pad s (max s.length (m + t.length))).take m).length = m := by
    rw [List.length_take, pad_length _ _ (Nat.le_max_left _ _)]; omega
  rw [putL_parts, List.append_assoc, List.drop_left' h]
  simp
theorem putL_front (s : List UInt8) (m : Nat) (t : List UInt8) (k : Nat) (hk : k ≤ m) (hk2 : k ≤ s.length) : (putL s m t).take k = s.take k := by
  have h : ((pad s (max s.length (m + t.length))).take m).length = m := by
    rw [List.length_take, pad_length _ _ (Nat.le_max_left _ _)]; omega
  rw [putL_parts, List.append_assoc, List.take_append_of_le_length (by omega), List.take_take, Nat.min_eq_left hk]
  unfold pad
  rw [List.take_append_of_le_length hk2]
theorem putL_gap (s : List UInt8) (m : Nat) (t : List UInt8) (h : s.length ≤ m) : M.zero (((putL s m t).drop s.length).take (m - s.length)) = true := by
  have hl : ((pad s (max s.length (m + t.length))).take m).length = m := by
    rw [List.length_take, pad_length _ _ (Nat.le_max_left _ _)]; omega
  rw [← List.drop_take, putL_parts, List.append_assoc, List.take_left' hl, List.drop_take]
  unfold pad
  rw [List.drop_left' rfl]
  simp [M.zero]
theorem putL_back (s : List UInt8) (m : Nat) (t : List UInt8) (h : m + t.length ≤ s.length) : (putL s m t).drop (m + t.length) = s.drop (m + t.length) := by
  have hl : ((pad s (max s.length (m + t.length))).take m ++ t).length = m + t.length := by
    rw [List.length_append, List.length_take, pad_length _ _ (Nat.le_max_left _ _)]; omega
  rw [putL_parts, List.drop_left' hl]
  congr 1
  unfold pad
  rw [Nat.max_eq_left h, Nat.sub_self]
  simp

theorem ext_of {a b : ByteArray} (h : a.data.toList = b.data.toList) : (a.toList == b.toList) = true := by
  have : a = b := ByteArray.ext (Array.toList_inj.1 h)
  rw [this]
  simp

theorem zero_none {w : World} : Calls Try.prog 16 #[.string ByteArray.empty] w fun e w' => e = .returned (.bool true) ∧ w' = w := zero_any ByteArray.empty w (Nat.zero_le _)

set_option maxHeartbeats 2000000 in
theorem read_walk (s : ByteArray) (k : Int) (t : ByteArray) (w : World) (hs : s.size ≤ maxLen) (ht : t.size ≤ maxLen) (hk : -9223372036854775808 ≤ k ∧ k ≤ 9223372036854775807) :
    Calls Try.prog 8 #[.string s, .int .i64 k, .string t] w fun e w' => e = .returned (.bool true) ∧ Below w.heap.size w w' := by
  have hs' := hs
  have ht' := ht
  unfold maxLen at hs ht
  have bad : ∀ n : Int, (n != 0) = true → putOut s k t = (ByteArray.empty, n) → Calls Try.prog 8 #[.string s, .int .i64 k, .string t] w fun e w' => e = .returned (.bool true) ∧ Below w.heap.size w w' := by
    intro n hn he
    have HE : Hid (putOut s k t = (ByteArray.empty, n)) := he
    clear he
    go_enter Try.func8, Try.ntmps8
    go_wp2_with fail
    refine (put_any s k t _ hs' ht' hk).mono ?_
    rintro e w1 ⟨rfl, hb1⟩
    rw [HE.out]
    go_wp2_with fail
    refine (awake_any _).mono ?_
    rintro e w2 ⟨rfl, hb2⟩
    go_wp2
    go_ret
    exact ⟨rfl, hb1.trans (hb2.mono hb1.size)⟩
  by_cases h1 : k < 0
  · exact bad 1 (by decide) (by simp [putOut, h1])
  · by_cases h2 : k > 65536 - (t.size : Int) ∨ (s.size : Int) > 65536
    · exact bad 2 (by decide) (by simp only [putOut]; rw [if_neg h1, if_pos h2])
    · clear bad
      have HE : Hid (putOut s k t = (ofL (putL s.data.toList k.toNat t.data.toList), 0)) := by show _ = _; simp only [putOut]; rw [if_neg h1, if_neg h2]
      obtain ⟨m, rfl⟩ := Int.eq_ofNat_of_zero_le (show 0 ≤ k by omega)
      rw [Int.toNat_natCast] at HE
      have hxs : (ofL (putL s.data.toList m t.data.toList)).size = max s.size (m + t.size) := by rw [ofL_size, putL_length, len_data, len_data]
      have hmid : ((ofL (putL s.data.toList m t.data.toList)).extract m (m + t.size)).toList == t.toList := by
        refine ext_of ?_
        rw [extract_list _ _ _ (by omega), ofL_data, Nat.add_sub_cancel_left, ← len_data t, putL_mid]
      have hfront : ∀ j, j ≤ m → j ≤ s.size → ((ofL (putL s.data.toList m t.data.toList)).extract 0 j).toList == (s.extract 0 j).toList := by
        intro j j1 j2
        refine ext_of ?_
        rw [extract_list _ _ _ (by omega), extract_list _ _ _ j2, ofL_data, List.drop_zero, List.drop_zero, Nat.sub_zero, putL_front _ _ _ _ j1 (by rw [len_data]; exact j2)]
      have hgap : s.size ≤ m → M.zero ((ofL (putL s.data.toList m t.data.toList)).extract s.size m).data.toList = true := by
        intro j
        have := putL_gap s.data.toList m t.data.toList (by rw [len_data]; exact j)
        rw [len_data] at this
        rw [extract_list _ _ _ (by omega), ofL_data, this]
      have hback : m + t.size ≤ s.size → ((ofL (putL s.data.toList m t.data.toList)).extract (m + t.size) (ofL (putL s.data.toList m t.data.toList)).size).toList == (s.extract (m + t.size) s.size).toList := by
        intro j
        have := putL_back s.data.toList m t.data.toList (by rw [len_data, len_data]; exact j)
        rw [len_data] at this
        refine ext_of ?_
        rw [extract_list _ _ _ (by omega), extract_list _ _ _ (Nat.le_refl _), ofL_data, this, hxs, Nat.max_eq_left j]
      generalize ofL (putL s.data.toList m t.data.toList) = x at *
      obtain ⟨z, hz⟩ : ∃ z : Nat, z = m + t.size := ⟨_, rfl⟩
      have hz' : ((m : Int) + (t.size : Int)) = (z : Int) := by omega
      have hz1 : m ≤ z := by omega
      rw [← hz] at hxs hmid hback
      have hxle : x.size ≤ 65536 := by omega
      have hx0 : z ≤ x.size := by omega
      have hx1 : s.size ≤ x.size := by omega
      have hx2 : m ≤ x.size := by omega
      clear hz h1 h2
      by_cases h4 : z < s.size
      · have hq : ((x.size : Int) != (s.size : Int)) = false := by simp; omega
        have HF := hfront m (Nat.le_refl _) (by omega)
        have HB := hback (by omega)
        have hge : decide ((s.size : Int) ≤ (z : Int)) = false := by simp; omega
        have hge' : decide (s.size ≤ z) = false := by simp; omega
        have hms : m ≤ s.size := by omega
        have hzs : z ≤ s.size := by omega
        clear hfront hback hgap hxs
        go_enter Try.func8, Try.ntmps8
        go_wp2_with fail
        refine (put_any s m t _ hs' ht' hk).mono ?_
        rintro e w1 ⟨rfl, hb1⟩
        rw [HE.out]
        go_wp2_with fail
        go_region_held3 (fun _ => True) (trivial) (first | (go_at_call 16; refine zero_none.mono ?_; rintro e w2 ⟨rfl, rfl⟩) | (go_at_call 9; refine (awake_any _).mono ?_; rintro e w3 ⟨rfl, hb3⟩))
        go_wp2
        go_ret
        exact ⟨rfl, hb1.trans ((Below.drew (Below.refl _ _)).trans (hb3.mono hb1.size))⟩
      · have hq : ((x.size : Int) != (z : Int)) = false := by simp; omega
        have hge : decide ((s.size : Int) ≤ (z : Int)) = true := by simp; omega
        have hge' : decide (s.size ≤ z) = true := by simp; omega
        clear hback
        by_cases h5 : s.size < m
        · have HF := hfront s.size (by omega) (Nat.le_refl _)
          rw [show s.extract 0 s.size = s from ByteArray.ext (by simp)] at HF
          have HZ : Hid (M.zero (x.extract s.size m).data.toList = true) := hgap (by omega)
          have hzs : (x.extract s.size m).size ≤ maxLen := by rw [ByteArray.size_extract]; unfold maxLen; omega
          have hsm : s.size ≤ m := by omega
          clear hfront hgap hxs
          have h6 : s.size < z := by omega
          go_enter Try.func8, Try.ntmps8
          go_wp2_with fail
          refine (put_any s m t _ hs' ht' hk).mono ?_
          rintro e w1 ⟨rfl, hb1⟩
          rw [HE.out]
          go_wp2_with fail
          refine wp_region_held_drew (S := fun _ => True) (by kernel_rfl) trivial (fun hHeld => ?_)
          refine wpAnyH_take (i := 0) (oi := ?p0c) (v := ?v0c) ?o0c (by kernel_rfl) (by kernel_rfl) (by kernel_rfl) ?q0c ?y0c trivial ?r0c
          case o0c => simp only [List.getElem?_toArray, List.getElem?_cons_zero]; rfl
          case q0c => exact fun _ _ _ h => h
          case y0c => (refine Or.inl ⟨rfl, ?_⟩; intro wq _; go_simp; try with_reducible rfl)
          simp only [Act.put, List.setIfInBounds_toArray, List.set_cons_zero, List.set_cons_succ]
          refine wpAnyH_take (i := 1) (oi := ?p1c) (v := ?v1c) ?o1c (by kernel_rfl) (by kernel_rfl) (by kernel_rfl) ?q1c ?y1c trivial ?r1c
          case o1c => simp only [List.getElem?_toArray, List.getElem?_cons_succ, List.getElem?_cons_zero]; rfl
          case q1c => exact fun _ _ _ h => h
          case y1c => (refine Or.inl ⟨rfl, ?_⟩; intro wq _; go_simp; try with_reducible rfl)
          simp only [Act.put, List.setIfInBounds_toArray, List.set_cons_zero, List.set_cons_succ]
          refine wpAnyH_take (i := 2) (oi := ?p2c) (v := ?v2c) ?o2c (by kernel_rfl) (by kernel_rfl) (by kernel_rfl) ?q2c ?y2c trivial ?r2c
          case o2c => simp only [List.getElem?_toArray, List.getElem?_cons_succ, List.getElem?_cons_zero]; rfl
          case q2c => exact fun _ _ _ h => h
          case y2c => (refine Or.inl ⟨rfl, ?_⟩; intro wq _; go_simp; try with_reducible rfl)
          simp only [Act.put, List.setIfInBounds_toArray, List.set_cons_zero, List.set_cons_succ]
          refine wpAnyH_take (i := 3) (oi := ?p3c) (v := ?v3c) ?o3c (by kernel_rfl) (by kernel_rfl) (by kernel_rfl) ?q3c ?y3c trivial ?r3c
          case o3c => simp only [List.getElem?_toArray, List.getElem?_cons_succ, List.getElem?_cons_zero]; rfl
          case q3c => exact fun _ _ _ h => h
          case y3c => (refine Or.inl ⟨rfl, ?_⟩; intro wq _; go_simp; try with_reducible rfl)
          simp only [Act.put, List.setIfInBounds_toArray, List.set_cons_zero, List.set_cons_succ]
          refine wpAnyH_take (i := 4) (oi := ?p4c) (v := ?v4c) ?o4c (by kernel_rfl) (by kernel_rfl) (by kernel_rfl) ?q4c ?y4c trivial ?r4c
          case o4c => simp only [List.getElem?_toArray, List.getElem?_cons_succ, List.getElem?_cons_zero]; rfl
          case q4c => exact fun _ _ _ h => h
          case y4c => (refine Or.inl ⟨rfl, ?_⟩; intro wq _; go_simp; try with_reducible rfl)
          simp only [Act.put, List.setIfInBounds_toArray, List.set_cons_zero, List.set_cons_succ]
          refine wpAnyH_take (i := 5) (oi := ?p5c) (v := ?v5c) ?o5c (by kernel_rfl) (by kernel_rfl) (by kernel_rfl) ?q5c ?y5c trivial ?r5c
          case o5c => simp only [List.getElem?_toArray, List.getElem?_cons_succ, List.getElem?_cons_zero]; rfl
          case q5c => exact fun _ _ _ h => h
          case y5c => (refine Or.inl ⟨rfl, ?_⟩; intro wq _; go_simp; try with_reducible rfl)
          simp only [Act.put, List.setIfInBounds_toArray, List.set_cons_zero, List.set_cons_succ]
          refine wpAnyH_take (i := 6) (oi := ?p6c) (v := ?v6c) ?o6c (by kernel_rfl) (by kernel_rfl) (by kernel_rfl) ?q6c ?y6c trivial ?r6c
          case o6c => simp only [List.getElem?_toArray, List.getElem?_cons_succ, List.getElem?_cons_zero]; rfl
          case q6c => exact fun _ _ _ h => h
          case y6c => (refine Or.inl ⟨rfl, ?_⟩; intro wq _; go_simp; try with_reducible rfl)
          simp only [Act.put, List.setIfInBounds_toArray, List.set_cons_zero, List.set_cons_succ]
          refine wpAnyH_take (i := 7) (oi := ?p7c) (v := ?v7c) ?o7c (by kernel_rfl) (by kernel_rfl) (by kernel_rfl) ?q7c ?y7c trivial ?r7c
          case o7c => simp only [List.getElem?_toArray, List.getElem?_cons_succ, List.getElem?_cons_zero]; rfl
          case q7c => exact fun _ _ _ h => h
          case y7c => (refine Or.inl ⟨rfl, ?_⟩; intro wq _; go_simp; try with_reducible rfl)
          simp only [Act.put, List.setIfInBounds_toArray, List.set_cons_zero, List.set_cons_succ]
          refine wpAnyH_take (i := 8) (oi := ?p8c) (v := ?v8c) ?o8c (by kernel_rfl) (by kernel_rfl) (by kernel_rfl) ?q8c ?y8c trivial ?r8c
          case o8c => simp only [List.getElem?_toArray, List.getElem?_cons_succ, List.getElem?_cons_zero]; rfl
          case q8c => exact fun _ _ _ h => h
          case y8c => (refine Or.inl ⟨rfl, ?_⟩; intro wq _; go_simp; try with_reducible rfl)
          simp only [Act.put, List.setIfInBounds_toArray, List.set_cons_zero, List.set_cons_succ]
          refine wpAnyH_take (i := 9) (oi := ?p9c) (v := ?v9c) ?o9c (by kernel_rfl) (by kernel_rfl) (by kernel_rfl) ?q9c ?y9c trivial ?r9c
          case o9c => simp only [List.getElem?_toArray, List.getElem?_cons_succ, List.getElem?_cons_zero]; rfl
          case q9c => exact fun _ _ _ h => h
          case y9c => (refine Or.inl ⟨rfl, ?_⟩; intro wq _; go_simp; try with_reducible rfl)
          simp only [Act.put, List.setIfInBounds_toArray, List.set_cons_zero, List.set_cons_succ]
          refine wpAnyH_take (i := 10) (oi := ?p10c) (v := ?v10c) ?o10c (by kernel_rfl) (by kernel_rfl) (by kernel_rfl) ?q10c ?y10c trivial ?r10c
          case o10c => simp only [List.getElem?_toArray, List.getElem?_cons_succ, List.getElem?_cons_zero]; rfl
          case q10c => exact fun _ _ _ h => h
          case y10c => (refine Or.inl ⟨rfl, ?_⟩; intro wq _; go_simp; try with_reducible rfl)
          simp only [Act.put, List.setIfInBounds_toArray, List.set_cons_zero, List.set_cons_succ]
          refine wpAnyH_take (i := 11) (oi := ?p11c) (v := ?v11c) ?o11c (by kernel_rfl) (by kernel_rfl) (by kernel_rfl) ?q11c ?y11c trivial ?r11c
          case o11c => simp only [List.getElem?_toArray, List.getElem?_cons_succ, List.getElem?_cons_zero]; rfl
          case q11c => exact fun _ _ _ h => h
          case y11c => (refine Or.inl ⟨rfl, ?_⟩; intro wq _; go_simp; try with_reducible rfl)
          simp only [Act.put, List.setIfInBounds_toArray, List.set_cons_zero, List.set_cons_succ]
          refine wpAnyH_ready (rs := [12]) (by kernel_rfl) (by simp) ?_
          refine AllReadyH.cons (o := ?p12c) ?o12c ?s12c AllReadyH.nil
          case o12c => simp only [List.getElem?_toArray, List.getElem?_cons_succ, List.getElem?_cons_zero]; rfl
          intro K hK
          go_simp
          refine (zero_any _ _ hzs).mono ?_
          rintro e w2 ⟨rfl, rfl⟩
          rw [HZ.out]
          refine hK.out _ _ trivial (fun hHeld => ?_)
          clear hK K
          refine wpAnyH_take (i := 13) (oi := ?p13c) (v := ?v13c) ?o13c (by kernel_rfl) (by kernel_rfl) (by kernel_rfl) ?q13c ?y13c trivial ?r13c
          case o13c => simp only [List.getElem?_toArray, List.getElem?_cons_succ, List.getElem?_cons_zero]; rfl
          case q13c => exact fun _ _ _ h => h
          case y13c => (refine Or.inl ⟨rfl, ?_⟩; intro wq _; go_simp; try with_reducible rfl)
          simp only [Act.put, List.setIfInBounds_toArray, List.set_cons_zero, List.set_cons_succ]
          refine wpAnyH_take (i := 14) (oi := ?p14c) (v := ?v14c) ?o14c (by kernel_rfl) (by kernel_rfl) (by kernel_rfl) ?q14c ?y14c trivial ?r14c
          case o14c => simp only [List.getElem?_toArray, List.getElem?_cons_succ, List.getElem?_cons_zero]; rfl
          case q14c => exact fun _ _ _ h => h
          case y14c => (refine Or.inl ⟨rfl, ?_⟩; intro wq _; go_simp; try with_reducible rfl)
          simp only [Act.put, List.setIfInBounds_toArray, List.set_cons_zero, List.set_cons_succ]
          refine wpAnyH_take (i := 15) (oi := ?p15c) (v := ?v15c) ?o15c (by kernel_rfl) (by kernel_rfl) (by kernel_rfl) ?q15c ?y15c trivial ?r15c
          case o15c => simp only [List.getElem?_toArray, List.getElem?_cons_succ, List.getElem?_cons_zero]; rfl
          case q15c => exact fun _ _ _ h => h
          case y15c => (refine Or.inl ⟨rfl, ?_⟩; intro wq _; go_simp; try with_reducible rfl)
          simp only [Act.put, List.setIfInBounds_toArray, List.set_cons_zero, List.set_cons_succ]
          refine wpAnyH_take (i := 16) (oi := ?p16c) (v := ?v16c) ?o16c (by kernel_rfl) (by kernel_rfl) (by kernel_rfl) ?q16c ?y16c trivial ?r16c
          case o16c => simp only [List.getElem?_toArray, List.getElem?_cons_succ, List.getElem?_cons_zero]; rfl
          case q16c => exact fun _ _ _ h => h
          case y16c => (refine Or.inl ⟨rfl, ?_⟩; intro wq _; go_simp; try with_reducible rfl)
          simp only [Act.put, List.setIfInBounds_toArray, List.set_cons_zero, List.set_cons_succ]
          refine wpAnyH_take (i := 17) (oi := ?p17c) (v := ?v17c) ?o17c (by kernel_rfl) (by kernel_rfl) (by kernel_rfl) ?q17c ?y17c trivial ?r17c
          case o17c => simp only [List.getElem?_toArray, List.getElem?_cons_succ, List.getElem?_cons_zero]; rfl
          case q17c => exact fun _ _ _ h => h
          case y17c => (refine Or.inl ⟨rfl, ?_⟩; intro wq _; go_simp; try with_reducible rfl)
          simp only [Act.put, List.setIfInBounds_toArray, List.set_cons_zero, List.set_cons_succ]
          refine wpAnyH_take (i := 18) (oi := ?p18c) (v := ?v18c) ?o18c (by kernel_rfl) (by kernel_rfl) (by kernel_rfl) ?q18c ?y18c trivial ?r18c
          case o18c => simp only [List.getElem?_toArray, List.getElem?_cons_succ, List.getElem?_cons_zero]; rfl
          case q18c => exact fun _ _ _ h => h
          case y18c => (refine Or.inl ⟨rfl, ?_⟩; intro wq _; go_simp; try with_reducible rfl)
          simp only [Act.put, List.setIfInBounds_toArray, List.set_cons_zero, List.set_cons_succ]
          refine wpAnyH_take (i := 19) (oi := ?p19c) (v := ?v19c) ?o19c (by kernel_rfl) (by kernel_rfl) (by kernel_rfl) ?q19c ?y19c trivial ?r19c
          case o19c => simp only [List.getElem?_toArray, List.getElem?_cons_succ, List.getElem?_cons_zero]; rfl
          case q19c => exact fun _ _ _ h => h
          case y19c => (refine Or.inl ⟨rfl, ?_⟩; intro wq _; go_simp; try with_reducible rfl)
          simp only [Act.put, List.setIfInBounds_toArray, List.set_cons_zero, List.set_cons_succ]
          refine wpAnyH_take (i := 20) (oi := ?p20c) (v := undef) ?o20c (by kernel_rfl) (by kernel_rfl) (by kernel_rfl) ?q20c ?y20c trivial ?r20c
          case o20c => simp only [List.getElem?_toArray, List.getElem?_cons_succ, List.getElem?_cons_zero]; rfl
          case q20c => exact fun _ _ _ h => h
          case y20c => exact Or.inr ⟨rfl, rfl⟩
          simp only [Act.put, List.setIfInBounds_toArray, List.set_cons_zero, List.set_cons_succ]
          refine wpAnyH_take (i := 21) (oi := ?p21c) (v := undef) ?o21c (by kernel_rfl) (by kernel_rfl) (by kernel_rfl) ?q21c ?y21c trivial ?r21c
          case o21c => simp only [List.getElem?_toArray, List.getElem?_cons_succ, List.getElem?_cons_zero]; rfl
          case q21c => exact fun _ _ _ h => h
          case y21c => exact Or.inr ⟨rfl, rfl⟩
          simp only [Act.put, List.setIfInBounds_toArray, List.set_cons_zero, List.set_cons_succ]
          refine wpAnyH_take (i := 22) (oi := ?p22c) (v := undef) ?o22c (by kernel_rfl) (by kernel_rfl) (by kernel_rfl) ?q22c ?y22c trivial ?r22c
          case o22c => simp only [List.getElem?_toArray, List.getElem?_cons_succ, List.getElem?_cons_zero]; rfl
          case q22c => exact fun _ _ _ h => h
          case y22c => exact Or.inr ⟨rfl, rfl⟩
          simp only [Act.put, List.setIfInBounds_toArray, List.set_cons_zero, List.set_cons_succ]
          refine wpAnyH_take (i := 23) (oi := ?p23c) (v := undef) ?o23c (by kernel_rfl) (by kernel_rfl) (by kernel_rfl) ?q23c ?y23c trivial ?r23c
          case o23c => simp only [List.getElem?_toArray, List.getElem?_cons_succ, List.getElem?_cons_zero]; rfl
          case q23c => exact fun _ _ _ h => h
          case y23c => exact Or.inr ⟨rfl, rfl⟩
          simp only [Act.put, List.setIfInBounds_toArray, List.set_cons_zero, List.set_cons_succ]
          refine wpAnyH_take (i := 24) (oi := ?p24c) (v := undef) ?o24c (by kernel_rfl) (by kernel_rfl) (by kernel_rfl) ?q24c ?y24c trivial ?r24c
          case o24c => simp only [List.getElem?_toArray, List.getElem?_cons_succ, List.getElem?_cons_zero]; rfl
          case q24c => exact fun _ _ _ h => h
          case y24c => exact Or.inr ⟨rfl, rfl⟩
          simp only [Act.put, List.setIfInBounds_toArray, List.set_cons_zero, List.set_cons_succ]
          refine wpAnyH_take (i := 25) (oi := ?p25c) (v := undef) ?o25c (by kernel_rfl) (by kernel_rfl) (by kernel_rfl) ?q25c ?y25c trivial ?r25c
          case o25c => simp only [List.getElem?_toArray, List.getElem?_cons_succ, List.getElem?_cons_zero]; rfl
          case q25c => exact fun _ _ _ h => h
          case y25c => exact Or.inr ⟨rfl, rfl⟩
          simp only [Act.put, List.setIfInBounds_toArray, List.set_cons_zero, List.set_cons_succ]
          refine wpAnyH_take (i := 26) (oi := ?p26c) (v := undef) ?o26c (by kernel_rfl) (by kernel_rfl) (by kernel_rfl) ?q26c ?y26c trivial ?r26c
          case o26c => simp only [List.getElem?_toArray, List.getElem?_cons_succ, List.getElem?_cons_zero]; rfl
          case q26c => exact fun _ _ _ h => h
          case y26c => exact Or.inr ⟨rfl, rfl⟩
          simp only [Act.put, List.setIfInBounds_toArray, List.set_cons_zero, List.set_cons_succ]
          refine wpAnyH_take (i := 27) (oi := ?p27c) (v := ?v27c) ?o27c (by kernel_rfl) (by kernel_rfl) (by kernel_rfl) ?q27c ?y27c trivial ?r27c
          case o27c => simp only [List.getElem?_toArray, List.getElem?_cons_succ, List.getElem?_cons_zero]; rfl
          case q27c => exact fun _ _ _ h => h
          case y27c => (refine Or.inl ⟨rfl, ?_⟩; intro wq _; go_simp; try with_reducible rfl)
          simp only [Act.put, List.setIfInBounds_toArray, List.set_cons_zero, List.set_cons_succ]
          refine wpAnyH_take (i := 28) (oi := ?p28c) (v := ?v28c) ?o28c (by kernel_rfl) (by kernel_rfl) (by kernel_rfl) ?q28c ?y28c trivial ?r28c
          case o28c => simp only [List.getElem?_toArray, List.getElem?_cons_succ, List.getElem?_cons_zero]; rfl
          case q28c => exact fun _ _ _ h => h
          case y28c => (refine Or.inl ⟨rfl, ?_⟩; intro wq _; go_simp; try with_reducible rfl)
          simp only [Act.put, List.setIfInBounds_toArray, List.set_cons_zero, List.set_cons_succ]
          refine wpAnyH_take (i := 29) (oi := ?p29c) (v := ?v29c) ?o29c (by kernel_rfl) (by kernel_rfl) (by kernel_rfl) ?q29c ?y29c trivial ?r29c
          case o29c => simp only [List.getElem?_toArray, List.getElem?_cons_succ, List.getElem?_cons_zero]; rfl
          case q29c => exact fun _ _ _ h => h
          case y29c => (refine Or.inl ⟨rfl, ?_⟩; intro wq _; go_simp; try with_reducible rfl)
          simp only [Act.put, List.setIfInBounds_toArray, List.set_cons_zero, List.set_cons_succ]
          refine wpAnyH_ready (rs := [30]) (by kernel_rfl) (by simp) ?_
          refine AllReadyH.cons (o := ?p30c) ?o30c ?s30c AllReadyH.nil
          case o30c => simp only [List.getElem?_toArray, List.getElem?_cons_succ, List.getElem?_cons_zero]; rfl
          intro K hK
          go_simp
          refine (awake_any _).mono ?_
          rintro e w3 ⟨rfl, hb3⟩
          refine hK.out _ _ trivial (fun hHeld => ?_)
          clear hK K
          refine wpAnyH_take (i := 31) (oi := ?p31c) (v := ?v31c) ?o31c (by kernel_rfl) (by kernel_rfl) (by kernel_rfl) ?q31c ?y31c trivial ?r31c
          case o31c => simp only [List.getElem?_toArray, List.getElem?_cons_succ, List.getElem?_cons_zero]; rfl
          case q31c => exact fun _ _ _ h => h
          case y31c => (refine Or.inl ⟨rfl, ?_⟩; intro wq _; go_simp; try with_reducible rfl)
          simp only [Act.put, List.setIfInBounds_toArray, List.set_cons_zero, List.set_cons_succ]
          refine wpAnyH_take (i := 32) (oi := ?p32c) (v := ?v32c) ?o32c (by kernel_rfl) (by kernel_rfl) (by kernel_rfl) ?q32c ?y32c trivial ?r32c
          case o32c => simp only [List.getElem?_toArray, List.getElem?_cons_succ, List.getElem?_cons_zero]; rfl
          case q32c => exact fun _ _ _ h => h
          case y32c => (refine Or.inl ⟨rfl, ?_⟩; intro wq _; go_simp; try with_reducible rfl)
          simp only [Act.put, List.setIfInBounds_toArray, List.set_cons_zero, List.set_cons_succ]
          refine wpAnyH_done (by kernel_rfl) ?_ _
          go_wp2
          go_ret
          exact ⟨rfl, hb1.trans ((Below.drew (Below.refl _ _)).trans (hb3.mono hb1.size))⟩
        · have HF := hfront m (Nat.le_refl _) (by omega)
          have hms : m ≤ s.size := by omega
          clear hfront hgap
          by_cases h6 : s.size < z
          · clear hxs
            go_enter Try.func8, Try.ntmps8
            go_wp2_with fail
            refine (put_any s m t _ hs' ht' hk).mono ?_
            rintro e w1 ⟨rfl, hb1⟩
            rw [HE.out]
            go_wp2_with fail
            refine wp_region_held_drew (S := fun _ => True) (by kernel_rfl) trivial (fun hHeld => ?_)
            refine wpAnyH_take (i := 0) (oi := ?p0d) (v := ?v0d) ?o0d (by kernel_rfl) (by kernel_rfl) (by kernel_rfl) ?q0d ?y0d trivial ?r0d
            case o0d => simp only [List.getElem?_toArray, List.getElem?_cons_zero]; rfl
            case q0d => exact fun _ _ _ h => h
            case y0d => (refine Or.inl ⟨rfl, ?_⟩; intro wq _; go_simp; try with_reducible rfl)
            simp only [Act.put, List.setIfInBounds_toArray, List.set_cons_zero, List.set_cons_succ]
            refine wpAnyH_take (i := 1) (oi := ?p1d) (v := ?v1d) ?o1d (by kernel_rfl) (by kernel_rfl) (by kernel_rfl) ?q1d ?y1d trivial ?r1d
            case o1d => simp only [List.getElem?_toArray, List.getElem?_cons_succ, List.getElem?_cons_zero]; rfl
            case q1d => exact fun _ _ _ h => h
            case y1d => (refine Or.inl ⟨rfl, ?_⟩; intro wq _; go_simp; try with_reducible rfl)
            simp only [Act.put, List.setIfInBounds_toArray, List.set_cons_zero, List.set_cons_succ]
            refine wpAnyH_take (i := 2) (oi := ?p2d) (v := ?v2d) ?o2d (by kernel_rfl) (by kernel_rfl) (by kernel_rfl) ?q2d ?y2d trivial ?r2d
            case o2d => simp only [List.getElem?_toArray, List.getElem?_cons_succ, List.getElem?_cons_zero]; rfl
            case q2d => exact fun _ _ _ h => h
            case y2d => (refine Or.inl ⟨rfl, ?_⟩; intro wq _; go_simp; try with_reducible rfl)
            simp only [Act.put, List.setIfInBounds_toArray, List.set_cons_zero, List.set_cons_succ]
            refine wpAnyH_take (i := 3) (oi := ?p3d) (v := ?v3d) ?o3d (by kernel_rfl) (by kernel_rfl) (by kernel_rfl) ?q3d ?y3d trivial ?r3d
            case o3d => simp only [List.getElem?_toArray, List.getElem?_cons_succ, List.getElem?_cons_zero]; rfl
            case q3d => exact fun _ _ _ h => h
            case y3d => (refine Or.inl ⟨rfl, ?_⟩; intro wq _; go_simp; try with_reducible rfl)
            simp only [Act.put, List.setIfInBounds_toArray, List.set_cons_zero, List.set_cons_succ]
            refine wpAnyH_take (i := 4) (oi := ?p4d) (v := ?v4d) ?o4d (by kernel_rfl) (by kernel_rfl) (by kernel_rfl) ?q4d ?y4d trivial ?r4d
            case o4d => simp only [List.getElem?_toArray, List.getElem?_cons_succ, List.getElem?_cons_zero]; rfl
            case q4d => exact fun _ _ _ h => h
            case y4d => (refine Or.inl ⟨rfl, ?_⟩; intro wq _; go_simp; try with_reducible rfl)
            simp only [Act.put, List.setIfInBounds_toArray, List.set_cons_zero, List.set_cons_succ]
            refine wpAnyH_take (i := 5) (oi := ?p5d) (v := ?v5d) ?o5d (by kernel_rfl) (by kernel_rfl) (by kernel_rfl) ?q5d ?y5d trivial ?r5d
            case o5d => simp only [List.getElem?_toArray, List.getElem?_cons_succ, List.getElem?_cons_zero]; rfl
            case q5d => exact fun _ _ _ h => h
            case y5d => (refine Or.inl ⟨rfl, ?_⟩; intro wq _; go_simp; try with_reducible rfl)
            simp only [Act.put, List.setIfInBounds_toArray, List.set_cons_zero, List.set_cons_succ]
            refine wpAnyH_take (i := 6) (oi := ?p6d) (v := ?v6d) ?o6d (by kernel_rfl) (by kernel_rfl) (by kernel_rfl) ?q6d ?y6d trivial ?r6d
            case o6d => simp only [List.getElem?_toArray, List.getElem?_cons_succ, List.getElem?_cons_zero]; rfl
            case q6d => exact fun _ _ _ h => h
            case y6d => (refine Or.inl ⟨rfl, ?_⟩; intro wq _; go_simp; try with_reducible rfl)
            simp only [Act.put, List.setIfInBounds_toArray, List.set_cons_zero, List.set_cons_succ]
            refine wpAnyH_take (i := 7) (oi := ?p7d) (v := ?v7d) ?o7d (by kernel_rfl) (by kernel_rfl) (by kernel_rfl) ?q7d ?y7d trivial ?r7d
            case o7d => simp only [List.getElem?_toArray, List.getElem?_cons_succ, List.getElem?_cons_zero]; rfl
            case q7d => exact fun _ _ _ h => h
            case y7d => (refine Or.inl ⟨rfl, ?_⟩; intro wq _; go_simp; try with_reducible rfl)
            simp only [Act.put, List.setIfInBounds_toArray, List.set_cons_zero, List.set_cons_succ]
            refine wpAnyH_take (i := 8) (oi := ?p8d) (v := ?v8d) ?o8d (by kernel_rfl) (by kernel_rfl) (by kernel_rfl) ?q8d ?y8d trivial ?r8d
            case o8d => simp only [List.getElem?_toArray, List.getElem?_cons_succ, List.getElem?_cons_zero]; rfl
            case q8d => exact fun _ _ _ h => h
            case y8d => (refine Or.inl ⟨rfl, ?_⟩; intro wq _; go_simp; try with_reducible rfl)
            simp only [Act.put, List.setIfInBounds_toArray, List.set_cons_zero, List.set_cons_succ]
            refine wpAnyH_take (i := 9) (oi := ?p9d) (v := ?v9d) ?o9d (by kernel_rfl) (by kernel_rfl) (by kernel_rfl) ?q9d ?y9d trivial ?r9d
            case o9d => simp only [List.getElem?_toArray, List.getElem?_cons_succ, List.getElem?_cons_zero]; rfl
            case q9d => exact fun _ _ _ h => h
            case y9d => (refine Or.inl ⟨rfl, ?_⟩; intro wq _; go_simp; try with_reducible rfl)
            simp only [Act.put, List.setIfInBounds_toArray, List.set_cons_zero, List.set_cons_succ]
            refine wpAnyH_take (i := 10) (oi := ?p10d) (v := ?v10d) ?o10d (by kernel_rfl) (by kernel_rfl) (by kernel_rfl) ?q10d ?y10d trivial ?r10d
            case o10d => simp only [List.getElem?_toArray, List.getElem?_cons_succ, List.getElem?_cons_zero]; rfl
            case q10d => exact fun _ _ _ h => h
            case y10d => (refine Or.inl ⟨rfl, ?_⟩; intro wq _; go_simp; try with_reducible rfl)
            simp only [Act.put, List.setIfInBounds_toArray, List.set_cons_zero, List.set_cons_succ]
            refine wpAnyH_take (i := 11) (oi := ?p11d) (v := ?v11d) ?o11d (by kernel_rfl) (by kernel_rfl) (by kernel_rfl) ?q11d ?y11d trivial ?r11d
            case o11d => simp only [List.getElem?_toArray, List.getElem?_cons_succ, List.getElem?_cons_zero]; rfl
            case q11d => exact fun _ _ _ h => h
            case y11d => (refine Or.inl ⟨rfl, ?_⟩; intro wq _; go_simp; try with_reducible rfl)
            simp only [Act.put, List.setIfInBounds_toArray, List.set_cons_zero, List.set_cons_succ]
            refine wpAnyH_ready (rs := [12]) (by kernel_rfl) (by simp) ?_
            refine AllReadyH.cons (o := ?p12d) ?o12d ?s12d AllReadyH.nil
            case o12d => simp only [List.getElem?_toArray, List.getElem?_cons_succ, List.getElem?_cons_zero]; rfl
            intro K hK
            go_simp
            refine zero_none.mono ?_
            rintro e w2 ⟨rfl, rfl⟩
            refine hK.out _ _ trivial (fun hHeld => ?_)
            clear hK K
            refine wpAnyH_take (i := 13) (oi := ?p13d) (v := ?v13d) ?o13d (by kernel_rfl) (by kernel_rfl) (by kernel_rfl) ?q13d ?y13d trivial ?r13d
            case o13d => simp only [List.getElem?_toArray, List.getElem?_cons_succ, List.getElem?_cons_zero]; rfl
            case q13d => exact fun _ _ _ h => h
            case y13d => (refine Or.inl ⟨rfl, ?_⟩; intro wq _; go_simp; try with_reducible rfl)
            simp only [Act.put, List.setIfInBounds_toArray, List.set_cons_zero, List.set_cons_succ]
            refine wpAnyH_take (i := 14) (oi := ?p14d) (v := ?v14d) ?o14d (by kernel_rfl) (by kernel_rfl) (by kernel_rfl) ?q14d ?y14d trivial ?r14d
            case o14d => simp only [List.getElem?_toArray, List.getElem?_cons_succ, List.getElem?_cons_zero]; rfl
            case q14d => exact fun _ _ _ h => h
            case y14d => (refine Or.inl ⟨rfl, ?_⟩; intro wq _; go_simp; try with_reducible rfl)
            simp only [Act.put, List.setIfInBounds_toArray, List.set_cons_zero, List.set_cons_succ]
            refine wpAnyH_take (i := 15) (oi := ?p15d) (v := ?v15d) ?o15d (by kernel_rfl) (by kernel_rfl) (by kernel_rfl) ?q15d ?y15d trivial ?r15d
            case o15d => simp only [List.getElem?_toArray, List.getElem?_cons_succ, List.getElem?_cons_zero]; rfl
            case q15d => exact fun _ _ _ h => h
            case y15d => (refine Or.inl ⟨rfl, ?_⟩; intro wq _; go_simp; try with_reducible rfl)
            simp only [Act.put, List.setIfInBounds_toArray, List.set_cons_zero, List.set_cons_succ]
            refine wpAnyH_take (i := 16) (oi := ?p16d) (v := ?v16d) ?o16d (by kernel_rfl) (by kernel_rfl) (by kernel_rfl) ?q16d ?y16d trivial ?r16d
            case o16d => simp only [List.getElem?_toArray, List.getElem?_cons_succ, List.getElem?_cons_zero]; rfl
            case q16d => exact fun _ _ _ h => h
            case y16d => (refine Or.inl ⟨rfl, ?_⟩; intro wq _; go_simp; try with_reducible rfl)
            simp only [Act.put, List.setIfInBounds_toArray, List.set_cons_zero, List.set_cons_succ]
            refine wpAnyH_take (i := 17) (oi := ?p17d) (v := ?v17d) ?o17d (by kernel_rfl) (by kernel_rfl) (by kernel_rfl) ?q17d ?y17d trivial ?r17d
            case o17d => simp only [List.getElem?_toArray, List.getElem?_cons_succ, List.getElem?_cons_zero]; rfl
            case q17d => exact fun _ _ _ h => h
            case y17d => (refine Or.inl ⟨rfl, ?_⟩; intro wq _; go_simp; try with_reducible rfl)
            simp only [Act.put, List.setIfInBounds_toArray, List.set_cons_zero, List.set_cons_succ]
            refine wpAnyH_take (i := 18) (oi := ?p18d) (v := ?v18d) ?o18d (by kernel_rfl) (by kernel_rfl) (by kernel_rfl) ?q18d ?y18d trivial ?r18d
            case o18d => simp only [List.getElem?_toArray, List.getElem?_cons_succ, List.getElem?_cons_zero]; rfl
            case q18d => exact fun _ _ _ h => h
            case y18d => (refine Or.inl ⟨rfl, ?_⟩; intro wq _; go_simp; try with_reducible rfl)
            simp only [Act.put, List.setIfInBounds_toArray, List.set_cons_zero, List.set_cons_succ]
            refine wpAnyH_take (i := 19) (oi := ?p19d) (v := ?v19d) ?o19d (by kernel_rfl) (by kernel_rfl) (by kernel_rfl) ?q19d ?y19d trivial ?r19d
            case o19d => simp only [List.getElem?_toArray, List.getElem?_cons_succ, List.getElem?_cons_zero]; rfl
            case q19d => exact fun _ _ _ h => h
            case y19d => (refine Or.inl ⟨rfl, ?_⟩; intro wq _; go_simp; try with_reducible rfl)
            simp only [Act.put, List.setIfInBounds_toArray, List.set_cons_zero, List.set_cons_succ]
            refine wpAnyH_take (i := 20) (oi := ?p20d) (v := undef) ?o20d (by kernel_rfl) (by kernel_rfl) (by kernel_rfl) ?q20d ?y20d trivial ?r20d
            case o20d => simp only [List.getElem?_toArray, List.getElem?_cons_succ, List.getElem?_cons_zero]; rfl
            case q20d => exact fun _ _ _ h => h
            case y20d => exact Or.inr ⟨rfl, rfl⟩
            simp only [Act.put, List.setIfInBounds_toArray, List.set_cons_zero, List.set_cons_succ]
            refine wpAnyH_take (i := 21) (oi := ?p21d) (v := undef) ?o21d (by kernel_rfl) (by kernel_rfl) (by kernel_rfl) ?q21d ?y21d trivial ?r21d
            case o21d => simp only [List.getElem?_toArray, List.getElem?_cons_succ, List.getElem?_cons_zero]; rfl
            case q21d => exact fun _ _ _ h => h
            case y21d => exact Or.inr ⟨rfl, rfl⟩
            simp only [Act.put, List.setIfInBounds_toArray, List.set_cons_zero, List.set_cons_succ]
            refine wpAnyH_take (i := 22) (oi := ?p22d) (v := undef) ?o22d (by kernel_rfl) (by kernel_rfl) (by kernel_rfl) ?q22d ?y22d trivial ?r22d
            case o22d => simp only [List.getElem?_toArray, List.getElem?_cons_succ, List.getElem?_cons_zero]; rfl
            case q22d => exact fun _ _ _ h => h
            case y22d => exact Or.inr ⟨rfl, rfl⟩
            simp only [Act.put, List.setIfInBounds_toArray, List.set_cons_zero, List.set_cons_succ]
            refine wpAnyH_take (i := 23) (oi := ?p23d) (v := undef) ?o23d (by kernel_rfl) (by kernel_rfl) (by kernel_rfl) ?q23d ?y23d trivial ?r23d
            case o23d => simp only [List.getElem?_toArray, List.getElem?_cons_succ, List.getElem?_cons_zero]; rfl
            case q23d => exact fun _ _ _ h => h
            case y23d => exact Or.inr ⟨rfl, rfl⟩
            simp only [Act.put, List.setIfInBounds_toArray, List.set_cons_zero, List.set_cons_succ]
            refine wpAnyH_take (i := 24) (oi := ?p24d) (v := undef) ?o24d (by kernel_rfl) (by kernel_rfl) (by kernel_rfl) ?q24d ?y24d trivial ?r24d
            case o24d => simp only [List.getElem?_toArray, List.getElem?_cons_succ, List.getElem?_cons_zero]; rfl
            case q24d => exact fun _ _ _ h => h
            case y24d => exact Or.inr ⟨rfl, rfl⟩
            simp only [Act.put, List.setIfInBounds_toArray, List.set_cons_zero, List.set_cons_succ]
            refine wpAnyH_take (i := 25) (oi := ?p25d) (v := undef) ?o25d (by kernel_rfl) (by kernel_rfl) (by kernel_rfl) ?q25d ?y25d trivial ?r25d
            case o25d => simp only [List.getElem?_toArray, List.getElem?_cons_succ, List.getElem?_cons_zero]; rfl
            case q25d => exact fun _ _ _ h => h
            case y25d => exact Or.inr ⟨rfl, rfl⟩
            simp only [Act.put, List.setIfInBounds_toArray, List.set_cons_zero, List.set_cons_succ]
            refine wpAnyH_take (i := 26) (oi := ?p26d) (v := undef) ?o26d (by kernel_rfl) (by kernel_rfl) (by kernel_rfl) ?q26d ?y26d trivial ?r26d
            case o26d => simp only [List.getElem?_toArray, List.getElem?_cons_succ, List.getElem?_cons_zero]; rfl
            case q26d => exact fun _ _ _ h => h
            case y26d => exact Or.inr ⟨rfl, rfl⟩
            simp only [Act.put, List.setIfInBounds_toArray, List.set_cons_zero, List.set_cons_succ]
            refine wpAnyH_take (i := 27) (oi := ?p27d) (v := ?v27d) ?o27d (by kernel_rfl) (by kernel_rfl) (by kernel_rfl) ?q27d ?y27d trivial ?r27d
            case o27d => simp only [List.getElem?_toArray, List.getElem?_cons_succ, List.getElem?_cons_zero]; rfl
            case q27d => exact fun _ _ _ h => h
            case y27d => (refine Or.inl ⟨rfl, ?_⟩; intro wq _; go_simp; try with_reducible rfl)
            simp only [Act.put, List.setIfInBounds_toArray, List.set_cons_zero, List.set_cons_succ]
            refine wpAnyH_take (i := 28) (oi := ?p28d) (v := ?v28d) ?o28d (by kernel_rfl) (by kernel_rfl) (by kernel_rfl) ?q28d ?y28d trivial ?r28d
            case o28d => simp only [List.getElem?_toArray, List.getElem?_cons_succ, List.getElem?_cons_zero]; rfl
            case q28d => exact fun _ _ _ h => h
            case y28d => (refine Or.inl ⟨rfl, ?_⟩; intro wq _; go_simp; try with_reducible rfl)
            simp only [Act.put, List.setIfInBounds_toArray, List.set_cons_zero, List.set_cons_succ]
            refine wpAnyH_take (i := 29) (oi := ?p29d) (v := ?v29d) ?o29d (by kernel_rfl) (by kernel_rfl) (by kernel_rfl) ?q29d ?y29d trivial ?r29d
            case o29d => simp only [List.getElem?_toArray, List.getElem?_cons_succ, List.getElem?_cons_zero]; rfl
            case q29d => exact fun _ _ _ h => h
            case y29d => (refine Or.inl ⟨rfl, ?_⟩; intro wq _; go_simp; try with_reducible rfl)
            simp only [Act.put, List.setIfInBounds_toArray, List.set_cons_zero, List.set_cons_succ]
            refine wpAnyH_ready (rs := [30]) (by kernel_rfl) (by simp) ?_
            refine AllReadyH.cons (o := ?p30d) ?o30d ?s30d AllReadyH.nil
            case o30d => simp only [List.getElem?_toArray, List.getElem?_cons_succ, List.getElem?_cons_zero]; rfl
            intro K hK
            go_simp
            refine (awake_any _).mono ?_
            rintro e w3 ⟨rfl, hb3⟩
            refine hK.out _ _ trivial (fun hHeld => ?_)
            clear hK K
            refine wpAnyH_take (i := 31) (oi := ?p31d) (v := ?v31d) ?o31d (by kernel_rfl) (by kernel_rfl) (by kernel_rfl) ?q31d ?y31d trivial ?r31d
            case o31d => simp only [List.getElem?_toArray, List.getElem?_cons_succ, List.getElem?_cons_zero]; rfl
            case q31d => exact fun _ _ _ h => h
            case y31d => (refine Or.inl ⟨rfl, ?_⟩; intro wq _; go_simp; try with_reducible rfl)
            simp only [Act.put, List.setIfInBounds_toArray, List.set_cons_zero, List.set_cons_succ]
            refine wpAnyH_take (i := 32) (oi := ?p32d) (v := ?v32d) ?o32d (by kernel_rfl) (by kernel_rfl) (by kernel_rfl) ?q32d ?y32d trivial ?r32d
            case o32d => simp only [List.getElem?_toArray, List.getElem?_cons_succ, List.getElem?_cons_zero]; rfl
            case q32d => exact fun _ _ _ h => h
            case y32d => (refine Or.inl ⟨rfl, ?_⟩; intro wq _; go_simp; try with_reducible rfl)
            simp only [Act.put, List.setIfInBounds_toArray, List.set_cons_zero, List.set_cons_succ]
            refine wpAnyH_done (by kernel_rfl) ?_ _
            go_wp2
            go_ret
            exact ⟨rfl, hb1.trans ((Below.drew (Below.refl _ _)).trans (hb3.mono hb1.size))⟩
          · have hq2 : ((x.size : Int) != (s.size : Int)) = false := by simp; omega
            clear hxs
            go_enter Try.func8, Try.ntmps8
            go_wp2_with fail
            refine (put_any s m t _ hs' ht' hk).mono ?_
            rintro e w1 ⟨rfl, hb1⟩
            rw [HE.out]
            go_wp2_with fail
            refine wp_region_held_drew (S := fun _ => True) (by kernel_rfl) trivial (fun hHeld => ?_)
            refine wpAnyH_take (i := 0) (oi := ?p0e) (v := ?v0e) ?o0e (by kernel_rfl) (by kernel_rfl) (by kernel_rfl) ?q0e ?y0e trivial ?r0e
            case o0e => simp only [List.getElem?_toArray, List.getElem?_cons_zero]; rfl
            case q0e => exact fun _ _ _ h => h
            case y0e => (refine Or.inl ⟨rfl, ?_⟩; intro wq _; go_simp; try with_reducible rfl)
            simp only [Act.put, List.setIfInBounds_toArray, List.set_cons_zero, List.set_cons_succ]
            refine wpAnyH_take (i := 1) (oi := ?p1e) (v := ?v1e) ?o1e (by kernel_rfl) (by kernel_rfl) (by kernel_rfl) ?q1e ?y1e trivial ?r1e
            case o1e => simp only [List.getElem?_toArray, List.getElem?_cons_succ, List.getElem?_cons_zero]; rfl
            case q1e => exact fun _ _ _ h => h
            case y1e => (refine Or.inl ⟨rfl, ?_⟩; intro wq _; go_simp; try with_reducible rfl)
            simp only [Act.put, List.setIfInBounds_toArray, List.set_cons_zero, List.set_cons_succ]
            refine wpAnyH_take (i := 2) (oi := ?p2e) (v := ?v2e) ?o2e (by kernel_rfl) (by kernel_rfl) (by kernel_rfl) ?q2e ?y2e trivial ?r2e
            case o2e => simp only [List.getElem?_toArray, List.getElem?_cons_succ, List.getElem?_cons_zero]; rfl
            case q2e => exact fun _ _ _ h => h
            case y2e => (refine Or.inl ⟨rfl, ?_⟩; intro wq _; go_simp; try with_reducible rfl)
            simp only [Act.put, List.setIfInBounds_toArray, List.set_cons_zero, List.set_cons_succ]
            refine wpAnyH_take (i := 3) (oi := ?p3e) (v := ?v3e) ?o3e (by kernel_rfl) (by kernel_rfl) (by kernel_rfl) ?q3e ?y3e trivial ?r3e
            case o3e => simp only [List.getElem?_toArray, List.getElem?_cons_succ, List.getElem?_cons_zero]; rfl
            case q3e => exact fun _ _ _ h => h
            case y3e => (refine Or.inl ⟨rfl, ?_⟩; intro wq _; go_simp; try with_reducible rfl)
            simp only [Act.put, List.setIfInBounds_toArray, List.set_cons_zero, List.set_cons_succ]
            refine wpAnyH_take (i := 4) (oi := ?p4e) (v := ?v4e) ?o4e (by kernel_rfl) (by kernel_rfl) (by kernel_rfl) ?q4e ?y4e trivial ?r4e
            case o4e => simp only [List.getElem?_toArray, List.getElem?_cons_succ, List.getElem?_cons_zero]; rfl
            case q4e => exact fun _ _ _ h => h
            case y4e => (refine Or.inl ⟨rfl, ?_⟩; intro wq _; go_simp; try with_reducible rfl)
            simp only [Act.put, List.setIfInBounds_toArray, List.set_cons_zero, List.set_cons_succ]
            refine wpAnyH_take (i := 5) (oi := ?p5e) (v := ?v5e) ?o5e (by kernel_rfl) (by kernel_rfl) (by kernel_rfl) ?q5e ?y5e trivial ?r5e
            case o5e => simp only [List.getElem?_toArray, List.getElem?_cons_succ, List.getElem?_cons_zero]; rfl
            case q5e => exact fun _ _ _ h => h
            case y5e => (refine Or.inl ⟨rfl, ?_⟩; intro wq _; go_simp; try with_reducible rfl)
            simp only [Act.put, List.setIfInBounds_toArray, List.set_cons_zero, List.set_cons_succ]
            refine wpAnyH_take (i := 6) (oi := ?p6e) (v := ?v6e) ?o6e (by kernel_rfl) (by kernel_rfl) (by kernel_rfl) ?q6e ?y6e trivial ?r6e
            case o6e => simp only [List.getElem?_toArray, List.getElem?_cons_succ, List.getElem?_cons_zero]; rfl
            case q6e => exact fun _ _ _ h => h
            case y6e => (refine Or.inl ⟨rfl, ?_⟩; intro wq _; go_simp; try with_reducible rfl)
            simp only [Act.put, List.setIfInBounds_toArray, List.set_cons_zero, List.set_cons_succ]
            refine wpAnyH_take (i := 7) (oi := ?p7e) (v := ?v7e) ?o7e (by kernel_rfl) (by kernel_rfl) (by kernel_rfl) ?q7e ?y7e trivial ?r7e
            case o7e => simp only [List.getElem?_toArray, List.getElem?_cons_succ, List.getElem?_cons_zero]; rfl
            case q7e => exact fun _ _ _ h => h
            case y7e => (refine Or.inl ⟨rfl, ?_⟩; intro wq _; go_simp; try with_reducible rfl)
            simp only [Act.put, List.setIfInBounds_toArray, List.set_cons_zero, List.set_cons_succ]
            refine wpAnyH_take (i := 8) (oi := ?p8e) (v := ?v8e) ?o8e (by kernel_rfl) (by kernel_rfl) (by kernel_rfl) ?q8e ?y8e trivial ?r8e
            case o8e => simp only [List.getElem?_toArray, List.getElem?_cons_succ, List.getElem?_cons_zero]; rfl
            case q8e => exact fun _ _ _ h => h
            case y8e => (refine Or.inl ⟨rfl, ?_⟩; intro wq _; go_simp; try with_reducible rfl)
            simp only [Act.put, List.setIfInBounds_toArray, List.set_cons_zero, List.set_cons_succ]
            refine wpAnyH_take (i := 9) (oi := ?p9e) (v := ?v9e) ?o9e (by kernel_rfl) (by kernel_rfl) (by kernel_rfl) ?q9e ?y9e trivial ?r9e
            case o9e => simp only [List.getElem?_toArray, List.getElem?_cons_succ, List.getElem?_cons_zero]; rfl
            case q9e => exact fun _ _ _ h => h
            case y9e => (refine Or.inl ⟨rfl, ?_⟩; intro wq _; go_simp; try with_reducible rfl)
            simp only [Act.put, List.setIfInBounds_toArray, List.set_cons_zero, List.set_cons_succ]
            refine wpAnyH_take (i := 10) (oi := ?p10e) (v := ?v10e) ?o10e (by kernel_rfl) (by kernel_rfl) (by kernel_rfl) ?q10e ?y10e trivial ?r10e
            case o10e => simp only [List.getElem?_toArray, List.getElem?_cons_succ, List.getElem?_cons_zero]; rfl
            case q10e => exact fun _ _ _ h => h
            case y10e => (refine Or.inl ⟨rfl, ?_⟩; intro wq _; go_simp; try with_reducible rfl)
            simp only [Act.put, List.setIfInBounds_toArray, List.set_cons_zero, List.set_cons_succ]
            refine wpAnyH_take (i := 11) (oi := ?p11e) (v := ?v11e) ?o11e (by kernel_rfl) (by kernel_rfl) (by kernel_rfl) ?q11e ?y11e trivial ?r11e
            case o11e => simp only [List.getElem?_toArray, List.getElem?_cons_succ, List.getElem?_cons_zero]; rfl
            case q11e => exact fun _ _ _ h => h
            case y11e => (refine Or.inl ⟨rfl, ?_⟩; intro wq _; go_simp; try with_reducible rfl)
            simp only [Act.put, List.setIfInBounds_toArray, List.set_cons_zero, List.set_cons_succ]
            refine wpAnyH_ready (rs := [12]) (by kernel_rfl) (by simp) ?_
            refine AllReadyH.cons (o := ?p12e) ?o12e ?s12e AllReadyH.nil
            case o12e => simp only [List.getElem?_toArray, List.getElem?_cons_succ, List.getElem?_cons_zero]; rfl
            intro K hK
            go_simp
            refine zero_none.mono ?_
            rintro e w2 ⟨rfl, rfl⟩
            refine hK.out _ _ trivial (fun hHeld => ?_)
            clear hK K
            refine wpAnyH_take (i := 13) (oi := ?p13e) (v := ?v13e) ?o13e (by kernel_rfl) (by kernel_rfl) (by kernel_rfl) ?q13e ?y13e trivial ?r13e
            case o13e => simp only [List.getElem?_toArray, List.getElem?_cons_succ, List.getElem?_cons_zero]; rfl
            case q13e => exact fun _ _ _ h => h
            case y13e => (refine Or.inl ⟨rfl, ?_⟩; intro wq _; go_simp; try with_reducible rfl)
            simp only [Act.put, List.setIfInBounds_toArray, List.set_cons_zero, List.set_cons_succ]
            refine wpAnyH_take (i := 14) (oi := ?p14e) (v := ?v14e) ?o14e (by kernel_rfl) (by kernel_rfl) (by kernel_rfl) ?q14e ?y14e trivial ?r14e
            case o14e => simp only [List.getElem?_toArray, List.getElem?_cons_succ, List.getElem?_cons_zero]; rfl
            case q14e => exact fun _ _ _ h => h
            case y14e => (refine Or.inl ⟨rfl, ?_⟩; intro wq _; go_simp; try with_reducible rfl)
            simp only [Act.put, List.setIfInBounds_toArray, List.set_cons_zero, List.set_cons_succ]
            refine wpAnyH_take (i := 15) (oi := ?p15e) (v := ?v15e) ?o15e (by kernel_rfl) (by kernel_rfl) (by kernel_rfl) ?q15e ?y15e trivial ?r15e
            case o15e => simp only [List.getElem?_toArray, List.getElem?_cons_succ, List.getElem?_cons_zero]; rfl
            case q15e => exact fun _ _ _ h => h
            case y15e => (refine Or.inl ⟨rfl, ?_⟩; intro wq _; go_simp; try with_reducible rfl)
            simp only [Act.put, List.setIfInBounds_toArray, List.set_cons_zero, List.set_cons_succ]
            refine wpAnyH_take (i := 16) (oi := ?p16e) (v := ?v16e) ?o16e (by kernel_rfl) (by kernel_rfl) (by kernel_rfl) ?q16e ?y16e trivial ?r16e
            case o16e => simp only [List.getElem?_toArray, List.getElem?_cons_succ, List.getElem?_cons_zero]; rfl
            case q16e => exact fun _ _ _ h => h
            case y16e => (refine Or.inl ⟨rfl, ?_⟩; intro wq _; go_simp; try with_reducible rfl)
            simp only [Act.put, List.setIfInBounds_toArray, List.set_cons_zero, List.set_cons_succ]
            refine wpAnyH_take (i := 17) (oi := ?p17e) (v := ?v17e) ?o17e (by kernel_rfl) (by kernel_rfl) (by kernel_rfl) ?q17e ?y17e trivial ?r17e
            case o17e => simp only [List.getElem?_toArray, List.getElem?_cons_succ, List.getElem?_cons_zero]; rfl
            case q17e => exact fun _ _ _ h => h
            case y17e => (refine Or.inl ⟨rfl, ?_⟩; intro wq _; go_simp; try with_reducible rfl)
            simp only [Act.put, List.setIfInBounds_toArray, List.set_cons_zero, List.set_cons_succ]
            refine wpAnyH_take (i := 18) (oi := ?p18e) (v := ?v18e) ?o18e (by kernel_rfl) (by kernel_rfl) (by kernel_rfl) ?q18e ?y18e trivial ?r18e
            case o18e => simp only [List.getElem?_toArray, List.getElem?_cons_succ, List.getElem?_cons_zero]; rfl
            case q18e => exact fun _ _ _ h => h
            case y18e => (refine Or.inl ⟨rfl, ?_⟩; intro wq _; go_simp; try with_reducible rfl)
            simp only [Act.put, List.setIfInBounds_toArray, List.set_cons_zero, List.set_cons_succ]
            refine wpAnyH_take (i := 19) (oi := ?p19e) (v := ?v19e) ?o19e (by kernel_rfl) (by kernel_rfl) (by kernel_rfl) ?q19e ?y19e trivial ?r19e
            case o19e => simp only [List.getElem?_toArray, List.getElem?_cons_succ, List.getElem?_cons_zero]; rfl
            case q19e => exact fun _ _ _ h => h
            case y19e => (refine Or.inl ⟨rfl, ?_⟩; intro wq _; go_simp; try with_reducible rfl)
            simp only [Act.put, List.setIfInBounds_toArray, List.set_cons_zero, List.set_cons_succ]
            refine wpAnyH_take (i := 20) (oi := ?p20e) (v := undef) ?o20e (by kernel_rfl) (by kernel_rfl) (by kernel_rfl) ?q20e ?y20e trivial ?r20e
            case o20e => simp only [List.getElem?_toArray, List.getElem?_cons_succ, List.getElem?_cons_zero]; rfl
            case q20e => exact fun _ _ _ h => h
            case y20e => exact Or.inr ⟨rfl, rfl⟩
            simp only [Act.put, List.setIfInBounds_toArray, List.set_cons_zero, List.set_cons_succ]
            refine wpAnyH_take (i := 21) (oi := ?p21e) (v := undef) ?o21e (by kernel_rfl) (by kernel_rfl) (by kernel_rfl) ?q21e ?y21e trivial ?r21e
            case o21e => simp only [List.getElem?_toArray, List.getElem?_cons_succ, List.getElem?_cons_zero]; rfl
            case q21e => exact fun _ _ _ h => h
            case y21e => exact Or.inr ⟨rfl, rfl⟩
            simp only [Act.put, List.setIfInBounds_toArray, List.set_cons_zero, List.set_cons_succ]
            refine wpAnyH_take (i := 22) (oi := ?p22e) (v := undef) ?o22e (by kernel_rfl) (by kernel_rfl) (by kernel_rfl) ?q22e ?y22e trivial ?r22e
            case o22e => simp only [List.getElem?_toArray, List.getElem?_cons_succ, List.getElem?_cons_zero]; rfl
            case q22e => exact fun _ _ _ h => h
            case y22e => exact Or.inr ⟨rfl, rfl⟩
            simp only [Act.put, List.setIfInBounds_toArray, List.set_cons_zero, List.set_cons_succ]
            refine wpAnyH_take (i := 23) (oi := ?p23e) (v := undef) ?o23e (by kernel_rfl) (by kernel_rfl) (by kernel_rfl) ?q23e ?y23e trivial ?r23e
            case o23e => simp only [List.getElem?_toArray, List.getElem?_cons_succ, List.getElem?_cons_zero]; rfl
            case q23e => exact fun _ _ _ h => h
            case y23e => exact Or.inr ⟨rfl, rfl⟩
            simp only [Act.put, List.setIfInBounds_toArray, List.set_cons_zero, List.set_cons_succ]
            refine wpAnyH_take (i := 24) (oi := ?p24e) (v := undef) ?o24e (by kernel_rfl) (by kernel_rfl) (by kernel_rfl) ?q24e ?y24e trivial ?r24e
            case o24e => simp only [List.getElem?_toArray, List.getElem?_cons_succ, List.getElem?_cons_zero]; rfl
            case q24e => exact fun _ _ _ h => h
            case y24e => exact Or.inr ⟨rfl, rfl⟩
            simp only [Act.put, List.setIfInBounds_toArray, List.set_cons_zero, List.set_cons_succ]
            refine wpAnyH_take (i := 25) (oi := ?p25e) (v := undef) ?o25e (by kernel_rfl) (by kernel_rfl) (by kernel_rfl) ?q25e ?y25e trivial ?r25e
            case o25e => simp only [List.getElem?_toArray, List.getElem?_cons_succ, List.getElem?_cons_zero]; rfl
            case q25e => exact fun _ _ _ h => h
            case y25e => exact Or.inr ⟨rfl, rfl⟩
            simp only [Act.put, List.setIfInBounds_toArray, List.set_cons_zero, List.set_cons_succ]
            refine wpAnyH_take (i := 26) (oi := ?p26e) (v := undef) ?o26e (by kernel_rfl) (by kernel_rfl) (by kernel_rfl) ?q26e ?y26e trivial ?r26e
            case o26e => simp only [List.getElem?_toArray, List.getElem?_cons_succ, List.getElem?_cons_zero]; rfl
            case q26e => exact fun _ _ _ h => h
            case y26e => exact Or.inr ⟨rfl, rfl⟩
            simp only [Act.put, List.setIfInBounds_toArray, List.set_cons_zero, List.set_cons_succ]
            refine wpAnyH_take (i := 27) (oi := ?p27e) (v := ?v27e) ?o27e (by kernel_rfl) (by kernel_rfl) (by kernel_rfl) ?q27e ?y27e trivial ?r27e
            case o27e => simp only [List.getElem?_toArray, List.getElem?_cons_succ, List.getElem?_cons_zero]; rfl
            case q27e => exact fun _ _ _ h => h
            case y27e => (refine Or.inl ⟨rfl, ?_⟩; intro wq _; go_simp; try with_reducible rfl)
            simp only [Act.put, List.setIfInBounds_toArray, List.set_cons_zero, List.set_cons_succ]
            refine wpAnyH_take (i := 28) (oi := ?p28e) (v := ?v28e) ?o28e (by kernel_rfl) (by kernel_rfl) (by kernel_rfl) ?q28e ?y28e trivial ?r28e
            case o28e => simp only [List.getElem?_toArray, List.getElem?_cons_succ, List.getElem?_cons_zero]; rfl
            case q28e => exact fun _ _ _ h => h
            case y28e => (refine Or.inl ⟨rfl, ?_⟩; intro wq _; go_simp; try with_reducible rfl)
            simp only [Act.put, List.setIfInBounds_toArray, List.set_cons_zero, List.set_cons_succ]
            refine wpAnyH_take (i := 29) (oi := ?p29e) (v := ?v29e) ?o29e (by kernel_rfl) (by kernel_rfl) (by kernel_rfl) ?q29e ?y29e trivial ?r29e
            case o29e => simp only [List.getElem?_toArray, List.getElem?_cons_succ, List.getElem?_cons_zero]; rfl
            case q29e => exact fun _ _ _ h => h
            case y29e => (refine Or.inl ⟨rfl, ?_⟩; intro wq _; go_simp; try with_reducible rfl)
            simp only [Act.put, List.setIfInBounds_toArray, List.set_cons_zero, List.set_cons_succ]
            refine wpAnyH_ready (rs := [30]) (by kernel_rfl) (by simp) ?_
            refine AllReadyH.cons (o := ?p30e) ?o30e ?s30e AllReadyH.nil
            case o30e => simp only [List.getElem?_toArray, List.getElem?_cons_succ, List.getElem?_cons_zero]; rfl
            intro K hK
            go_simp
            refine (awake_any _).mono ?_
            rintro e w3 ⟨rfl, hb3⟩
            refine hK.out _ _ trivial (fun hHeld => ?_)
            clear hK K
            refine wpAnyH_take (i := 31) (oi := ?p31e) (v := ?v31e) ?o31e (by kernel_rfl) (by kernel_rfl) (by kernel_rfl) ?q31e ?y31e trivial ?r31e
            case o31e => simp only [List.getElem?_toArray, List.getElem?_cons_succ, List.getElem?_cons_zero]; rfl
            case q31e => exact fun _ _ _ h => h
            case y31e => (refine Or.inl ⟨rfl, ?_⟩; intro wq _; go_simp; try with_reducible rfl)
            simp only [Act.put, List.setIfInBounds_toArray, List.set_cons_zero, List.set_cons_succ]
            refine wpAnyH_take (i := 32) (oi := ?p32e) (v := ?v32e) ?o32e (by kernel_rfl) (by kernel_rfl) (by kernel_rfl) ?q32e ?y32e trivial ?r32e
            case o32e => simp only [List.getElem?_toArray, List.getElem?_cons_succ, List.getElem?_cons_zero]; rfl
            case q32e => exact fun _ _ _ h => h
            case y32e => (refine Or.inl ⟨rfl, ?_⟩; intro wq _; go_simp; try with_reducible rfl)
            simp only [Act.put, List.setIfInBounds_toArray, List.set_cons_zero, List.set_cons_succ]
            refine wpAnyH_done (by kernel_rfl) ?_ _
            go_wp2
            go_ret
            exact ⟨rfl, hb1.trans ((Below.drew (Below.refl _ _)).trans (hb3.mono hb1.size))⟩

set_option maxRecDepth 100000 in
theorem read_lifted (os : Os) (started : os.Started) (H : Type) (enc : TypeId × Value → H) :
    ReturnsInHanded {} Try.checked os 8 .any (Rows.bytesReadSpec.pre6 enc Try.prog Try.f8 Rows.bytesReadRow.domain false) (Rows.bytesReadSpec.post enc Try.prog Try.f8 false true false false) := by
  refine returnsInHanded_of_change (C := Try.checked) own started (by kernel_rfl) Try.func8
    (ChangeSpec.witness6 (enc := enc) (C := Try.checked) false ⟨#[], #[.string ByteArray.empty, .int .i64 0, .string ByteArray.empty], []⟩ 8 (by kernel_rfl) (by kernel_rfl) (by kernel_rfl) (by kernel_rfl)) ?_
  intro W base args ds gs before hval0 hW hcnd _
  have hval : ∀ (j : Nat) t v, Try.f8.params[j]? = some t → args[j]? = some v → Value.okWide Try.prog W .any base t v := hval0
  have hW' := hW
  obtain ⟨p, q, hA0, hV, rfl, hfz, hnd⟩ := hW
  have hA : DataW.TrodAll enc Try.prog W 0 (fun _ => true) true Try.f8.params.toList args.toList ds p := hA0
  rw [Try.params8] at hA hval
  obtain ⟨v0, vs0, d0, ds0, p0, q0, hargs, rfl, rfl, h0, r0⟩ := trodAll_cons hA
  obtain ⟨v1, vs1, d1, ds1, p1, q1, rfl, rfl, rfl, h1, r1⟩ := trodAll_cons r0
  obtain ⟨v2, vs2, d2, ds2, p2, q2, rfl, rfl, rfl, h2, r2⟩ := trodAll_cons r1
  obtain ⟨rfl, rfl, rfl⟩ := trodAll_nil r2
  obtain rfl : args = #[v0, v1, v2] := by cases args; simp_all
  obtain ⟨rfl, rfl⟩ := trodVars_none hV
  obtain ⟨a0, rfl, rfl, rfl, w0⟩ := open_string Try.underlying9 (hval 0 9 v0 rfl rfl) h0
  obtain ⟨a1, rfl, rfl, rfl, w1⟩ := open_int Try.underlying3 (hval 1 3 v1 rfl rfl) h1
  obtain ⟨a2, rfl, rfl, rfl, w2⟩ := open_string Try.underlying9 (hval 2 9 v2 rfl rfl) h2
  clear hA0 hval0
  refine (read_walk a0 a1 a2 W w0 w2 (wf_i64 w1)).mono fun e W' ⟨he, bel⟩ => ?_
  subst he
  exact ⟨_, rfl, _, _, _, [], [], [], hW', trodAll_mk1 (shut_bool Try.underlying4 _), (trodAll_cons_mk (shut_string Try.underlying9 w0) (trodAll_cons_mk (shut_int Try.underlying3 w1) (trodAll_cons_mk (shut_string Try.underlying9 w2) trodAll_mk0))), rfl, bel.frame _, fun h => by cases h⟩

theorem read_holds : Rows.BytesReadSaid :=
  OpenClaim.holds_of_wide 8 Try.f8 rfl rfl rfl rfl rfl rfl rfl ⟨rfl, rfl, rfl, rfl, rfl⟩ rfl rfl rfl rfl rfl (by kernel_rfl) Try.func8 (by kernel_rfl)
    (of_decide_eq_true (by kernel_rfl)) (by unfold Func.isWrapper; first | (rw [if_pos (by decide +kernel)]; kernel_rfl) | (rw [if_neg (by decide +kernel)]; exact ⟨rfl, rfl⟩))
    (fun os started H enc _ => read_lifted os started H enc)
#print axioms read_holds

end Go.Proofs.Ytnflpmaeekgmjaa
