/-
  Proved: for any list of texts and every number the law BytesLost of the program returns true, and both arguments read as they did.
-/
import Derived.Test.YtnflpmaeekgmjaaL
import Derived.Deep.RegionHeld3
namespace Go.Proofs.Ytnflpmaeekgmjaa
open Go.ChangeShapes Go.WideShapes Go.ChangeAt Go.RowKit
open Go.ChangeMaps (open_string shut_string)
set_option linter.unusedVariables false

theorem place (k : Int) (len : Nat) (h : 0 < len) : ∃ i : Nat, i < len ∧ (IntKind.u64.wrap k).tmod (len : Int) = (i : Int) := by
  have h0 : 0 ≤ IntKind.u64.wrap k := wrap_u64_nonneg k
  refine ⟨((IntKind.u64.wrap k).tmod (len : Int)).toNat, ?_, ?_⟩
  · have := Int.tmod_lt_of_pos (IntKind.u64.wrap k) (show (0 : Int) < (len : Int) by omega)
    have := Int.tmod_nonneg (len : Int) h0
    omega
  · have := Int.tmod_nonneg (len : Int) h0
    omega

/-- The texts of a slice that came in, from a place on, as the append's law asks for them. -/
theorem texts_news {w : World} {b off : Nat} {l : List ByteArray} (hc : Texts w (some ⟨b, off, none⟩) l) (from_ n : Nat) (hn : from_ + n ≤ l.length) (j : Nat) (u : Value) (h : (((l.drop from_).take n).map Value.string)[j]? = some u) :
    w.cell? ((⟨b, off + from_, none⟩ : Addr).add j) = some u := by
  have hj : j < n := by
    have := (List.getElem?_eq_some_iff.1 h).1
    rw [List.length_map, List.length_take] at this
    omega
  obtain ⟨b', off', he, hcell⟩ := hc (from_ + j) (by omega)
  simp only [Option.some.injEq, Addr.mk.injEq, and_true] at he
  obtain ⟨rfl, rfl⟩ := he
  rw [show ((⟨b, off + from_, none⟩ : Addr).add j) = ⟨b, off + (from_ + j), none⟩ by unfold Addr.add; split <;> simp_all <;> omega, hcell, ← h]
  have h2 : ((l.drop from_).take n)[j]? = some l[from_ + j] := by
    rw [List.getElem?_take, if_pos hj, List.getElem?_drop, List.getElem?_eq_getElem (by omega)]
  rw [List.getElem?_map, h2]
  rfl

theorem byteOf_start (l : List ByteArray) (j : Nat) : ∀ c, byteOf l j c = c ^^^ byteOf l j 0 := by
  induction l with
  | nil => intro c; exact UInt8.xor_zero.symm
  | cons s l ih =>
    intro c
    show byteOf l j (c ^^^ s.data.toList.getD j 0) = c ^^^ byteOf l j (0 ^^^ s.data.toList.getD j 0)
    rw [ih, ih (0 ^^^ s.data.toList.getD j 0), UInt8.zero_xor, UInt8.xor_assoc]
theorem byteOf_append (a b : List ByteArray) (j : Nat) : byteOf (a ++ b) j 0 = byteOf a j 0 ^^^ byteOf b j 0 := by
  show (a ++ b).foldl _ _ = _
  rw [List.foldl_append]
  exact byteOf_start b j _
theorem byteOf_one (s : ByteArray) (j : Nat) : byteOf [s] j 0 = s.data.toList.getD j 0 := UInt8.zero_xor
theorem split_at (l : List ByteArray) (i : Nat) (h : i < l.length) : l = l.take i ++ ([l[i]] ++ l.drop (i + 1)) := by
  have := List.take_append_drop i l
  rw [List.drop_eq_getElem_cons h] at this
  exact this.symm
theorem xor_left (a x b : UInt8) : a ^^^ b ^^^ (a ^^^ (x ^^^ b)) = x := by
  rw [UInt8.xor_comm x b, ← UInt8.xor_assoc a b x, ← UInt8.xor_assoc, UInt8.xor_self, UInt8.zero_xor]
theorem longest_rest (l : List ByteArray) (i : Nat) : longest (l.take i ++ l.drop (i + 1) ++ [ofL (sumL l)]) = longest l := by
  have h1 : longest (l.take i ++ l.drop (i + 1) ++ [ofL (sumL l)]) ≤ longest l := by
    refine longest_le _ _ fun s hs => ?_
    rcases List.mem_append.1 hs with h | h
    · rcases List.mem_append.1 h with h | h
      · exact le_longest l s (List.mem_of_mem_take h)
      · exact le_longest l s (List.mem_of_mem_drop h)
    · rw [List.mem_singleton.1 h, ofL_size, sumL_length]
      exact Nat.le_refl _
  have h2 := le_longest (l.take i ++ l.drop (i + 1) ++ [ofL (sumL l)]) (ofL (sumL l)) (by simp)
  rw [ofL_size, sumL_length] at h2
  omega

/-- Of texts and their sum, one is the sum of the others. -/
theorem lost_sum (l : List ByteArray) (i : Nat) (hi : i < l.length) : sumL (l.take i ++ l.drop (i + 1) ++ [ofL (sumL l)]) = pad l[i].data.toList (longest l) := by
  have hle : l[i].data.toList.length ≤ longest l := by rw [len_data]; exact le_longest l _ (List.getElem_mem hi)
  apply ext_getD
  · rw [sumL_length, longest_rest, pad_length _ _ hle]
  · intro j hj
    rw [sumL_length, longest_rest] at hj
    rw [sumL_getD _ _ (by rw [longest_rest]; exact hj), byteOf_append, byteOf_append, byteOf_one, ofL_data, sumL_getD l j hj]
    have hsp : byteOf l j 0 = byteOf (l.take i) j 0 ^^^ (l[i].data.toList.getD j 0 ^^^ byteOf (l.drop (i + 1)) j 0) := by
      conv => lhs; rw [split_at l i hi]
      rw [byteOf_append, byteOf_append, byteOf_one]
    rw [hsp, xor_left]
    by_cases h : j < l[i].data.toList.length
    · simp only [pad, List.getD_eq_getElem?_getD]
      rw [List.getElem?_append_left h]
    · simp only [pad, List.getD_eq_getElem?_getD]
      rw [List.getElem?_append_right (by omega), List.getElem?_eq_none (by omega), List.getElem?_replicate]
      split <;> rfl

theorem padded_front (a : ByteArray) (n : Nat) : (ofL (pad a.data.toList n)).extract 0 a.size = a := by
  apply ByteArray.ext
  simp [ofL, pad, ByteArray.data_extract]
theorem padded_back (a : ByteArray) (n : Nat) (h : a.size ≤ n) : M.zero ((ofL (pad a.data.toList n)).extract a.size (ofL (pad a.data.toList n)).size).data.toList = true := by
  rw [extract_list _ _ _ (Nat.le_refl _), ofL_data, List.take_of_length_le (by rw [List.length_drop, ofL_size]; exact Nat.le_refl _)]
  unfold pad
  rw [List.drop_left' (len_data a)]
  simp [M.zero]

theorem texts_owned {w : World} {base n : Nat} {v : Value} {l : List ByteArray} (h : w.ownsRow base 9 1 v n (l.map Value.string)) (hl : l.length = n) (h0 : 0 < n) : ∃ g cap, v = .slice (some ⟨g, 0, none⟩) n cap ∧ Texts w (some ⟨g, 0, none⟩) l := by
  rcases h.2 with ⟨rfl, h1⟩ | ⟨g, cap, cur, rfl, hb', hh, hc, hm, hs, ht⟩
  · omega
  · refine ⟨g, cap, rfl, fun j hj => ⟨g, 0, rfl, ?_⟩⟩
    rw [Nat.zero_add]
    have := h.cells (g := g) rfl j (.string l[j]) (by simp [hj])
    rwa [show ((⟨g, 0, none⟩ : Addr).add j) = ⟨g, j, none⟩ by unfold Addr.add; split <;> simp_all] at this

/-- Where the texts behind a place stand, whether or not there are any. -/
theorem rest_at (b off q len cap : Nat) (l : List ByteArray) (hl : len = l.length) (hc : len ≤ cap) (hq : q ≤ len) :
    ∃ ad : Addr, (if cap = q then some (⟨b, off, none⟩ : Addr) else some ⟨b, off + q, none⟩) = some ad ∧
      Hid (∀ w, Texts w (some ⟨b, off, none⟩) l → ∀ j u, (((l.drop q).take (len - q)).map Value.string)[j]? = some u → w.cell? (ad.add j) = some u) := by
  by_cases h : cap = q
  · refine ⟨_, if_pos h, fun w hw j u hu => ?_⟩
    have : j < (((l.drop q).take (len - q)).map Value.string).length := (List.getElem?_eq_some_iff.1 hu).1
    rw [List.length_map, List.length_take] at this
    omega
  · exact ⟨_, if_neg h, fun w hw j u hu => texts_news hw q (len - q) (by omega) j u hu⟩

theorem oneCell_texts (l : List ByteArray) : ∀ u ∈ l.map Value.string, u.oneCell' = true := by
  intro u hu
  obtain ⟨s, _, rfl⟩ := List.mem_map.1 hu
  rfl

set_option maxHeartbeats 2000000 in
theorem lost_walk (d : Option Addr) (len cap : Nat) (l : List ByteArray) (k : Int) (w : World) (hm : len ≤ 9223372036854775807) (hlc : len ≤ cap) (hlen : len = l.length) (hc : Texts w d l) (hs : ∀ s ∈ l, s.size ≤ 140737488351232) (hk : -9223372036854775808 ≤ k ∧ k ≤ 9223372036854775807) :
    Calls Try.prog 7 #[.slice d len cap, .int .i64 k] w fun e w' => e = .returned (.bool true) ∧ Below w.heap.size w w' := by
  have h0 : ((len : Int) == 0) = true ∨ ((len : Int) == 0) = false ∧ (40 : Int) < (len : Int) ∨ ((len : Int) == 0) = false ∧ ¬ (40 : Int) < (len : Int) := by
    simp only [beq_iff_eq, beq_eq_false_iff_ne]
    omega
  rcases h0 with he | ⟨he, hg⟩ | ⟨he, hg⟩
  · clear hlen
    go_enter Try.func7, Try.ntmps7
    go_wp2_with fail
    refine (awake_any _).mono ?_
    rintro e w1 ⟨rfl, hb⟩
    go_wp2
    go_ret
    exact ⟨rfl, hb⟩
  · clear hlen
    go_enter Try.func7, Try.ntmps7
    go_wp2_with fail
    refine (awake_any _).mono ?_
    rintro e w1 ⟨rfl, hb⟩
    go_wp2
    go_ret
    exact ⟨rfl, hb⟩
  · have HL : Hid (len = l.length) := hlen
    have hpos : 0 < len := by
      have : ¬ (len : Int) = 0 := by simpa using he
      omega
    clear hlen
    obtain ⟨i, hi, hieq⟩ : ∃ i : Nat, i < len ∧ (IntKind.u64.wrap k).tmod (len : Int) = (i : Int) := place k len hpos
    obtain ⟨b, off, rfl, hci⟩ := hc i (by rw [← HL.out]; exact hi)
    have h40 : len ≤ 40 := by omega
    have hi1 : i ≤ cap := by omega
    have hi2 : i + 1 ≤ len := by omega
    have hi3 : i + 1 ≤ cap := by omega
    obtain ⟨q, hq⟩ : ∃ q : Nat, q = i + 1 := ⟨_, rfl⟩
    have hw1 : IntKind.i64.wrap ((i : Int) + 1) = (q : Int) := by rw [IntKind.wrap_i64]; omega
    have hq1 : q ≤ len := by omega
    have HQ : Hid (q = i + 1) := hq
    clear hq
    obtain ⟨ad, had, HAD⟩ := rest_at b off q len cap l HL.out hlc hq1
    obtain ⟨i0, hi0, hz0, hz1, hz2⟩ := info_parts Try.info9
    go_enter Try.func7, Try.ntmps7
    go_wp2_with fail
    refine wp_region_held_drew (S := fun _ => True) (by kernel_rfl) trivial (fun hHeld => ?_)
    refine wpAnyH_take (i := 0) (oi := ?p0) (v := ?v0) ?o0 (by kernel_rfl) (by kernel_rfl) (by kernel_rfl) ?q0 ?y0 trivial ?r0
    case o0 => simp only [List.getElem?_toArray, List.getElem?_cons_zero]; rfl
    case q0 => exact fun _ _ _ h => h
    case y0 => (refine Or.inl ⟨rfl, ?_⟩; intro wq _; go_simp; try with_reducible rfl)
    simp only [Act.put, List.setIfInBounds_toArray, List.set_cons_zero, List.set_cons_succ]
    refine wpAnyH_take (i := 1) (oi := ?p1) (v := ?v1) ?o1 (by kernel_rfl) (by kernel_rfl) (by kernel_rfl) ?q1 ?y1 trivial ?r1
    case o1 => simp only [List.getElem?_toArray, List.getElem?_cons_succ, List.getElem?_cons_zero]; rfl
    case q1 => exact fun _ _ _ h => h
    case y1 => (refine Or.inl ⟨rfl, ?_⟩; intro wq _; go_simp; try with_reducible rfl)
    simp only [Act.put, List.setIfInBounds_toArray, List.set_cons_zero, List.set_cons_succ]
    refine wpAnyH_take (i := 2) (oi := ?p2) (v := ?v2) ?o2 (by kernel_rfl) (by kernel_rfl) (by kernel_rfl) ?q2 ?y2 trivial ?r2
    case o2 => simp only [List.getElem?_toArray, List.getElem?_cons_succ, List.getElem?_cons_zero]; rfl
    case q2 => exact fun _ _ _ h => h
    case y2 => (refine Or.inl ⟨rfl, ?_⟩; intro wq _; go_simp; try with_reducible rfl)
    simp only [Act.put, List.setIfInBounds_toArray, List.set_cons_zero, List.set_cons_succ]
    refine wpAnyH_take (i := 4) (oi := ?p4) (v := ?v4) ?o4 (by kernel_rfl) (by kernel_rfl) (by kernel_rfl) ?q4 ?y4 trivial ?r4
    case o4 => simp only [List.getElem?_toArray, List.getElem?_cons_succ, List.getElem?_cons_zero]; rfl
    case q4 => exact fun _ _ _ h => h
    case y4 => (refine Or.inl ⟨rfl, ?_⟩; intro wq _; go_simp; try with_reducible rfl)
    simp only [Act.put, List.setIfInBounds_toArray, List.set_cons_zero, List.set_cons_succ]
    refine wpAnyH_take (i := 5) (oi := ?p5) (v := ?v5) ?o5 (by kernel_rfl) (by kernel_rfl) (by kernel_rfl) ?q5 ?y5 trivial ?r5
    case o5 => simp only [List.getElem?_toArray, List.getElem?_cons_succ, List.getElem?_cons_zero]; rfl
    case q5 => exact fun _ _ _ h => h
    case y5 => (refine Or.inl ⟨rfl, ?_⟩; intro wq _; go_simp; try with_reducible rfl)
    simp only [Act.put, List.setIfInBounds_toArray, List.set_cons_zero, List.set_cons_succ]
    refine wpAnyH_take (i := 6) (oi := ?p6) (v := ?v6) ?o6 (by kernel_rfl) (by kernel_rfl) (by kernel_rfl) ?q6 ?y6 trivial ?r6
    case o6 => simp only [List.getElem?_toArray, List.getElem?_cons_succ, List.getElem?_cons_zero]; rfl
    case q6 => exact fun _ _ _ h => h
    case y6 => (refine Or.inl ⟨rfl, ?_⟩; intro wq _; go_simp; try with_reducible rfl)
    simp only [Act.put, List.setIfInBounds_toArray, List.set_cons_zero, List.set_cons_succ]
    refine wpAnyH_take (i := 7) (oi := ?p7) (v := ?v7) ?o7 (by kernel_rfl) (by kernel_rfl) (by kernel_rfl) ?q7 ?y7 trivial ?r7
    case o7 => simp only [List.getElem?_toArray, List.getElem?_cons_succ, List.getElem?_cons_zero]; rfl
    case q7 => exact fun _ _ _ h => h
    case y7 => (refine Or.inl ⟨rfl, ?_⟩; intro wq _; go_simp; try with_reducible rfl)
    simp only [Act.put, List.setIfInBounds_toArray, List.set_cons_zero, List.set_cons_succ]
    refine wpAnyH_ready (rs := [3]) (by kernel_rfl) (by simp) ?_
    refine AllReadyH.cons (o := ?p3) ?o3 ?s3 AllReadyH.nil
    case o3 => simp only [List.getElem?_toArray, List.getElem?_cons_succ, List.getElem?_cons_zero]; rfl
    intro K hK
    rw [if_pos (by rfl)]
    refine wp_append_own _ (.const (.slice none 0 0)) (.tmp 26) 22 rfl w.heap.size 9 i0 (.string ByteArray.empty) 1 16 Try.underlying22 hi0 hz0 hz1 hz2 rfl (by decide) _ 0 [] rfl (World.ownsRow_nil _ _ _ _) ⟨b, off, none⟩ i cap (((l.drop 0).take i).map Value.string) rfl (by rw [List.length_map, List.length_take, List.length_drop, ← HL.out]; omega) (texts_news (w := w.drew) hc 0 i (by rw [← HL.out]; omega)) (oneCell_texts _) (by unfold maxLen; omega) (by omega) (Nat.le_refl _) ?_
    intro v1 w1 ho1 hg1 hn1
    refine hK.out _ _ trivial (fun hHeld => ?_)
    clear hK K
    simp only [Act.put, List.setIfInBounds_toArray, List.set_cons_zero, List.set_cons_succ]
    have hb1 : Below w.heap.size w w1 := ((Below.refl _ _).drew).grown hg1 (Nat.le_refl _) (by intro j hj; cases hj)
    have hc1 := hc.keep hb1
    refine wpAnyH_ready (rs := [8]) (by kernel_rfl) (by simp) ?_
    refine AllReadyH.cons (o := ?p8) ?o8 ?s8 AllReadyH.nil
    case o8 => simp only [List.getElem?_toArray, List.getElem?_cons_succ, List.getElem?_cons_zero]; rfl
    intro K hK
    rw [if_pos (by rfl)]
    refine wp_append_own _ (.tmp 27) (.tmp 31) 22 rfl w.heap.size 9 i0 (.string ByteArray.empty) 1 16 Try.underlying22 hi0 hz0 hz1 hz2 rfl (by decide) v1 (0 + i) _ rfl ho1 ad (len - q) (cap - q) (((l.drop q).take (len - q)).map Value.string) rfl (by rw [List.length_map, List.length_take, List.length_drop, ← HL.out]; omega) (HAD.out w1 hc1) (oneCell_texts _) (by unfold maxLen; omega) (by omega) hb1.size ?_
    intro v2 w2 ho2 hg2 hn2
    refine hK.out _ _ trivial (fun hHeld => ?_)
    clear hK K
    simp only [Act.put, List.setIfInBounds_toArray, List.set_cons_zero, List.set_cons_succ]
    refine wpAnyH_take (i := 9) (oi := ?p9) (v := ?v9) ?o9 (by kernel_rfl) (by kernel_rfl) (by kernel_rfl) ?q9 ?y9 trivial ?r9
    case o9 => simp only [List.getElem?_toArray, List.getElem?_cons_succ, List.getElem?_cons_zero]; rfl
    case q9 => exact fun _ _ _ h => h
    case y9 => (refine Or.inl ⟨rfl, ?_⟩; intro wq _; go_simp; try with_reducible rfl)
    simp only [Act.put, List.setIfInBounds_toArray, List.set_cons_zero, List.set_cons_succ]
    refine wpAnyH_done (by kernel_rfl) ?_ _
    have hb2 : Below w.heap.size w w2 := hb1.grown hg2 hb1.size (fun j hj => (ho1.lt j hj).1)
    have hc2 := hc.keep hb2
    rw [List.nil_append, ← List.map_append, List.drop_zero, List.take_of_length_le (l := l.drop q) (by rw [List.length_drop, ← HL.out]; exact Nat.le_refl _)] at ho2
    have hll : l.length ≤ 281474976710656 := by rw [← HL.out]; omega
    have hr : 0 + i + (len - q) = len - 1 := by rw [HQ.out]; omega
    rw [hr] at ho2
    clear ho1 hg1 hg2 hn1 hn2 hb1 hc1 had HAD hw1 hq1 hr hieq
    go_wp2_with fail
    refine (sum_any (some ⟨b, off, none⟩) len cap l _ HL.out hll hc2 hs).mono ?_
    rintro e w3 ⟨rfl, hb3⟩
    have ho3 := owns_below ho2 hb3
    have B3 := hb2.trans (hb3.mono hb2.size)
    have hz3 : w.heap.size ≤ w3.heap.size := B3.size
    clear ho2
    go_wp2_with (at_builtin; refine wpList_append_own _ rfl _ _ 22 rfl w.heap.size 9 i0 (.string ByteArray.empty) 1 16 Try.underlying22 hi0 hz0 hz1 hz2 rfl (by decide) _ _ _ rfl (ho3.alloc _) ⟨w3.heap.size, 0, none⟩ 1 1 [.string (ofL (sumL l))] rfl rfl (cell_one_new _ _ _) (by simp; rfl) (by unfold maxLen; omega) (by omega) (by simp; omega) ?_; intro v4 w4 ho4 hg4 hn4)
    have B4 := (B3.alloc hz3 _).grown hg4 (by simp; omega) (fun j hj => (ho3.lt j hj).1)
    have hgi : i < l.length := by rw [← HL.out]; exact hi
    rw [HQ.out, show [Value.string (ofL (sumL l))] = [ofL (sumL l)].map Value.string from rfl, ← List.map_append] at ho4
    obtain ⟨g4, cap4, rfl, hc4⟩ := texts_owned ho4 (by have := HL.out; simp; omega) (by omega)
    have hx := lost_sum l i hgi
    have hs4 : ∀ s ∈ l.take i ++ l.drop (i + 1) ++ [ofL (sumL l)], s.size ≤ 140737488351232 := by
      intro s hm
      exact Nat.le_trans (le_longest _ s hm) (by rw [longest_rest]; exact longest_le l _ hs)
    have hl4 : (l.take i ++ l.drop (i + 1) ++ [ofL (sumL l)]).length = len := by
      have := ho4.1
      rw [List.length_map] at this
      omega
    have hxs : l[i].size ≤ longest l := le_longest l _ (List.getElem_mem hgi)
    have hnl := longest_le l _ hs
    have hci4 : w4.cell? ⟨b, off + i, none⟩ = some (.string l[i]) := by
      obtain ⟨b', off', he', hcell⟩ := (hc.keep B4) i hgi
      simp only [Option.some.injEq, Addr.mk.injEq, and_true] at he'
      obtain ⟨rfl, rfl⟩ := he'
      exact hcell
    generalize l.take i ++ l.drop (i + 1) ++ [ofL (sumL l)] = L4 at *
    generalize l[i] = xi at *
    generalize longest l = n at *
    have HX : Hid (sumL L4 = pad xi.data.toList n) := hx
    have HL4 : Hid (L4.length = len) := hl4
    clear hx hl4 hci ho4 ho3 hg4 hn4 hb2 hb3 hc2 B3 hc hs HL HQ hi0 hz0 hz1 hz2
    go_wp2_with fail
    refine (sum_any (some ⟨g4, 0, none⟩) _ cap4 L4 _ (by rw [HL4.out]; omega) (by rw [HL4.out]; omega) hc4 hs4).mono ?_
    rintro e w5 ⟨rfl, hb5⟩
    rw [HX.out]
    have hci5 : w5.cell? ⟨b, off + i, none⟩ = some (.string xi) := cell_later hb5 hci4
    have B5 := B4.trans (hb5.mono B4.size)
    have hfr : ((ofL (pad xi.data.toList n)).extract 0 xi.size).toList == xi.toList := by rw [padded_front]; simp
    have HB : Hid (M.zero ((ofL (pad xi.data.toList n)).extract xi.size (ofL (pad xi.data.toList n)).size).data.toList = true) := padded_back xi n hxs
    have hsx : (ofL (pad xi.data.toList n)).size = n := by rw [ofL_size, pad_length _ _ (by rw [len_data]; exact hxs)]
    generalize ofL (pad xi.data.toList n) = x at *
    have hsx1 : xi.size ≤ x.size := by omega
    have hsx2 : x.size ≤ 140737488351232 := by omega
    have hzs : (x.extract xi.size x.size).size ≤ maxLen := by rw [ByteArray.size_extract]; unfold maxLen; omega
    have hge : decide ((xi.size : Int) ≤ (x.size : Int)) = true := by simp; omega
    have hge' : decide (xi.size ≤ x.size) = true := by simp; omega
    clear hsx hc4 hs4 hci4 hb5 B4
    go_wp2_with fail
    go_region_held3 (fun wq => wq.cell? ⟨b, off + i, none⟩ = some (.string xi)) (first | assumption | simpa using hci5) (first | (go_at_call 16; refine (zero_any _ _ hzs).mono ?_; rintro e w6 ⟨rfl, rfl⟩; rw [HB.out]) | (go_at_call 9; refine (awake_any _).mono ?_; rintro e w7 ⟨rfl, hb7⟩; have hci7 : w7.cell? ⟨b, off + i, none⟩ = some (.string xi) := cell_later hb7 (by simpa using hci5)))
    go_wp2
    go_ret
    exact ⟨rfl, B5.trans ((Below.drew (Below.refl _ _)).trans (hb7.mono B5.size))⟩

set_option maxRecDepth 100000 in
theorem lost_lifted (os : Os) (started : os.Started) (H : Type) (enc : TypeId × Value → H) :
    ReturnsInHanded {} Try.checked os 7 .any (Rows.bytesLostSpec.pre6 enc Try.prog Try.f7 Rows.bytesLostRow.domain false) (Rows.bytesLostSpec.post enc Try.prog Try.f7 false true false false) := by
  refine returnsInHanded_of_change_sized (C := Try.checked) own started (by kernel_rfl) Try.func7
    (ChangeSpec.witness6 (enc := enc) (C := Try.checked) false ⟨#[], #[.slice none 0 0, .int .i64 0], []⟩ 8 (by kernel_rfl) (by kernel_rfl) (by kernel_rfl) (by kernel_rfl)) ?_
  intro W base args ds gs before hval0 hW hcnd hsz0 _
  have hval : ∀ (j : Nat) t v, Try.f7.params[j]? = some t → args[j]? = some v → Value.okWide Try.prog W .any base t v := hval0
  have hsz : (DataW.weightsEach Try.prog (Try.f7.params.toList ++ Rows.bytesLostSpec.plain.varTypes Try.prog) (ds ++ gs)).all (· ≤ reachBytes) = true := hsz0
  have hW' := hW
  obtain ⟨p, q, hA0, hV, rfl, hfz, hnd⟩ := hW
  have hA : DataW.TrodAll enc Try.prog W 0 (fun _ => true) true Try.f7.params.toList args.toList ds p := hA0
  rw [Try.params7] at hA hval hsz
  obtain ⟨v0, vs0, d0, ds0, p0, q0, hargs, rfl, rfl, h0, r0⟩ := trodAll_cons hA
  obtain ⟨v1, vs1, d1, ds1, p1, q1, rfl, rfl, rfl, h1, r1⟩ := trodAll_cons r0
  obtain ⟨rfl, rfl, rfl⟩ := trodAll_nil r1
  obtain rfl : args = #[v0, v1] := by cases args; simp_all
  obtain ⟨rfl, rfl⟩ := trodVars_none hV
  obtain ⟨a0, len0, cap0, rfl⟩ := okWide_slice Try.underlying22 (hval 0 22 v0 rfl rfl)
  have k0 := h0
  have lt0 : ∀ x ∈ p0, x.block < W.heap.size := by obtain ⟨m, hm⟩ := k0; exact DataW.trod_lt m _ _ _ hm
  obtain ⟨a1, rfl, rfl, rfl, w1⟩ := open_int Try.underlying3 (hval 1 3 v1 rfl rfl) h1
  obtain ⟨l, hlen, hm, hlc, htx, hsl⟩ : ∃ l : List ByteArray, len0 = l.length ∧ len0 ≤ 9223372036854775807 ∧ len0 ≤ cap0 ∧ Texts W a0 l ∧ ∀ s ∈ l, s.size ≤ 140737488351232 := by
    obtain ⟨fuel, hf⟩ := h0
    rcases open_strings Try.underlying22 Try.underlying9 Try.cells9 hf with ⟨hcs, _⟩ | ⟨x, ln, c, ss, hcs, _, hl, hm, hz, hx, hcell, hws⟩
    · simp [Value.cells] at hcs
      obtain ⟨rfl, rfl, rfl⟩ := hcs
      exact ⟨[], rfl, by omega, Nat.le_refl _, fun j h => by simp at h, fun s h => by cases h⟩
    · simp [Value.cells] at hcs
      obtain ⟨rfl, rfl, rfl⟩ := hcs
      simp only [Prod.mk.injEq] at hx
      obtain ⟨rfl, rfl⟩ := hx
      refine ⟨ss.take len0, ?_, ?_, hl, texts_came hcell, fun s h => sized_texts hsz (j := 0) rfl rfl s h⟩
      · rw [List.length_take, hz]; simp; omega
      · unfold maxLen at hm; omega
  clear hA0 hval0
  refine (lost_walk a0 len0 cap0 l a1 W hm hlc hlen htx hsl (wf_i64 w1)).mono fun e W' ⟨he, bel⟩ => ?_
  subst he
  exact ⟨_, rfl, _, _, _, [], _, [], hW', trodAll_mk1 (shut_bool Try.underlying4 _), (trodAll_cons_mk (Below.trod laidOut (by kernel_rfl) (of_decide_eq_true (by kernel_rfl)) k0 bel lt0) (trodAll_cons_mk (shut_int Try.underlying3 w1) trodAll_mk0)), rfl, bel.frame _, fun h => by cases h⟩

theorem lost_holds : Rows.BytesLostSaid :=
  OpenClaim.holds_of_wide 7 Try.f7 rfl rfl rfl rfl rfl rfl rfl ⟨rfl, rfl, rfl, rfl, rfl⟩ rfl rfl rfl rfl rfl (by kernel_rfl) Try.func7 (by kernel_rfl)
    (of_decide_eq_true (by kernel_rfl)) (by unfold Func.isWrapper; first | (rw [if_pos (by decide +kernel)]; kernel_rfl) | (rw [if_neg (by decide +kernel)]; exact ⟨rfl, rfl⟩))
    (fun os started H enc _ => lost_lifted os started H enc)
#print axioms lost_holds

end Go.Proofs.Ytnflpmaeekgmjaa
