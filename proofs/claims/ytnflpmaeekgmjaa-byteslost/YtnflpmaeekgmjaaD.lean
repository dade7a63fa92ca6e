/-
  The document's answer for padding (the reference), and the xor of two texts.
-/
import Derived.Test.YtnflpmaeekgmjaaC
namespace Go.Proofs.Ytnflpmaeekgmjaa
open Go.RowKit
set_option linter.unusedVariables false

set_option maxHeartbeats 400000 in
theorem refPad_any (s : ByteArray) (n : Int) (w : World) (hs : s.size ≤ maxLen) (hn : -9223372036854775808 ≤ n ∧ n ≤ 9223372036854775807) :
    Calls Try.prog 19 #[.string s, .int .i64 n] w fun e w' => e = .returned (.tuple #[.string (padOut s n).1, .int .i64 (padOut s n).2]) ∧ Below w.heap.size w w' := by
  unfold maxLen at hs
  by_cases h1 : n < 0
  · have e : padOut s n = (ByteArray.empty, 1) := by simp [padOut, h1]
    rw [e]
    have hd : decide (n < 0) = true := by simpa using h1
    go_enter Try.func19, Try.ntmps19
    go_wp2
    go_ret2
    exact ⟨rfl, Below.refl _ _⟩
  · by_cases h2 : n > 65536
    · have e : padOut s n = (ByteArray.empty, 1) := by simp [padOut, h2]
      rw [e]
      have hd : decide (n < 0) = false := by simpa using h1
      go_enter Try.func19, Try.ntmps19
      go_wp2
      go_ret2
      exact ⟨rfl, Below.refl _ _⟩
    · by_cases h3 : (s.size : Int) > n
      · have e : padOut s n = (ByteArray.empty, 2) := by simp [padOut, h1, h2, h3]
        rw [e]
        go_enter Try.func19, Try.ntmps19
        go_wp2
        go_ret2
        exact ⟨rfl, Below.refl _ _⟩
      · have e : padOut s n = (ofL (pad s.data.toList n.toNat), 0) := by simp [padOut, h1, h2, h3]
        rw [e]
        obtain ⟨m, rfl⟩ := Int.eq_ofNat_of_zero_le (show 0 ≤ n by omega)
        clear e
        obtain ⟨j, hj⟩ : ∃ j : Nat, (m : Int) - (s.size : Int) = (j : Int) := ⟨m - s.size, by omega⟩
        go_enter Try.func19, Try.ntmps19
        go_wp2_with fail
        refine (zeros_any j _ (by omega)).mono ?_
        rintro e w1 ⟨rfl, hb⟩
        have hadd := run_string_add_sum (P := Try.prog) w1 s (ofL (List.replicate j 0)) (by rw [ofL_size, List.length_replicate]; omega)
        have HE : Hid (s ++ ofL (List.replicate j 0) = ofL (pad s.data.toList m)) := by
          show _ = _
          rw [pad, len_data, show m - s.size = j by omega]
          apply ByteArray.ext
          simp [ofL, ByteArray.data_append]
        clear hj
        go_wp2
        go_ret2
        rw [HE.out]
        exact ⟨rfl, hb⟩


/-- The greatest length. -/
def longest (l : List ByteArray) : Nat := l.foldl (fun m s => max m s.size) 0

theorem longest_snoc (l : List ByteArray) (k : Nat) (h : k < l.length) : longest (l.take (k + 1)) = max (longest (l.take k)) l[k].size := by
  rw [M.take_snoc l k h]
  unfold longest
  rw [List.foldl_append]
  rfl

theorem foldl_max_le (l : List ByteArray) (B : Nat) : ∀ m, m ≤ B → (∀ s ∈ l, s.size ≤ B) → l.foldl (fun m s => max m s.size) m ≤ B := by
  induction l with
  | nil => intro m hm _; exact hm
  | cons s l ih =>
    intro m hm h
    exact ih _ (Nat.max_le.2 ⟨hm, h s (by simp)⟩) (fun t ht => h t (by simp [ht]))
theorem longest_le (l : List ByteArray) (B : Nat) (h : ∀ s ∈ l, s.size ≤ B) : longest l ≤ B := foldl_max_le l B 0 (Nat.zero_le _) h
theorem foldl_max_ge (l : List ByteArray) : ∀ m, m ≤ l.foldl (fun m s => max m s.size) m ∧ ∀ s ∈ l, s.size ≤ l.foldl (fun m s => max m s.size) m := by
  induction l with
  | nil => intro m; exact ⟨Nat.le_refl _, fun s h => by cases h⟩
  | cons s l ih =>
    intro m
    refine ⟨Nat.le_trans (Nat.le_max_left _ _) (ih _).1, fun t ht => ?_⟩
    rcases List.mem_cons.1 ht with rfl | h
    · exact Nat.le_trans (Nat.le_max_right _ _) (ih _).1
    · exact (ih _).2 t h
theorem le_longest (l : List ByteArray) (s : ByteArray) (h : s ∈ l) : s.size ≤ longest l := (foldl_max_ge l 0).2 s h

/-- A row of texts in memory: the address leads to the texts l (where there is one). -/
def Texts (w : World) (a : Option Addr) (l : List ByteArray) : Prop :=
  ∀ j (h : j < l.length), ∃ b off, a = some ⟨b, off, none⟩ ∧ w.cell? ⟨b, off + j, none⟩ = some (.string l[j])
theorem Texts.keep {w w' : World} {a : Option Addr} {l : List ByteArray} (h : Texts w a l) (hb : Below w.heap.size w w') : Texts w' a l := by
  intro j hj
  obtain ⟨b, off, rfl, hc⟩ := h j hj
  exact ⟨b, off, rfl, (hb.cell (p := ⟨b, off + j, none⟩) (World.block_lt_of_cell? w _ hc)).trans hc⟩

set_option maxHeartbeats 400000 in
theorem longest_any (a : Option Addr) (len cap : Nat) (l : List ByteArray) (w : World) (hlen : len = l.length) (hl : l.length ≤ 281474976710656) (hc : Texts w a l) (hs : ∀ s ∈ l, s.size ≤ maxLen) :
    Calls Try.prog 25 #[.slice a len cap] w fun e w' => e = .returned (.int .i64 (longest l : Nat)) ∧ w' = w := by
  subst hlen
  go_enter Try.func25, Try.ntmps25
  go_wp2
  go_loop [3, 8] (fun m i => ∃ k : Nat, k ≤ l.length ∧ i = .int .i64 k ∧ m = .int .i64 (longest (l.take k) : Nat)) (fun _ i => l.length - (intOf i).toNat)
  case atStart => exact ⟨0, Nat.zero_le _, rfl, rfl⟩
  case round =>
    obtain ⟨k, hk, rfl, rfl⟩ := hrel
    by_cases hlt : k < l.length
    · obtain ⟨b, off, rfl, hc1⟩ := hc k hlt
      have hsz := hs l[k] (List.getElem_mem hlt)
      unfold maxLen at hsz
      have HL : Hid (longest (l.take (k + 1)) = max (longest (l.take k)) l[k].size) := longest_snoc l k hlt
      generalize longest (l.take k) = m at *
      generalize hx : l[k] = x at *
      clear hx hc hs
      by_cases hm : m < x.size
      · go_wp2
        go_round
        case rel => exact ⟨k + 1, by omega, by go_num, by rw [HL.out, Nat.max_eq_right (by omega)]⟩
        case measure => simp [intOf]; omega
      · go_wp2
        go_round
        case rel => exact ⟨k + 1, by omega, by go_num, by rw [HL.out, Nat.max_eq_left (by omega)]⟩
        case measure => simp [intOf]; omega
    · go_wp2
      go_ret
      rw [List.take_of_length_le (by omega)]
      exact ⟨rfl, rfl⟩

/-- The xor of all, from a row of so many bytes 0 on. -/
def sumL (l : List ByteArray) : List UInt8 := l.foldl (fun r s => M.mix r s.data.toList) (List.replicate (longest l) 0)
theorem foldl_mix_length (l : List ByteArray) : ∀ r, (l.foldl (fun r s => M.mix r s.data.toList) r).length = r.length := by
  induction l with
  | nil => intro r; rfl
  | cons s l ih => intro r; rw [List.foldl_cons, ih, M.mix_length]
theorem sumL_length (l : List ByteArray) : (sumL l).length = longest l := by rw [sumL, foldl_mix_length, List.length_replicate]

set_option maxHeartbeats 400000 in
theorem sum_any (a : Option Addr) (len cap : Nat) (l : List ByteArray) (w : World) (hlen : len = l.length) (hl : l.length ≤ 281474976710656) (hc : Texts w a l) (hs : ∀ s ∈ l, s.size ≤ 140737488351232) :
    Calls Try.prog 12 #[.slice a len cap] w fun e w' => e = .returned (.string (ofL (sumL l))) ∧ Below w.heap.size w w' := by
  subst hlen
  obtain ⟨i0, hi, hz0, hz1, hz2⟩ := info_parts Try.info5
  have hle := longest_le l 140737488351232 hs
  go_enter Try.func12, Try.ntmps12
  go_wp2_with fail
  refine (longest_any a l.length cap l _ rfl hl hc (fun s h => by have := hs s h; unfold maxLen; omega)).mono ?_
  rintro e w0 ⟨rfl, rfl⟩
  generalize hn : longest l = n at *
  have HN : Hid (longest l = n) := hn
  clear hn
  go_wp2_with (at_make; refine wpList_make_full _ rfl (.tmp 7) (.tmp 7) 46 rfl w0.heap.size 5 i0 (.int .u8 0) 1 Try.underlying46 hi hz0 hz1 .i64 .i64 _ _ n rfl rfl rfl rfl (by rw [hz2]; omega) (by unfold maxLen; omega) (Nat.le_refl _) ?_; intro w1 ho hg; rw [made_cells] at ho; have hrow := row_of_owns (by simp) ho; clear ho)
  clear hi hz0 hz1 hz2
  have hb1 := (Below.refl w0.heap.size w0).grown hg (Nat.le_refl _) (by simp)
  go_loopw [11] (fun i wr => ∃ k : Nat, k ≤ l.length ∧ i = .int .i64 k ∧ Row wr w0.heap.size ((l.take k).foldl (fun r s => M.mix r s.data.toList) (List.replicate n 0)) ∧ Below w0.heap.size w0 wr ∧ w0.heap.size < wr.heap.size) (fun i _ => l.length - (intOf i).toNat)
  case atStart => exact ⟨0, Nat.zero_le _, rfl, hrow, hb1, by rcases Nat.lt_or_ge w0.heap.size w1.heap.size with h | h; exact h; rw [Row, Array.getElem?_eq_none h] at hrow; cases hrow⟩
  case round =>
    obtain ⟨k, hk, rfl, hrow', hbel, hsz⟩ := hrel
    clear hrow hb1 hg
    by_cases hlt : k < l.length
    · obtain ⟨b, off, rfl, hc1⟩ := (hc.keep hbel) k hlt
      have hlx : l[k].size ≤ n := by rw [← HN.out]; exact le_longest l l[k] (List.getElem_mem hlt)
      have HR : Hid ((l.take (k + 1)).foldl (fun r s => M.mix r s.data.toList) (List.replicate n 0) = M.mix ((l.take k).foldl (fun r s => M.mix r s.data.toList) (List.replicate n 0)) l[k].data.toList) := by
        show _ = _
        rw [M.take_snoc l k hlt, List.foldl_append]
        rfl
      have hrl : ((l.take k).foldl (fun r s => M.mix r s.data.toList) (List.replicate n 0)).length = n := by rw [foldl_mix_length, List.length_replicate]
      generalize ((l.take k).foldl (fun r s => M.mix r s.data.toList) (List.replicate n 0)) = r at *
      generalize hx : l[k] = x at *
      have HRL : Hid (r.length = n) := hrl
      clear hx hs hc hrl
      go_wp2_with fail
      refine (mix_any w0.heap.size n n r x _ hrow' hlx (by rw [HRL.out]; exact hlx) (by omega)).mono ?_
      rintro e w2 ⟨rfl, hrow2, hg2⟩
      go_wp2
      go_roundw
      case rel => exact ⟨k + 1, by omega, by go_num, by rw [HR.out]; exact hrow2, hbel.grown hg2 (by omega) (by simp), by have := hg2.size; omega⟩
      case measure => simp [intOf]; omega
    · rw [List.take_of_length_le (by omega)] at hrow'
      have HS : Hid (l.foldl (fun r s => M.mix r s.data.toList) (List.replicate n 0) = sumL l) := by
        show _ = _
        rw [sumL, HN.out]
      rw [HS.out] at hrow'
      have hcv := hrow'.convert n n (by rw [sumL_length]; exact HN.out.symm)
      clear HS
      go_wp2
      go_ret
      exact ⟨rfl, hbel⟩

end Go.Proofs.Ytnflpmaeekgmjaa
