/-
  The document's sum of many texts equals the program's; two lists of texts that are equal are told equal. For every input; nothing that was there is written.
-/
import Derived.Test.YtnflpmaeekgmjaaE
namespace Go.Proofs.Ytnflpmaeekgmjaa
open Go.RowKit
set_option linter.unusedVariables false

def foldXor (l : List ByteArray) (r : List UInt8) : List UInt8 := l.foldl (fun r s => xorL r s.data.toList) r
def byteOf (l : List ByteArray) (i : Nat) (c : UInt8) : UInt8 := l.foldl (fun c s => c ^^^ s.data.toList.getD i 0) c

theorem foldXor_getD (l : List ByteArray) (i : Nat) : ∀ r, (foldXor l r).getD i 0 = byteOf l i (r.getD i 0) := by
  induction l with
  | nil => intro r; rfl
  | cons s l ih =>
    intro r
    show (foldXor l (xorL r s.data.toList)).getD i 0 = byteOf l i (r.getD i 0 ^^^ s.data.toList.getD i 0)
    rw [ih, xorL_getD]
theorem foldXor_length (l : List ByteArray) : ∀ r, (foldXor l r).length = l.foldl (fun m s => max m s.size) r.length := by
  induction l with
  | nil => intro r; rfl
  | cons s l ih =>
    intro r
    show (foldXor l (xorL r s.data.toList)).length = l.foldl (fun m s => max m s.size) (max r.length s.size)
    rw [ih, xorL_length, len_data]
theorem foldMix_getD (l : List ByteArray) (i : Nat) : ∀ r, i < r.length → (l.foldl (fun r s => M.mix r s.data.toList) r).getD i 0 = byteOf l i (r.getD i 0) := by
  induction l with
  | nil => intro r _; rfl
  | cons s l ih =>
    intro r h
    rw [List.foldl_cons, ih _ (by rw [M.mix_length]; exact h), M.mix_getD r _ i h]
    rfl

theorem ext_getD (a b : List UInt8) (h : a.length = b.length) (hg : ∀ i, i < a.length → a.getD i 0 = b.getD i 0) : a = b := by
  apply List.ext_getElem h
  intro i h1 h2
  have := hg i h1
  simpa [h1, h2] using this

theorem sumL_getD (l : List ByteArray) (i : Nat) (h : i < longest l) : (sumL l).getD i 0 = byteOf l i 0 := by
  rw [sumL, foldMix_getD l i _ (by simpa using h)]
  simp [h]

theorem sumL_eq (l : List ByteArray) : sumL l = foldXor l [] := by
  apply ext_getD
  · rw [sumL_length, foldXor_length]; rfl
  · intro i hi
    rw [sumL_length] at hi
    rw [sumL_getD l i hi, foldXor_getD]
    rfl

theorem foldXor_snoc (l : List ByteArray) (k : Nat) (h : k < l.length) : foldXor (l.take (k + 1)) [] = xorL (foldXor (l.take k) []) l[k].data.toList := by
  rw [M.take_snoc l k h]
  unfold foldXor
  rw [List.foldl_append]
  rfl

set_option maxHeartbeats 400000 in
theorem refSum_any (a : Option Addr) (len cap : Nat) (l : List ByteArray) (w : World) (hlen : len = l.length) (hl : l.length ≤ 281474976710656) (hc : Texts w a l) (hs : ∀ s ∈ l, s.size ≤ 140737488351232) :
    Calls Try.prog 13 #[.slice a len cap] w fun e w' => e = .returned (.string (ofL (sumL l))) ∧ Below w.heap.size w w' := by
  subst hlen
  have HE : Hid (sumL l = foldXor l []) := sumL_eq l
  go_enter Try.func13, Try.ntmps13
  go_wp2
  go_loopw [3, 4] (fun s i wr => ∃ k : Nat, k ≤ l.length ∧ i = .int .i64 k ∧ s = .string (ofL (foldXor (l.take k) [])) ∧ Below w.heap.size w wr) (fun _ i _ => l.length - (intOf i).toNat)
  case atStart => exact ⟨0, Nat.zero_le _, rfl, rfl, Below.refl _ _⟩
  case round =>
    obtain ⟨k, hk, rfl, rfl, hbel⟩ := hrel
    by_cases hlt : k < l.length
    · obtain ⟨b, off, rfl, hc1⟩ := (hc.keep hbel) k hlt
      have hx1 : l[k].size ≤ 140737488351232 := hs _ (List.getElem_mem hlt)
      have hx2 : (ofL (foldXor (l.take k) [])).size ≤ 140737488351232 := by
        rw [ofL_size, foldXor_length]
        exact longest_le (l.take k) _ (fun s h => hs s (List.mem_of_mem_take h))
      have HR : Hid (foldXor (l.take (k + 1)) [] = xorL (foldXor (l.take k) []) l[k].data.toList) := foldXor_snoc l k hlt
      generalize foldXor (l.take k) [] = r at *
      generalize hx : l[k] = x at *
      clear hx hs hc
      go_wp2_with fail
      refine (refXor_any (ofL r) x _ hx2 hx1).mono ?_
      rintro e w2 ⟨rfl, hb2⟩
      rw [ofL_data] at *
      rw [← HR.out]
      go_wp2
      go_roundw
      case rel => exact ⟨k + 1, by omega, by go_num, rfl, hbel.trans (hb2.mono hbel.size)⟩
      case measure => simp [intOf]; omega
    · rw [List.take_of_length_le (by omega), ← HE.out]
      go_wp2
      go_ret
      exact ⟨rfl, hbel⟩

set_option maxHeartbeats 400000 in
theorem texts_any (a1 a2 : Option Addr) (len1 len2 cap1 cap2 : Nat) (l : List ByteArray) (w : World) (h1 : len1 = l.length) (h2 : len2 = l.length) (hl : l.length ≤ 281474976710656) (hc1 : Texts w a1 l) (hc2 : Texts w a2 l) :
    Calls Try.prog 22 #[.slice a1 len1 cap1, .slice a2 len2 cap2] w fun e w' => e = .returned (.bool true) ∧ Below w.heap.size w w' := by
  subst h1
  have h2' : ((l.length : Int) != (len2 : Int)) = false := by simp [h2]
  subst h2
  go_enter Try.func22, Try.ntmps22
  go_wp2
  go_loopw [5] (fun i wr => ∃ k : Nat, k ≤ l.length ∧ i = .int .i64 k ∧ Below w.heap.size w wr) (fun i _ => l.length - (intOf i).toNat)
  case atStart => exact ⟨0, Nat.zero_le _, rfl, Below.refl _ _⟩
  case round =>
    obtain ⟨k, hk, rfl, hbel⟩ := hrel
    by_cases hlt : k < l.length
    · obtain ⟨b, off, rfl, hd1⟩ := (hc1.keep hbel) k hlt
      obtain ⟨b2, off2, rfl, hd2⟩ := (hc2.keep hbel) k hlt
      generalize hx : l[k] = x at *
      clear hx hc1 hc2
      go_wp2
      go_quiet (fail)
      go_wp2
      go_roundw
      case rel => exact ⟨k + 1, by omega, by go_num, below_drewN hbel _⟩
      case measure => simp [intOf]; omega
    · go_wp2
      go_ret
      exact ⟨rfl, hbel⟩

end Go.Proofs.Ytnflpmaeekgmjaa
