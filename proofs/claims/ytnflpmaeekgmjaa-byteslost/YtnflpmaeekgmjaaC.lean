/-
  Padding: the calls that make a text of a given length with bytes 0 behind return what the plain functions say, for every input, and write nothing that was there.
-/
import Derived.Test.YtnflpmaeekgmjaaB
namespace Go.Proofs.Ytnflpmaeekgmjaa
open Go.RowKit
set_option linter.unusedVariables false

def ofL (l : List UInt8) : ByteArray := ⟨l.toArray⟩
theorem ofL_data (l : List UInt8) : (ofL l).data.toList = l := by simp [ofL]
theorem ofL_size (l : List UInt8) : (ofL l).size = l.length := by simp [ofL, ByteArray.size]
theorem ofL_of (s : ByteArray) : ofL s.data.toList = s := by simp [ofL]

theorem Try.info5 : (Try.prog.info? 5).map (fun i => (i.zero, i.size, i.bytes)) = some (some (.int .u8 0), 1, 1) := by kernel_rfl
theorem Try.info9 : (Try.prog.info? 9).map (fun i => (i.zero, i.size, i.bytes)) = some (some (.string ByteArray.empty), 1, 16) := by kernel_rfl

theorem made_cells (n : Nat) : (madeCells (Value.int .u8 0).cells (n * 1)).toList = (cellsOf (List.replicate n 0)).toList := by
  rw [Nat.mul_one]
  show (madeCells #[Value.int .u8 0] n).toList = _
  rw [toList_madeCells_one]
  simp [cellsOf]

theorem row_of_owns {w : World} {base g n : Nat} {l : List UInt8} (hl : l.length = n) (h : w.ownsRow base 5 1 (.slice (some ⟨g, 0, none⟩) n n) n (cellsOf l).toList) : Row w g l := by
  rcases h.2 with ⟨h', _⟩ | ⟨g', cap, cur, h', _, hh, _, _, hs, ht⟩
  · cases h'
  · simp only [Value.slice.injEq, Option.some.injEq, Addr.mk.injEq, and_true, true_and] at h'
    obtain ⟨rfl, rfl⟩ := h'
    rw [Nat.mul_one] at hs ht
    rw [List.take_of_length_le (by simp [hs])] at ht
    unfold Row
    rw [hh, Array.toList_inj.1 ht]

theorem Row.convert {w : World} {g : Nat} {l : List UInt8} (h : Row w g l) (n cap : Nat) (hn : n = l.length) : (Go.convert 46 9 (.slice (some ⟨g, 0, none⟩) n cap)).run Try.prog w = .ok (.string (ofL l)) w := by
  subst hn
  refine run_convert_bytes_back w 46 9 5 ⟨g, 0, none⟩ cap l Try.underlying46 Try.underlying5 Try.underlying9 fun j hj => ?_
  rw [show ((⟨g, 0, none⟩ : Addr).add j) = ⟨g, j, none⟩ by unfold Addr.add; split <;> simp_all]
  exact h.cell j hj

def pad (l : List UInt8) (n : Nat) : List UInt8 := l ++ List.replicate (n - l.length) 0
theorem over_pad (l : List UInt8) (n : Nat) (h : l.length ≤ n) : M.over (List.replicate n 0) 0 l = pad l n := by
  simp [M.over, pad]

set_option maxHeartbeats 400000 in
theorem zeros_any (n : Nat) (w : World) (h : n ≤ 281474976710656) :
    Calls Try.prog 28 #[.int .i64 n] w fun e w' => e = .returned (.string (ofL (List.replicate n 0))) ∧ Below w.heap.size w w' := by
  obtain ⟨i0, hi, hz0, hz1, hz2⟩ := info_parts Try.info5
  go_enter Try.func28, Try.ntmps28
  go_wp2_with (at_make; refine wpList_make_full _ rfl (.tmp 3) (.tmp 3) 46 rfl w.heap.size 5 i0 (.int .u8 0) 1 Try.underlying46 hi hz0 hz1 .i64 .i64 _ _ n rfl rfl rfl rfl (by rw [hz2]; omega) (by unfold maxLen; omega) (Nat.le_refl _) ?_; intro w1 ho hg; rw [made_cells] at ho; have hcv := (row_of_owns (by simp) ho).convert n n (by simp); clear ho)
  go_ret
  exact ⟨rfl, (Below.refl _ _).grown hg (Nat.le_refl _) (by simp)⟩

set_option maxHeartbeats 400000 in
theorem padded_any (s : ByteArray) (n : Nat) (w : World) (h : n ≤ 281474976710656) (hs : s.size ≤ n) :
    Calls Try.prog 27 #[.string s, .int .i64 n] w fun e w' => e = .returned (.string (ofL (pad s.data.toList n))) ∧ Below w.heap.size w w' := by
  obtain ⟨i0, hi, hz0, hz1, hz2⟩ := info_parts Try.info5
  go_enter Try.func27, Try.ntmps27
  go_wp2_with (at_make; refine wpList_make_full _ rfl (.tmp 6) (.tmp 6) 46 rfl w.heap.size 5 i0 (.int .u8 0) 1 Try.underlying46 hi hz0 hz1 .i64 .i64 _ _ n rfl rfl rfl rfl (by rw [hz2]; omega) (by unfold maxLen; omega) (Nat.le_refl _) ?_; intro w1 ho hg; rw [made_cells] at ho; have hrow := row_of_owns (by simp) ho; clear ho)
  refine (lay_any w.heap.size 0 n n _ s _ hrow hs (by simpa using hs) h).mono ?_
  rintro e w2 ⟨rfl, hrow2, hg2⟩
  rw [over_pad _ _ (by rw [len_data]; exact hs)] at hrow2
  have hcv := hrow2.convert n n (by simp [pad]; omega)
  go_wp2
  go_ret
  exact ⟨rfl, ((Below.refl _ _).grown hg (Nat.le_refl _) (by simp)).grown hg2 (by have := hg.size; omega) (by simp)⟩

/-- What Pad answers: the text, and the error's number. -/
def padOut (s : ByteArray) (n : Int) : ByteArray × Int :=
  if n < 0 ∨ n > 65536 then (ByteArray.empty, 1) else if (s.size : Int) > n then (ByteArray.empty, 2) else (ofL (pad s.data.toList n.toNat), 0)

set_option maxHeartbeats 400000 in
theorem pad_any (s : ByteArray) (n : Int) (w : World) (hs : s.size ≤ maxLen) (hn : -9223372036854775808 ≤ n ∧ n ≤ 9223372036854775807) :
    Calls Try.prog 18 #[.string s, .int .i64 n] w fun e w' => e = .returned (.tuple #[.string (padOut s n).1, .int .i64 (padOut s n).2]) ∧ Below w.heap.size w w' := by
  unfold maxLen at hs
  by_cases h1 : n < 0
  · have e : padOut s n = (ByteArray.empty, 1) := by simp [padOut, h1]
    rw [e]
    have hd : decide (n < 0) = true := by simpa using h1
    go_enter Try.func18, Try.ntmps18
    go_wp2
    go_ret2
    exact ⟨rfl, Below.refl _ _⟩
  · by_cases h2 : n > 65536
    · have e : padOut s n = (ByteArray.empty, 1) := by simp [padOut, h2]
      rw [e]
      have hd : decide (n < 0) = false := by simpa using h1
      go_enter Try.func18, Try.ntmps18
      go_wp2
      go_ret2
      exact ⟨rfl, Below.refl _ _⟩
    · by_cases h3 : (s.size : Int) > n
      · have e : padOut s n = (ByteArray.empty, 2) := by simp [padOut, h1, h2, h3]
        rw [e]
        go_enter Try.func18, Try.ntmps18
        go_wp2
        go_ret2
        exact ⟨rfl, Below.refl _ _⟩
      · have e : padOut s n = (ofL (pad s.data.toList n.toNat), 0) := by simp [padOut, h1, h2, h3]
        rw [e]
        obtain ⟨m, rfl⟩ := Int.eq_ofNat_of_zero_le (show 0 ≤ n by omega)
        clear e
        go_enter Try.func18, Try.ntmps18
        go_wp2_with fail
        refine (padded_any s m _ (by omega) (by omega)).mono ?_
        rintro e w1 ⟨rfl, hb⟩
        go_wp2
        go_ret2
        exact ⟨rfl, hb⟩

end Go.Proofs.Ytnflpmaeekgmjaa
