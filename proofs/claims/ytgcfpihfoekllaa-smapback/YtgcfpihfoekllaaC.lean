/-
  Slices that are read, the reader's calls that read rows, a new reader, what Done tells, and the reader that is none.
-/
import Derived.Test.YtgcfpihfoekllaaB
namespace Go.Proofs.Ytgcfpihfoekllaa
open Go.RowKit
set_option linter.unusedVariables false

theorem below_drewN {B : Nat} {a w : World} (h : Below B a w) (n : Nat) : Below B a (w.drewN n) := ⟨h.os, h.tape, h.output, h.size, h.block⟩

/-- A slice in memory: the address leads to the values of l (where there is one). -/
def At {α : Type} (w : World) (a : Option Addr) (f : α → Value) (l : List α) : Prop :=
  ∀ j (h : j < l.length), ∃ b off, a = some ⟨b, off, none⟩ ∧ w.cell? ⟨b, off + j, none⟩ = some (f l[j])
theorem At.keep {α : Type} {w w' : World} {a : Option Addr} {f : α → Value} {l : List α} (h : At w a f l) (hb : Below w.heap.size w w') : At w' a f l := by
  intro j hj
  obtain ⟨b, off, rfl, hc⟩ := h j hj
  exact ⟨b, off, rfl, (hb.cell (p := ⟨b, off + j, none⟩) (World.block_lt_of_cell? w _ hc)).trans hc⟩
/-- The blocks that a slice lies in. -/
def blk (a : Option Addr) (k : Nat) : Prop := ∃ off s, a = some ⟨k, off, s⟩
theorem At.keepBut {α : Type} {w w' : World} {a : Option Addr} {f : α → Value} {l : List α} (h : At w a f l) (hb : ∀ k, k < w.heap.size → blk a k → w'.heap[k]? = w.heap[k]?) : At w' a f l := by
  intro j hj
  obtain ⟨b, off, rfl, hc⟩ := h j hj
  have hlt := World.block_lt_of_cell? w _ hc
  exact ⟨b, off, rfl, (World.cell?_of_block (w := w) (a := ⟨b, off + j, none⟩) (hb b hlt ⟨off, none, rfl⟩)).trans hc⟩
theorem owns_at {α : Type} {w : World} {base : Nat} {e : TypeId} {v : Value} {f : α → Value} {l : List α} (h : w.ownsRow base e 1 v l.length (l.map f)) :
    ∃ a cap, v = .slice a l.length cap ∧ At w a f l ∧ ∀ k, blk a k → base ≤ k := by
  rcases h.2 with ⟨rfl, h0⟩ | ⟨g, cap, cur, rfl, hb', hh, hc, hm, hs, ht⟩
  · have e : l = [] := List.length_eq_zero_iff.1 h0
    subst e
    exact ⟨none, 0, rfl, fun j h => by simp at h, fun k ⟨_, _, h⟩ => by cases h⟩
  · refine ⟨some ⟨g, 0, none⟩, cap, rfl, fun j hj => ⟨g, 0, rfl, ?_⟩, fun k ⟨_, _, h⟩ => by simp at h; omega⟩
    rw [Nat.zero_add]
    have := h.cells (g := g) rfl j (f l[j]) (by simp [hj])
    rwa [show ((⟨g, 0, none⟩ : Addr).add j) = ⟨g, j, none⟩ by unfold Addr.add; split <;> simp_all] at this

set_option maxHeartbeats 400000 in
theorem sameInts_any (a1 : Option Addr) (cap1 : Nat) (a2 : Option Addr) (cap2 : Nat) (l : List Int) (w : World) (hl : l.length ≤ 281474976710656) (hc1 : At w a1 (Value.int .i64) l) (hc2 : At w a2 (Value.int .i64) l) :
    Calls Try.prog 15 #[.slice a1 l.length cap1, .slice a2 l.length cap2] w fun e w' => e = .returned (.bool true) ∧ Below w.heap.size w w' := by
  go_enter Try.func15, Try.ntmps15
  go_wp2
  go_loopw [5] (fun i wr => ∃ k : Nat, k ≤ l.length ∧ i = .int .i64 k ∧ Below w.heap.size w wr) (fun i _ => l.length - (intOf i).toNat)
  case atStart => exact ⟨0, Nat.zero_le _, rfl, Below.refl _ _⟩
  case round =>
    obtain ⟨k, hk, rfl, hbel⟩ := hrel
    by_cases hlt : k < l.length
    · obtain ⟨b, off, rfl, hd1⟩ := (hc1.keep hbel) k hlt
      obtain ⟨b2, off2, rfl, hd2⟩ := (hc2.keep hbel) k hlt
      generalize hx : l[k] = x at *
      clear hx hc1 hc2
      go_wp2
      go_quiet (fail)
      go_wp2
      go_roundw
      case rel => exact ⟨k + 1, by omega, by go_num, below_drewN hbel _⟩
      case measure => simp [intOf]; omega
    · go_wp2
      go_ret
      exact ⟨rfl, hbel⟩

theorem hmf (fn : Fn) (first cap : Array Value) (w : World) : (Instr.makeFunc fn first cap).run Try.prog w = .ok (.func fn first cap) w := rfl

set_option maxHeartbeats 400000 in
theorem ints_any (b : Nat) (st : Option (List UInt8)) (w : World) (hr : RS w b st) (hl : (lft st).length ≤ 1000000) :
    Calls Try.prog 90 #[.pointer (some ⟨b, 0, none⟩)] w (IntsOut w b (M.ints (lft st))) := by
  have hmf := hmf
  go_enter Try.func90, Try.ntmps90
  go_wp2_with fail
  refine (intAll_any b st w hr hl).mono ?_
  rintro e w1 h
  obtain ⟨v, rfl, hown, hr1, hg1⟩ := h
  go_wp2
  go_ret
  exact ⟨v, rfl, hown, hr1, hg1⟩
/-- What a new reader is. -/
def NewR (w : World) (l : List UInt8) (x : Ending) (w' : World) : Prop :=
  ∃ b, x = .returned (.pointer (some ⟨b, 0, none⟩)) ∧ w.heap.size ≤ b ∧ RS w' b (some l) ∧ Below w.heap.size w w'
set_option maxHeartbeats 400000 in
theorem newReader_any (l : List UInt8) (w : World) (hl : l.length ≤ 140737488351232) : Calls Try.prog 51 #[.string (ofL l)] w (NewR w l) := by
  go_enter Try.func51, Try.ntmps51
  go_wp2_with fail
  refine (clone_any _ w (by rw [ofL_size]; exact hl)).mono ?_
  rintro e w1 ⟨rfl, hb1⟩
  go_wp2
  go_ret
  exact ⟨w1.heap.size, rfl, hb1.size, heap_alloc_new w1 _, hb1.alloc hb1.size _⟩

/-- What a reader's Done tells. -/
def rdone (st : Option (List UInt8)) : Int := match st with | some [] => 0 | _ => 3
set_option maxHeartbeats 400000 in
theorem rdone_any (b : Nat) (st : Option (List UInt8)) (w : World) (hr : RS w b st) (hl : (lft st).length ≤ 140737488351232) :
    Calls Try.prog 53 #[.pointer (some ⟨b, 0, none⟩)] w fun e w' => e = .returned (.int .i64 (rdone st)) ∧ w' = w := by
  have c1 := hr.c1
  go_enter Try.func53, Try.ntmps53
  go_wp2_with fail
  refine (left_any b (lft st) (ee st) w hr).mono ?_
  rintro e w1 ⟨rfl, rfl⟩
  cases st with
  | none =>
    simp only [lft, ee, Option.getD_none, List.length_nil, Option.isSome_none, Bool.false_eq_true, if_false] at c1 ⊢
    go_wp2
    go_ret
    exact ⟨rfl, rfl⟩
  | some l =>
    simp only [lft, ee, Option.getD_some, Option.isSome_some, if_true] at c1 ⊢
    cases l with
    | nil =>
      simp only [List.length_nil]
      go_wp2
      go_ret
      exact ⟨rfl, rfl⟩
    | cons c r =>
      have hn : 0 < (c :: r).length := by simp
      generalize (c :: r).length = n at hn
      go_wp2
      go_ret
      exact ⟨rfl, rfl⟩
set_option maxHeartbeats 400000 in
theorem rleft_any (b : Nat) (st : Option (List UInt8)) (w : World) (hr : RS w b st) :
    Calls Try.prog 78 #[.pointer (some ⟨b, 0, none⟩)] w fun x w' => x = .returned (.int .i64 (lft st).length) ∧ w' = w := left_any b (lft st) (ee st) w hr

set_option maxHeartbeats 400000 in
theorem rdone_nil (w : World) : Calls Try.prog 53 #[.pointer none] w fun e w' => e = .returned (.int .i64 1) ∧ w' = w := by
  go_enter Try.func53, Try.ntmps53
  go_wp2
  go_ret
  exact ⟨rfl, rfl⟩

set_option maxHeartbeats 1000000 in
theorem int_none (w : World) : Calls Try.prog 76 #[.pointer none] w fun x w' => x = .returned (.int .i64 0) ∧ w' = w := by
  go_enter Try.func76, Try.ntmps76
  go_wp2
  go_loopw [3, 6] (fun u i wr => wr = w ∧ i = .int .i64 0 ∧ u = .int .u64 0) (fun _ i _ => 0)
  case atStart => exact ⟨rfl, rfl, rfl⟩
  case round =>
    obtain ⟨rfl, rfl, rfl⟩ := hrel
    go_wp2_with fail
    refine (byte_nil _).mono ?_
    rintro e w1 ⟨rfl, rfl⟩
    go_wp2_with fail
    refine (signed_any 0 (by decide) _).mono ?_
    rintro e w2 ⟨rfl, rfl⟩
    go_wp2
    go_ret
    exact ⟨rfl, rfl⟩
set_option maxHeartbeats 400000 in
theorem count_none (w : World) : Calls Try.prog 93 #[.pointer none] w fun x w' => x = .returned (.int .i64 0) ∧ w' = w := by
  go_enter Try.func93, Try.ntmps93
  go_wp2_with fail
  refine (int_none w).mono ?_
  rintro e w1 ⟨rfl, rfl⟩
  go_wp2_with fail
  refine (left_nil w1).mono ?_
  rintro e w2 ⟨rfl, rfl⟩
  go_wp2
  go_ret
  exact ⟨rfl, rfl⟩
set_option maxHeartbeats 400000 in
theorem intsAll_none (w : World) : Calls Try.prog 92 #[.pointer none, .func (.func 76) #[.pointer none] #[]] w fun x w' => x = .returned (.slice none 0 0) ∧ w' = w := by
  go_enter Try.func92, Try.ntmps92
  go_wp2_with fail
  refine (count_none w).mono ?_
  rintro e w1 ⟨rfl, rfl⟩
  go_wp2
  go_loopw [5, 8] (fun v i wr => wr = w1 ∧ i = .int .i64 0 ∧ v = .slice none 0 0) (fun _ _ _ => 0)
  case atStart => exact ⟨rfl, rfl, rfl⟩
  case round =>
    obtain ⟨rfl, rfl, rfl⟩ := hrel
    go_wp2
    go_ret
    exact ⟨rfl, rfl⟩
set_option maxHeartbeats 400000 in
theorem ints_none (w : World) : Calls Try.prog 90 #[.pointer none] w fun x w' => x = .returned (.slice none 0 0) ∧ w' = w := by
  have hmf := hmf
  go_enter Try.func90, Try.ntmps90
  go_wp2_with fail
  refine (intsAll_none w).mono ?_
  rintro e w1 ⟨rfl, rfl⟩
  go_wp2
  go_ret
  exact ⟨rfl, rfl⟩
end Go.Proofs.Ytgcfpihfoekllaa
