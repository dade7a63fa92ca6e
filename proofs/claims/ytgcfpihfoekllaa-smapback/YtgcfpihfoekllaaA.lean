/-
  A reader in memory, and the calls that take bytes off it: each does what the plain functions of the text M say, and writes nothing else.
-/
import Derived.Test.YtgcfpihfoekllaaRows
import Derived.Test.YtgcfpihfoekllaaM
import Derived.WalkKit
import Derived.WalkSpells
import Derived.WalkLawsBesides
import Derived.Deep.QuietTactic
import Derived.BigQuiet
import Derived.BigRegion
import Derived.RegionTactic
import Derived.ProofKit
import Derived.Below
import Derived.Laws.MakeOwn
import Derived.Lib.Strings
import Derived.Lib.Walk
import Derived.Lib.BufferWrite
import Derived.Lib.UnsafeStr
import Derived.Lib.Hide
import Derived.Lib.AppendStr
import Derived.Lib.Zigzag
namespace Go.Proofs.Ytgcfpihfoekllaa
open Go.RowKit
set_option linter.unusedVariables false

def ofL (l : List UInt8) : ByteArray := ⟨l.toArray⟩
theorem ofL_data (l : List UInt8) : (ofL l).data.toList = l := by simp [ofL]
theorem ofL_size (l : List UInt8) : (ofL l).size = l.length := by simp [ofL, ByteArray.size]
theorem ofL_of (s : ByteArray) : ofL s.data.toList = s := by simp [ofL]
theorem len_data (s : ByteArray) : s.data.toList.length = s.size := Array.length_toList
theorem ofL_app (a b : List UInt8) : ofL a ++ ofL b = ofL (a ++ b) := by apply ByteArray.ext; simp [ofL]
theorem ofL_drop (l : List UInt8) (n m : Nat) (h : l.length ≤ m) : (ofL l).extract n m = ofL (l.drop n) := by
  apply ByteArray.ext
  apply Array.ext'
  simp [ofL, ByteArray.data_extract]
  rw [List.take_of_length_le (by simp; omega)]
theorem ofL_take (l : List UInt8) (n : Nat) : (ofL l).extract 0 n = ofL (l.take n) := by
  apply ByteArray.ext
  apply Array.ext'
  simp [ofL, ByteArray.data_extract]

/-- A reader at block b: what is left, and its error's number. -/
def RIs (w : World) (b : Nat) (l : List UInt8) (e : Int) : Prop := w.heap[b]? = some (.cells #[.string (ofL l), .int .i64 e] 118 (0, 0))
theorem RIs.lt {w : World} {b : Nat} {l : List UInt8} {e : Int} (h : RIs w b l e) : b < w.heap.size := by
  rcases Nat.lt_or_ge b w.heap.size with h' | h'
  · exact h'
  · rw [RIs, Array.getElem?_eq_none h'] at h; cases h
theorem RIs.c0 {w : World} {b : Nat} {l : List UInt8} {e : Int} (h : RIs w b l e) : w.cell? ⟨b, 0, none⟩ = some (.string (ofL l)) := by
  rw [cell_of_row w b 0 _ _ _ h]; rfl
theorem RIs.c1 {w : World} {b : Nat} {l : List UInt8} {e : Int} (h : RIs w b l e) : w.cell? ⟨b, 1, none⟩ = some (.int .i64 e) := by
  rw [cell_of_row w b 1 _ _ _ h]; rfl
theorem RIs.free {w : World} {b : Nat} {l : List UInt8} {e : Int} (h : RIs w b l e) (j : Nat) : w.frozen? ⟨b, j, none⟩ = false := frozen_of_row w b j _ _ h
theorem RIs.set0 {w : World} {b : Nat} {l : List UInt8} {e : Int} (h : RIs w b l e) (r : List UInt8) : RIs (w.setCell ⟨b, 0, none⟩ (.string (ofL r))) b r e := by
  unfold RIs
  exact heap_setCell_same w b 0 _ _ _ h
theorem RIs.set1 {w : World} {b : Nat} {l : List UInt8} {e : Int} (h : RIs w b l e) (k : Int) : RIs (w.setCell ⟨b, 1, none⟩ (.int .i64 k)) b l k := by
  unfold RIs
  exact heap_setCell_same w b 1 _ _ _ h
theorem RIs.keep {w w' : World} {b : Nat} {l : List UInt8} {e : Int} (h : RIs w b l e) (hb : w'.heap[b]? = w.heap[b]?) : RIs w' b l e := by
  unfold RIs; rw [hb]; exact h

theorem grown_set (w : World) (g j : Nat) (u : Value) : w.grownBy (w.setCell ⟨g, j, none⟩ u) (some g) :=
  ⟨rfl, rfl, rfl, by simp, fun k _ hk => heap_setCell_other w ⟨g, j, none⟩ k u (fun e => hk (by simp [e]))⟩
theorem grown_trans {a b c : World} {r : Option Nat} (h : a.grownBy b r) (k : b.grownBy c r) : a.grownBy c r :=
  ⟨k.os.trans h.os, k.tape.trans h.tape, k.output.trans h.output, Nat.le_trans h.size k.size, fun i hi hr => (k.block i (Nat.lt_of_lt_of_le hi h.size) hr).trans (h.block i hi hr)⟩
theorem grown_drewN {a b : World} {r : Option Nat} (h : a.grownBy b r) (n : Nat) : a.grownBy (b.drewN n) r := ⟨h.os, h.tape, h.output, h.size, h.block⟩
theorem grown_drew {a b : World} {r : Option Nat} (h : a.grownBy b r) : a.grownBy b.drew r := ⟨h.os, h.tape, h.output, h.size, h.block⟩
theorem grown_below {a b : World} {r : Option Nat} (h : Below a.heap.size a b) : a.grownBy b r := ⟨h.os, h.tape, h.output, h.size, fun k hk _ => h.block k hk⟩
theorem below_grown {B : Nat} {a b : World} {r : Option Nat} (h : a.grownBy b r) (hB : B ≤ a.heap.size) (hr : ∀ k, r = some k → B ≤ k) : Below B a b := (Below.refl B a).grown h hB hr

abbrev ptr (b : Nat) : Value := .pointer (some ⟨b, 0, none⟩)

set_option maxHeartbeats 400000 in
theorem left_any (b : Nat) (l : List UInt8) (e : Int) (w : World) (hr : RIs w b l e) :
    Calls Try.prog 78 #[.pointer (some ⟨b, 0, none⟩)] w fun x w' => x = .returned (.int .i64 l.length) ∧ w' = w := by
  have h0 := hr.c0
  go_enter Try.func78, Try.ntmps78
  go_wp2
  go_ret
  rw [ofL_size]
  exact ⟨rfl, rfl⟩
set_option maxHeartbeats 400000 in
theorem left_nil (w : World) : Calls Try.prog 78 #[.pointer none] w fun x w' => x = .returned (.int .i64 0) ∧ w' = w := by
  go_enter Try.func78, Try.ntmps78
  go_wp2
  go_ret
  exact ⟨rfl, rfl⟩

set_option maxHeartbeats 400000 in
theorem fail_any (b : Nat) (l : List UInt8) (e : Int) (w : World) (hr : RIs w b l e) :
    Calls Try.prog 89 #[.pointer (some ⟨b, 0, none⟩)] w fun x w' => x = .returned (.tuple #[]) ∧ RIs w' b [] 3 ∧ w.grownBy w' (some b) := by
  have h0 := hr.c0
  have h1 := hr.c1
  have f0 := hr.free 0
  have f1 := hr.free 1
  have R := (hr.set1 3).set0 []
  have G := grown_trans (grown_set w b 1 (.int .i64 3)) (grown_set _ b 0 (.string (ofL [])))
  go_enter Try.func89, Try.ntmps89
  go_wp2
  go_end0
  exact ⟨rfl, R, G⟩
set_option maxHeartbeats 400000 in
theorem fail_nil (w : World) : Calls Try.prog 89 #[.pointer none] w fun x w' => x = .returned (.tuple #[]) ∧ w' = w := by
  go_enter Try.func89, Try.ntmps89
  go_wp2
  refine bodyPost_ret (results_none rfl _ _ _) rfl ?_
  exact ⟨rfl, rfl⟩

set_option maxHeartbeats 400000 in
theorem take_any (b : Nat) (l : List UInt8) (e : Int) (n : Nat) (w : World) (hr : RIs w b l e) (hn : n ≤ l.length) (hl : l.length ≤ 140737488351232) :
    Calls Try.prog 91 #[.pointer (some ⟨b, 0, none⟩), .int .i64 n] w fun x w' => x = .returned (.string (ofL (l.take n))) ∧ RIs w' b (l.drop n) e ∧ w.grownBy w' (some b) := by
  by_cases h : n = 0
  · subst h
    go_enter Try.func91, Try.ntmps91
    go_wp2
    go_ret
    exact ⟨rfl, hr, World.grownBy.refl _ _⟩
  · have h0 := hr.c0
    have f0 := hr.free 0
    have hz := ofL_size l
    have hs : n ≤ (ofL l).size := by omega
    have hd : ((n : Int) == 0) = false := by simp; omega
    have HT : Hid (_ = _) := ofL_take l n
    have HD : Hid ((ofL l).extract n (ofL l).size = ofL (l.drop n)) := ofL_drop l n _ (by omega)
    have R : RIs (w.setCell ⟨b, 0, none⟩ (.string ((ofL l).extract n (ofL l).size))) b (l.drop n) e := by rw [HD.out]; exact hr.set0 _
    have G := grown_set w b 0 (.string ((ofL l).extract n (ofL l).size))
    go_enter Try.func91, Try.ntmps91
    go_wp2
    go_ret
    rw [HT.out]
    exact ⟨rfl, R, G⟩
set_option maxHeartbeats 400000 in
theorem take_nil (w : World) : Calls Try.prog 91 #[.pointer none, .int .i64 0] w fun x w' => x = .returned (.string (ofL [])) ∧ w' = w := by
  go_enter Try.func91, Try.ntmps91
  go_wp2
  go_ret
  exact ⟨rfl, rfl⟩

/-- What a reading leaves: what is left behind it, or nothing and the error. -/
def lf {α : Type} (o : Option (α × List UInt8)) : List UInt8 := match o with | some (_, r) => r | none => []
def er {α : Type} (o : Option (α × List UInt8)) (e : Int) : Int := match o with | some _ => e | none => 3
def vl {α : Type} (d : α) (o : Option (α × List UInt8)) : α := match o with | some (x, _) => x | none => d

theorem ofL_first (c : UInt8) (r : List UInt8) : ofL ((c :: r).take 1) = ofL [c] := rfl

set_option maxHeartbeats 400000 in
theorem byte_e (b : Nat) (e : Int) (w : World) (hr : RIs w b [] e) :
    Calls Try.prog 87 #[.pointer (some ⟨b, 0, none⟩)] w fun x w' => x = .returned (.int .i64 0) ∧ RIs w' b [] 3 ∧ w.grownBy w' (some b) := by
  go_enter Try.func87, Try.ntmps87
  go_wp2_with fail
  refine (left_any b [] e w hr).mono ?_
  rintro x w1 ⟨rfl, rfl⟩
  go_wp2_with fail
  refine (fail_any b [] e w1 hr).mono ?_
  rintro x w2 ⟨rfl, hr2, hg⟩
  go_wp2
  go_ret
  exact ⟨rfl, hr2, hg⟩
set_option maxHeartbeats 400000 in
theorem byte_c (b : Nat) (c : UInt8) (r : List UInt8) (e : Int) (w : World) (hr : RIs w b (c :: r) e) (hl : (c :: r).length ≤ 140737488351232) :
    Calls Try.prog 87 #[.pointer (some ⟨b, 0, none⟩)] w fun x w' => x = .returned (.int .i64 c.toNat) ∧ RIs w' b r e ∧ w.grownBy w' (some b) := by
  have hn : ((((c :: r).length : Nat) : Int) == 0) = false := by simp; omega
  generalize hL : (c :: r).length = n at hn
  have hz : 0 < (ofL [c]).size := by rw [ofL_size]; exact Nat.one_pos
  have hc : (ofL [c])[0].toNat < 256 := c.toNat_lt
  go_enter Try.func87, Try.ntmps87
  go_wp2_with fail
  refine (left_any b (c :: r) e w hr).mono ?_
  rintro x w1 ⟨rfl, rfl⟩
  rw [hL]
  go_wp2_with fail
  refine (take_any b (c :: r) e 1 w1 hr (by simp) hl).mono ?_
  rintro x w2 ⟨rfl, hr2, hg⟩
  rw [ofL_first]
  go_wp2
  go_ret
  exact ⟨rfl, hr2, hg⟩
set_option maxHeartbeats 400000 in
theorem byte_nil (w : World) : Calls Try.prog 87 #[.pointer none] w fun x w' => x = .returned (.int .i64 0) ∧ w' = w := by
  go_enter Try.func87, Try.ntmps87
  go_wp2_with fail
  refine (left_nil w).mono ?_
  rintro x w1 ⟨rfl, rfl⟩
  go_wp2_with fail
  refine (fail_nil w1).mono ?_
  rintro x w2 ⟨rfl, rfl⟩
  go_wp2
  go_ret
  exact ⟨rfl, rfl⟩

theorem ret_int {k : IntKind} {a b : Int} (h : a = b) : Ending.returned (.int k a) = .returned (.int k b) := by rw [h]
set_option maxHeartbeats 400000 in
theorem signed_any (u : Nat) (hu : u < 18446744073709551616) (w : World) :
    Calls Try.prog 88 #[.int .u64 u] w fun x w' => x = .returned (.int .i64 (M.sg u)) ∧ w' = w := by
  by_cases h : u % 2 = 1
  · have hd : (((u : Int) % 2) == 1) = true := by simp; omega
    have e : M.sg u = -((u / 2 : Nat) : Int) - 1 := by rw [M.sg, if_pos h]
    rw [e]
    have HN : Hid (_ = _) := Lib.i64_not (u / 2) (by omega)
    go_enter Try.func88, Try.ntmps88
    go_wp2
    go_ret
    exact ⟨ret_int HN.out, rfl⟩
  · have hd : (((u : Int) % 2) == 1) = false := by simp; omega
    have e : M.sg u = ((u / 2 : Nat) : Int) := by rw [M.sg, if_neg h]
    rw [e]
    go_enter Try.func88, Try.ntmps88
    go_wp2
    go_ret
    exact ⟨rfl, rfl⟩

theorem acc_bits (x k c : Nat) (hx : x < 18446744073709551616) : bits .or .u64 (x : Int) (IntKind.u64.wrap ((c : Int) % 128 * 2 ^ (7 * k))) = ((M.acc x k c : Nat) : Int) := by
  have e : IntKind.u64.wrap ((c : Int) % 128 * 2 ^ (7 * k)) = ((c % 128 * 2 ^ (7 * k) % 18446744073709551616 : Nat) : Int) := by
    rw [IntKind.wrap_u64]
    simp
  rw [e, u64_or_nat x _ hx (Nat.mod_lt _ (by decide))]
  rfl
set_option maxHeartbeats 1000000 in
theorem int_any (b : Nat) (l : List UInt8) (e : Int) (w : World) (hr : RIs w b l e) (hl : l.length ≤ 140737488351232) :
    Calls Try.prog 76 #[.pointer (some ⟨b, 0, none⟩)] w fun x w' => x = .returned (.int .i64 (vl 0 (M.int l))) ∧ RIs w' b (lf (M.int l)) (er (M.int l) e) ∧ w.grownBy w' (some b) := by
  have HI : Hid (M.int l = (M.rd 10 0 0 l).map fun x => (M.sg x.1, x.2)) := rfl
  go_enter Try.func76, Try.ntmps76
  go_wp2
  go_loopw [3, 6] (fun u i wr => ∃ (k x : Nat) (l' : List UInt8), k ≤ 10 ∧ i = .int .i64 k ∧ u = .int .u64 x ∧ x < 18446744073709551616 ∧ (k = 0 → x = 0) ∧ l'.length ≤ 140737488351232 ∧ RIs wr b l' e ∧ w.grownBy wr (some b) ∧ Hid (M.rd (10 - k) k x l' = M.rd 10 0 0 l)) (fun _ i _ => 10 - (intOf i).toNat)
  case atStart => exact ⟨0, 0, l, by omega, rfl, rfl, by omega, fun _ => rfl, hl, hr, World.grownBy.refl _ _, rfl⟩
  case round =>
    obtain ⟨k, x, l', hk, rfl, rfl, hx, hx0, hl', hr', hg, hrd⟩ := hrel
    by_cases hlt : k < 10
    · cases l' with
      | nil =>
        have HN : Hid (M.int l = none) := by
          show _ = _
          rw [HI.out, ← hrd.out, show 10 - k = (9 - k) + 1 by omega]; rfl
        by_cases h0 : k = 0
        · subst h0
          have := hx0 rfl
          subst this
          go_wp2_with fail
          refine (byte_e b e _ hr').mono ?_
          rintro y w1 ⟨rfl, hr1, hg1⟩
          go_wp2_with fail
          refine (signed_any 0 (by decide) _).mono ?_
          rintro y w2 ⟨rfl, rfl⟩
          go_wp2
          go_ret
          rw [HN.out]
          exact ⟨rfl, hr1, grown_trans hg hg1⟩
        · have h0' : decide ((0 : Int) < (k : Int)) = true := by simp; omega
          go_wp2_with fail
          refine (byte_e b e _ hr').mono ?_
          rintro y w1 ⟨rfl, hr1, hg1⟩
          go_wp2_with fail
          refine (fail_any b [] 3 _ hr1).mono ?_
          rintro y w2 ⟨rfl, hr2, hg2⟩
          go_wp2
          go_ret
          rw [HN.out]
          exact ⟨rfl, hr2, grown_trans hg (grown_trans hg1 hg2)⟩
      | cons c l2 =>
        have hc2 : c.toNat < 256 := c.toNat_lt
        have ht : ((c.toNat : Int).tmod 128) = ((c.toNat % 128 : Nat) : Int) := rfl
        have ha := acc_bits x k c.toNat hx
        go_wp2_with fail
        refine (byte_c b c l2 e _ hr' hl').mono ?_
        rintro y w1 ⟨rfl, hr1, hg1⟩
        by_cases hc : 128 ≤ c.toNat
        · have hdc : decide ((128 : Int) ≤ (c.toNat : Int)) = true := by simp; omega
          go_wp2
          go_roundw
          case rel =>
            refine ⟨k + 1, M.acc x k c.toNat, l2, by omega, by go_num, rfl, M.acc_lt _ _ _ hx, fun h => by omega, by simp at hl'; omega, hr1, grown_trans hg hg1, ?_⟩
            show _ = _
            rw [← hrd.out, show 10 - k = (10 - (k + 1)) + 1 by omega]
            simp only [M.rd]
            rw [if_pos hc]
          case measure => simp [intOf]; omega
        · have hdc : decide ((128 : Int) ≤ (c.toNat : Int)) = false := by simp; omega
          by_cases hbad : (0 < k ∧ c.toNat = 0) ∨ (k = 9 ∧ 1 < c.toNat)
          · have HN : Hid (M.int l = none) := by
              show _ = _
              rw [HI.out, ← hrd.out, show 10 - k = (9 - k) + 1 by omega]
              simp only [M.rd]
              rw [if_neg hc, if_pos hbad]
              rfl
            have d1 : 0 < k := by omega
            have d2 : ((c.toNat : Int) == 0) = true ∨ ((c.toNat : Int) == 0) = false ∧ ((k : Int) == 9) = true ∧ decide ((1 : Int) < (c.toNat : Int)) = true := by simp; omega
            clear hbad
            rcases d2 with d2 | ⟨d2, d3, d4⟩
            all_goals
              go_wp2_with fail
              refine (fail_any b l2 e _ hr1).mono ?_
              rintro y w2 ⟨rfl, hr2, hg2⟩
              go_wp2
              go_ret
              rw [HN.out]
              exact ⟨rfl, hr2, grown_trans hg (grown_trans hg1 hg2)⟩
          · have HN : Hid (M.int l = some (M.sg (M.acc x k c.toNat), l2)) := by
              show _ = _
              rw [HI.out, ← hrd.out, show 10 - k = (9 - k) + 1 by omega]
              simp only [M.rd]
              rw [if_neg hc, if_neg hbad]
              rfl
            have d1 : (0 < k) = False ∧ ((k : Int) == 9) = false ∨ 0 < k ∧ ((c.toNat : Int) == 0) = false ∧ ((k : Int) == 9) = false ∨ 0 < k ∧ ((c.toNat : Int) == 0) = false ∧ ((k : Int) == 9) = true ∧ decide ((1 : Int) < (c.toNat : Int)) = false := by simp; omega
            clear hbad
            rcases d1 with ⟨d1, d2⟩ | ⟨d1, d2, d3⟩ | ⟨d1, d2, d3, d4⟩
            all_goals
              go_wp2_with fail
              refine (signed_any (M.acc x k c.toNat) (M.acc_lt _ _ _ hx) _).mono ?_
              rintro y w2 ⟨rfl, rfl⟩
              go_wp2
              go_ret
              rw [HN.out]
              exact ⟨rfl, hr1, grown_trans hg hg1⟩
    · go_wp2_with fail
      refine (fail_any b l' e _ hr').mono ?_
      rintro y w2 ⟨rfl, hr2, hg2⟩
      have HN : Hid (M.int l = none) := by
        show _ = _
        rw [HI.out, ← hrd.out, show 10 - k = 0 by omega]; rfl
      go_wp2
      go_ret
      rw [HN.out]
      exact ⟨rfl, hr2, grown_trans hg hg2⟩

end Go.Proofs.Ytgcfpihfoekllaa
