/-
  The calls that write a map.
-/
import Derived.Test.YtigoadfbccpmkaaC
import Derived.Deep.RegionHeld3
namespace Go.Proofs.Ytigoadfbccpmkaa
open Go.RowKit
set_option linter.unusedVariables false

theorem grown_trans {a b c : World} {r : Option Nat} (h : a.grownBy b r) (k : b.grownBy c r) : a.grownBy c r :=
  ⟨k.os.trans h.os, k.tape.trans h.tape, k.output.trans h.output, Nat.le_trans h.size k.size, fun i hi hr => (k.block i (Nat.lt_of_lt_of_le hi h.size) hr).trans (h.block i hi hr)⟩
theorem grown_drew {a b : World} {r : Option Nat} (h : a.grownBy b r) : a.grownBy b.drew r := ⟨h.os, h.tape, h.output, h.size, h.block⟩
theorem grown_below {a b : World} {r : Option Nat} (h : Below a.heap.size a b) : a.grownBy b r := ⟨h.os, h.tape, h.output, h.size, fun k hk _ => h.block k hk⟩
theorem below_grown {B : Nat} {a b : World} {r : Option Nat} (h : a.grownBy b r) (hB : B ≤ a.heap.size) (hr : ∀ k, r = some k → B ≤ k) : Below B a b := (Below.refl B a).grown h hB hr
theorem grown_setRow (w : World) (b : Nat) (c : Array Value) : w.grownBy (w.setRow b c) (some b) :=
  ⟨rfl, rfl, rfl, by simp, fun k _ hk => setRow_other w b k c (fun e => hk (by simp [e]))⟩
theorem MIs.drew {w : World} {b n : Nat} {f : Nat → Bool} (h : MIs w b n f) : MIs w.drew b n f := h.keep rfl

theorem fin3 {w w2 w3 : World} {b : Nat} (hb2 : Below w.drew.heap.size w.drew w2) (hb3 : Below w2.heap.size w2 w3) (c : Array Value) : w.grownBy (w3.setRow b c) (some b) :=
  grown_trans (grown_trans (b := w2) ⟨hb2.os, hb2.tape, hb2.output, hb2.size, fun k hk _ => hb2.block k hk⟩ (grown_below hb3)) (grown_setRow w3 b c)

/-- Is there such a bit? -/
def inb (n : Nat) (a : Int) : Bool := decide (0 ≤ a) && decide (a < n)
def setf (n : Nat) (f : Nat → Bool) (a : Int) (on : Bool) : Nat → Bool := if inb n a then (if on then M.orf f (M.rowf a.toNat 1) else M.notf f (M.rowf a.toNat 1)) else f
theorem orf_off {n : Nat} {f : Nat → Bool} {a m : Nat} (h : ∀ i, n ≤ i → f i = false) (ha : a + m ≤ n) : ∀ i, n ≤ i → M.orf f (M.rowf a m) i = false := fun i hi => by
  simp [M.orf, M.rowf, h i hi]; omega
theorem notf_off {n : Nat} {f g : Nat → Bool} (h : ∀ i, n ≤ i → f i = false) : ∀ i, n ≤ i → M.notf f g i = false := fun i hi => by simp [M.notf, h i hi]

set_option maxRecDepth 100000 in
set_option maxHeartbeats 2000000 in
theorem set_in (b n : Nat) (f : Nat → Bool) (a : Nat) (on : Bool) (w : World) (h : MIs w b n f) (ha : a < n) :
    Calls Try.prog 12 #[.pointer (some ⟨b, 0, none⟩), .int .i64 a, .bool on] w fun e w' => e = .returned (.bool true) ∧ MIs w' b n (if on then M.orf f (M.rowf a 1) else M.notf f (M.rowf a 1)) ∧ w.grownBy w' (some b) := by
  have hle := h.le
  have hh := has_any b n f a w h
  rw [show (decide ((0 : Int) ≤ (a : Int)) && decide ((a : Int) < n)) = true by simp; omega] at hh
  have h1 := h.drew
  have ld1 := h1.ld
  cases on
  · go_enter Try.func12, Try.ntmps12
    go_wp2_with fail
    refine hh.mono ?_
    rintro e w1 ⟨rfl, rfl⟩
    go_wp2_with fail
    go_region_with ((first | (go_at_call 32; refine (row_any a 1 (by omega) _).mono ?_; rintro e w2 ⟨rfl, hb2⟩; have h2 := h1.below hb2; have ld2 := h2.ld) | (go_at_call 33; refine (without_any f (M.rowf a 1) _).mono ?_; rintro e w3 ⟨rfl, hb3⟩; have h3 := h2.below hb3; have st3 := h3.st (M.notf f (M.rowf a 1)))))
    all_goals
      go_wp2
      go_ret
      exact ⟨rfl, h3.set _ (notf_off h1.off), fin3 hb2 hb3 _⟩
  · go_enter Try.func12, Try.ntmps12
    go_wp2_with fail
    refine hh.mono ?_
    rintro e w1 ⟨rfl, rfl⟩
    go_wp2_with fail
    go_region_with ((first | (go_at_call 32; refine (row_any a 1 (by omega) _).mono ?_; rintro e w2 ⟨rfl, hb2⟩; have h2 := h1.below hb2; have ld2 := h2.ld) | (go_at_call 31; refine (with_any f (M.rowf a 1) _).mono ?_; rintro e w3 ⟨rfl, hb3⟩; have h3 := h2.below hb3; have st3 := h3.st (M.orf f (M.rowf a 1)))))
    all_goals
      go_wp2
      go_ret
      exact ⟨rfl, h3.set _ (orf_off h1.off (by omega)), fin3 hb2 hb3 _⟩

set_option maxHeartbeats 400000 in
theorem set_any (b n : Nat) (f : Nat → Bool) (a : Int) (on : Bool) (w : World) (h : MIs w b n f) :
    Calls Try.prog 12 #[.pointer (some ⟨b, 0, none⟩), .int .i64 a, .bool on] w fun e w' => e = .returned (.bool (inb n a)) ∧ MIs w' b n (setf n f a on) ∧ w.grownBy w' (some b) := by
  cases hd : inb n a
  · have hh := has_any b n f a w h
    rw [show (decide ((0 : Int) ≤ a) && decide (a < n)) = false from hd] at hh
    rw [show setf n f a on = f by unfold setf; rw [hd]; rfl]
    go_enter Try.func12, Try.ntmps12
    go_wp2_with fail
    refine hh.mono ?_
    rintro e w1 ⟨rfl, rfl⟩
    go_wp2
    go_ret
    exact ⟨rfl, h, World.grownBy.refl _ _⟩
  · have he : setf n f a on = if on then M.orf f (M.rowf a.toNat 1) else M.notf f (M.rowf a.toNat 1) := by unfold setf; rw [hd]; rfl
    simp [inb] at hd
    obtain ⟨i, rfl⟩ := Int.eq_ofNat_of_zero_le hd.1
    rw [he]
    exact set_in b n f i on w h (by omega)
set_option maxHeartbeats 400000 in
theorem set_nil (a : Int) (on : Bool) (w : World) :
    Calls Try.prog 12 #[.pointer none, .int .i64 a, .bool on] w fun e w' => e = .returned (.bool false) ∧ w' = w := by
  go_enter Try.func12, Try.ntmps12
  go_wp2_with fail
  refine (has_nil a w).mono ?_
  rintro e w1 ⟨rfl, rfl⟩
  go_wp2
  go_ret
  exact ⟨rfl, rfl⟩
end Go.Proofs.Ytigoadfbccpmkaa
