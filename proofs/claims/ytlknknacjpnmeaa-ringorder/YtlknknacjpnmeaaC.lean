/-
  A bounded row in memory: a new one, how many there are, how many more go in, the i-th one.
-/
import Derived.Test.YtlknknacjpnmeaaB
namespace Go.Proofs.Ytlknknacjpnmeaa
open Go.RowKit
set_option linter.unusedVariables false

/-- A bounded row at block b. -/
structure RI (w : World) (base b : Nat) (v : Value) (mo : Int) (P : List ByteArray) : Prop where
  row : w.heap[b]? = some (.cells #[.int .i64 mo, v] 50 (0, 0))
  own : Tl w base v P
  ne : v.ownBlock ≠ some b
  m : 1 ≤ mo ∧ mo ≤ 64
  len : (P.length : Int) ≤ mo
  sz : ∀ s ∈ P, s.size ≤ 65536
theorem RI.lt {w : World} {base b : Nat} {v : Value} {mo : Int} {P : List ByteArray} (h : RI w base b v mo P) : b < w.heap.size := (Array.getElem?_eq_some_iff.1 h.row).1
theorem RI.keepBut {w w' : World} {base b : Nat} {v : Value} {mo : Int} {P : List ByteArray} (h : RI w base b v mo P) (hb : ∀ k, k < w.heap.size → k = b ∨ v.ownBlock = some k → w'.heap[k]? = w.heap[k]?) : RI w' base b v mo P :=
  ⟨(hb b h.lt (.inl rfl)).trans h.row, h.own.keepBut (fun k hk e => hb k hk (.inr e)), h.ne, h.m, h.len, h.sz⟩
theorem RI.keep {w w' : World} {base b : Nat} {v : Value} {mo : Int} {P : List ByteArray} (h : RI w base b v mo P) (hb : Below w.heap.size w w') : RI w' base b v mo P := h.keepBut fun k hk _ => hb.block k hk
theorem RI.low {w : World} {base b : Nat} {v : Value} {mo : Int} {P : List ByteArray} (h : RI w base b v mo P) : ∀ k, v.ownBlock = some k → base ≤ k ∧ k < w.heap.size := h.own.lt
/-- What has become of a bounded row: nothing else has changed; its texts lie where they lay, or in new memory. -/
structure Ch (w : World) (b : Nat) (v : Value) (w' : World) (v' : Value) : Prop where
  os : w'.os = w.os
  tape : w'.tape = w.tape
  output : w'.output = w.output
  size : w.heap.size ≤ w'.heap.size
  block : ∀ k, k < w.heap.size → k ≠ b → v.ownBlock ≠ some k → w'.heap[k]? = w.heap[k]?
  n : ∀ k, v'.ownBlock = some k → v.ownBlock = some k ∨ w.heap.size ≤ k
theorem Ch.refl (w : World) (b : Nat) (v : Value) : Ch w b v w v := ⟨rfl, rfl, rfl, Nat.le_refl _, fun _ _ _ _ => rfl, fun k h => .inl h⟩
theorem Ch.ofBelow {w w1 : World} {b : Nat} {v : Value} (h : Below w.heap.size w w1) : Ch w b v w1 v := ⟨h.os, h.tape, h.output, h.size, fun k hk _ _ => h.block k hk, fun k h => .inl h⟩
theorem Ch.trans {w w1 w2 : World} {b : Nat} {v v1 v2 : Value} (h : Ch w b v w1 v1) (k : Ch w1 b v1 w2 v2) : Ch w b v w2 v2 := by
  refine ⟨k.os.trans h.os, k.tape.trans h.tape, k.output.trans h.output, Nat.le_trans h.size k.size, fun c hc hb hv => ?_, fun c hc => ?_⟩
  · rw [k.block c (Nat.lt_of_lt_of_le hc h.size) hb (fun e => by
      rcases h.n c e with h' | h'
      · exact hv h'
      · omega)]
    exact h.block c hc hb hv
  · rcases k.n c hc with h' | h'
    · exact h.n c h'
    · exact .inr (Nat.le_trans h.size h')
theorem Ch.below {B : Nat} {w w1 : World} {b : Nat} {v v1 : Value} (h : Ch w b v w1 v1) (hb : B ≤ b) (hv : ∀ k, v.ownBlock = some k → B ≤ k) (hB : B ≤ w.heap.size) : Below B w w1 :=
  ⟨h.os, h.tape, h.output, h.size, fun k hk => h.block k (by omega) (by omega) (fun e => by have := hv k e; omega)⟩
/-- New texts in the place of the old ones. -/
theorem RI.put {w w1 : World} {base b : Nat} {v v' : Value} {mo : Int} {P P' : List ByteArray} (h : RI w base b v mo P) (hr : Rw w v w1 v') (ho : Tl w1 base v' P') (hl : (P'.length : Int) ≤ mo) (hs : ∀ s ∈ P', s.size ≤ 65536) :
    RI (w1.setCell ⟨b, 1, none⟩ v') base b v' mo P' ∧ Ch w b v (w1.setCell ⟨b, 1, none⟩ v') v' := by
  have hrow : w1.heap[b]? = some (.cells #[.int .i64 mo, v] 50 (0, 0)) := (hr.g.block b h.lt (fun e => h.ne e.symm)).trans h.row
  have hne : v'.ownBlock ≠ some b := by
    intro e
    rcases hr.n b e with h' | h'
    · exact h.ne h'
    · have := h.lt; omega
  have hgr : w1.grownBy (w1.setCell ⟨b, 1, none⟩ v') (some b) := ⟨rfl, rfl, rfl, by simp, fun k hk hne => heap_setCell_other w1 ⟨b, 1, none⟩ k _ (fun e => hne (by rw [e]))⟩
  refine ⟨⟨heap_setCell_same w1 b 1 _ _ _ hrow, ho.keepBut (fun k hk e => hgr.block k hk (fun e' => hne (by rw [e]; exact e'))), hne, h.m, hl, hs⟩, ⟨hr.g.os, hr.g.tape, hr.g.output, Nat.le_trans hr.g.size hgr.size, fun k hk hb hv => ?_, hr.n⟩⟩
  rw [hgr.block k (Nat.lt_of_lt_of_le hk hr.g.size) (by simp; omega)]
  exact hr.g.block k hk (fun e => hv e.symm)
theorem RI.c1 {w w1 : World} {base b : Nat} {v v' : Value} {mo : Int} {P : List ByteArray} (h : RI w base b v mo P) (hr : Rw w v w1 v') : (w1.cell? ⟨b, 0, none⟩ = some (.int .i64 mo) ∧ w1.cell? ⟨b, 1, none⟩ = some v) ∧ ∀ j, w1.frozen? ⟨b, j, none⟩ = false :=
  row2 ((hr.g.block b h.lt (fun e => h.ne e.symm)).trans h.row)
/-- What a call leaves. -/
def ChOut (w : World) (base b : Nat) (v : Value) (mo : Int) (P' : List ByteArray) (r : Value) (e : Ending) (w' : World) : Prop := ∃ v', e = .returned r ∧ RI w' base b v' mo P' ∧ Ch w b v w' v'

set_option maxHeartbeats 1000000 in
theorem new_any (n : Int) (w : World) : Calls Try.prog 9 #[.int .i64 n] w fun e w' => e = .returned (.pointer (some ⟨w.heap.size, 0, none⟩)) ∧ RI w' w.heap.size w.heap.size (.slice none 0 0) (M.lim n) [] ∧ Below w.heap.size w w' := by
  obtain ⟨mx, hmx⟩ : ∃ x, max n 1 = x := ⟨_, rfl⟩
  obtain ⟨mn, hmn⟩ : ∃ x, min mx 64 = x := ⟨_, rfl⟩
  have hlim : M.lim n = mn := by unfold M.lim; rw [hmx, hmn]
  have hml := M.lim_le n
  rw [hlim] at hml ⊢
  have HX : Hid (RI (w.alloc (.cells #[.int .i64 mn, .slice none 0 0] 50)) w.heap.size w.heap.size (.slice none 0 0) mn []) := ⟨heap_alloc_last w _, .inl ⟨rfl, rfl⟩, by simp [Value.ownBlock], hml, by simp; omega, by simp⟩
  have HB : Hid (Below w.heap.size w (w.alloc (.cells #[.int .i64 mn, .slice none 0 0] 50))) := bel1 w _
  clear hlim hml
  go_enter Try.func9, Try.ntmps9
  go_wp2
  go_ret
  exact ⟨rfl, HX.out, HB.out⟩
theorem len_any (base b : Nat) (v : Value) (mo : Int) (P : List ByteArray) (w : World) (h : RI w base b v mo P) : Calls Try.prog 18 #[.pointer (some ⟨b, 0, none⟩)] w fun e w' => e = .returned (.int .i64 P.length) ∧ w' = w := by
  obtain ⟨⟨c0, c1⟩, _⟩ := row2 h.row
  obtain ⟨a, cap, rfl, _⟩ := h.own.at
  clear h
  go_enter Try.func18, Try.ntmps18
  go_wp2
  go_ret
  exact ⟨rfl, rfl⟩
set_option maxHeartbeats 1000000 in
theorem room_any (base b : Nat) (v : Value) (mo : Int) (P : List ByteArray) (w : World) (h : RI w base b v mo P) : Calls Try.prog 19 #[.pointer (some ⟨b, 0, none⟩)] w fun e w' => e = .returned (.int .i64 (mo - P.length)) ∧ Below w.heap.size w w' := by
  obtain ⟨⟨c0, c1⟩, _⟩ := row2 h.row
  obtain ⟨a, cap, rfl, _⟩ := h.own.at
  have HB : Hid (∀ n, Below w.heap.size w (w.drewN n)) := fun n => below_drewN (Below.refl _ _) n
  have h1 := h.m.1
  have h2 := h.m.2
  have h3 := h.len
  clear h
  go_enter Try.func19, Try.ntmps19
  go_wp2_with fail
  go_quiet (fail)
  go_wp2
  go_ret
  exact ⟨rfl, HB.out _⟩
def PkOut (w : World) (P : List ByteArray) (i : Int) (e : Ending) (w' : World) : Prop := e = .returned (.tuple #[.string (M.peek P i), .bool (M.has P i)]) ∧ Below w.heap.size w w'
set_option maxHeartbeats 1000000 in
theorem peek_any (base b : Nat) (v : Value) (mo : Int) (P : List ByteArray) (i : Int) (w : World) (h : RI w base b v mo P) : Calls Try.prog 17 #[.pointer (some ⟨b, 0, none⟩), .int .i64 i] w (PkOut w P i) := by
  have hlen := len_any base b v mo P w h
  obtain ⟨⟨c0, c1⟩, _⟩ := row2 h.row
  cases hh : M.has P i with
  | false =>
    obtain ⟨ho, hp⟩ := M.has_no hh
    have HK : Hid (PkOut w P i (.returned (.tuple #[.string ByteArray.empty, .bool false])) w) := by unfold PkOut; rw [hp, hh]; exact ⟨rfl, Below.refl _ _⟩
    clear hp hh h
    by_cases hi : i < 0
    · have hd : decide (i < 0) = true := by simpa using hi
      clear ho hlen
      go_enter Try.func17, Try.ntmps17
      go_wp2
      go_ret2
      exact HK.out
    · have hd : decide (i < 0) = false := by simpa using hi
      have hi' : (P.length : Int) ≤ i := by omega
      clear ho
      go_enter Try.func17, Try.ntmps17
      go_wp2_with fail
      refine hlen.mono ?_
      rintro e w1 ⟨rfl, rfl⟩
      go_wp2
      go_ret2
      exact HK.out
  | true =>
    obtain ⟨k, hk, rfl, hp⟩ := M.has_yes hh
    have hsz := h.sz P[k] (List.getElem_mem hk)
    obtain ⟨a, cap, rfl, hat, _⟩ := h.own.at
    obtain ⟨bb, off, rfl, d0⟩ := hat k hk
    have HK : Hid (∀ w', Below w.heap.size w w' → PkOut w P k (.returned (.tuple #[.string P[k], .bool true])) w') := by intro w' hb; unfold PkOut; rw [hp, hh]; exact ⟨rfl, hb⟩
    clear hat h hp hh
    generalize P[k] = s at *
    go_enter Try.func17, Try.ntmps17
    go_wp2_with fail
    refine hlen.mono ?_
    rintro e w1 ⟨rfl, rfl⟩
    go_wp2_with fail
    refine (clone_any s _ (by omega)).mono ?_
    rintro e w2 ⟨rfl, hb⟩
    have HQ := Hid_of (HK.out w2 hb)
    clear hb HK hlen
    go_wp2
    go_ret2
    exact HQ.out
end Go.Proofs.Ytlknknacjpnmeaa
