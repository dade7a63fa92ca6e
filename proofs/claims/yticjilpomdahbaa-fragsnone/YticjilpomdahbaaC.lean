/-
  A device in memory: what it is, how many sectors there are, why some can't be written or read; a sector is written; the device is lost.
-/
import Derived.Test.YticjilpomdahbaaA
namespace Go.Proofs.Yticjilpomdahbaa
open Go.RowKit
set_option linter.unusedVariables false

/-- The cells of sectors. -/
def PC : List M.Pl → List Value
  | [] => []
  | p :: r => .string p.1 :: .string p.2 :: PC r
theorem PC_len (P : List M.Pl) : (PC P).length = P.length * 2 := by
  induction P with
  | nil => rfl
  | cons p r ih => simp only [PC, List.length_cons, ih]; omega
theorem PC_get (P : List M.Pl) (i : Nat) (h : i < P.length) : (PC P)[i * 2]? = some (.string P[i].1) ∧ (PC P)[i * 2 + 1]? = some (.string P[i].2) := by
  induction P generalizing i with
  | nil => simp at h
  | cons p r ih =>
    cases i with
    | zero => exact ⟨rfl, rfl⟩
    | succ i =>
      have := ih i (by simpa using h)
      rw [show (i + 1) * 2 = i * 2 + 1 + 1 by omega]
      simpa [PC] using this
theorem PC_set (P : List M.Pl) (i : Nat) (h : i < P.length) (s : ByteArray) : (PC P).set (i * 2) (.string s) = PC (P.set i (s, P[i].2)) ∧ (PC P).set (i * 2 + 1) (.string s) = PC (P.set i (P[i].1, s)) := by
  induction P generalizing i with
  | nil => simp at h
  | cons p r ih =>
    cases i with
    | zero => exact ⟨rfl, rfl⟩
    | succ i =>
      obtain ⟨h1, h2⟩ := ih i (by simpa using h)
      rw [show (i + 1) * 2 = i * 2 + 1 + 1 by omega]
      simp only [PC, List.set_cons_succ, List.getElem_cons_succ, h1, h2, and_self]
theorem PC_app (P Q : List M.Pl) : PC (P ++ Q) = PC P ++ PC Q := by
  induction P with
  | nil => rfl
  | cons p r ih => simp [PC, ih]
/-- The sectors' row. -/
def PR (w : World) (g : Nat) (P : List M.Pl) : Prop := w.heap[g]? = some (.cells (PC P).toArray 76 (0, 0))
theorem PR.lt {w : World} {g : Nat} {P : List M.Pl} (h : PR w g P) : g < w.heap.size := (Array.getElem?_eq_some_iff.1 h).1
theorem PR.c {w : World} {g : Nat} {P : List M.Pl} (h : PR w g P) (i : Nat) (hi : i < P.length) : w.cell? ⟨g, i * 2, none⟩ = some (.string P[i].1) ∧ w.cell? ⟨g, i * 2 + 1, none⟩ = some (.string P[i].2) := by
  obtain ⟨h1, h2⟩ := PC_get P i hi
  rw [cell_of_row w g (i * 2) _ _ _ h, cell_of_row w g (i * 2 + 1) _ _ _ h]
  simpa using ⟨h1, h2⟩
theorem PR.free {w : World} {g : Nat} {P : List M.Pl} (h : PR w g P) (j : Nat) : w.frozen? ⟨g, j, none⟩ = false := frozen_of_row w g j _ _ h
theorem PR.set0 {w : World} {g : Nat} {P : List M.Pl} (h : PR w g P) (i : Nat) (hi : i < P.length) (s : ByteArray) : PR (w.setCell ⟨g, i * 2, none⟩ (.string s)) g (P.set i (s, P[i].2)) := by
  unfold PR
  rw [heap_setCell_same w g (i * 2) _ _ _ h, ← (PC_set P i hi s).1]
  simp
theorem PR.set1 {w : World} {g : Nat} {P : List M.Pl} (h : PR w g P) (i : Nat) (hi : i < P.length) (s : ByteArray) : PR (w.setCell ⟨g, i * 2 + 1, none⟩ (.string s)) g (P.set i (P[i].1, s)) := by
  unfold PR
  rw [heap_setCell_same w g (i * 2 + 1) _ _ _ h, ← (PC_set P i hi s).2]
  simp
theorem PR.keepBut {w w' : World} {g : Nat} {P : List M.Pl} (h : PR w g P) (hb : w'.heap[g]? = w.heap[g]?) : PR w' g P := hb.trans h
theorem row4 {w : World} {k : Nat} {v0 v1 v2 v3 : Value} {t : TypeId} (h : w.heap[k]? = some (.cells #[v0, v1, v2, v3] t (0, 0))) :
    (w.cell? ⟨k, 0, none⟩ = some v0 ∧ w.cell? ⟨k, 1, none⟩ = some v1 ∧ w.cell? ⟨k, 2, none⟩ = some v2 ∧ w.cell? ⟨k, 3, none⟩ = some v3) ∧ ∀ j, w.frozen? ⟨k, j, none⟩ = false :=
  ⟨⟨by rw [cell_of_row w k 0 _ _ _ h]; rfl, by rw [cell_of_row w k 1 _ _ _ h]; rfl, by rw [cell_of_row w k 2 _ _ _ h]; rfl, by rw [cell_of_row w k 3 _ _ _ h]; rfl⟩, fun j => frozen_of_row w k j _ _ h⟩
/-- What is a device's own. -/
def fp (b g : Nat) (vl : Value) (k : Nat) : Prop := k = b ∨ k = g ∨ vl.ownBlock = some k
/-- A device that is not lost, at block b. -/
structure DI (w : World) (base b g : Nat) (vl : Value) (n : Nat) (P : List M.Pl) (ls : List Nat) : Prop where
  row : w.heap[b]? = some (.cells #[.int .i64 n, .slice (some ⟨g, 0, none⟩) n n, vl, .bool false] 74 (0, 0))
  pl : PR w g P
  len : P.length = n
  n1 : 1 ≤ n ∧ n ≤ 4096
  ok : M.Ok P
  own : w.ownsRow base 3 1 vl (M.zs ls).length (IC (M.zs ls))
  lo : M.Lo P ls
  ne : b ≠ g ∧ vl.ownBlock ≠ some b ∧ vl.ownBlock ≠ some g
  low : base ≤ b ∧ base ≤ g
theorem DI.lt {w : World} {base b g : Nat} {vl : Value} {n : Nat} {P : List M.Pl} {ls : List Nat} (h : DI w base b g vl n P ls) : b < w.heap.size := (Array.getElem?_eq_some_iff.1 h.row).1
theorem DI.mine {w : World} {base b g : Nat} {vl : Value} {n : Nat} {P : List M.Pl} {ls : List Nat} (h : DI w base b g vl n P ls) : ∀ k, fp b g vl k → base ≤ k ∧ k < w.heap.size := by
  rintro k (rfl | rfl | e)
  · exact ⟨h.low.1, h.lt⟩
  · exact ⟨h.low.2, h.pl.lt⟩
  · exact World.ownsRow.lt h.own k e
theorem DI.keepBut {w w' : World} {base b g : Nat} {vl : Value} {n : Nat} {P : List M.Pl} {ls : List Nat} (h : DI w base b g vl n P ls) (hb : ∀ k, k < w.heap.size → Yticjilpomdahbaa.fp b g vl k → w'.heap[k]? = w.heap[k]?) : DI w' base b g vl n P ls :=
  ⟨(hb b h.lt (.inl rfl)).trans h.row, (hb g h.pl.lt (.inr (.inl rfl))).trans h.pl, h.len, h.n1, h.ok, owns_keepBut h.own (fun k hk e => hb k hk (.inr (.inr e))), h.lo, h.ne, h.low⟩
theorem DI.keep {w w' : World} {base b g : Nat} {vl : Value} {n : Nat} {P : List M.Pl} {ls : List Nat} (h : DI w base b g vl n P ls) (hb : Below w.heap.size w w') : DI w' base b g vl n P ls := h.keepBut fun k hk _ => hb.block k hk
theorem DI.lsn {w : World} {base b g : Nat} {vl : Value} {n : Nat} {P : List M.Pl} {ls : List Nat} (h : DI w base b g vl n P ls) : ls.length ≤ 4096 := by
  have h1 := h.lo.len
  have h2 := h.len
  have h3 := h.n1
  omega
/-- What has become of a device whose own were F, and now are G: nothing else has changed. -/
structure Ch (w : World) (F : Nat → Prop) (w' : World) (G : Nat → Prop) : Prop where
  os : w'.os = w.os
  tape : w'.tape = w.tape
  output : w'.output = w.output
  size : w.heap.size ≤ w'.heap.size
  block : ∀ k, k < w.heap.size → ¬ F k → w'.heap[k]? = w.heap[k]?
  n : ∀ k, G k → F k ∨ w.heap.size ≤ k
theorem Ch.refl (w : World) (F : Nat → Prop) : Ch w F w F := ⟨rfl, rfl, rfl, Nat.le_refl _, fun _ _ _ => rfl, fun k h => .inl h⟩
theorem Ch.ofBelow {w w1 : World} {F : Nat → Prop} (h : Below w.heap.size w w1) : Ch w F w1 F := ⟨h.os, h.tape, h.output, h.size, fun k hk _ => h.block k hk, fun k h => .inl h⟩
theorem Ch.trans {w w1 w2 : World} {F G H : Nat → Prop} (h : Ch w F w1 G) (k : Ch w1 G w2 H) : Ch w F w2 H := by
  refine ⟨k.os.trans h.os, k.tape.trans h.tape, k.output.trans h.output, Nat.le_trans h.size k.size, fun c hc hF => ?_, fun c hc => ?_⟩
  · rw [k.block c (Nat.lt_of_lt_of_le hc h.size) (fun e => by
      rcases h.n c e with h' | h'
      · exact hF h'
      · omega)]
    exact h.block c hc hF
  · rcases k.n c hc with h' | h'
    · exact h.n c h'
    · exact .inr (Nat.le_trans h.size h')
theorem Ch.below {B : Nat} {w w1 : World} {F G : Nat → Prop} (h : Ch w F w1 G) (hF : ∀ k, F k → B ≤ k) (hB : B ≤ w.heap.size) : Below B w w1 :=
  ⟨h.os, h.tape, h.output, h.size, fun k hk => h.block k (by omega) (fun e => by have := hF k e; omega)⟩
/-- A cell of one's own is set. -/
theorem Ch.cell {w : World} {F : Nat → Prop} (k j : Nat) (v : Value) (hk : F k) : Ch w F (w.setCell ⟨k, j, none⟩ v) F :=
  ⟨rfl, rfl, rfl, by simp, fun c _ hc => heap_setCell_other w ⟨k, j, none⟩ c v (fun e => hc (by rw [e]; exact hk)), fun c h => .inl h⟩

set_option maxHeartbeats 1000000 in
theorem refused_any (b : Nat) (n : Nat) (v1 v2 : Value) (lost : Bool) (at' m : Int) (w : World) (h : w.heap[b]? = some (.cells #[.int .i64 n, v1, v2, .bool lost] 74 (0, 0))) (hn : n ≤ 4096) (hm : m ≤ 9223372036854775807) :
    Calls Try.prog 31 #[.pointer (some ⟨b, 0, none⟩), .int .i64 at', .int .i64 m] w fun e w' => e = .returned (.int .i64 (M.refused n lost at' m)) ∧ w' = w := by
  obtain ⟨⟨c0, _, _, c3⟩, _⟩ := row4 h
  clear h
  unfold M.refused
  cases h1 : decide (at' < 0) with
  | true =>
    go_enter Try.func31, Try.ntmps31
    go_wp2
    go_ret
    exact ⟨rfl, rfl⟩
  | false =>
    cases h2 : decide (m < 1) with
    | true =>
      go_enter Try.func31, Try.ntmps31
      go_wp2
      go_ret
      exact ⟨rfl, rfl⟩
    | false =>
      have hm1 : 1 ≤ m := by simpa using h2
      have hwr : IntKind.i64.wrap ((n : Int) - m) = (n : Int) - m := by rw [IntKind.wrap_i64]; omega
      cases h3 : decide (at' > (n : Int) - m) with
      | true =>
        have h3' : decide ((n : Int) - m < at') = true := h3
        go_enter Try.func31, Try.ntmps31
        go_wp2
        go_ret
        exact ⟨rfl, rfl⟩
      | false =>
        have h3' : decide ((n : Int) - m < at') = false := h3
        cases lost with
        | true =>
          go_enter Try.func31, Try.ntmps31
          go_wp2
          go_ret
          exact ⟨rfl, rfl⟩
        | false =>
          go_enter Try.func31, Try.ntmps31
          go_wp2
          go_ret
          exact ⟨rfl, rfl⟩
end Go.Proofs.Yticjilpomdahbaa
