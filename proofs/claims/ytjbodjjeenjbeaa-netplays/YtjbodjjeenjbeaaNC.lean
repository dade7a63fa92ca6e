/-
  A net in memory: what it is; whether something is a node, how many are under way, which one is meant, which link.
-/
import Derived.Test.YtjbodjjeenjbeaaNB
namespace Go.Proofs.Ytjbodjjeenjbeaa
open Go.RowKit
set_option linter.unusedVariables false
open Nt (Pk)

/-- What is a net's own. -/
def fp (b m : Nat) (v : Value) (k : Nat) : Prop := k = b ∨ k = m ∨ v.ownBlock = some k
/-- A net at block b: its nodes, what is under way, which links are cut. -/
structure NI (w : World) (base b m : Nat) (v : Value) (n : Nat) (N : Int) (L : List Pk) (C : Int → Int → Bool) : Prop where
  row : w.heap[b]? = some (.cells #[.int .i64 N, v, .map (some m)] 61 (0, 0))
  own : OwnP 73 w base v L
  mi : MI w m n C
  ok : Nt.Ok L
  nn : 1 ≤ N ∧ N ≤ 64
  ne : v.ownBlock ≠ some b ∧ v.ownBlock ≠ some m
  low : base ≤ b ∧ base ≤ m
/-- What has become of something whose own were F, and now are G: nothing else has changed. -/
structure Ch (w : World) (F : Nat → Prop) (w' : World) (G : Nat → Prop) : Prop where
  os : w'.os = w.os
  tape : w'.tape = w.tape
  output : w'.output = w.output
  size : w.heap.size ≤ w'.heap.size
  block : ∀ k, k < w.heap.size → ¬ F k → w'.heap[k]? = w.heap[k]?
  n : ∀ k, G k → F k ∨ w.heap.size ≤ k
theorem Ch.refl (w : World) (F : Nat → Prop) : Ch w F w F := ⟨rfl, rfl, rfl, Nat.le_refl _, fun _ _ _ => rfl, fun k h => .inl h⟩
theorem Ch.ofBelow {w w1 : World} {F : Nat → Prop} (h : Below w.heap.size w w1) : Ch w F w1 F := ⟨h.os, h.tape, h.output, h.size, fun k hk _ => h.block k hk, fun k h => .inl h⟩
theorem Ch.trans {w w1 w2 : World} {F G H : Nat → Prop} (h : Ch w F w1 G) (k : Ch w1 G w2 H) : Ch w F w2 H := by
  refine ⟨k.os.trans h.os, k.tape.trans h.tape, k.output.trans h.output, Nat.le_trans h.size k.size, fun c hc hF => ?_, fun c hc => ?_⟩
  · rw [k.block c (Nat.lt_of_lt_of_le hc h.size) (fun e => by
      rcases h.n c e with h' | h'
      · exact hF h'
      · omega)]
    exact h.block c hc hF
  · rcases k.n c hc with h' | h'
    · exact h.n c h'
    · exact .inr (Nat.le_trans h.size h')
theorem Ch.below {B : Nat} {w w1 : World} {F G : Nat → Prop} (h : Ch w F w1 G) (hF : ∀ k, F k → B ≤ k) (hB : B ≤ w.heap.size) : Below B w w1 :=
  ⟨h.os, h.tape, h.output, h.size, fun k hk => h.block k (by omega) (fun e => by have := hF k e; omega)⟩
theorem Ch.drew {w w1 : World} {F G : Nat → Prop} (h : Ch w F w1 G) : Ch w F w1.drew G := ⟨h.os, h.tape, h.output, h.size, h.block, h.n⟩
section
variable {w w' : World} {base base' b m : Nat} {v v' : Value} {n : Nat} {N : Int} {L L' : List Pk} {C : Int → Int → Bool}
theorem NI.lt (h : NI w base b m v n N L C) : b < w.heap.size := (Array.getElem?_eq_some_iff.1 h.row).1
theorem NI.bm (h : NI w base b m v n N L C) : b ≠ m := h.mi.ne h.row
theorem NI.mine (h : NI w base b m v n N L C) : ∀ k, fp b m v k → base ≤ k ∧ k < w.heap.size := by
  rintro k (rfl | rfl | e)
  · exact ⟨h.low.1, h.lt⟩
  · exact ⟨h.low.2, h.mi.lt⟩
  · exact h.own.lt e
theorem NI.keepBut (h : NI w base b m v n N L C) (hb : ∀ k, k < w.heap.size → fp b m v k → w'.heap[k]? = w.heap[k]?) : NI w' base b m v n N L C :=
  ⟨(hb b h.lt (.inl rfl)).trans h.row, h.own.keepBut (fun k hk e => hb k hk (.inr (.inr e))), h.mi.keep (hb m h.mi.lt (.inr (.inl rfl))), h.ok, h.nn, h.ne, h.low⟩
theorem NI.keep (h : NI w base b m v n N L C) (hb : Below w.heap.size w w') : NI w' base b m v n N L C := h.keepBut fun k hk _ => hb.block k hk
theorem NI.cells (h : NI w base b m v n N L C) : (w.cell? ⟨b, 0, none⟩ = some (.int .i64 N) ∧ w.cell? ⟨b, 1, none⟩ = some v ∧ w.cell? ⟨b, 2, none⟩ = some (.map (some m))) ∧ ∀ j, w.frozen? ⟨b, j, none⟩ = false := rw3 h.row
theorem NI.row1 (h : NI w base b m v n N L C) (hr : Rw w v w' v') : w'.heap[b]? = some (.cells #[.int .i64 N, v, .map (some m)] 61 (0, 0)) := (hr.g.block b h.lt (fun e => h.ne.1 e.symm)).trans h.row
/-- A new row in the place of the old one. -/
theorem NI.put (h : NI w base b m v n N L C) (hr : Rw w v w' v') (ho : OwnP 73 w' base v' L') (hok : Nt.Ok L') : NI (w'.setCell ⟨b, 1, none⟩ v') base b m v' n N L' C ∧ Ch w (fp b m v) (w'.setCell ⟨b, 1, none⟩ v') (fp b m v') := by
  have hrow := h.row1 hr
  have hne : ∀ k, (k = b ∨ k = m) → v'.ownBlock ≠ some k := by
    intro k hk e
    rcases hr.n k e with h' | h'
    · rcases hk with rfl | rfl
      · exact h.ne.1 h'
      · exact h.ne.2 h'
    · have h1 := h.lt
      have h2 := h.mi.lt
      rcases hk with rfl | rfl <;> omega
  have hbm := h.bm
  have hm : w'.heap[m]? = w.heap[m]? := hr.g.block m h.mi.lt (fun e => h.ne.2 e.symm)
  have hgr : w'.grownBy (w'.setCell ⟨b, 1, none⟩ v') (some b) := ⟨rfl, rfl, rfl, by simp, fun k hk hne => heap_setCell_other w' ⟨b, 1, none⟩ k _ (fun e => hne (by rw [e]))⟩
  refine ⟨⟨heap_setCell_same w' b 1 _ _ _ hrow, World.ownsRow.kept ho hgr (.inr (hne b (.inl rfl))), h.mi.keep ((heap_setCell_other w' ⟨b, 1, none⟩ m _ (fun e => hbm e.symm)).trans hm), hok, h.nn, ⟨hne b (.inl rfl), hne m (.inr rfl)⟩, h.low⟩, ⟨hr.g.os, hr.g.tape, hr.g.output, Nat.le_trans hr.g.size hgr.size, fun k hk hF => ?_, fun k hk => ?_⟩⟩
  · rw [hgr.block k (Nat.lt_of_lt_of_le hk hr.g.size) (by intro e; simp at e; exact hF (.inl e))]
    exact hr.g.block k hk (fun e => hF (.inr (.inr e.symm)))
  · rcases hk with rfl | rfl | e
    · exact .inl (.inl rfl)
    · exact .inl (.inr (.inl rfl))
    · rcases hr.n k e with h' | h'
      · exact .inl (.inr (.inr h'))
      · exact .inr h'
/-- What a call leaves. -/
def NOut (w : World) (base b m : Nat) (v : Value) (n : Nat) (N : Int) (L' : List Pk) (C : Int → Int → Bool) (r : Value) (e : Ending) (w' : World) : Prop := ∃ v', e = .returned r ∧ NI w' base b m v' n N L' C ∧ Ch w (fp b m v) w' (fp b m v')
end
theorem emod_of_tmod (i : Int) (n : Nat) (h : 0 < n) : (0 ≤ i.tmod n ∧ i.tmod n = i % n) ∨ (i.tmod n < 0 ∧ i.tmod n + n = i % n) := by
  have h1 := Int.emod_nonneg i (show (n : Int) ≠ 0 by omega)
  have h2 := Int.emod_lt_of_pos i (show (0 : Int) < (n : Int) by omega)
  have h3 := Int.tmod_eq_emod (a := i) (b := n)
  rw [h3]
  split
  · left; omega
  · rename_i hn
    have hnd : ¬ ((n : Int) ∣ i) := fun hd => hn (.inr hd)
    have : i % (n : Int) ≠ 0 := fun e => hnd (Int.dvd_of_emod_eq_zero e)
    right
    omega
set_option maxHeartbeats 400000 in
theorem wrap_any (i : Int) (n : Nat) (h : 0 < n) (hn : n ≤ 1000000) (w : World) : Calls Try.prog 40 #[.int .i64 i, .int .i64 n] w fun e w' => e = .returned (.int .i64 (Nt.wr i n)) ∧ w' = w := by
  have hw := Nt.wr_int i h
  have hl := Nt.wr_lt i h
  rw [hw]
  have d0 : ((n : Int) == 0) = false := by simp; omega
  have d1 : ((n : Int) = 0) = False := by simp; omega
  have ht := Int.tmod_lt_of_pos i (show (0 : Int) < n by omega)
  have ht2 := Int.lt_tmod_of_pos i (show (0 : Int) < n by omega)
  have hwr : IntKind.i64.wrap (i.tmod n) = i.tmod n := by rw [IntKind.wrap_i64]; omega
  rcases emod_of_tmod i n h with ⟨h1, h2⟩ | ⟨h1, h2⟩
  · have d2 : decide (i % (n : Int) < 0) = false := decide_eq_false (by omega)
    go_enter Try.func40, Try.ntmps40
    go_wp2
    go_ret
    exact ⟨rfl, rfl⟩
  · have d2 : decide (i.tmod n < 0) = true := decide_eq_true h1
    have hwq : wrap64 (i.tmod n + n) = i.tmod n + n := by unfold wrap64; omega
    go_enter Try.func40, Try.ntmps40
    go_wp2
    go_ret
    exact ⟨rfl, rfl⟩
set_option maxHeartbeats 400000 in
theorem between_any (x y : Int) (w : World) : Calls Try.prog 29 #[.int .i64 x, .int .i64 y] w fun e w' => e = .returned (kv (min x y) (max x y)) ∧ Below w.heap.size w w' := by
  have HB := Hid_of (fun u v : Value => bel1 w (.cells #[u, v] 70))
  have HR := Hid_of (fun u v : Value => heap_alloc_new w (.cells #[u, v] 70))
  go_enter Try.func29, Try.ntmps29
  go_wp2
  refine bodyPost_ret (v := kv (min x y) (max x y)) ?_ rfl ⟨rfl, HB.out _ _⟩
  exact results_cell_row (show Try.f29.results = #[.cell 4 70] from rfl) _ _ w.heap.size 70 _ (0, 0) _ rfl (HR.out _ _) Try.underlying70 rfl (by kernel_rfl)
set_option maxHeartbeats 400000 in
theorem has_any {w : World} {base b m : Nat} {v : Value} {n : Nat} {N : Int} {L : List Pk} {C : Int → Int → Bool} (h : NI w base b m v n N L C) (a : Int) : Calls Try.prog 26 #[.pointer (some ⟨b, 0, none⟩), .int .i64 a] w fun e w' => e = .returned (.bool (Nt.node N a)) ∧ w' = w := by
  obtain ⟨⟨c0, c1, c2⟩, _⟩ := h.cells
  clear h
  cases h1 : decide (0 ≤ a) with
  | true =>
    have HN : Hid (Nt.node N a = decide (a < N)) := Hid_of (show Nt.node N a = decide (a < N) by unfold Nt.node; rw [h1]; rfl)
    go_enter Try.func26, Try.ntmps26
    go_wp2
    go_ret
    rw [HN.out]
    exact ⟨rfl, rfl⟩
  | false =>
    have HN : Hid (Nt.node N a = false) := Hid_of (show Nt.node N a = false by unfold Nt.node; rw [h1]; rfl)
    go_enter Try.func26, Try.ntmps26
    go_wp2
    go_ret
    rw [HN.out]
    exact ⟨rfl, rfl⟩
theorem has_nil (a : Int) (w : World) : Calls Try.prog 26 #[.pointer none, .int .i64 a] w fun e w' => e = .returned (.bool false) ∧ w' = w := by
  go_enter Try.func26, Try.ntmps26
  go_wp2
  go_ret
  exact ⟨rfl, rfl⟩
theorem waiting_any {w : World} {base b m : Nat} {v : Value} {n : Nat} {N : Int} {L : List Pk} {C : Int → Int → Bool} (h : NI w base b m v n N L C) : Calls Try.prog 23 #[.pointer (some ⟨b, 0, none⟩)] w fun e w' => e = .returned (.int .i64 L.length) ∧ w' = w := by
  obtain ⟨a, cap, rfl, _⟩ := h.own.at
  obtain ⟨⟨c0, c1, c2⟩, _⟩ := h.cells
  clear h
  go_enter Try.func23, Try.ntmps23
  go_wp2
  go_ret
  exact ⟨rfl, rfl⟩
theorem waiting_nil (w : World) : Calls Try.prog 23 #[.pointer none] w fun e w' => e = .returned (.int .i64 0) ∧ w' = w := by
  go_enter Try.func23, Try.ntmps23
  go_wp2
  go_ret
  exact ⟨rfl, rfl⟩
end Go.Proofs.Ytjbodjjeenjbeaa
