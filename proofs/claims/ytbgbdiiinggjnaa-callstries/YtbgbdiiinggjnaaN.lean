/-
  Timers in memory; what is due first; one is set no more.
-/
import Derived.Test.YtbgbdiiinggjnaaC
import Derived.Test.YtbgbdiiinggjnaaD
import Derived.Test.YtbgbdiiinggjnaaJ
namespace Go.Proofs.Ytbgbdiiinggjnaa
open Go.RowKit
set_option linter.unusedVariables false
open M (E)

/-- Timers at block b. -/
structure XI (w : World) (base b : Nat) (v : Value) (P : List E) : Prop where
  row : w.heap[b]? = some (.cells #[v] 90 (0, 0))
  own : Own w base v P
  ne : v.ownBlock ≠ some b
  g : M.G P
theorem XI.lt {w : World} {base b : Nat} {v : Value} {P : List E} (h : XI w base b v P) : b < w.heap.size := (Array.getElem?_eq_some_iff.1 h.row).1
theorem XI.c0 {w : World} {base b : Nat} {v : Value} {P : List E} (h : XI w base b v P) : w.cell? ⟨b, 0, none⟩ = some v := by rw [cell_of_row w b 0 _ _ _ h.row]; rfl
theorem XI.free {w : World} {base b : Nat} {v : Value} {P : List E} (h : XI w base b v P) (j : Nat) : w.frozen? ⟨b, j, none⟩ = false := frozen_of_row w b j _ _ h.row
theorem XI.keep {w w' : World} {base b : Nat} {v : Value} {P : List E} (h : XI w base b v P) (hb : Below w.heap.size w w') : XI w' base b v P :=
  ⟨(hb.block b h.lt).trans h.row, h.own.keep hb, h.ne, h.g⟩
theorem XI.keepBut {w w' : World} {base b : Nat} {v : Value} {P : List E} (h : XI w base b v P) (hb : ∀ k, k < w.heap.size → k = b ∨ v.ownBlock = some k → w'.heap[k]? = w.heap[k]?) : XI w' base b v P :=
  ⟨(hb b h.lt (.inl rfl)).trans h.row, h.own.keepBut (fun k hk e => hb k hk (.inr e)), h.ne, h.g⟩
theorem XI.len {w : World} {base b : Nat} {v : Value} {P : List E} (h : XI w base b v P) : P.length ≤ 64 := h.g.n
theorem XI.lows {w : World} {base base' b : Nat} {v : Value} {P : List E} (h : XI w base b v P) (hb : base' ≤ base) : XI w base' b v P := ⟨h.row, h.own.low hb, h.ne, h.g⟩
/-- What has become of timers: nothing else has changed; their row lies where it lay, or in new memory. -/
structure Ch (w : World) (b : Nat) (v : Value) (w' : World) (v' : Value) : Prop where
  os : w'.os = w.os
  tape : w'.tape = w.tape
  output : w'.output = w.output
  size : w.heap.size ≤ w'.heap.size
  block : ∀ k, k < w.heap.size → k ≠ b → v.ownBlock ≠ some k → w'.heap[k]? = w.heap[k]?
  n : ∀ k, v'.ownBlock = some k → v.ownBlock = some k ∨ w.heap.size ≤ k
theorem Ch.refl (w : World) (b : Nat) (v : Value) : Ch w b v w v := ⟨rfl, rfl, rfl, Nat.le_refl _, fun _ _ _ _ => rfl, fun k h => .inl h⟩
theorem Ch.ofBelow {w w1 : World} {b : Nat} {v : Value} (h : Below w.heap.size w w1) : Ch w b v w1 v := ⟨h.os, h.tape, h.output, h.size, fun k hk _ _ => h.block k hk, fun k h => .inl h⟩
theorem Ch.trans {w w1 w2 : World} {b : Nat} {v v1 v2 : Value} (h : Ch w b v w1 v1) (k : Ch w1 b v1 w2 v2) : Ch w b v w2 v2 := by
  refine ⟨k.os.trans h.os, k.tape.trans h.tape, k.output.trans h.output, Nat.le_trans h.size k.size, fun c hc hb hv => ?_, fun c hc => ?_⟩
  · rw [k.block c (Nat.lt_of_lt_of_le hc h.size) hb (fun e => by
      rcases h.n c e with h' | h'
      · exact hv h'
      · omega)]
    exact h.block c hc hb hv
  · rcases k.n c hc with h' | h'
    · exact h.n c h'
    · exact .inr (Nat.le_trans h.size h')
theorem Ch.below {B : Nat} {w w1 : World} {b : Nat} {v v1 : Value} (h : Ch w b v w1 v1) (hb : B ≤ b) (hv : ∀ k, v.ownBlock = some k → B ≤ k) (hB : B ≤ w.heap.size) : Below B w w1 :=
  ⟨h.os, h.tape, h.output, h.size, fun k hk => h.block k (by omega) (by omega) (fun e => by have := hv k e; omega)⟩
theorem XI.low {w : World} {base b : Nat} {v : Value} {P : List E} (h : XI w base b v P) : ∀ k, v.ownBlock = some k → base ≤ k ∧ k < w.heap.size := fun k hk => World.ownsRow.lt h.own k hk
/-- A new row in the place of the old one. -/
theorem XI.put {w w1 : World} {base b : Nat} {v v' : Value} {P P' : List E} (h : XI w base b v P) (hr : Rw w v w1 v') (ho : Own w1 base v' P') (hg : M.G P') : XI (w1.setCell ⟨b, 0, none⟩ v') base b v' P' ∧ Ch w b v (w1.setCell ⟨b, 0, none⟩ v') v' := by
  have hrow : w1.heap[b]? = some (.cells #[v] 90 (0, 0)) := (hr.g.block b h.lt (fun e => h.ne e.symm)).trans h.row
  have hne : v'.ownBlock ≠ some b := by
    intro e
    rcases hr.n b e with h' | h'
    · exact h.ne h'
    · have := h.lt; omega
  have hgr : w1.grownBy (w1.setCell ⟨b, 0, none⟩ v') (some b) := ⟨rfl, rfl, rfl, by simp, fun k hk hne => heap_setCell_other w1 ⟨b, 0, none⟩ k _ (fun e => hne (by rw [e]))⟩
  refine ⟨⟨heap_setCell_same w1 b 0 _ _ _ hrow, World.ownsRow.kept ho hgr (.inr hne), hne, hg⟩, ⟨hr.g.os, hr.g.tape, hr.g.output, Nat.le_trans hr.g.size hgr.size, fun k hk hb hv => ?_, hr.n⟩⟩
  rw [hgr.block k (Nat.lt_of_lt_of_le hk hr.g.size) (by simp; omega)]
  exact hr.g.block k hk (fun e => hv e.symm)
theorem XI.c1 {w w1 : World} {base b : Nat} {v v' : Value} {P : List E} (h : XI w base b v P) (hr : Rw w v w1 v') : w1.cell? ⟨b, 0, none⟩ = some v ∧ w1.frozen? ⟨b, 0, none⟩ = false := by
  have hrow : w1.heap[b]? = some (.cells #[v] 90 (0, 0)) := (hr.g.block b h.lt (fun e => h.ne e.symm)).trans h.row
  exact ⟨by rw [cell_of_row w1 b 0 _ _ _ hrow]; rfl, frozen_of_row w1 b 0 _ _ hrow⟩
/-- What a call leaves. -/
def ChOut (w : World) (base b : Nat) (v : Value) (P' : List E) (r : Value) (e : Ending) (w' : World) : Prop := ∃ v', e = .returned r ∧ XI w' base b v' P' ∧ Ch w b v w' v'

theorem new_any (w : World) : Calls Try.prog 25 #[] w fun e w' => e = .returned (.pointer (some ⟨w.heap.size, 0, none⟩)) ∧ XI w' w.heap.size w.heap.size (.slice none 0 0) [] ∧ Below w.heap.size w w' := by
  have HX : Hid (XI (w.alloc (.cells #[.slice none 0 0] 90)) w.heap.size w.heap.size (.slice none 0 0) []) := ⟨heap_alloc_last w _, Own.nil _ _, by simp [Value.ownBlock], M.G.nil⟩
  have HB : Hid (Below w.heap.size w (w.alloc (.cells #[.slice none 0 0] 90))) := bel1 w _
  go_enter Try.func25, Try.ntmps25
  go_wp2
  go_ret
  exact ⟨rfl, HX.out, HB.out⟩
/-- The first as a value. -/
def hdV : List E → Value
  | [] => .agg #[.int .i64 0, .int .i64 0]
  | p :: _ => .agg #[.int .i64 p.i, .int .i64 p.t]
def hdB : List E → Bool
  | [] => false
  | _ :: _ => true
theorem f75_res : Try.f75.results = #[.cell 2 93, .tmp 3] := rfl
theorem res_cell_tmp {fn : Func} {p u : Tmp} (h : fn.results = #[.cell p 93, .tmp u]) (tmps : Array Value) (w : World) (g : Nat) (v0 v1 : Value) (hp : tmps.getD p undef = .pointer (some ⟨g, 0, none⟩)) (hg : w.heap[g]? = some (.cells #[v0, v1] 93 (0, 0))) :
    (results fn tmps).run Try.prog w = .ok (.tuple #[.agg #[v0, v1], tmps.getD u undef]) w := by
  have hp' : tmps[p]?.getD undef = .pointer (some ⟨g, 0, none⟩) := by simpa using hp
  rw [results_cell_tmp h]
  simp [asAddr, hp', run_loadVar_row w g 93 93 #[v0, v1] (0, 0) _ hg Try.underlying93 rfl Try.size93]
set_option maxHeartbeats 1000000 in
theorem first_any (base b : Nat) (v : Value) (P : List E) (w : World) (h : XI w base b v P) : Calls Try.prog 75 #[.pointer (some ⟨b, 0, none⟩)] w fun e w' => e = .returned (.tuple #[hdV P, .bool (hdB P)]) ∧ Below w.heap.size w w' := by
  obtain ⟨a, cap, rfl, hat, _⟩ := h.own.at
  have HB : Hid (∀ x y : Value, Below w.heap.size w (w.alloc (.cells #[x, y] 93))) := fun x y => bel1 w _
  have HL : Hid (∀ x y : Value, (w.alloc (.cells #[x, y] 93)).heap[w.heap.size]? = some (.cells #[x, y] 93 (0, 0))) := fun x y => heap_alloc_last w _
  have c0 := (h.keep (HB.out (.int .i64 0) (.int .i64 0))).c0
  cases P with
  | nil =>
    simp only [List.length_nil] at *
    clear h hat
    go_enter Try.func75, Try.ntmps75
    go_wp2
    refine bodyPost_ret (v := .tuple #[.agg #[.int .i64 0, .int .i64 0], .bool false]) ?_ rfl ⟨rfl, HB.out _ _⟩
    exact res_cell_tmp f75_res _ _ w.heap.size _ _ rfl (HL.out _ _)
  | cons p r =>
    obtain ⟨bb, off, rfl, d0, d1⟩ := (hat.keep (HB.out (.int .i64 0) (.int .i64 0))) 0 (by simp)
    simp only [List.length_cons, List.getElem_cons_zero, Nat.zero_mul, Nat.add_zero] at *
    have hz : ((r.length : Int) + 1 == 0) = false := by simp; omega
    clear h hat
    go_enter Try.func75, Try.ntmps75
    go_wp2
    refine bodyPost_ret (v := .tuple #[.agg #[.int .i64 p.i, .int .i64 p.t], .bool true]) ?_ rfl ⟨rfl, HB.out _ _⟩
    exact res_cell_tmp f75_res _ _ w.heap.size _ _ rfl (HL.out _ _)
set_option maxHeartbeats 1000000 in
theorem take_any (base b : Nat) (v : Value) (p : E) (r : List E) (w : World) (hb : base ≤ w.heap.size) (h : XI w base b v (p :: r)) : Calls Try.prog 76 #[.pointer (some ⟨b, 0, none⟩)] w (ChOut w base b v r (.tuple #[])) := by
  have c0 := h.c0
  have HX := Hid_of h
  have hlen := h.len
  rcases h.own.row with ⟨_, h0⟩ | ⟨g, cap, cur, rfl, hbg, hr⟩
  · cases h0
  · have hd := delete_row 0 hbg hr (by simp) (by omega)
    simp only [List.take_zero, List.drop_succ_cons, List.drop_zero, List.nil_append, List.length_cons] at hd c0 HX ⊢
    clear hr h hlen
    go_enter Try.func76, Try.ntmps76
    go_wp2_with fail
    refine hd.mono ?_
    rintro e w1 ⟨v', rfl, o1, r1⟩
    obtain ⟨d0, d1⟩ := HX.out.c1 r1
    obtain ⟨h1, h2⟩ := HX.out.put r1 o1 HX.out.g.tail
    have H1 := Hid_of h1
    have H2 := Hid_of h2
    obtain ⟨a', cap', rfl, _⟩ := o1.at
    clear h1 h2 hd o1 r1
    go_wp2
    go_end0
    exact ⟨_, rfl, H1.out, H2.out⟩
end Go.Proofs.Ytbgbdiiinggjnaa
