import Derived.Test.YtlnedgjikkhplaaGreatGP16
set_option maxRecDepth 100000
set_option maxHeartbeats 8000000
set_option linter.unusedVariables false
set_option linter.unusedSimpArgs false
namespace Go.Proofs.YtlnedgjikkhplaaGreat.Du
open Go.RowKit
open Na (Fr AS XL vl bV vV Hf bel1 bel2 Bu Br row2 row4 blk OwnL AtL)
open Na.M (E V S S0)
open Ns.M (ofL)
theorem Tryz.size97 : (Tryz.prog.info? 97).map (·.size) = some 6 := by kernel_rfl
abbrev rcs : R → Array Value
 | .inl b => #[.int .i64 1, .int .i64 0, .int .i64 b.i, .int .i64 b.t, .string ⟨#[]⟩, .int .i64 0]
 | .inr (.inl v) => #[.int .i64 2, .int .i64 v.s, .int .i64 v.b.i, .int .i64 v.b.t, .string v.v, .int .i64 0]
 | .inr (.inr u) => #[.int .i64 3, .int .i64 0, .int .i64 0, .int .i64 0, .string ⟨#[]⟩, .int .i64 u]
abbrev rV (r : R) : Value := .agg (rcs r)
theorem row6 {w : World} {k : Nat} {v0 v1 v2 v3 v4 v5 : Value} {t : TypeId} (h : w.heap[k]? = some (.cells #[v0, v1, v2, v3, v4, v5] t (0, 0))) :
  (w.cell? ⟨k, 0, none⟩ = some v0 ∧ w.cell? ⟨k, 1, none⟩ = some v1 ∧ w.cell? ⟨k, 2, none⟩ = some v2 ∧ w.cell? ⟨k, 3, none⟩ = some v3 ∧ w.cell? ⟨k, 4, none⟩ = some v4 ∧ w.cell? ⟨k, 5, none⟩ = some v5) ∧ ∀ j, w.frozen? ⟨k, j, none⟩ = false :=
 ⟨⟨by rw [cell_of_row w k 0 _ _ _ h]; rfl, by rw [cell_of_row w k 1 _ _ _ h]; rfl, by rw [cell_of_row w k 2 _ _ _ h]; rfl, by rw [cell_of_row w k 3 _ _ _ h]; rfl, by rw [cell_of_row w k 4 _ _ _ h]; rfl, by rw [cell_of_row w k 5 _ _ _ h]; rfl⟩, fun j => frozen_of_row w k j _ _ h⟩
def put6 (w : World) (g : Nat) (a b c d e f : Value) : World := (((((w.setCell ⟨g, 0, none⟩ a).setCell ⟨g, 1, none⟩ b).setCell ⟨g, 2, none⟩ c).setCell ⟨g, 3, none⟩ d).setCell ⟨g, 4, none⟩ e).setCell ⟨g, 5, none⟩ f
theorem put6_row {w : World} {g : Nat} {t : TypeId} {v0 v1 v2 v3 v4 v5 : Value} (h : w.heap[g]? = some (.cells #[v0, v1, v2, v3, v4, v5] t (0, 0))) (a b c d e f : Value) : (put6 w g a b c d e f).heap[g]? = some (.cells #[a, b, c, d, e, f] t (0, 0)) :=
 heap_setCell_same _ g 5 _ _ _ (heap_setCell_same _ g 4 _ _ _ (heap_setCell_same _ g 3 _ _ _ (heap_setCell_same _ g 2 _ _ _ (heap_setCell_same _ g 1 _ _ _ (heap_setCell_same w g 0 _ _ _ h)))))
theorem put6_bel {w0 w : World} {B g : Nat} (h : Below B w0 w) (hg : B ≤ g) (a b c d e f : Value) : Below B w0 (put6 w g a b c d e f) := (((((h.setCell hg _).setCell hg _).setCell hg _).setCell hg _).setCell hg _).setCell hg _
theorem put6_oth {w : World} {g k : Nat} (h : k ≠ g) (a b c d e f : Value) : (put6 w g a b c d e f).heap[k]? = w.heap[k]? := by
 unfold put6; rw [heap_setCell_other _ ⟨g, 5, none⟩ k _ h, heap_setCell_other _ ⟨g, 4, none⟩ k _ h, heap_setCell_other _ ⟨g, 3, none⟩ k _ h, heap_setCell_other _ ⟨g, 2, none⟩ k _ h, heap_setCell_other _ ⟨g, 1, none⟩ k _ h, heap_setCell_other _ ⟨g, 0, none⟩ k _ h]
theorem f59_res : Tryz.f59.results = #[.cell 2 97] := rfl
theorem promiseRecord_any (b : E) (w : World) : Calls Tryz.prog 59 #[bV b] w fun e w' => e = .returned (rV (.pr b)) ∧ Below w.heap.size w w' := by
 obtain ⟨W1, HW1⟩ := Nh ((w.alloc (.cells #[.int .i64 b.i, .int .i64 b.t] 36)).alloc (.cells #[.int .i64 0, .int .i64 0, .int .i64 0, .int .i64 0, .string ⟨#[]⟩, .int .i64 0] 97))
 have HB1 : Hid (Below w.heap.size w W1) := by rw [← HW1.out]; exact bel2 w _ _
 have hs1 : W1.heap.size = w.heap.size + 2 := by rw [← HW1.out]; simp
 have hr1 : W1.heap[w.heap.size]? = some (.cells #[.int .i64 b.i, .int .i64 b.t] 36 (0, 0)) := by rw [← HW1.out]; exact heap_alloc2_old w _ _
 have hr2 : W1.heap[w.heap.size + 1]? = some (.cells #[.int .i64 0, .int .i64 0, .int .i64 0, .int .i64 0, .string ⟨#[]⟩, .int .i64 0] 97 (0, 0)) := by rw [← HW1.out]; exact heap_alloc2_new w _ _
 have HR2 := Hf hr2
 obtain ⟨⟨c0, c1⟩, _⟩ := row2 hr1
 obtain ⟨_, yf⟩ := row6 hr2
 have g0 := yf 0
 have g1 := yf 1
 have g2 := yf 2
 have g3 := yf 3
 have g4 := yf 4
 have g5 := yf 5
 clear hr2 yf hr1
 go_enter Tryz.func59, Tryz.ntmps59
 go_upto_region 1 with fail
 rw [HW1.out]; clear HW1; go_wp2
 refine bodyPost_ret (v := rV (.pr b)) ?_ rfl ⟨rfl, put6_bel HB1.out (Nat.le_succ _) _ _ _ _ _ _⟩
 exact results_cell_row f59_res _ _ (w.heap.size + 1) 97 _ (0, 0) _ rfl (put6_row (w := W1) HR2.out _ _ _ _ _ _) Tryz.underlying97 rfl Tryz.size97
theorem f64_res : Tryz.f64.results = #[.cell 2 97] := rfl
theorem voteRecord_any (v : V) (w : World) : Calls Tryz.prog 64 #[vV v] w fun e w' => e = .returned (rV (.vo v)) ∧ Below w.heap.size w w' := by
 obtain ⟨W1, HW1⟩ := Nh ((w.alloc (.cells #[.int .i64 v.s, .int .i64 v.b.i, .int .i64 v.b.t, .string v.v] 48)).alloc (.cells #[.int .i64 0, .int .i64 0, .int .i64 0, .int .i64 0, .string ⟨#[]⟩, .int .i64 0] 97))
 have HB1 : Hid (Below w.heap.size w W1) := by rw [← HW1.out]; exact bel2 w _ _
 have hs1 : W1.heap.size = w.heap.size + 2 := by rw [← HW1.out]; simp
 have hr1 : W1.heap[w.heap.size]? = some (.cells #[.int .i64 v.s, .int .i64 v.b.i, .int .i64 v.b.t, .string v.v] 48 (0, 0)) := by rw [← HW1.out]; exact heap_alloc2_old w _ _
 have hr2 : W1.heap[w.heap.size + 1]? = some (.cells #[.int .i64 0, .int .i64 0, .int .i64 0, .int .i64 0, .string ⟨#[]⟩, .int .i64 0] 97 (0, 0)) := by rw [← HW1.out]; exact heap_alloc2_new w _ _
 have HR2 := Hf hr2
 obtain ⟨⟨c0, c1, c2, c3⟩, _⟩ := row4 hr1
 obtain ⟨_, yf⟩ := row6 hr2
 have g0 := yf 0
 have g1 := yf 1
 have g2 := yf 2
 have g3 := yf 3
 have g4 := yf 4
 have g5 := yf 5
 clear hr2 yf hr1
 go_enter Tryz.func64, Tryz.ntmps64
 go_upto_region 1 with fail
 rw [HW1.out]; clear HW1; go_wp2
 refine bodyPost_ret (v := rV (.vo v)) ?_ rfl ⟨rfl, put6_bel HB1.out (Nat.le_succ _) _ _ _ _ _ _⟩
 exact results_cell_row f64_res _ _ (w.heap.size + 1) 97 _ (0, 0) _ rfl (put6_row (w := W1) HR2.out _ _ _ _ _ _) Tryz.underlying97 rfl Tryz.size97
theorem f66_res : Tryz.f66.results = #[.cell 2 97] := rfl
theorem trimRecord_any (u : Int) (w : World) : Calls Tryz.prog 66 #[.int .i64 u] w fun e w' => e = .returned (rV (.tr u)) ∧ Below w.heap.size w w' := by
 obtain ⟨W1, HW1⟩ := Nh (w.alloc (.cells #[.int .i64 0, .int .i64 0, .int .i64 0, .int .i64 0, .string ⟨#[]⟩, .int .i64 0] 97))
 have HB1 : Hid (Below w.heap.size w W1) := by rw [← HW1.out]; exact bel1 w _
 have hr2 : W1.heap[w.heap.size]? = some (.cells #[.int .i64 0, .int .i64 0, .int .i64 0, .int .i64 0, .string ⟨#[]⟩, .int .i64 0] 97 (0, 0)) := by rw [← HW1.out]; exact heap_alloc_last w _
 have HR2 := Hf hr2
 obtain ⟨_, yf⟩ := row6 hr2
 have g0 := yf 0
 have g1 := yf 1
 have g2 := yf 2
 have g3 := yf 3
 have g4 := yf 4
 have g5 := yf 5
 clear hr2 yf
 go_enter Tryz.func66, Tryz.ntmps66
 go_upto_region 1 with fail
 rw [HW1.out]; clear HW1; go_wp2
 refine bodyPost_ret (v := rV (.tr u)) ?_ rfl ⟨rfl, put6_bel HB1.out Lr _ _ _ _ _ _⟩
 exact results_cell_row f66_res _ _ (w.heap.size) 97 _ (0, 0) _ rfl (put6_row (w := W1) HR2.out _ _ _ _ _ _) Tryz.underlying97 rfl Tryz.size97
theorem repeatL_zero : ∀ n : Nat, Lib.repeatL [(0 : UInt8)] n = List.replicate n 0
 | 0 => rfl
 | n + 1 => by
  rw [List.replicate_succ, ← repeatL_zero n]
  rfl
theorem padded_any (l : List UInt8) (m : Nat) (w : World) (h : l.length ≤ m) (hm : m ≤ 1000000) : Calls Tryz.prog 72 #[.string (ofL l), .int .i64 m] w fun e w' => e = .returned (.string (ofL (l ++ List.replicate (m - l.length) 0))) ∧ Below w.heap.size w w' := by
 have hsz : (ofL l).size = l.length := Ns.M.ofL_size l
 have hr := fun W => Ns.Tryz.strings_Repeat ⟨#[0]⟩ (m - l.length) W (by omega) (by show 1 * (m - l.length) ≤ _; omega)
 have HE : Hid (ofL l ++ ⟨(Lib.repeatL (⟨#[0]⟩ : ByteArray).data.toList (m - l.length)).toArray⟩ = ofL (l ++ List.replicate (m - l.length) 0)) := by
  show ofL l ++ ofL (Lib.repeatL [(0 : UInt8)] (m - l.length)) = _
  rw [repeatL_zero, Ns.M.ofL_app]
 have hz : (⟨(Lib.repeatL (⟨#[0]⟩ : ByteArray).data.toList (m - l.length)).toArray⟩ : ByteArray).size = m - l.length := by
  show (ofL (Lib.repeatL [(0 : UInt8)] (m - l.length))).size = _
  rw [repeatL_zero, Ns.M.ofL_size, List.length_replicate]
 generalize (⟨(Lib.repeatL (⟨#[0]⟩ : ByteArray).data.toList (m - l.length)).toArray⟩ : ByteArray) = Z at *
 rw [show ((m - l.length : Nat) : Int) = (m : Int) - (l.length : Int) by omega] at hr
 go_enter Tryz.func72, Tryz.ntmps72
 go_wp2_with fail
 refine (hr _).mono ?_; rintro e w1 ⟨rfl, hb⟩
 have HB := Hf hb
 clear hr hb; go_wp2
 go_ret
 rw [← HE.out]
 exact ⟨rfl, HB.out⟩
section
variable {b m : Nat} {a : Option Addr} {cap : Nat} {st : Nat × List UInt8} {w : World}
open Nc (WS WQ Step)
theorem writeBallot_any (x : E) (hw : WS w b a cap m st) (h1 : I64 x.i) (h2 : I64 x.t) :
  Calls Tryz.prog 181 #[ptr b, bV x] w fun e w' => e = .returned (.tuple #[]) ∧ WQ w b a m (Nc.M.lay m st (encB x)) w' := by
 obtain ⟨W1, HW1⟩ := Nh (w.alloc (.cells #[.int .i64 x.i, .int .i64 x.t] 36))
 have hb1 : Below w.heap.size w W1 := by rw [← HW1.out]; exact bel1 w _
 have hr1 : W1.heap[w.heap.size]? = some (.cells #[.int .i64 x.i, .int .i64 x.t] 36 (0, 0)) := by rw [← HW1.out]; exact heap_alloc_last w _
 obtain ⟨⟨c0, c1⟩, _⟩ := row2 hr1
 have hc := Nc.wint_any b a cap m st x.i W1 (hw.keep hb1) h1
 have hlt : b < w.heap.size := hw.lt
 have HBK : Hid (∀ k, Nc.blk a k → k < w.heap.size) := fun k hk => (hw.inb k hk).2
 have HR1 := Hf hr1
 have HB1 := Hf hb1
 have HL : Hid (Nc.M.lay m (Nc.M.lay m st (Nc.M.enc x.i)) (Nc.M.enc x.t) = Nc.M.lay m st (encB x)) := Nc.M.lay_lay _ _ _ _
 clear hw hb1 hr1
 go_enter Tryz.func181, Tryz.ntmps181
 go_upto_region 1 with fail
 rw [HW1.out]; clear HW1
 go_wp2_with fail
 refine hc.mono ?_; rintro e w2 ⟨rfl, a2, cap2, hw2, hs2⟩
 have hr2 : w2.heap[w.heap.size]? = some (.cells #[.int .i64 x.i, .int .i64 x.t] 36 (0, 0)) := (hs2.block w.heap.size (Array.getElem?_eq_some_iff.1 HR1.out).1 (by omega) (fun e => by have := HBK.out _ e; omega)).trans HR1.out
 obtain ⟨⟨d0, d1⟩, _⟩ := row2 hr2
 have hc2 := Nc.wint_any b a2 cap2 m _ x.t w2 hw2 h2
 have HS2 := Hf hs2
 clear hc hw2 hs2 hr2 c0 c1
 go_wp2_with fail
 refine hc2.mono ?_; rintro e w3 ⟨rfl, a3, cap3, hw3, hs3⟩
 rw [HL.out] at hw3
 have HQ := Hf (And.intro hw3 ((Step.of_below HB1.out).trans (HS2.out.trans hs3)))
 clear hc2 hw3 hs3; go_wp2
 go_end0
 exact ⟨rfl, a3, cap3, HQ.out.1, HQ.out.2⟩
end
end Go.Proofs.YtlnedgjikkhplaaGreat.Du
namespace Go.Proofs.YtlnedgjikkhplaaGreat.Du
open Go.RowKit
open Na (Fr AS XL vl bV vV Hf bel1 bel2 Bu Br row2 row4 blk OwnL AtL)
open Na.M (E V S S0)
open Ns.M (ofL)
open Nc (WS WQ Step)
open Nc.M (enc encT)
def WB (w0 : World) (k : Nat) (o : Obj) (wb : Nat) (l : List UInt8) (w : World) : Prop := ∃ a cap, WS w wb a cap 65536 (0, l) ∧ w.heap[k]? = some o ∧ k < wb ∧ w0.heap.size ≤ k ∧ Below w0.heap.size w0 w
section
variable {w0 w w' : World} {k : Nat} {o : Obj} {wb : Nat} {l : List UInt8}
theorem WB.row (h : WB w0 k o wb l w) : w.heap[k]? = some o := by obtain ⟨a, cap, _, h2, _⟩ := h; exact h2
theorem WB.keep (h : WB w0 k o wb l w) (hb : Below w.heap.size w w') : WB w0 k o wb l w' := by
 obtain ⟨a, cap, h1, h2, h3, h4, h5⟩ := h
 exact ⟨a, cap, h1.keep hb, Br h2 hb, h3, h4, Bu h5 hb Lr⟩
theorem WB.up {a : Option Addr} {cap : Nat} (h1 : WS w wb a cap 65536 (0, l)) (h2 : w.heap[k]? = some o) (h3 : k < wb) (h4 : w0.heap.size ≤ k) (h5 : Below w0.heap.size w0 w) {s : List UInt8} (hl : l.length + s.length ≤ 65536) (hq : WQ w wb a 65536 (Nc.M.lay 65536 (0, l) s) w') : WB w0 k o wb (l ++ s) w' := by
 obtain ⟨a', cap', q1, q2⟩ := hq
 rw [Nc.M.lay_fits _ _ _ (by omega)] at q1
 have hlt := h1.lt
 refine ⟨a', cap', q1, (q2.block k (by omega) (by omega) (fun e => by have := (h1.inb k e).1; omega)).trans h2, h3, h4, h5.trans (q2.below (by omega) (fun j hj => by have := (h1.inb j hj).1; omega) h5.size)⟩
theorem WB.int (h : WB w0 k o wb l w) (n : Int) (hn : I64 n) (hl : l.length + (enc n).length ≤ 65536) : Calls Tryz.prog 177 #[ptr wb, .int .i64 n] w fun e w' => e = .returned (.tuple #[]) ∧ WB w0 k o wb (l ++ enc n) w' := by
 obtain ⟨a, cap, h1, h2, h3, h4, h5⟩ := h
 exact (Nc.wint_any wb a cap 65536 _ n w h1 hn).mono fun e w' ⟨e1, hq⟩ => ⟨e1, WB.up h1 h2 h3 h4 h5 hl hq⟩
theorem WB.byte (h : WB w0 k o wb l w) (n : Nat) (hn : n ≤ 255) (hl : l.length + 1 ≤ 65536) : Calls Tryz.prog 180 #[ptr wb, .int .i64 n] w fun e w' => e = .returned (.tuple #[]) ∧ WB w0 k o wb (l ++ [UInt8.ofNat n]) w' := by
 obtain ⟨a, cap, h1, h2, h3, h4, h5⟩ := h
 refine (Nc.wbyte_any wb a cap 65536 _ n w h1).mono fun e w' ⟨e1, hq⟩ => ⟨e1, WB.up h1 h2 h3 h4 h5 (s := [UInt8.ofNat n]) hl ?_⟩
 have e2 : Nc.M.byteW 65536 (0, l) (n : Int) = Nc.M.lay 65536 (0, l) [UInt8.ofNat n] := by
  unfold Nc.M.byteW; rw [if_neg (by simp), if_neg (by omega), Int.toNat_natCast]
 rw [← e2]
 exact hq
theorem WB.text (h : WB w0 k o wb l w) (s : List UInt8) (hs : s.length ≤ 60000) (hl : l.length + (encT s).length ≤ 65536) : Calls Tryz.prog 150 #[ptr wb, .string (ofL s)] w fun e w' => e = .returned (.tuple #[]) ∧ WB w0 k o wb (l ++ encT s) w' := by
 obtain ⟨a, cap, h1, h2, h3, h4, h5⟩ := h
 exact (Nc.wtext_any wb a cap 65536 _ s w h1 (by omega)).mono fun e w' ⟨e1, hq⟩ => ⟨e1, WB.up h1 h2 h3 h4 h5 hl hq⟩
theorem WB.ballot (h : WB w0 k o wb l w) (x : E) (hx1 : I64 x.i) (hx2 : I64 x.t) (hl : l.length + (encB x).length ≤ 65536) : Calls Tryz.prog 181 #[ptr wb, bV x] w fun e w' => e = .returned (.tuple #[]) ∧ WB w0 k o wb (l ++ encB x) w' := by
 obtain ⟨a, cap, h1, h2, h3, h4, h5⟩ := h
 exact (writeBallot_any x h1 hx1 hx2).mono fun e w' ⟨e1, hq⟩ => ⟨e1, WB.up h1 h2 h3 h4 h5 hl hq⟩
theorem WB.done (h : WB w0 k o wb l w) : Calls Tryz.prog 153 #[ptr wb] w fun e w' => e = .returned (.tuple #[.string (ofL l), .int .i64 0]) ∧ Below w0.heap.size w0 w' := by
 obtain ⟨a, cap, h1, h2, h3, h4, h5⟩ := h
 exact (Nc.wdone_any wb a cap 65536 _ w h1).mono fun e w' ⟨e1, hb⟩ => ⟨e1, Bu h5 hb Lr⟩
end
theorem newWB (w0 w : World) (k : Nat) (o : Obj) (hb : Below w0.heap.size w0 w) (hr : w.heap[k]? = some o) (hk : w0.heap.size ≤ k) : Calls Tryz.prog 149 #[.int .i64 65536] w fun e w' => ∃ wb, e = .returned (ptr wb) ∧ WB w0 k o wb [] w' := by
 refine (Nc.newWriter_any 65536 w).mono ?_; rintro e w' ⟨wb, e1, h1, h2, h3⟩
 have hl : k < w.heap.size := (Array.getElem?_eq_some_iff.1 hr).1
 exact ⟨wb, e1, none, 0, h2, Br hr h3, by omega, hk, Bu hb h3 Lr⟩
theorem enc_le {n : Int} (h : I64 n) : (enc n).length ≤ 10 := Nc.M.enc_ten n h
theorem encT_le (s : List UInt8) (h : s.length ≤ 60000) : (encT s).length ≤ s.length + 10 := by
 rw [Nc.M.encT, List.length_append]
 have := Nc.M.enc_ten (s.length : Int) ⟨by omega, by omega⟩
 omega
theorem I64.nat {n : Nat} (h : n ≤ 2147483648) : I64 (n : Int) := ⟨by omega, by omega⟩
theorem body_len (e k : Nat) (r : R) (he : e ≤ 2147483648) (hk : k ≤ 2147483648) (hr : Wf r) : (body e k r).length ≤ 4200 := by
 have h1 := enc_le (I64.nat he)
 have h2 := enc_le (I64.nat hk)
 unfold body; rw [List.length_append, List.length_append]
 cases r using R.split with
 | pr b =>
  have h3 := enc_le hr.1
  have h4 := enc_le hr.2
  simp only [kb, encB, List.length_cons, List.length_append]
  omega
 | vo v =>
  have h3 := enc_le hr.1
  have h4 := enc_le hr.2.1
  have h5 := enc_le hr.2.2.1
  have h7 : v.v.data.toList.length ≤ 4096 := hr.2.2.2
  have h6 := encT_le v.v.data.toList (by omega)
  simp only [kb, encB, List.length_cons, List.length_append]
  omega
 | tr u =>
  have h3 := enc_le (show I64 u from hr)
  simp only [kb, List.length_cons]
  omega
theorem body_any (e k : Nat) (r : R) (w : World) (he : e ≤ 2147483648) (hk : k ≤ 2147483648) (hr : Wf r) :
  Calls Tryz.prog 152 #[rV r, .int .i64 e, .int .i64 k] w fun x w' => x = .returned (.string (ofL (body e k r))) ∧ Below w.heap.size w w' := by
 have hie := I64.nat he
 have hik := I64.nat hk
 have hle := enc_le hie
 have hlk := enc_le hik
 clear he hk
 cases r using R.split with
 | pr b =>
  obtain ⟨W1, HW1⟩ := Nh (w.alloc (.cells #[.int .i64 1, .int .i64 0, .int .i64 b.i, .int .i64 b.t, .string ⟨#[]⟩, .int .i64 0] 97))
  have hb1 : Below w.heap.size w W1 := by rw [← HW1.out]; exact bel1 w _
  have hr1 : W1.heap[w.heap.size]? = some (.cells #[.int .i64 1, .int .i64 0, .int .i64 b.i, .int .i64 b.t, .string ⟨#[]⟩, .int .i64 0] 97 (0, 0)) := by rw [← HW1.out]; exact heap_alloc_last w _
  have hn := newWB w W1 w.heap.size _ hb1 hr1 Lr
  clear hb1 hr1
  go_enter Tryz.func152, Tryz.ntmps152
  go_upto_region 1 with fail
  rw [HW1.out]; clear HW1
  go_wp2_with fail
  refine hn.mono ?_; rintro e w0 ⟨wb, rfl, h0⟩
  have H0 := Hf h0
  clear hn h0
  have hk := H0.out.int (e : Int) hie (by simp only [List.length_append, List.length_nil, List.length_cons]; omega)
  obtain ⟨⟨c0, c1, c2, c3, c4, c5⟩, _⟩ := row6 H0.out.row
  go_wp2_with fail
  refine hk.mono ?_; rintro e w1 ⟨rfl, h1⟩
  have H1 := Hf h1
  clear hk h1 H0 c0 c1 c2 c3 c4 c5
  have hk := H1.out.int (k : Int) hik (by simp only [List.length_append, List.length_nil, List.length_cons]; omega)
  obtain ⟨⟨c0, c1, c2, c3, c4, c5⟩, _⟩ := row6 H1.out.row
  go_wp2_with fail
  refine hk.mono ?_; rintro e w2 ⟨rfl, h2⟩
  have H2 := Hf h2
  clear hk h2 H1 c0 c1 c2 c3 c4 c5
  have hk := H2.out.byte 1 (by omega) (by simp only [List.length_append, List.length_nil, List.length_cons]; omega)
  obtain ⟨⟨c0, c1, c2, c3, c4, c5⟩, _⟩ := row6 H2.out.row
  go_wp2_with fail
  refine hk.mono ?_; rintro e w3 ⟨rfl, h3⟩
  have H3 := Hf h3
  clear hk h3 H2 c0 c1 c2 c3 c4 c5
  have hk := H3.out.ballot b hr.1 hr.2 (by have h3 := enc_le hr.1; have h4 := enc_le hr.2; simp only [encB, List.length_append, List.length_nil, List.length_cons]; omega)
  obtain ⟨⟨c0, c1, c2, c3, c4, c5⟩, _⟩ := row6 H3.out.row
  go_wp2_with fail
  refine hk.mono ?_; rintro e w4 ⟨rfl, h4⟩
  have H4 := Hf h4
  clear hk h4 H3 c0 c1 c2 c3 c4 c5
  have hk := H4.out.done
  go_wp2_with fail
  refine hk.mono ?_; rintro e w5 ⟨rfl, h5⟩
  have H5 := Hf h5
  clear hk h5 H4; go_wp2
  go_ret
  exact ⟨congrArg (fun z => Ending.returned (.string (ofL z))) (by simp [body, kb, encB]), H5.out⟩
 | vo v =>
  obtain ⟨W1, HW1⟩ := Nh (w.alloc (.cells #[.int .i64 2, .int .i64 v.s, .int .i64 v.b.i, .int .i64 v.b.t, .string v.v, .int .i64 0] 97))
  have hb1 : Below w.heap.size w W1 := by rw [← HW1.out]; exact bel1 w _
  have hr1 : W1.heap[w.heap.size]? = some (.cells #[.int .i64 2, .int .i64 v.s, .int .i64 v.b.i, .int .i64 v.b.t, .string v.v, .int .i64 0] 97 (0, 0)) := by rw [← HW1.out]; exact heap_alloc_last w _
  have hn := newWB w W1 w.heap.size _ hb1 hr1 Lr
  clear hb1 hr1
  go_enter Tryz.func152, Tryz.ntmps152
  go_upto_region 1 with fail
  rw [HW1.out]; clear HW1
  go_wp2_with fail
  refine hn.mono ?_; rintro e w0 ⟨wb, rfl, h0⟩
  have H0 := Hf h0
  clear hn h0
  have hk := H0.out.int (e : Int) hie (by simp only [List.length_append, List.length_nil, List.length_cons]; omega)
  obtain ⟨⟨c0, c1, c2, c3, c4, c5⟩, _⟩ := row6 H0.out.row
  go_wp2_with fail
  refine hk.mono ?_; rintro e w1 ⟨rfl, h1⟩
  have H1 := Hf h1
  clear hk h1 H0 c0 c1 c2 c3 c4 c5
  have hk := H1.out.int (k : Int) hik (by simp only [List.length_append, List.length_nil, List.length_cons]; omega)
  obtain ⟨⟨c0, c1, c2, c3, c4, c5⟩, _⟩ := row6 H1.out.row
  go_wp2_with fail
  refine hk.mono ?_; rintro e w2 ⟨rfl, h2⟩
  have H2 := Hf h2
  clear hk h2 H1 c0 c1 c2 c3 c4 c5
  have hk := H2.out.byte 2 (by omega) (by simp only [List.length_append, List.length_nil, List.length_cons]; omega)
  obtain ⟨⟨c0, c1, c2, c3, c4, c5⟩, _⟩ := row6 H2.out.row
  go_wp2_with fail
  refine hk.mono ?_; rintro e w3 ⟨rfl, h3⟩
  have H3 := Hf h3
  clear hk h3 H2 c0 c1 c2 c3 c4 c5
  have hk := H3.out.int v.s hr.1 (by have h3 := enc_le hr.1; simp only [List.length_append, List.length_nil, List.length_cons]; omega)
  obtain ⟨⟨c0, c1, c2, c3, c4, c5⟩, _⟩ := row6 H3.out.row
  go_wp2_with fail
  refine hk.mono ?_; rintro e w4 ⟨rfl, h4⟩
  have H4 := Hf h4
  clear hk h4 H3 c0 c1 c2 c3 c4 c5
  have hk := H4.out.ballot v.b hr.2.1 hr.2.2.1 (by have h3 := enc_le hr.1; have h4 := enc_le hr.2.1; have h5 := enc_le hr.2.2.1; simp only [encB, List.length_append, List.length_nil, List.length_cons]; omega)
  obtain ⟨⟨c0, c1, c2, c3, c4, c5⟩, _⟩ := row6 H4.out.row
  go_wp2_with fail
  refine hk.mono ?_; rintro e w5 ⟨rfl, h5⟩
  have H5 := Hf h5
  clear hk h5 H4 c0 c1 c2 c3 c4 c5
  have hk := H5.out.text v.v.data.toList (by have := hr.2.2.2; show v.v.size ≤ _; omega) (by have h7 : v.v.data.toList.length ≤ 4096 := hr.2.2.2; have h3 := enc_le hr.1; have h4 := enc_le hr.2.1; have h5 := enc_le hr.2.2.1; have h6 := encT_le v.v.data.toList (by omega); simp only [encB, List.length_append, List.length_nil, List.length_cons]; omega)
  obtain ⟨⟨c0, c1, c2, c3, c4, c5⟩, _⟩ := row6 H5.out.row
  go_wp2_with fail
  refine hk.mono ?_; rintro e w6 ⟨rfl, h6⟩
  have H6 := Hf h6
  clear hk h6 H5 c0 c1 c2 c3 c4 c5
  have hk := H6.out.done
  go_wp2_with fail
  refine hk.mono ?_; rintro e w7 ⟨rfl, h7⟩
  have H7 := Hf h7
  clear hk h7 H6; go_wp2
  go_ret
  exact ⟨congrArg (fun z => Ending.returned (.string (ofL z))) (by simp [body, kb, encB]), H7.out⟩
 | tr u =>
  obtain ⟨W1, HW1⟩ := Nh (w.alloc (.cells #[.int .i64 3, .int .i64 0, .int .i64 0, .int .i64 0, .string ⟨#[]⟩, .int .i64 u] 97))
  have hb1 : Below w.heap.size w W1 := by rw [← HW1.out]; exact bel1 w _
  have hr1 : W1.heap[w.heap.size]? = some (.cells #[.int .i64 3, .int .i64 0, .int .i64 0, .int .i64 0, .string ⟨#[]⟩, .int .i64 u] 97 (0, 0)) := by rw [← HW1.out]; exact heap_alloc_last w _
  have hn := newWB w W1 w.heap.size _ hb1 hr1 Lr
  clear hb1 hr1
  go_enter Tryz.func152, Tryz.ntmps152
  go_upto_region 1 with fail
  rw [HW1.out]; clear HW1
  go_wp2_with fail
  refine hn.mono ?_; rintro e w0 ⟨wb, rfl, h0⟩
  have H0 := Hf h0
  clear hn h0
  have hk := H0.out.int (e : Int) hie (by simp only [List.length_append, List.length_nil, List.length_cons]; omega)
  obtain ⟨⟨c0, c1, c2, c3, c4, c5⟩, _⟩ := row6 H0.out.row
  go_wp2_with fail
  refine hk.mono ?_; rintro e w1 ⟨rfl, h1⟩
  have H1 := Hf h1
  clear hk h1 H0 c0 c1 c2 c3 c4 c5
  have hk := H1.out.int (k : Int) hik (by simp only [List.length_append, List.length_nil, List.length_cons]; omega)
  obtain ⟨⟨c0, c1, c2, c3, c4, c5⟩, _⟩ := row6 H1.out.row
  go_wp2_with fail
  refine hk.mono ?_; rintro e w2 ⟨rfl, h2⟩
  have H2 := Hf h2
  clear hk h2 H1 c0 c1 c2 c3 c4 c5
  have hk := H2.out.byte 3 (by omega) (by simp only [List.length_append, List.length_nil, List.length_cons]; omega)
  obtain ⟨⟨c0, c1, c2, c3, c4, c5⟩, _⟩ := row6 H2.out.row
  go_wp2_with fail
  refine hk.mono ?_; rintro e w3 ⟨rfl, h3⟩
  have H3 := Hf h3
  clear hk h3 H2 c0 c1 c2 c3 c4 c5
  have hk := H3.out.int u hr (by have h3 := enc_le (show I64 u from hr); simp only [List.length_append, List.length_nil, List.length_cons]; omega)
  obtain ⟨⟨c0, c1, c2, c3, c4, c5⟩, _⟩ := row6 H3.out.row
  go_wp2_with fail
  refine hk.mono ?_; rintro e w4 ⟨rfl, h4⟩
  have H4 := Hf h4
  clear hk h4 H3 c0 c1 c2 c3 c4 c5
  have hk := H4.out.done
  go_wp2_with fail
  refine hk.mono ?_; rintro e w5 ⟨rfl, h5⟩
  have H5 := Hf h5
  clear hk h5 H4; go_wp2
  go_ret
  exact ⟨congrArg (fun z => Ending.returned (.string (ofL z))) (by simp [body, kb, encB]), H5.out⟩
theorem sealed_len (l : List UInt8) : (K2.sealed l).length = l.length + 4 := by
 simp [K2.sealed, K2.four]
theorem raw_len (e k : Nat) (r : R) (he : e ≤ 2147483648) (hk : k ≤ 2147483648) (hr : Wf r) : (raw e k r).length ≤ 4300 := by
 have h1 := body_len e k r he hk hr
 have h2 := encT_le (K2.sealed (body e k r)) (by rw [sealed_len]; omega)
 rw [sealed_len] at h2; unfold raw
 omega
theorem text_any (e k : Nat) (r : R) (w : World) (he : e ≤ 2147483648) (hk : k ≤ 2147483648) (hr : Wf r) :
  Calls Tryz.prog 108 #[rV r, .int .i64 e, .int .i64 k] w fun x w' => x = .returned (.string (ofL (rec e k r))) ∧ Below w.heap.size w w' := by
 have hbd := fun W => body_any e k r W he hk hr
 have hbl := body_len e k r he hk hr
 have hrl := raw_len e k r he hk hr
 have hsl := fun W => Ns.seal_any (ofL (body e k r)) W (by rw [Ns.M.ofL_size]; omega)
 have eb : (ofL (body e k r)).data.toList = body e k r := Ns.ofL_data _
 rw [eb] at hsl
 have hpd := fun W => padded_any (raw e k r) (((raw e k r).length + 63) / 64 * 64) W (by omega) (by omega)
 have HR : Hid (rec e k r = raw e k r ++ List.replicate (((raw e k r).length + 63) / 64 * 64 - (raw e k r).length) 0) := rfl
 have HT : Hid (encT (K2.sealed (body e k r)) = raw e k r) := rfl
 have HLS : Hid ((K2.sealed (body e k r)).length ≤ 60000) := by show _ ≤ _; rw [sealed_len]; omega
 have HLT : Hid (([] : List UInt8).length + (encT (K2.sealed (body e k r))).length ≤ 65536) := by show _ + (raw e k r).length ≤ _; simp; omega
 have hsz : (ofL (raw e k r)).size = (raw e k r).length := Ns.M.ofL_size _
 have hmm : ((((raw e k r).length + 63) / 64 * 64 : Nat) : Int) = (((raw e k r).length : Int) + 63) / 64 * 64 := by omega
 rw [hmm] at hpd
 have hd : (((raw e k r).length : Int) + 63).tdiv 64 = (((raw e k r).length : Int) + 63) / 64 := Int.tdiv_eq_ediv_of_nonneg (by omega)
 have ha : ((raw e k r).length : Int) + 64 - 1 = ((raw e k r).length : Int) + 63 := by omega
 generalize rec e k r = Q at *
 generalize K2.sealed (body e k r) = S at *
 generalize body e k r = B at *
 generalize raw e k r = T at *
 clear he hk hbl eb
 cases r using R.split with
 | pr b =>
  obtain ⟨W1, HW1⟩ := Nh (w.alloc (.cells #[.int .i64 1, .int .i64 0, .int .i64 b.i, .int .i64 b.t, .string ⟨#[]⟩, .int .i64 0] 97))
  have hb1 : Below w.heap.size w W1 := by rw [← HW1.out]; exact bel1 w _
  have hr1 : W1.heap[w.heap.size]? = some (.cells #[.int .i64 1, .int .i64 0, .int .i64 b.i, .int .i64 b.t, .string ⟨#[]⟩, .int .i64 0] 97 (0, 0)) := by rw [← HW1.out]; exact heap_alloc_last w _
  have hn := newWB w W1 w.heap.size _ hb1 hr1 Lr
  clear hb1 hr1
  go_enter Tryz.func108, Tryz.ntmps108
  go_upto_region 1 with fail
  rw [HW1.out]; clear HW1
  go_wp2_with fail
  refine hn.mono ?_; rintro e w1 ⟨wb, rfl, h1⟩
  have H1 := Hf h1
  obtain ⟨⟨c0, c1, c2, c3, c4, c5⟩, _⟩ := row6 h1.row
  clear hn h1
  go_wp2_with fail
  refine (hbd _).mono ?_; rintro e w2 ⟨rfl, hb2⟩
  have H2 := Hf (H1.out.keep hb2)
  clear hb2 H1 c0 c1 c2 c3 c4 c5 hbd
  go_wp2_with fail
  refine (hsl _).mono ?_; rintro e w3 ⟨rfl, hb3⟩
  have H3 := Hf (H2.out.keep hb3)
  have hk3 := H3.out.text S HLS.out HLT.out
  clear hb3 H2 hsl H3
  go_wp2_with fail
  refine hk3.mono ?_; rintro e w4 ⟨rfl, h4⟩
  have hk4 := h4.done
  clear hk3 h4; rw [List.nil_append, HT.out] at hk4
  go_wp2_with fail
  refine hk4.mono ?_; rintro e w5 ⟨rfl, hb5⟩
  have HB5 := Hf hb5
  clear hk4 hb5
  go_wp2_with fail
  refine (hpd _).mono ?_; rintro e w6 ⟨rfl, hb6⟩
  have HB6 := Hf (Bu HB5.out hb6 Lr)
  clear hpd hb6 HB5; go_wp2
  go_ret
  rw [HR.out]
  exact ⟨rfl, HB6.out⟩
 | vo v =>
  obtain ⟨W1, HW1⟩ := Nh (w.alloc (.cells #[.int .i64 2, .int .i64 v.s, .int .i64 v.b.i, .int .i64 v.b.t, .string v.v, .int .i64 0] 97))
  have hb1 : Below w.heap.size w W1 := by rw [← HW1.out]; exact bel1 w _
  have hr1 : W1.heap[w.heap.size]? = some (.cells #[.int .i64 2, .int .i64 v.s, .int .i64 v.b.i, .int .i64 v.b.t, .string v.v, .int .i64 0] 97 (0, 0)) := by rw [← HW1.out]; exact heap_alloc_last w _
  have hn := newWB w W1 w.heap.size _ hb1 hr1 Lr
  clear hb1 hr1
  go_enter Tryz.func108, Tryz.ntmps108
  go_upto_region 1 with fail
  rw [HW1.out]; clear HW1
  go_wp2_with fail
  refine hn.mono ?_; rintro e w1 ⟨wb, rfl, h1⟩
  have H1 := Hf h1
  obtain ⟨⟨c0, c1, c2, c3, c4, c5⟩, _⟩ := row6 h1.row
  clear hn h1
  go_wp2_with fail
  refine (hbd _).mono ?_; rintro e w2 ⟨rfl, hb2⟩
  have H2 := Hf (H1.out.keep hb2)
  clear hb2 H1 c0 c1 c2 c3 c4 c5 hbd
  go_wp2_with fail
  refine (hsl _).mono ?_; rintro e w3 ⟨rfl, hb3⟩
  have H3 := Hf (H2.out.keep hb3)
  have hk3 := H3.out.text S HLS.out HLT.out
  clear hb3 H2 hsl H3
  go_wp2_with fail
  refine hk3.mono ?_; rintro e w4 ⟨rfl, h4⟩
  have hk4 := h4.done
  clear hk3 h4; rw [List.nil_append, HT.out] at hk4
  go_wp2_with fail
  refine hk4.mono ?_; rintro e w5 ⟨rfl, hb5⟩
  have HB5 := Hf hb5
  clear hk4 hb5
  go_wp2_with fail
  refine (hpd _).mono ?_; rintro e w6 ⟨rfl, hb6⟩
  have HB6 := Hf (Bu HB5.out hb6 Lr)
  clear hpd hb6 HB5; go_wp2
  go_ret
  rw [HR.out]
  exact ⟨rfl, HB6.out⟩
 | tr u =>
  obtain ⟨W1, HW1⟩ := Nh (w.alloc (.cells #[.int .i64 3, .int .i64 0, .int .i64 0, .int .i64 0, .string ⟨#[]⟩, .int .i64 u] 97))
  have hb1 : Below w.heap.size w W1 := by rw [← HW1.out]; exact bel1 w _
  have hr1 : W1.heap[w.heap.size]? = some (.cells #[.int .i64 3, .int .i64 0, .int .i64 0, .int .i64 0, .string ⟨#[]⟩, .int .i64 u] 97 (0, 0)) := by rw [← HW1.out]; exact heap_alloc_last w _
  have hn := newWB w W1 w.heap.size _ hb1 hr1 Lr
  clear hb1 hr1
  go_enter Tryz.func108, Tryz.ntmps108
  go_upto_region 1 with fail
  rw [HW1.out]; clear HW1
  go_wp2_with fail
  refine hn.mono ?_; rintro e w1 ⟨wb, rfl, h1⟩
  have H1 := Hf h1
  obtain ⟨⟨c0, c1, c2, c3, c4, c5⟩, _⟩ := row6 h1.row
  clear hn h1
  go_wp2_with fail
  refine (hbd _).mono ?_; rintro e w2 ⟨rfl, hb2⟩
  have H2 := Hf (H1.out.keep hb2)
  clear hb2 H1 c0 c1 c2 c3 c4 c5 hbd
  go_wp2_with fail
  refine (hsl _).mono ?_; rintro e w3 ⟨rfl, hb3⟩
  have H3 := Hf (H2.out.keep hb3)
  have hk3 := H3.out.text S HLS.out HLT.out
  clear hb3 H2 hsl H3
  go_wp2_with fail
  refine hk3.mono ?_; rintro e w4 ⟨rfl, h4⟩
  have hk4 := h4.done
  clear hk3 h4; rw [List.nil_append, HT.out] at hk4
  go_wp2_with fail
  refine hk4.mono ?_; rintro e w5 ⟨rfl, hb5⟩
  have HB5 := Hf hb5
  clear hk4 hb5
  go_wp2_with fail
  refine (hpd _).mono ?_; rintro e w6 ⟨rfl, hb6⟩
  have HB6 := Hf (Bu HB5.out hb6 Lr)
  clear hpd hb6 HB5; go_wp2
  go_ret
  rw [HR.out]
  exact ⟨rfl, HB6.out⟩
end Go.Proofs.YtlnedgjikkhplaaGreat.Du
