/-
  Decode: the message whose bytes a text is.
-/
import Derived.Test.YtjbodjjeenjbeaaFG
namespace Go.Proofs.Ytjbodjjeenjbeaa
open Go.RowKit
set_option linter.unusedVariables false

theorem Try.size33 : (Try.prog.info? 33).map (·.size) = some 5 := by kernel_rfl
theorem f35_res : Try.f35.results = #[.cell 2 33, .tmp 3] := rfl
theorem f31_res : Try.f31.results = #[.cell 2 33, .tmp 3] := rfl
theorem res5 {fn : Func} {p u : Tmp} (h : fn.results = #[.cell p 33, .tmp u]) (tmps : Array Value) (w : World) (g : Nat) (v0 v1 v2 v3 v4 : Value) (hp : tmps.getD p undef = .pointer (some ⟨g, 0, none⟩)) (hg : w.heap[g]? = some (.cells #[v0, v1, v2, v3, v4] 33 (0, 0))) :
    (results fn tmps).run Try.prog w = .ok (.tuple #[.agg #[v0, v1, v2, v3, v4], tmps.getD u undef]) w := by
  have hp' : tmps[p]?.getD undef = .pointer (some ⟨g, 0, none⟩) := by simpa using hp
  rw [results_cell_tmp h]
  simp [asAddr, hp', run_loadVar_row w g 33 33 #[v0, v1, v2, v3, v4] (0, 0) _ hg Try.underlying33 rfl Try.size33]
/-- Five cells of a block set. -/
def put5 (w : World) (g : Nat) (a b c d e : Value) : World := ((((w.setCell ⟨g, 0, none⟩ a).setCell ⟨g, 1, none⟩ b).setCell ⟨g, 2, none⟩ c).setCell ⟨g, 3, none⟩ d).setCell ⟨g, 4, none⟩ e
theorem put5_row {w : World} {g : Nat} {t : TypeId} {v0 v1 v2 v3 v4 : Value} (h : w.heap[g]? = some (.cells #[v0, v1, v2, v3, v4] t (0, 0))) (a b c d e : Value) : (put5 w g a b c d e).heap[g]? = some (.cells #[a, b, c, d, e] t (0, 0)) :=
  heap_setCell_same _ g 4 _ _ _ (heap_setCell_same _ g 3 _ _ _ (heap_setCell_same _ g 2 _ _ _ (heap_setCell_same _ g 1 _ _ _ (heap_setCell_same w g 0 _ _ _ h))))
theorem put5_bel {w0 w : World} {B g : Nat} (h : Below B w0 w) (hg : B ≤ g) (a b c d e : Value) : Below B w0 (put5 w g a b c d e) :=
  ((((h.setCell hg _).setCell hg _).setCell hg _).setCell hg _).setCell hg _
theorem put5_oth {w : World} {g k : Nat} (h : k ≠ g) (a b c d e : Value) : (put5 w g a b c d e).heap[k]? = w.heap[k]? := by
  unfold put5
  rw [heap_setCell_other _ ⟨g, 4, none⟩ k _ h, heap_setCell_other _ ⟨g, 3, none⟩ k _ h, heap_setCell_other _ ⟨g, 2, none⟩ k _ h, heap_setCell_other _ ⟨g, 1, none⟩ k _ h, heap_setCell_other _ ⟨g, 0, none⟩ k _ h]
/-- The message, so many fields of it read. -/
def mrow (l : List UInt8) : Nat → Array Value
  | 0 => #[.int .i64 0, .int .i64 0, .int .i64 0, .int .i64 0, .string (ofL [])]
  | 1 => #[.int .i64 (Msg.rk l), .int .i64 0, .int .i64 0, .int .i64 0, .string (ofL [])]
  | 2 => #[.int .i64 (Msg.rk l), .int .i64 (Msg.rf l), .int .i64 0, .int .i64 0, .string (ofL [])]
  | 3 => #[.int .i64 (Msg.rk l), .int .i64 (Msg.rf l), .int .i64 (Msg.rt l), .int .i64 0, .string (ofL [])]
  | 4 => #[.int .i64 (Msg.rk l), .int .i64 (Msg.rf l), .int .i64 (Msg.rt l), .int .i64 (Msg.ri l), .string (ofL [])]
  | _ => #[.int .i64 (Msg.rk l), .int .i64 (Msg.rf l), .int .i64 (Msg.rt l), .int .i64 (Msg.ri l), .string (ofL (Msg.rb l))]
/-- So many fields are read. -/
structure DL (w : World) (l : List UInt8) (p b g j : Nat) (wr : World) : Prop where
  rs : RS wr b (Msg.sts l j)
  row : wr.heap[p]? = some (.cells (mrow l j) 33 (0, 0))
  fld : wr.heap[g]? = some (.cells (fvs p) 96 (0, 0))
  res : wr.heap[w.heap.size]? = some (.cells #[.int .i64 0, .int .i64 0, .int .i64 0, .int .i64 0, .string (ofL [])] 33 (0, 0))
  bel : Below w.heap.size w wr
  ne : w.heap.size < p ∧ w.heap.size < b ∧ w.heap.size < g ∧ p ≠ b ∧ g ≠ b ∧ g ≠ p
theorem DL.next {w : World} {l : List UInt8} {p b g j j' : Nat} {wr w' : World} {st : Option (List UInt8)} {cs : Array Value} (h : DL w l p b g j wr) (hr : RS w' b st) (hp : w'.heap[p]? = some (.cells cs 33 (0, 0))) (hd : Duo p b wr w') (e1 : st = Msg.sts l j') (e2 : cs = mrow l j') : DL w l p b g j' w' := by
  subst e1 e2
  obtain ⟨n1, n2, n3, n4, n5, n6⟩ := h.ne
  have hlg := (Array.getElem?_eq_some_iff.1 h.fld).1
  have hlr := (Array.getElem?_eq_some_iff.1 h.res).1
  exact ⟨hr, hp, (hd.block g hlg n6 n5).trans h.fld, (hd.block _ hlr (by omega) (by omega)).trans h.res, hd.below h.bel (Nat.le_refl _) (by omega) (by omega), h.ne⟩
/-- What Decode answers. -/
def dval (s : ByteArray) : Value := .tuple #[.agg #[.int .i64 (Msg.dk s), .int .i64 (Msg.df s), .int .i64 (Msg.dt s), .int .i64 (Msg.di s), .string (ofL (Msg.db s))], .int .i64 (Msg.dcode s)]
theorem dval_no (s : ByteArray) (c : Int) (h : Msg.dcode s = c) (h0 : c ≠ 0) : dval s = .tuple #[.agg #[.int .i64 0, .int .i64 0, .int .i64 0, .int .i64 0, .string (ofL [])], .int .i64 c] := by
  unfold dval Msg.dk Msg.df Msg.dt Msg.di Msg.db
  rw [h, decide_eq_false h0]
  rfl
theorem dval_yes (s : ByteArray) (h : Msg.dcode s = 0) : dval s = .tuple #[.agg #[.int .i64 (Msg.rk (Msg.body s)), .int .i64 (Msg.rf (Msg.body s)), .int .i64 (Msg.rt (Msg.body s)), .int .i64 (Msg.ri (Msg.body s)), .string (ofL (Msg.rb (Msg.body s)))], .int .i64 0] := by
  unfold dval Msg.dk Msg.df Msg.dt Msg.di Msg.db
  rw [h]
  rfl
theorem dcode_bad (s : ByteArray) (h : (openOut s).2 ≠ 0) : Msg.dcode s = (openOut s).2 := by unfold Msg.dcode; rw [decide_eq_true h]; rfl
theorem dcode_3 (s : ByteArray) (h : (openOut s).2 = 0) (hg : Msg.good (Msg.body s) = false) : Msg.dcode s = 3 := by unfold Msg.dcode; rw [h, hg]; rfl
theorem dcode_0 (s : ByteArray) (h : (openOut s).2 = 0) (hg : Msg.good (Msg.body s) = true) : Msg.dcode s = 0 := by unfold Msg.dcode; rw [h, hg]; rfl
theorem body_of (s : ByteArray) : (openOut s).1 = ofL (Msg.body s) := (ofL_of _).symm
theorem ofL_nil : (ofL [] : ByteArray) = { data := #[] } := rfl
set_option maxRecDepth 100000 in
set_option maxHeartbeats 400000 in
theorem decode_bad (s : ByteArray) (w : World) (hs : s.size ≤ 1000000) (he : (openOut s).2 ≠ 0) :
    Calls Try.prog 35 #[.string s] w fun e w' => e = .returned (dval s) ∧ Below w.heap.size w w' := by
  have HD := Hid_of (dval_no s _ (dcode_bad s he) he)
  have d1 : ((openOut s).2 != 0) = true := by simpa using he
  have cc := open_any s (w.alloc (.cells #[.int .i64 0, .int .i64 0, .int .i64 0, .int .i64 0, .string { data := #[] }] 33)) (by omega)
  generalize (openOut s).1 = T at *
  generalize (openOut s).2 = c at *
  clear he
  go_enter Try.func35, Try.ntmps35
  go_wp2_with fail
  refine cc.mono ?_
  rintro x w1 ⟨rfl, hb1⟩
  have hrow : w1.heap[w.heap.size]? = some (.cells #[.int .i64 0, .int .i64 0, .int .i64 0, .int .i64 0, .string { data := #[] }] 33 (0, 0)) := bel_row (heap_alloc_new w _) hb1
  obtain ⟨⟨c0, c1, c2, c3, c4⟩, hf⟩ := row5 hrow
  have f0 := hf 0
  have f1 := hf 1
  have f2 := hf 2
  have f3 := hf 3
  have f4 := hf 4
  have HR := Hid_of hrow
  have HB := Hid_of (bel_up (bel1 w _) hb1 (Nat.le_refl _))
  clear cc hb1 hrow hf
  go_wp2
  refine bodyPost_ret (v := dval s) ?_ rfl ⟨rfl, put5_bel HB.out (Nat.le_refl _) _ _ _ _ _⟩
  rw [HD.out]
  exact res5 f35_res _ _ w.heap.size _ _ _ _ _ rfl (put5_row HR.out _ _ _ _ _)
end Go.Proofs.Ytjbodjjeenjbeaa
